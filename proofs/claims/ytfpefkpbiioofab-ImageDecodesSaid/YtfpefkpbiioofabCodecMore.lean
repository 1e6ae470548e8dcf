/-
  The rest of package codec: numbers, bytes cloned, bytes laid; and the document's own answer.
-/
import Derived.Test.YtfpefkpbiioofabCodecBase
set_option linter.unusedSimpArgs false
set_option linter.unusedVariables false
namespace Go.Proofs.Ytfpefkpbiioofab.Cd
open Go.ChangeShapes Go.WideShapes Go.ChangeAt Go.RowKit Ws

/-- the number of some bytes, the lowest one first -/
def num : List Int → Int
  | [] => 0
  | x :: r => x + 256 * num r
theorem num_snoc (l : List Int) (x : Int) : num (l ++ [x]) = num l + x * 256 ^ l.length := by
  induction l with
  | nil => simp [num]
  | cons y r ih => simp only [List.cons_append, num, ih, List.length_cons, Int.pow_succ]; rw [Int.mul_add, Int.mul_left_comm, Int.add_assoc, Int.mul_comm (256 ^ r.length) 256]
theorem num_bd (l : List Int) (h : By l) : 0 ≤ num l ∧ num l < 256 ^ l.length := by
  induction l with
  | nil => simp [num]
  | cons y r ih =>
    have h1 := ih (fun z hz => h z (by simp [hz]))
    have h2 := h y (by simp)
    simp only [num, List.length_cons, Int.pow_succ]
    omega
theorem or_nat (a b k : Nat) (ha : a < 2 ^ k) : a ||| (b * 2 ^ k) = a + b * 2 ^ k := by
  have h := Nat.shiftLeft_add_eq_or_of_lt ha b
  rw [Nat.shiftLeft_eq] at h
  rw [Nat.or_comm, ← h, Nat.add_comm]
theorem hp_int (k : Nat) : (256 : Int) ^ k = 2 ^ (8 * k) := by
  rw [Int.pow_mul]; rfl
theorem or_add (a x : Int) (k : Nat) (ha : 0 ≤ a ∧ a < 256 ^ k) (hx : 0 ≤ x ∧ x ≤ 255) (hk : k < 4) :
    bits .or .u32 a (x * 2 ^ (8 * k) % 4294967296) = a + x * 256 ^ k := by
  obtain ⟨m, rfl⟩ := Int.eq_ofNat_of_zero_le ha.1
  obtain ⟨n, rfl⟩ := Int.eq_ofNat_of_zero_le hx.1
  have hp : (256 : Nat) ^ k = 2 ^ (8 * k) := by rw [Nat.pow_mul]
  have hk2 : (2 : Nat) ^ (8 * k) ≤ 2 ^ 24 := Nat.pow_le_pow_right (by omega) (by omega)
  have hm : m < 2 ^ (8 * k) := by
    have h1 := ha.2
    have e : ((256 : Int) ^ k) = (((256 : Nat) ^ k : Nat) : Int) := by rw [Int.natCast_pow]; rfl
    rw [e, hp] at h1
    omega
  have hn : n ≤ 255 := by omega
  have hnp : n * 2 ^ (8 * k) ≤ 255 * 2 ^ (8 * k) := Nat.mul_le_mul_right _ hn
  have e1 : ((n : Int) * 2 ^ (8 * k)) = ((n * 2 ^ (8 * k) : Nat) : Int) := by rw [Int.natCast_mul, Int.natCast_pow]; rfl
  have e2 : ((n : Int) * 256 ^ k) = ((n * 2 ^ (8 * k) : Nat) : Int) := by rw [← e1, ← hp_int k]
  rw [e2, e1]
  have hlt : n * 2 ^ (8 * k) < 4294967296 := by omega
  have e3 : (((n * 2 ^ (8 * k) : Nat) : Int) % 4294967296) = ((n * 2 ^ (8 * k) : Nat) : Int) := by omega
  rw [e3]
  rw [u32_or_nat m _ (by omega) (by omega), or_nat m n (8 * k) hm]
  omega

theorem number_any (A : Option Addr) (n c : Nat) (l : List Int) (w : World) (hl : l.length = n) (hn : n ≤ 4) (hb : By l) (hr : Row w A (by8 l)) :
    Calls Try.prog 37 #[.slice A n c] w fun e w' => e = .returned (.int .u32 (num l)) ∧ w = w' := by
  have HL := Lib.hid hl
  clear hl
  go_enter Try.func37, Try.ntmps37
  go_wp2
  go_loop [3, 8] (fun v i => ∃ k : Nat, k ≤ n ∧ i = .int .i64 k ∧ v = .int .u32 (num (l.take k))) (fun _ i => n - (intOf i).toNat)
  case atStart => exact ⟨0, Nat.zero_le _, rfl, rfl⟩
  case round =>
    obtain ⟨k, hk, rfl, rfl⟩ := hrel
    by_cases hlt : k < n
    · obtain ⟨b, o, rfl, hc1⟩ := hr.at_ (k := k) (by have := HL.out; rw [by8_len]; omega)
      simp only [by8, List.getElem_map] at hc1
      have hkx : k < l.length := by have := HL.out; omega
      obtain ⟨x, hxx⟩ : ∃ x, x = l[k] := ⟨_, rfl⟩
      rw [← hxx] at hc1
      have bx : 0 ≤ x ∧ x ≤ 255 := by rw [hxx]; exact hb _ (List.getElem_mem _)
      have hs : num (l.take (k + 1)) = num (l.take k) + x * 256 ^ k := by
        rw [List.take_succ_eq_append_getElem hkx, num_snoc, ← hxx, List.length_take, Nat.min_eq_left (by omega)]
      have HS := Lib.hid hs
      clear hs
      have HX := Lib.hid hxx
      clear hxx
      obtain ⟨a, ha⟩ : ∃ a, a = num (l.take k) := ⟨_, rfl⟩
      rw [← ha]
      have HA := Lib.hid ha
      clear ha
      have ba : 0 ≤ a ∧ a < 256 ^ k := by
        have h1 := num_bd (l.take k) (fun z hz => hb z (List.mem_of_mem_take hz))
        rw [List.length_take, Nat.min_eq_left (by omega), ← HA.out] at h1
        exact h1
      have ho := or_add a x k ba bx (by omega)
      have HO := Lib.hid ho
      clear ho ba
      go_wp2
      go_round
      case rel => exact ⟨k + 1, by omega, by go_num, by rw [HO.out, HS.out, HA.out]⟩
      case measure => simp [intOf]; omega
    · have hkn : k = n := by omega
      have HK := Lib.hid hkn
      clear hkn
      go_wp2
      go_ret
      exact ⟨ret_int (by rw [List.take_of_length_le (by have := HL.out; have := HK.out; omega)]), rfl⟩

theorem num_lt {l : List Int} (h : By l) {n : Nat} (hl : l.length ≤ n) (hn : n ≤ 4) : 0 ≤ num l ∧ num l < 4294967296 := by
  have b := num_bd l h
  have e : ((256 : Int) ^ l.length) = ((256 ^ l.length : Nat) : Int) := by rw [Int.natCast_pow]; rfl
  have p : 256 ^ l.length ≤ 256 ^ 4 := Nat.pow_le_pow_right (by omega) (by omega)
  rw [e] at b
  omega

/-! ### what a reader tells -/
theorem num_nil (A : Option Addr) (c : Nat) (w : World) : Calls Try.prog 37 #[.slice A 0 c] w fun e w' => e = .returned (.int .u32 0) ∧ w = w' :=
  number_any A 0 c [] w rfl (by omega) (fun _ h => by simp at h) (Row.nil _ _)

/-- what is told of a reader, and what it is behind that: n bytes if it has so many, and else none, and it is bad -/
def after (l : List Int) (k n : Nat) (bad : Bool) : Nat × Bool := if bad = false ∧ k + n ≤ l.length then (k + n, false) else (k, true)
def told (l : List Int) (k n : Nat) (bad : Bool) : List Int := if bad = false ∧ k + n ≤ l.length then (l.drop k).take n else []
theorem told_by {l : List Int} (h : By l) (k n : Nat) (bad : Bool) : By (told l k n bad) := by
  unfold told
  split
  · exact fun x hx => h x (List.mem_of_mem_drop (List.mem_of_mem_take hx))
  · exact fun x hx => by simp at hx
theorem told_len (l : List Int) (k n : Nat) (bad : Bool) : (told l k n bad).length ≤ n := by
  unfold told
  split
  · rw [List.length_take]; omega
  · simp

def NextAny (w : World) (R : Nat → Prop) (g : Nat) (l : List Int) (k n : Nat) (bad : Bool) (e : Ending) (w' : World) : Prop :=
  ∃ A m c, e = .returned (.slice A m c) ∧ (told l k n bad).length = m ∧ Row w' A (by8 (told l k n bad)) ∧ Rd w' R g l (after l k n bad).1 (after l k n bad).2 ∧ Chg R w w'

theorem next_any {R : Nat → Prop} {g : Nat} {l : List Int} {k : Nat} {bad : Bool} (n : Nat) (w : World) (h : Rd w R g l k bad) :
    Calls Try.prog 28 #[.pointer (some ⟨g, 0, none⟩), .int .i64 n] w (NextAny w R g l k n bad) := by
  unfold NextAny told after
  cases bad with
  | true =>
    refine (next_bad n w h).mono fun e w' ⟨he, hw⟩ => ?_
    subst hw
    exact ⟨none, 0, 0, he, by simp, by simpa [by8] using Row.nil _ _, by simpa using h, Chg.refl _ _⟩
  | false =>
    by_cases hn : k + n ≤ l.length
    · refine (next_in n hn w h).mono fun e w' ⟨b, o, c, he, hr, hd, hc⟩ => ?_
      rw [if_pos ⟨rfl, hn⟩, if_pos ⟨rfl, hn⟩]
      exact ⟨_, n, c, he, by rw [List.length_take, List.length_drop]; omega, hr, hd, hc⟩
    · refine (next_out n (.inr (by omega)) w h).mono fun e w' ⟨he, hd, hc⟩ => ?_
      rw [if_neg (fun x => hn x.2), if_neg (fun x => hn x.2)]
      exact ⟨none, 0, 0, he, rfl, by simpa [by8] using Row.nil _ _, hd, hc⟩

theorem u8_any {R : Nat → Prop} {g : Nat} {l : List Int} {k : Nat} {bad : Bool} (w : World) (h : Rd w R g l k bad) (hb : By l) :
    Calls Try.prog 29 #[.pointer (some ⟨g, 0, none⟩)] w fun e w' => e = .returned (.int .i64 (num (told l k 1 bad))) ∧ Rd w' R g l (after l k 1 bad).1 (after l k 1 bad).2 ∧ Chg R w w' := by
  have b1 := num_lt (told_by hb k 1 bad) (told_len _ _ _ _) (by omega)
  go_enter Try.func29, Try.ntmps29
  go_wp2_with fail
  refine (next_any 1 w h).mono ?_
  rintro e w' ⟨A, m, c, rfl, hm, hr, hd, hc⟩
  go_wp2_with fail
  refine (number_any A m c _ w' hm (by have := told_len l k 1 bad; omega) (told_by hb _ _ _) hr).mono ?_
  rintro e w2 ⟨rfl, rfl⟩
  clear hm
  go_wp2
  go_ret
  exact ⟨rfl, hd, hc⟩
theorem u8_nil (w : World) : Calls Try.prog 29 #[.pointer none] w fun e w' => e = .returned (.int .i64 0) ∧ w = w' := by
  go_enter Try.func29, Try.ntmps29
  go_wp2_with fail
  refine (next_nil _ _).mono ?_
  rintro e w' ⟨rfl, rfl⟩
  go_wp2_with fail
  refine (num_nil _ _ _).mono ?_
  rintro e w2 ⟨rfl, rfl⟩
  go_wp2
  go_ret
  exact ⟨rfl, rfl⟩
theorem u16_any {R : Nat → Prop} {g : Nat} {l : List Int} {k : Nat} {bad : Bool} (w : World) (h : Rd w R g l k bad) (hb : By l) :
    Calls Try.prog 16 #[.pointer (some ⟨g, 0, none⟩)] w fun e w' => e = .returned (.int .i64 (num (told l k 2 bad))) ∧ Rd w' R g l (after l k 2 bad).1 (after l k 2 bad).2 ∧ Chg R w w' := by
  have b1 := num_lt (told_by hb k 2 bad) (told_len _ _ _ _) (by omega)
  go_enter Try.func16, Try.ntmps16
  go_wp2_with fail
  refine (next_any 2 w h).mono ?_
  rintro e w' ⟨A, m, c, rfl, hm, hr, hd, hc⟩
  go_wp2_with fail
  refine (number_any A m c _ w' hm (by have := told_len l k 2 bad; omega) (told_by hb _ _ _) hr).mono ?_
  rintro e w2 ⟨rfl, rfl⟩
  clear hm
  go_wp2
  go_ret
  exact ⟨rfl, hd, hc⟩
theorem u16_nil (w : World) : Calls Try.prog 16 #[.pointer none] w fun e w' => e = .returned (.int .i64 0) ∧ w = w' := by
  go_enter Try.func16, Try.ntmps16
  go_wp2_with fail
  refine (next_nil _ _).mono ?_
  rintro e w' ⟨rfl, rfl⟩
  go_wp2_with fail
  refine (num_nil _ _ _).mono ?_
  rintro e w2 ⟨rfl, rfl⟩
  go_wp2
  go_ret
  exact ⟨rfl, rfl⟩
theorem u32_any {R : Nat → Prop} {g : Nat} {l : List Int} {k : Nat} {bad : Bool} (w : World) (h : Rd w R g l k bad) (hb : By l) :
    Calls Try.prog 45 #[.pointer (some ⟨g, 0, none⟩)] w fun e w' => e = .returned (.int .u32 (num (told l k 4 bad))) ∧ Rd w' R g l (after l k 4 bad).1 (after l k 4 bad).2 ∧ Chg R w w' := by
  have b1 := num_lt (told_by hb k 4 bad) (told_len _ _ _ _) (by omega)
  go_enter Try.func45, Try.ntmps45
  go_wp2_with fail
  refine (next_any 4 w h).mono ?_
  rintro e w' ⟨A, m, c, rfl, hm, hr, hd, hc⟩
  go_wp2_with fail
  refine (number_any A m c _ w' hm (by have := told_len l k 4 bad; omega) (told_by hb _ _ _) hr).mono ?_
  rintro e w2 ⟨rfl, rfl⟩
  clear hm
  go_wp2
  go_ret
  exact ⟨rfl, hd, hc⟩
theorem u32_nil (w : World) : Calls Try.prog 45 #[.pointer none] w fun e w' => e = .returned (.int .u32 0) ∧ w = w' := by
  go_enter Try.func45, Try.ntmps45
  go_wp2_with fail
  refine (next_nil _ _).mono ?_
  rintro e w' ⟨rfl, rfl⟩
  go_wp2_with fail
  refine (num_nil _ _ _).mono ?_
  rintro e w2 ⟨rfl, rfl⟩
  go_wp2
  go_ret
  exact ⟨rfl, rfl⟩

theorem left_is {R : Nat → Prop} {g : Nat} {l : List Int} {k : Nat} {bad : Bool} (w : World) (h : Rd w R g l k bad) :
    Calls Try.prog 15 #[.pointer (some ⟨g, 0, none⟩)] w fun e w' => e = .returned (.int .i64 (if bad then 0 else ((l.length - k : Nat) : Int))) ∧ Same w w' := by
  have hf := h.fits
  cases bad with
  | true =>
    go_enter Try.func15, Try.ntmps15
    go_wp2_with fail
    refine (err_any w h).mono ?_
    rintro e w' ⟨rfl, rfl⟩
    go_wp2_with fail
    go_ret
    exact ⟨rfl, Same.refl _⟩
  | false =>
    have hx : ((l.length - k : Nat) : Int) = l.length - k := by omega
    have HX := Lib.hid hx
    clear hx
    go_enter Try.func15, Try.ntmps15
    go_wp2_with fail
    refine (err_any w h).mono ?_
    rintro e w' ⟨rfl, rfl⟩
    go_wp2_with fail
    refine (left_any w h).mono ?_
    rintro e w' ⟨rfl, q, rfl⟩
    go_wp2_with fail
    go_ret
    exact ⟨ret_int HX.out.symm, (Same.refl _).drewN _⟩
theorem left_nil (w : World) : Calls Try.prog 15 #[.pointer none] w fun e w' => e = .returned (.int .i64 0) ∧ w = w' := by
  go_enter Try.func15, Try.ntmps15
  go_wp2_with fail
  refine (err_nil w).mono ?_
  rintro e w' ⟨rfl, rfl⟩
  go_wp2_with fail
  go_ret
  exact ⟨rfl, rfl⟩

def doneOf (l : List Int) (k : Nat) (bad : Bool) : Int := if bad then 2 else if k < l.length then 3 else 0
theorem own_none (w : World) (e : TypeId) : Own (w.alloc (.cells #[] e)) w.heap.size e (some ⟨w.heap.size, 0, none⟩) 0 [] := World.ownsRow_made w #[] 0 (Nat.le_refl _) (Nat.zero_le _) rfl

set_option maxRecDepth 100000 in
theorem clone_bytes (A : Option Addr) (n c : Nat) (l : List Int) (w : World) (h : Row w A (by8 l)) (hn : l.length = n) (hl : n ≤ 65536) :
    Calls Try.prog 27 #[.slice A n c] w fun e w' => ∃ A' c', e = .returned (.slice A' n c') ∧ Same w w' ∧ Own w' w.heap.size 5 A' c' (by8 l) := by
  obtain ⟨i0, hi, hz0, hz1, hz2⟩ := info_parts u8_info
  have hq : ∀ (w : World) (a : Option Addr) (n c n' c' : Nat), (binOp .eql 22 (.slice a n c) (.slice none n' c')).run Try.prog w = .ok (.bool a.isNone) w := fun w a n c n' c' => Lib.run_eql_slice_nil w _ _ a n c n' c' Try.underlying22
  cases A with
  | none =>
    have hl0 : l = [] := by
      cases l with
      | nil => rfl
      | cons x r =>
        obtain ⟨b, o, hA, _⟩ := h 0 (.int .u8 x) rfl
        cases hA
    subst hl0
    subst hn
    go_enter Try.func27, Try.ntmps27
    go_wp2_with fail
    go_ret
    exact ⟨none, 0, rfl, Same.refl _, ⟨rfl, .inl ⟨rfl, rfl⟩⟩⟩
  | some ad =>
    have hy : (by8 l).length = n := by rw [by8_len]; exact hn
    have HN := Lib.hid hy
    clear hn hy
    go_enter Try.func27, Try.ntmps27
    go_wp2_with (at_builtin; refine wpList_app rfl _ _ 22 rfl w.heap.size 5 i0 _ 1 Try.underlying22 hi hz0 hz1 hz2 rfl _ _ _ [] rfl rfl (own_none w 5) _ _ _ (by8 l) rfl ?c1 ?c2 (by8_one l) ?c3 (by omega) ?c4 ?c5)
    case c1 => exact HN.out
    case c2 => exact h.same ((Same.refl _).alloc _)
    case c3 => have := HN.out; simp; omega
    case c4 => simp
    intro A' c' w1 ho hc hA
    have hs : Same w w1 := Same.more ((Same.refl w).alloc (.cells #[] 5)) hc (fun i hi => by
      have hi : w.heap.size = i := by simpa using hi
      omega)
    go_wp2
    go_ret
    exact ⟨A', c', rfl, hs, ho⟩

def BytesAny (w : World) (R : Nat → Prop) (g : Nat) (l : List Int) (k n : Nat) (bad : Bool) (e : Ending) (w' : World) : Prop :=
  ∃ A m c, e = .returned (.slice A m c) ∧ (told l k n bad).length = m ∧ Own w' w.heap.size 5 A c (by8 (told l k n bad)) ∧ Rd w' R g l (after l k n bad).1 (after l k n bad).2 ∧ Chg R w w'
theorem bytes_any {R : Nat → Prop} {g : Nat} {l : List Int} {k : Nat} {bad : Bool} (n : Nat) (w : World) (h : Rd w R g l k bad) :
    Calls Try.prog 13 #[.pointer (some ⟨g, 0, none⟩), .int .i64 n] w (BytesAny w R g l k n bad) := by
  have hs := h.short
  have ht : (told l k n bad).length ≤ 65536 := by
    unfold told
    split
    · rw [List.length_take, List.length_drop]; omega
    · simp
  go_enter Try.func13, Try.ntmps13
  go_wp2_with fail
  refine (next_any n w h).mono ?_
  rintro e w' ⟨A, m, c, rfl, hm, hr, hd, hc⟩
  go_wp2_with fail
  refine (clone_bytes A m c _ w' hr hm (by omega)).mono ?_
  rintro e w2 ⟨A', c', rfl, s2, ho⟩
  have HM := Lib.hid hm
  clear hm
  go_wp2
  go_ret
  exact ⟨A', m, c', rfl, HM.out, ho.base hc.size, hd.same s2, hc.trans (s2.chg R)⟩
theorem bytes_out {R : Nat → Prop} {g : Nat} {l : List Int} {k : Nat} (n : Int) (hn : n < 0 ∨ (l.length : Int) - k < n) (w : World) (h : Rd w R g l k false) :
    Calls Try.prog 13 #[.pointer (some ⟨g, 0, none⟩), .int .i64 n] w fun e w' => ∃ A c, e = .returned (.slice A 0 c) ∧ Rd w' R g l k true ∧ Chg R w w' := by
  go_enter Try.func13, Try.ntmps13
  go_wp2_with fail
  refine (next_out n hn w h).mono ?_
  rintro e w' ⟨rfl, hd, hc⟩
  go_wp2_with fail
  refine (clone_bytes none 0 0 [] w' (Row.nil _ _) rfl (by omega)).mono ?_
  rintro e w2 ⟨A', c', rfl, s2, ho⟩
  go_wp2
  go_ret
  exact ⟨A', c', rfl, hd.same s2, hc.trans (s2.chg R)⟩
theorem bytes_nil (n : Int) (w : World) : Calls Try.prog 13 #[.pointer none, .int .i64 n] w fun e w' => ∃ A c, e = .returned (.slice A 0 c) ∧ Same w w' := by
  go_enter Try.func13, Try.ntmps13
  go_wp2_with fail
  refine (next_nil n w).mono ?_
  rintro e w' ⟨rfl, rfl⟩
  go_wp2_with fail
  refine (clone_bytes none 0 0 [] w (Row.nil _ _) rfl (by omega)).mono ?_
  rintro e w2 ⟨A', c', rfl, s2, ho⟩
  go_wp2
  go_ret
  exact ⟨A', c', rfl, s2⟩

end Go.Proofs.Ytfpefkpbiioofab.Cd
