/-
  Contracts of package bitmap that need nothing of the library, and of the document's own sets.
-/
import Derived.Test.YtikjkmomokhanaaDoorRows
import Derived.Test.YtikjkmomokhanaaDoorWords
import Derived.WalkKit
import Derived.WalkLawsBesides
import Derived.ProofKit
import Derived.OpenShut
import Derived.Lib.Hide
import Derived.Deep.QuietTactic
import Derived.BigQuiet
import Derived.Outline
import Derived.Deep.LoopGhost
import Derived.Laws.Bits64b
set_option linter.unusedSimpArgs false
set_option linter.unusedVariables false
namespace Go.Proofs.YtikjkmomokhanaaDoor.Bt
open Go.ChangeShapes Go.WideShapes Go.ChangeAt Go.RowKit Ws

theorem ret_int {k : IntKind} {a b : Int} (h : a = b) : Ending.returned (.int k a) = .returned (.int k b) := by rw [h]

/-- the set of one number -/
def bitN (i : Int) : Nat := if 0 ≤ i ∧ i ≤ 63 then 2 ^ i.toNat else 0
theorem bitN_lt (i : Int) : bitN i < 18446744073709551616 := by
  unfold bitN
  split
  · exact Nat.pow_lt_pow_right (by decide) (by omega : i.toNat < 64)
  · decide

theorem bit_any (i : Int) (w : World) :
    Calls Tryd.prog 44 #[.int .i64 i] w fun e w' => e = .returned (.int .u64 (bitN i : Nat)) ∧ w = w' := by
  go_enter Tryd.func44, Tryd.ntmps44
  go_wp2_with fail
  · go_ret
    have h : i < 0 ∨ 63 < i := by assumption
    exact ⟨ret_int (by unfold bitN; rw [if_neg (by omega)]; rfl), rfl⟩
  · go_ret
    have h : 0 ≤ i ∧ i ≤ 63 := by assumption
    have hl := bitN_lt i
    have he : bitN i = 2 ^ i.toNat := by unfold bitN; rw [if_pos h]
    have hc : ((2 : Int) ^ i.toNat) = ((bitN i : Nat) : Int) := by rw [he]; simp
    exact ⟨ret_int (by rw [hc, IntKind.wrap_u64]; omega), rfl⟩
  · go_ret
    have h : i < 0 := by assumption
    exact ⟨ret_int (by unfold bitN; rw [if_neg (by omega)]; rfl), rfl⟩

theorem put_any (m : Nat) (hm : m < 18446744073709551616) (i : Int) (w : World) :
    Calls Tryd.prog 17 #[.int .u64 (m : Int), .int .i64 i] w fun e w' => e = .returned (.int .u64 ((m ||| bitN i : Nat) : Int)) ∧ w = w' := by
  have hb := bitN_lt i
  have h1 := bits_or_u64_nat m (bitN i) hm hb
  have H1 := Lib.hid h1
  clear h1
  go_enter Tryd.func17, Tryd.ntmps17
  go_wp2_with fail
  refine (bit_any i _).mono ?_
  rintro e w' ⟨rfl, rfl⟩
  go_wp2_with fail
  go_ret
  exact ⟨ret_int H1.out, rfl⟩

/-- the set of some numbers, one behind the other -/
def orN (l : List Int) : Nat := l.foldl (fun m x => m ||| bitN x) 0
theorem bitN_bit (x : Int) (j : Nat) : (bitN x).testBit j = decide (j < 64 ∧ (j : Int) = x) := by
  unfold bitN
  by_cases h : 0 ≤ x ∧ x ≤ 63
  · rw [if_pos h, Nat.testBit_two_pow]
    rw [Bool.eq_iff_iff]
    simp
    omega
  · rw [if_neg h]
    simp
    omega
theorem orN_fold (l : List Int) : ∀ (m j : Nat), (l.foldl (fun m x => m ||| bitN x) m).testBit j = (m.testBit j || decide (j < 64 ∧ (j : Int) ∈ l)) := by
  induction l with
  | nil => intro m j; simp
  | cons x l ih =>
    intro m j
    rw [List.foldl_cons, ih, Nat.testBit_or, bitN_bit, Bool.eq_iff_iff]
    simp
    by_cases h1 : (j : Int) = x
    · simp [h1]
      intro a _
      exact .inr a
    · simp [h1]
theorem orN_bit (l : List Int) (j : Nat) : (orN l).testBit j = decide (j < 64 ∧ (j : Int) ∈ l) := by
  unfold orN
  rw [orN_fold]
  simp
theorem lt_of_bits {m : Nat} (h : ∀ j, 64 ≤ j → m.testBit j = false) : m < 18446744073709551616 := Nat.lt_pow_two_of_testBit (n := 64) m h
theorem orN_lt (l : List Int) : orN l < 18446744073709551616 := lt_of_bits fun j hj => by rw [orN_bit]; exact decide_eq_false (by omega)
theorem orN_snoc (l : List Int) (x : Int) : orN (l ++ [x]) = orN l ||| bitN x := by unfold orN; rw [List.foldl_append]; rfl

/-- the document's own: bit by bit, from the highest one down -/
def hr (l : List Int) : Nat → Nat
  | 0 => 0
  | c + 1 => 2 * hr l c + if (63 - (c : Int)) ∈ l then 1 else 0
theorem hr_bit (l : List Int) : ∀ (c : Nat), c ≤ 64 → ∀ j, (hr l c).testBit j = decide (j < c ∧ (64 - (c : Int) + j) ∈ l) := by
  intro c
  induction c with
  | zero => intro _ j; simp [hr]
  | succ c ih =>
    intro hc j
    unfold hr
    cases j with
    | zero =>
      rw [Nat.testBit_zero, Bool.eq_iff_iff]
      have e : (64 - ((c + 1 : Nat) : Int) + ((0 : Nat) : Int)) = 63 - (c : Int) := by omega
      rw [e]
      by_cases h : (63 - (c : Int)) ∈ l
      · rw [if_pos h]
        simp [h]
      · rw [if_neg h]
        simp [h]
    | succ j =>
      rw [Nat.testBit_succ]
      have e : (2 * hr l c + if (63 - (c : Int)) ∈ l then 1 else 0) / 2 = hr l c := by split <;> omega
      rw [e, ih (by omega), Bool.eq_iff_iff]
      have e2 : (64 - ((c + 1 : Nat) : Int) + ((j + 1 : Nat) : Int)) = 64 - (c : Int) + (j : Int) := by omega
      rw [e2]
      simp
theorem hr_lt (l : List Int) : ∀ c, hr l c < 2 ^ c := by
  intro c
  induction c with
  | zero => simp [hr]
  | succ c ih =>
    unfold hr
    rw [Nat.pow_succ]
    split <;> omega
theorem hr_all (l : List Int) : hr l 64 = orN l := by
  apply Nat.eq_of_testBit_eq
  intro j
  rw [hr_bit l 64 (Nat.le_refl _), orN_bit]
  have e : (64 - ((64 : Nat) : Int) + (j : Int)) = (j : Int) := by omega
  rw [e]

def i64s (l : List Int) : List Value := l.map (Value.int .i64)
theorem i64s_len (l : List Int) : (i64s l).length = l.length := by simp [i64s]
theorem i64s_at {l : List Int} {k : Nat} {x : Int} (h : l[k]? = some x) : (i64s l)[k]? = some (.int .i64 x) := by simp [i64s, h]

def inB (l : List Int) (k : Nat) (i : Int) : Nat := if i ∈ l.take k then 1 else 0
theorem inB_le (l : List Int) (k : Nat) (i : Int) : inB l k i ≤ 1 := by unfold inB; split <;> omega
theorem inB_zero (l : List Int) (i : Int) : inB l 0 i = 0 := by simp [inB]
theorem inB_all {l : List Int} {n : Nat} (h : l.length = n) (i : Int) : inB l n i = if i ∈ l then 1 else 0 := by unfold inB; rw [List.take_of_length_le (by omega)]
theorem inB_yes {l : List Int} {k : Nat} {x : Int} (hx : l[k]? = some x) : inB l (k + 1) x = 1 := by
  unfold inB
  rw [List.take_add_one, hx, if_pos (by simp)]
theorem inB_no {l : List Int} {k : Nat} {x i : Int} (hx : l[k]? = some x) (hne : x ≠ i) : inB l (k + 1) i = inB l k i := by
  unfold inB
  rw [List.take_add_one, hx]
  have : (i ∈ l.take k ++ (some x).toList) ↔ i ∈ l.take k := by simp; intro h; exact absurd h.symm hne
  simp only [this]

set_option maxHeartbeats 1000000 in
theorem of_any (A : Option Addr) (n c : Nat) (l : List Int) (w : World) (hl : l.length = n) (hn : n ≤ 1048576) (hrow : Row w A (i64s l)) :
    Calls Tryd.prog 16 #[.slice A n c] w fun e w' => e = .returned (.int .u64 ((orN l : Nat) : Int)) ∧ w = w' := by
  have HL := Lib.hid hl
  clear hl
  go_enter Tryd.func16, Tryd.ntmps16
  go_wp2_with fail
  go_loopg [3, 4] 64 (fun gk m i wx => ∃ q : Nat, q + gk = 64 ∧ m = .int .u64 ((hr l q : Nat) : Int) ∧ i = .int .i64 (63 - (q : Int)) ∧ wx = w)
  case atStart => exact ⟨0, by omega, rfl, rfl, rfl⟩
  case round =>
    obtain ⟨q, hqg, rfl, rfl, rfl⟩ := hrel
    cases gk with
    | zero =>
      obtain rfl : q = 64 := by omega
      have hall := hr_all l
      have hlt := orN_lt l
      rw [hall]
      clear hall
      obtain ⟨v, hv⟩ : ∃ v, v = orN l := ⟨_, rfl⟩
      rw [← hv] at hlt ⊢
      have HV := Lib.hid hv
      clear hv
      go_wp2_with fail
      go_ret
      exact ⟨ret_int (by rw [HV.out]), rfl⟩
    | succ g1 =>
      have hq : q ≤ 63 := by omega
      have hlt : hr l q < 9223372036854775808 := Nat.lt_of_lt_of_le (hr_lt l q) (Nat.pow_le_pow_right (by decide) hq)
      have HS := Lib.hid (show hr l (q + 1) = 2 * hr l q + inB l n (63 - (q : Int)) by rw [inB_all HL.out]; rfl)
      obtain ⟨v, hv⟩ : ∃ v, v = hr l q := ⟨_, rfl⟩
      rw [← hv] at hlt ⊢
      have HV := Lib.hid hv
      clear hv
      go_wp2_with fail
      obtain ⟨wo, rfl⟩ : ∃ wo : World, wo = wr := ⟨_, rfl⟩
      go_loopg [3, 15] n (fun gk2 m j wx => ∃ k : Nat, k + gk2 = n ∧ m = .int .u64 ((2 * v + inB l k (63 - (q : Int)) : Nat) : Int) ∧ j = .int .i64 (k : Int) ∧ wx = wo)
      case atStart => exact ⟨0, by omega, by rw [inB_zero]; go_num, rfl, rfl⟩
      case round =>
        obtain ⟨k, hkg, rfl, rfl, rfl⟩ := hrel
        have hin := inB_le l k (63 - (q : Int))
        cases gk with
        | zero =>
          obtain rfl : k = n := by omega
          have hkk : ¬ (k : Int) < k := by omega
          obtain ⟨u, hu⟩ : ∃ u, u = inB l k (63 - (q : Int)) := ⟨_, rfl⟩
          rw [← hu] at hin ⊢
          have HU := Lib.hid hu
          clear hu
          go_wp2_with fail
          go_roundg g1
          case measure => omega
          case rel => exact ⟨q + 1, by omega, by rw [HS.out, ← HV.out, ← HU.out]; go_num, by congr 1; omega, rfl⟩
        | succ g2 =>
          have hkk : (k : Int) < n := by omega
          obtain ⟨x, hx⟩ : ∃ x, l[k]? = some x := ⟨_, List.getElem?_eq_getElem (by have := HL.out; omega)⟩
          obtain ⟨b, o, rfl, hc⟩ := hrow k _ (i64s_at hx)
          obtain ⟨u, hu⟩ : ∃ u, u = inB l k (63 - (q : Int)) := ⟨_, rfl⟩
          rw [← hu] at hin ⊢
          have HU := Lib.hid hu
          have HX := Lib.hid hx
          clear hu hx
          by_cases h1 : x = 63 - (q : Int)
          · have h2 : (x == 63 - (q : Int)) = true := by simp [h1]
            have H1 := Lib.hid h1
            clear h1
            by_cases h3 : u = 0
            · have h4 : (((2 * v + u : Nat) : Int) % 2 == 0) = true := by simp; omega
              subst h3
              go_wp2_with fail
              go_roundg g2
              case measure => omega
              case rel => exact ⟨k + 1, by omega, by rw [← H1.out, inB_yes HX.out]; go_num, by go_num, rfl⟩
            · have h4 : (((2 * v + u : Nat) : Int) % 2 == 0) = false := by simp; omega
              have h5 : u = 1 := by omega
              have H5 := Lib.hid h5
              clear h3 h5
              go_wp2_with fail
              go_roundg g2
              case measure => omega
              case rel => exact ⟨k + 1, by omega, by rw [← H1.out, inB_yes HX.out, H5.out], by go_num, rfl⟩
          · have h2 : (x == 63 - (q : Int)) = false := by simp [h1]
            have H1 := Lib.hid h1
            clear h1
            go_wp2_with fail
            go_roundg g2
            case measure => omega
            case rel => exact ⟨k + 1, by omega, by rw [inB_no HX.out H1.out, HU.out], by go_num, rfl⟩

end Go.Proofs.YtikjkmomokhanaaDoor.Bt
