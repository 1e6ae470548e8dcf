/-
  The document's own reader of layer 2, as contracts of its calls, over this seat's translation.
-/
import Derived.Test.YtogaolnnkjkgdaaCodecLaws
namespace Go.Proofs.Ytogaolnnkjkgdaa.Cd
open Go.ChangeShapes Go.WideShapes Go.ChangeAt Go.RowKit Ws

/-- block g is the document's reader, which has the bytes l left -/
structure Rf (w : World) (R : Nat → Prop) (g : Nat) (l : List Int) : Prop where
  low : R g
  short : l.length ≤ 65536
  is : ∃ b o c, Blk w g 33 #[.slice (some ⟨b, o, none⟩) l.length c, .bool false] ∧ Row w (some ⟨b, o, none⟩) (by8 l) ∧ l.length ≤ c ∧ c ≤ 9223372036854775807 ∧ R b ∧ b ≠ g
/-- .. or it is bad -/
def Rb (w : World) (R : Nat → Prop) (g : Nat) : Prop := R g ∧ Blk w g 33 #[.slice none 0 0, .bool true]
theorem Rf.chg {S R : Nat → Prop} {w w' : World} {g : Nat} {l : List Int} (h : Rf w R g l) (hc : Chg S w w') (hn : ∀ i, R i → ¬ S i) : Rf w' R g l := by
  obtain ⟨h1, h2, b, o, c, hb, hr, h3, h4, h5, h6⟩ := h
  exact ⟨h1, h2, b, o, c, hb.chg hc (hn _ h1), hr.chg hc fun b' o' hA _ => by
    injection hA with hA
    injection hA with hA
    exact hA ▸ hn b h5, h3, h4, h5, h6⟩
theorem Rb.chg {S R : Nat → Prop} {w w' : World} {g : Nat} (h : Rb w R g) (hc : Chg S w w') (hn : ∀ i, R i → ¬ S i) : Rb w' R g := ⟨h.1, h.2.chg hc (hn _ h.1)⟩

theorem take_bad {R : Nat → Prop} {g : Nat} (n : Int) (w : World) (h : Rb w R g) :
    Calls Try.prog 30 #[.pointer (some ⟨g, 0, none⟩), .int .i64 n] w fun e w' => e = .returned (.slice none 0 0) ∧ Rb w' R g ∧ Chg R w w' := by
  have e0 : w.cell? ⟨g, 0, none⟩ = some (.slice none 0 0) := by simpa using h.2.cell 0
  have e1 : w.cell? ⟨g, 1, none⟩ = some (.bool true) := by simpa using h.2.cell 1
  have f0 := h.2.thaw 0
  have f1 := h.2.thaw 1
  go_enter Try.func30, Try.ntmps30
  go_wp2_with fail
  go_ret
  refine ⟨rfl, ⟨h.1, ?_⟩, ((Chg.refl R w).set (.inl h.1) _).set (.inl h.1) _⟩
  simpa using (h.2.put 1 (.bool true)).put 0 (.slice none 0 0)

theorem take_out {R : Nat → Prop} {g : Nat} {l : List Int} (n : Int) (hn : n < 0 ∨ (l.length : Int) < n) (w : World) (h : Rf w R g l) :
    Calls Try.prog 30 #[.pointer (some ⟨g, 0, none⟩), .int .i64 n] w fun e w' => e = .returned (.slice none 0 0) ∧ Rb w' R g ∧ Chg R w w' := by
  obtain ⟨h1, h2, b, o, c, hb, hr, h3, h4, h5, h6⟩ := h
  have e0 : w.cell? ⟨g, 0, none⟩ = some (.slice (some ⟨b, o, none⟩) l.length c) := by simpa using hb.cell 0
  have e1 : w.cell? ⟨g, 1, none⟩ = some (.bool false) := by simpa using hb.cell 1
  have f0 := hb.thaw 0
  have f1 := hb.thaw 1
  by_cases hn0 : n < 0
  all_goals
    have hn1 : n < 0 ∨ (l.length : Int) < n := hn
    go_enter Try.func30, Try.ntmps30
    first | (have hn2 : (l.length : Int) < n := by omega) | skip
    go_wp2_with fail
    go_ret
    refine ⟨rfl, ⟨h1, ?_⟩, ((Chg.refl R w).set (.inl h1) _).set (.inl h1) _⟩
    simpa using (hb.put 1 (.bool true)).put 0 (.slice none 0 0)

def TakeIn (w : World) (R : Nat → Prop) (g : Nat) (l : List Int) (n : Nat) (e : Ending) (w' : World) : Prop :=
  ∃ A c, e = .returned (.slice A n c) ∧ Row w' A (by8 (l.take n)) ∧ Rf w' R g (l.drop n) ∧ Chg R w w'
theorem take_in {R : Nat → Prop} {g : Nat} {l : List Int} (n : Nat) (hn : n ≤ l.length) (w : World) (h : Rf w R g l) :
    Calls Try.prog 30 #[.pointer (some ⟨g, 0, none⟩), .int .i64 n] w (TakeIn w R g l n) := by
  obtain ⟨h1, h2, b, o, c, hb, hr, h3, h4, h5, h6⟩ := h
  have e0 : w.cell? ⟨g, 0, none⟩ = some (.slice (some ⟨b, o, none⟩) l.length c) := by simpa using hb.cell 0
  have e1 : w.cell? ⟨g, 1, none⟩ = some (.bool false) := by simpa using hb.cell 1
  have f0 := hb.thaw 0
  have n1 : ¬ (l.length : Int) < (n : Int) := by omega
  have n2 : (n : Int) ≤ c := by omega
  have n3 : ¬ (n : Int) < 0 := by omega
  have hch : ∀ u, Chg (fun i => i = g) w (w.setCell ⟨g, 0, none⟩ u) := fun u => (Chg.refl (fun i => i = g) w).set (p := ⟨g, 0, none⟩) (.inl rfl) u
  have hrow : ∀ u, Row (w.setCell ⟨g, 0, none⟩ u) (some ⟨b, o, none⟩) (by8 l) := fun u => hr.chg (hch u) fun b' o' hA _ hh => by
    injection hA with hA
    injection hA with hA
    omega
  by_cases hck : c = n
  · have hln : l.length = n := by omega
    have HL := Lib.hid hln
    clear hln
    go_enter Try.func30, Try.ntmps30
    go_wp2_with fail
    go_ret
    have hl := HL.out
    have hd : l.drop n = [] := List.eq_nil_of_length_eq_zero (by rw [List.length_drop]; omega)
    refine ⟨_, _, rfl, ?_, ⟨h1, by rw [List.length_drop]; omega, b, o, 0, ?_, by rw [hd]; exact Row.nil _ _, by rw [hd]; exact Nat.le_refl _, by omega, h5, h6⟩, (hch _).weak fun i _ hi => hi ▸ h1⟩
    · rw [by8_take]
      exact (hrow _).cut n
    · rw [hd]
      have hp := hb.put 0 (.slice (some ⟨b, o, none⟩) 0 0)
      simpa [hl, hck] using hp
  · go_enter Try.func30, Try.ntmps30
    go_wp2_with fail
    go_ret
    refine ⟨_, _, rfl, ?_, ⟨h1, ?_, b, o + n, c - n, ?_, ?_, ?_, ?_, h5, h6⟩, (hch _).weak fun i _ hi => hi ▸ h1⟩
    · rw [by8_take]
      exact (hrow _).cut n
    · rw [List.length_drop]
      omega
    · rw [List.length_drop]
      simpa using hb.put 0 (.slice (some ⟨b, o + n, none⟩) (l.length - n) (c - n))
    · rw [by8_drop]
      exact (hrow _).sub n
    · rw [List.length_drop]
      omega
    · omega

/-! ### the reader's number, and what is left -/
theorem rdone_ok {R : Nat → Prop} {g : Nat} {l : List Int} (w : World) (h : Rf w R g l) :
    Calls Try.prog 33 #[.pointer (some ⟨g, 0, none⟩)] w fun e w' => e = .returned (.int .i64 (if 0 < l.length then 3 else 0)) ∧ w = w' := by
  obtain ⟨h1, h2, b, o, c, hb, hr, h3, h4, h5, h6⟩ := h
  have e0 : w.cell? ⟨g, 0, none⟩ = some (.slice (some ⟨b, o, none⟩) l.length c) := by simpa using hb.cell 0
  have e1 : w.cell? ⟨g, 1, none⟩ = some (.bool false) := by simpa using hb.cell 1
  by_cases hl : 0 < l.length
  · have hl' : (0 : Int) < (l.length : Int) := by omega
    clear hl
    go_enter Try.func33, Try.ntmps33
    go_wp2_with fail
    go_ret
    exact ⟨rfl, rfl⟩
  · have hl' : ¬ (0 : Int) < (l.length : Int) := by omega
    clear hl
    go_enter Try.func33, Try.ntmps33
    go_wp2_with fail
    go_ret
    exact ⟨rfl, rfl⟩
theorem rdone_bad {R : Nat → Prop} {g : Nat} (w : World) (h : Rb w R g) :
    Calls Try.prog 33 #[.pointer (some ⟨g, 0, none⟩)] w fun e w' => e = .returned (.int .i64 2) ∧ w = w' := by
  have e0 : w.cell? ⟨g, 0, none⟩ = some (.slice none 0 0) := by simpa using h.2.cell 0
  have e1 : w.cell? ⟨g, 1, none⟩ = some (.bool true) := by simpa using h.2.cell 1
  go_enter Try.func33, Try.ntmps33
  go_wp2_with fail
  go_ret
  exact ⟨rfl, rfl⟩

/-- both readers of the bytes L, behind the same asks -/
def Re (w : World) (R : Nat → Prop) (g : Nat) (L : List Int) (k : Nat) (bad : Bool) : Prop := if bad = true then Rb w R g else Rf w R g (L.drop k)
theorem Re.chg {S R : Nat → Prop} {w w' : World} {g : Nat} {L : List Int} {k : Nat} {bad : Bool} (h : Re w R g L k bad) (hc : Chg S w w') (hn : ∀ i, R i → ¬ S i) : Re w' R g L k bad := by
  unfold Re at h ⊢
  split at h
  · rw [if_pos ‹_›]; exact h.chg hc hn
  · rw [if_neg ‹_›]; exact h.chg hc hn

/-- what is asked may be any int -/
def askAfter (L : List Int) (k : Nat) (n : Int) (bad : Bool) : Nat × Bool := if n < 0 then (k, true) else after L k n.toNat bad
def askTold (L : List Int) (k : Nat) (n : Int) (bad : Bool) : List Int := if n < 0 then [] else told L k n.toNat bad

def TakeAny (w : World) (R : Nat → Prop) (g : Nat) (L : List Int) (k : Nat) (n : Int) (bad : Bool) (e : Ending) (w' : World) : Prop :=
  ∃ A m c, e = .returned (.slice A m c) ∧ (askTold L k n bad).length = m ∧ Row w' A (by8 (askTold L k n bad)) ∧ Re w' R g L (askAfter L k n bad).1 (askAfter L k n bad).2 ∧ Chg R w w'
theorem take_any {R : Nat → Prop} {g : Nat} {L : List Int} {k : Nat} {bad : Bool} (hk : k ≤ L.length) (n : Int) (w : World) (h : Re w R g L k bad) :
    Calls Try.prog 30 #[.pointer (some ⟨g, 0, none⟩), .int .i64 n] w (TakeAny w R g L k n bad) := by
  unfold TakeAny askTold askAfter
  cases bad with
  | true =>
    have h : Rb w R g := h
    refine (take_bad n w h).mono fun e w' ⟨he, hb, hc⟩ => ?_
    by_cases hn : n < 0
    · rw [if_pos hn, if_pos hn]
      exact ⟨none, 0, 0, he, rfl, Row.nil _ _, hb, hc⟩
    · rw [if_neg hn, if_neg hn]
      unfold told after
      rw [if_neg (by simp), if_neg (by simp)]
      exact ⟨none, 0, 0, he, rfl, Row.nil _ _, hb, hc⟩
  | false =>
    have h : Rf w R g (L.drop k) := h
    by_cases hn : n < 0
    · rw [if_pos hn, if_pos hn]
      exact (take_out n (.inl hn) w h).mono fun e w' ⟨he, hb, hc⟩ => ⟨none, 0, 0, he, rfl, Row.nil _ _, hb, hc⟩
    · rw [if_neg hn, if_neg hn]
      obtain ⟨m, rfl⟩ := Int.eq_ofNat_of_zero_le (show 0 ≤ n by omega)
      unfold told after
      rw [Int.toNat_natCast]
      by_cases hm : k + m ≤ L.length
      · rw [if_pos ⟨rfl, hm⟩, if_pos ⟨rfl, hm⟩]
        refine (take_in m (by rw [List.length_drop]; omega) w h).mono fun e w' ⟨A, c, he, hr, hf, hc⟩ => ?_
        refine ⟨A, m, c, he, by rw [List.length_take, List.length_drop]; omega, hr, ?_, hc⟩
        rw [List.drop_drop] at hf
        exact hf
      · rw [if_neg (fun x => hm x.2), if_neg (fun x => hm x.2)]
        refine (take_out m (.inr (by rw [List.length_drop]; omega)) w h).mono fun e w' ⟨he, hb, hc⟩ => ⟨none, 0, 0, he, rfl, Row.nil _ _, hb, hc⟩

def NumAny (w : World) (R : Nat → Prop) (g : Nat) (L : List Int) (k n : Nat) (bad : Bool) (e : Ending) (w' : World) : Prop :=
  e = .returned (.int .u32 (num (told L k n bad))) ∧ Re w' R g L (after L k n bad).1 (after L k n bad).2 ∧ Chg R w w'
theorem ask_nat (L : List Int) (k n : Nat) (bad : Bool) : askTold L k n bad = told L k n bad ∧ askAfter L k n bad = after L k n bad := by
  unfold askTold askAfter
  rw [if_neg (by omega), if_neg (by omega), Int.toNat_natCast]
  exact ⟨rfl, rfl⟩

theorem rnum_any {R : Nat → Prop} {g : Nat} {L : List Int} {k : Nat} {bad : Bool} (hk : k ≤ L.length) (hb : By L) (n : Nat) (hn : n ≤ 4) (w : World) (h : Re w R g L k bad) :
    Calls Try.prog 25 #[.pointer (some ⟨g, 0, none⟩), .int .i64 n] w (NumAny w R g L k n bad) := by
  go_enter Try.func25, Try.ntmps25
  go_wp2_with fail
  refine (take_any hk n w h).mono ?_
  rintro e w1 ⟨A, m, c, rfl, hm, hr, he, hc⟩
  rw [(ask_nat L k n bad).1] at hm hr
  rw [(ask_nat L k n bad).2] at he
  have hlen := told_len L k n bad
  have hby := told_by hb k n bad
  have HP : ∀ e, e = Ending.returned (.int .u32 (num (told L k n bad))) → NumAny w R g L k n bad e w1 := fun e h => ⟨h, he, hc⟩
  have HPP := Lib.hid HP
  clear HP
  obtain ⟨t, ht⟩ : ∃ t, t = told L k n bad := ⟨_, rfl⟩
  rw [← ht] at hm hr hlen hby HPP
  clear ht
  have HM := Lib.hid hm
  have hm4 : m ≤ 4 := by omega
  clear hm hlen
  go_wp2_with fail
  go_loop [6, 7] (fun v i => ∃ q : Nat, q ≤ m ∧ i = .int .i64 ((q : Int) - 1) ∧ v = .int .u32 (num (t.drop q))) (fun _ i => (intOf i + 1).toNat)
  case atStart => exact ⟨m, Nat.le_refl _, rfl, by rw [List.drop_of_length_le (by have := HM.out; omega)]; rfl⟩
  case round =>
    obtain ⟨q, hq, rfl, rfl⟩ := hrel
    cases q with
    | zero =>
      have e0 : ((0 : Nat) : Int) - 1 = -1 := rfl
      rw [e0]
      have HD := Lib.hid (show t.drop 0 = t from rfl)
      go_wp2
      go_ret
      exact HPP.out _ rfl
    | succ q =>
      have e0 : ((q + 1 : Nat) : Int) - 1 = (q : Int) := by omega
      rw [e0]
      have hqt : q < t.length := by have := HM.out; omega
      obtain ⟨b, o, rfl, hc1⟩ := hr.at_ (k := q) (by rw [by8_len]; exact hqt)
      simp only [by8, List.getElem_map] at hc1
      obtain ⟨x, hx⟩ : ∃ x, x = t[q] := ⟨_, rfl⟩
      rw [← hx] at hc1
      have bx : 0 ≤ x ∧ x ≤ 255 := by rw [hx]; exact hby _ (List.getElem_mem _)
      have hd : num (t.drop q) = x + 256 * num (t.drop (q + 1)) := by rw [List.drop_eq_getElem_cons hqt, ← hx]; rfl
      have hbq := num_bd (t.drop (q + 1)) (fun z hz => hby z (List.mem_of_mem_drop hz))
      have hlq : (t.drop (q + 1)).length ≤ 3 := by rw [List.length_drop]; have := HM.out; omega
      have ep : ((256 : Int) ^ (t.drop (q + 1)).length) = ((256 ^ (t.drop (q + 1)).length : Nat) : Int) := by rw [Int.natCast_pow]; rfl
      have pp : 256 ^ (t.drop (q + 1)).length ≤ 256 ^ 3 := Nat.pow_le_pow_right (by omega) hlq
      rw [ep] at hbq
      have hb2 : 0 ≤ num (t.drop (q + 1)) ∧ num (t.drop (q + 1)) < 16777216 := by omega
      clear ep pp hbq hlq hx
      have HD := Lib.hid hd
      clear hd
      obtain ⟨y, hy⟩ : ∃ y, y = num (t.drop (q + 1)) := ⟨_, rfl⟩
      rw [← hy] at HD hb2
      rw [← hy]
      clear hy
      have y1 : y * 256 < 4294967296 := by omega
      have y2 : y * 256 + x < 4294967296 := by omega
      have y3 : 0 ≤ y * 256 := by omega
      have hqm : (q : Int) < m := by omega
      go_wp2
      go_round
      case rel => exact ⟨q, by omega, rfl, by rw [HD.out, Int.mul_comm 256 y, Int.add_comm]⟩
      case measure => simp [intOf]

end Go.Proofs.Ytogaolnnkjkgdaa.Cd
