/-
  What the document's Part of a program weighs (chapter 12) is what the best walk weighs: plain.
-/
import Derived.Test.YtnlndkpjfgpodaaDoorCstPure
import Derived.Test.YtnlndkpjfgpodaaDoorFlowEnd
set_option linter.unusedSimpArgs false
set_option linter.unusedVariables false
set_option linter.unusedSectionVars false
namespace Go.Proofs.YtnlndkpjfgpodaaDoor.Cs
open Fp (Ins at_ Fine check loopsL hasB nextL lp has_iff)

abbrev btG : Int → Int → Bool := fun a b => decide (a > b)
def moreI (a b : Int) : Int := if a < 0 ∨ b < 0 then -1 else adI a b
def mlI (a b : Int) : Int := min (max 0 (min a 1099511627776) * max 0 (min b 1099511627776)) 1099511627776
def innerL (l : List (Int × Int)) (s : Int × Int) : List (Int × Int) := l.filter fun x => decide (x ≠ s ∧ s.1 ≤ x.1 ∧ x.2 ≤ s.2)
/-- the last one that begins there -/
def fromIn (l : List (Int × Int)) (k : Int) : Option (Int × Int) := l.reverse.find? fun x => decide (x.1 = k)
def setMax (come : List Int) (t n : Int) : List Int := come.set t.toNat (max (come.getD t.toNat 0) n)
def partS (one : (Int × Int) → Wy) (p : List Ins) (w : List Int) (l : List (Int × Int)) (s : St) (k : Nat) : St :=
  if s.come.getD k 0 < 0 then s else
  match fromIn l k with
  | some x =>
    if 0 ≤ (one x).thru then
      ⟨setMax s.come (x.2 + 1) (moreI (s.come.getD k 0) (mlI ((at_ p x.2.toNat).c + 1) (one x).thru)),
        ⟨s.all.thru, max (max s.all.fin (moreI (moreI (s.come.getD k 0) (mlI (at_ p x.2.toNat).c (one x).thru)) (one x).fin)) (moreI (s.come.getD k 0) (one x).fin)⟩⟩
    else ⟨s.come, ⟨s.all.thru, max s.all.fin (moreI (s.come.getD k 0) (one x).fin)⟩⟩
  | none =>
    if (at_ p k).op = 21 then ⟨s.come, ⟨s.all.thru, max s.all.fin (moreI (s.come.getD k 0) (clI (w.getD k 0)))⟩⟩
    else if (at_ p k).op = 16 then ⟨s.come, ⟨moreI (s.come.getD k 0) (clI (w.getD k 0)), s.all.fin⟩⟩
    else ⟨(nextL p k).foldl (fun c t => setMax c t (moreI (s.come.getD k 0) (clI (w.getD k 0)))) s.come, s.all⟩
def partT (one : (Int × Int) → Wy) (p : List Ins) (w : List Int) (l : List (Int × Int)) (a : Nat) : Nat → St
  | 0 => ⟨come0 p.length a, ⟨-1, -1⟩⟩
  | n + 1 => partS one p w l (partT one p w l a n) (a + n)
def partF (p : List Ins) (w : List Int) : Nat → List (Int × Int) → (Int × Int) → Wy
  | 0, _, _ => ⟨-1, -1⟩
  | f + 1, l, s => (partT (fun x => partF p w f (innerL l x) x) p w (innerL l s) s.1.toNat (s.2 + 1 - s.1).toNat).all

def Ok (v : Int) : Prop := v = -1 ∨ (0 ≤ v ∧ v ≤ 1099511627776)
theorem ok_none : Ok (-1) := .inl rfl
theorem ok_zero : Ok 0 := .inr ⟨by omega, by omega⟩
theorem ok_both {a b : Int} (ha : Ok a) (hb : Ok b) : Ok (bothI a b) := by
  unfold Ok at *
  unfold bothI adI
  split <;> omega
theorem ok_best {a b : Int} (ha : Ok a) (hb : Ok b) : Ok (bestI btG a b) := by
  unfold bestI
  split
  · exact ha
  · exact hb
theorem ok_cl (n : Int) : Ok (clI n) := by unfold Ok clI; omega
theorem best_max {a b : Int} (ha : Ok a) (hb : Ok b) : bestI btG a b = max a b := by
  unfold Ok at *
  unfold bestI btG
  simp only [decide_eq_true_eq]
  split <;> omega
theorem more_both {a b : Int} (ha : Ok a) (hb : Ok b) : moreI a b = bothI a b := by
  unfold Ok at *
  unfold moreI bothI
  split <;> split <;> first | rfl | omega
theorem both_none_l (b : Int) : bothI (-1) b = -1 := by unfold bothI; rw [if_pos (.inl rfl)]
theorem both_none_r (b : Int) : bothI b (-1) = -1 := by unfold bothI; rw [if_pos (.inr rfl)]
theorem best_none_r {a : Int} (ha : Ok a) : bestI btG a (-1) = a := by
  rw [best_max ha ok_none]
  unfold Ok at ha
  omega

/-- a part that is gone through so many times -/
theorem rep_thru {x : Wy} (ht : Ok x.thru) (n : Nat) : (repW btG x n).thru = if n = 0 then 0 else if x.thru = -1 then -1 else min ((n : Int) * x.thru) 1099511627776 := by
  induction n with
  | zero => rfl
  | succ n ih =>
    rw [repW, if_neg (Nat.succ_ne_zero n), ih]
    show bothI _ _ = _
    by_cases h : x.thru = -1
    · rw [if_pos h, if_pos h, h, both_none_r]
    · rw [if_neg h, if_neg h]
      have h0 : 0 ≤ x.thru ∧ x.thru ≤ 1099511627776 := by unfold Ok at ht; omega
      have e : ((n + 1 : Nat) : Int) * x.thru = (n : Int) * x.thru + x.thru := by rw [Int.natCast_succ, Int.add_mul, Int.one_mul]
      have hm : 0 ≤ (n : Int) * x.thru := Int.mul_nonneg (by omega) h0.1
      rw [e]
      by_cases hn : n = 0
      · subst hn
        rw [if_pos rfl]
        have e0 : ((0 : Nat) : Int) * x.thru = 0 := by rw [Int.natCast_zero, Int.zero_mul]
        rw [e0]
        unfold bothI adI
        split <;> omega
      · rw [if_neg hn]
        clear e
        generalize (n : Int) * x.thru = m at *
        unfold bothI adI
        split <;> omega
theorem rep_fin {x : Wy} (ht : Ok x.thru) (hf : Ok x.fin) (n : Nat) : (repW btG x (n + 1)).fin = if x.fin = -1 then -1 else if x.thru = -1 then x.fin else adI (min ((n : Int) * x.thru) 1099511627776) x.fin := by
  have hf' := hf
  unfold Ok at hf'
  induction n with
  | zero =>
    show bestI btG (-1) (bothI 0 x.fin) = _
    by_cases h : x.fin = -1
    · rw [h, both_none_r, if_pos rfl]; rfl
    · rw [if_neg h]
      have e : bothI 0 x.fin = x.fin := by unfold bothI adI; split <;> omega
      rw [e, best_max ok_none hf]
      split
      · omega
      · unfold adI; simp only [Int.natCast_zero, Int.zero_mul]; omega
  | succ n ih =>
    rw [repW]
    show bestI btG _ (bothI _ _) = _
    rw [ih, rep_thru ht, if_neg (Nat.succ_ne_zero n)]
    by_cases h : x.fin = -1
    · rw [if_pos h, if_pos h, h, both_none_r]; rfl
    · rw [if_neg h, if_neg h]
      by_cases h2 : x.thru = -1
      · rw [if_pos h2, if_pos h2, if_pos h2, both_none_l, best_none_r hf]
      · rw [if_neg h2, if_neg h2, if_neg h2]
        have h0 : 0 ≤ x.thru ∧ x.thru ≤ 1099511627776 := by unfold Ok at ht; omega
        have e : ((n + 1 : Nat) : Int) * x.thru = (n : Int) * x.thru + x.thru := by rw [Int.natCast_succ, Int.add_mul, Int.one_mul]
        have hm : 0 ≤ (n : Int) * x.thru := Int.mul_nonneg (by omega) h0.1
        rw [e]
        generalize (n : Int) * x.thru = m at *
        have o1 : Ok (adI (min m 1099511627776) x.fin) := by unfold Ok adI; omega
        have o2 : Ok (bothI (min (m + x.thru) 1099511627776) x.fin) := ok_both (by unfold Ok; omega) hf
        rw [best_max o1 o2]
        unfold bothI
        rw [if_neg (by omega)]
        unfold adI
        omega
theorem ok_rep {x : Wy} (ht : Ok x.thru) (hf : Ok x.fin) (n : Nat) : Ok (repW btG x n).thru ∧ Ok (repW btG x n).fin := by
  induction n with
  | zero => exact ⟨ok_zero, ok_none⟩
  | succ n ih => exact ⟨ok_both ih.1 ht, ok_best ih.2 (ok_both ih.1 hf)⟩

/-! ### loops that lie within a part -/
section
variable {right : Ins → Bool} {p : List Ins}
theorem innerL_mem {l : List (Int × Int)} {s x : Int × Int} : x ∈ innerL l s ↔ x ∈ l ∧ x ≠ s ∧ s.1 ≤ x.1 ∧ x.2 ≤ s.2 := by simp [innerL]
theorem inner_inner {L : List (Int × Int)} {x y : Int × Int} (h : y = x ∨ y ∈ innerL L x) : innerL (innerL L x) y = innerL L y := by
  unfold innerL
  rw [List.filter_filter]
  apply List.filter_congr
  intro z _
  rw [← Bool.decide_and, decide_eq_decide]
  constructor
  · exact fun h => h.1
  · intro hz
    refine ⟨hz, ?_⟩
    rcases h with rfl | h
    · exact hz
    · obtain ⟨_, h1, h2, h3⟩ := innerL_mem.1 h
      refine ⟨?_, by omega, by omega⟩
      intro he
      subst he
      exact h1 (Prod.ext (by omega) (by omega))
theorem inner_short {l : List (Int × Int)} {x : Int × Int} (h : x ∈ l) : (innerL l x).length < l.length := by
  unfold innerL
  rw [List.length_filter_lt_length_iff_exists]
  exact ⟨x, h, by simp⟩
/-- the part with this number: a loop, or behind all loops the whole -/
def spn (p : List Ins) (n : Nat) : Int × Int := if n < (loopsL p).length then lp (loopsL p) n else (0, (p.length : Int) - 1)
theorem spn_lt {n : Nat} (h : n < (loopsL p).length) : spn p n = lp (loopsL p) n := if_pos h
theorem spn_top : spn p (loopsL p).length = (0, (p.length : Int) - 1) := if_neg (by omega)
theorem mem_lp {x : Int × Int} (h : x ∈ loopsL p) : ∃ j, j < (loopsL p).length ∧ x = lp (loopsL p) j := by
  obtain ⟨j, hj, rfl⟩ := List.getElem_of_mem h
  exact ⟨j, hj, (Fp.lp_some (List.getElem?_eq_getElem hj)).symm⟩
variable (hF : Fine right p) (hn : ∀ j, j < p.length → 0 ≤ (at_ p j).n)
include hF hn
theorem lp_in {j : Nat} (hj : j < (loopsL p).length) : 0 ≤ (lp (loopsL p) j).1 ∧ (lp (loopsL p) j).1 < (lp (loopsL p) j).2 ∧ (lp (loopsL p) j).2 < p.length := hF.loop hn (Fp.lp_mem hj)
theorem lp_back {j : Nat} (hj : j < (loopsL p).length) : (at_ p (lp (loopsL p) j).2.toNat).op = 16 := by
  obtain ⟨k, h1, h2, h3⟩ := Fp.loopsTo_mem (Fp.lp_mem hj)
  have h4 : (lp (loopsL p) j).2 = (k : Int) := by rw [show lp (loopsL p) j = _ from h3]
  rw [h4]
  simpa using h2
theorem spn_in (n : Nat) (h : n ≤ (loopsL p).length) : 0 ≤ (spn p n).1 ∧ (spn p n).1 ≤ (spn p n).2 ∧ (spn p n).2 < p.length := by
  by_cases h1 : n < (loopsL p).length
  · rw [spn_lt h1]
    have := lp_in hF hn h1
    omega
  · have := hF.size
    unfold spn
    rw [if_neg h1]
    simp only
    omega
theorem lp_spn {j n : Nat} (hj : j < n) (h : n ≤ (loopsL p).length) : (lp (loopsL p) j).2 < (spn p n).2 := by
  by_cases h1 : n < (loopsL p).length
  · rw [spn_lt h1]
    exact Fp.lp_lt hj h1
  · unfold spn
    rw [if_neg h1]
    have h2 := lp_in hF hn (j := j) (by omega)
    have h3 := lp_back hF hn (j := j) (by omega)
    rcases Int.lt_or_le (lp (loopsL p) j).2 ((p.length : Int) - 1) with h4 | h4
    · exact h4
    · have e : (lp (loopsL p) j).2.toNat = p.length - 1 := by omega
      rw [e, hF.last] at h3
      cases h3
theorem lp_inner {j n : Nat} (hj : j < n) (h : n ≤ (loopsL p).length) {k : Int} (hk : hasB (lp (loopsL p) j) k = true) (h1 : (spn p n).1 ≤ k) : lp (loopsL p) j ∈ innerL (loopsL p) (spn p n) := by
  have hs := lp_spn hF hn hj h
  have hb := has_iff.1 hk
  refine innerL_mem.2 ⟨Fp.lp_mem (by omega), fun he => by rw [he] at hs; omega, ?_, by omega⟩
  by_cases h2 : n < (loopsL p).length
  · rw [spn_lt h2] at hs h1 ⊢
    have := hF.nest (Fp.lp_mem (by omega : j < (loopsL p).length)) (Fp.lp_mem h2) hs
    unfold Fp.overB at this
    simp at this
    omega
  · have := lp_in hF hn (j := j) (by omega)
    unfold spn
    rw [if_neg h2]
    exact this.1
theorem inner_lp {n : Nat} (h : n ≤ (loopsL p).length) {x : Int × Int} (hx : x ∈ innerL (loopsL p) (spn p n)) : ∃ j, j < n ∧ x = lp (loopsL p) j := by
  obtain ⟨h1, h2, h3, h4⟩ := innerL_mem.1 hx
  obtain ⟨j, hj, rfl⟩ := mem_lp h1
  refine ⟨j, ?_, rfl⟩
  by_cases h5 : n < (loopsL p).length
  · rw [spn_lt h5] at h2 h3 h4
    rcases Nat.lt_trichotomy j n with h6 | h6 | h6
    · exact h6
    · subst h6; exact absurd rfl h2
    · have := Fp.lp_lt h6 hj
      omega
  · omega
theorem back_last {n k : Nat} (h : n ≤ (loopsL p).length) (hk : k < p.length) (hk2 : (k : Int) ≤ (spn p n).2) (ho : (at_ p k).op = 16) (hno : ∀ j, j < n → hasB (lp (loopsL p) j) k = false) : (k : Int) = (spn p n).2 := by
  have hm : ((at_ p k).n, (k : Int)) ∈ loopsL p := Fp.loopsTo_has hk ho
  obtain ⟨j, hj, he⟩ := mem_lp hm
  have hb := hF.back hk ho
  rcases Nat.lt_or_ge j n with h1 | h1
  · have := hno j h1
    rw [← he] at this
    unfold hasB at this
    simp at this
    omega
  · have h5 : n < (loopsL p).length := by omega
    have e2 : (lp (loopsL p) j).2 = (k : Int) := by rw [← he]
    rw [spn_lt h5] at hk2 ⊢
    rcases Nat.lt_or_ge n j with h6 | h6
    · have := Fp.lp_lt h6 hj
      omega
    · have : n = j := by omega
      subst this
      exact e2.symm
theorem last_back {n : Nat} (h : n ≤ (loopsL p).length) (ho : ¬ (at_ p (spn p n).2.toNat).op = 21) : (at_ p (spn p n).2.toNat).op = 16 := by
  by_cases h5 : n < (loopsL p).length
  · rw [spn_lt h5]
    exact lp_back hF hn h5
  · have := hF.last
    have hs := hF.size
    unfold spn at ho ⊢
    rw [if_neg h5] at ho ⊢
    have e : ((p.length : Int) - 1).toNat = p.length - 1 := by omega
    simp only [e] at ho
    exact absurd this ho
omit hF hn
/-- of the known loops that have a place the last one -/
theorem last_known (w : List Int) (bt : Int → Int → Bool) (k : Int) (n : Nat) : ((∀ j, j < n → hasB (lp (loopsL p) j) k = false) ∧ lastIn (knownT bt p w n) k = none) ∨
    ∃ j, j < n ∧ hasB (lp (loopsL p) j) k = true ∧ (∀ i, j < i → i < n → hasB (lp (loopsL p) i) k = false) ∧
      lastIn (knownT bt p w n) k = some (lp (loopsL p) j, repW bt (onceW bt p w (knownT bt p w j) (lp (loopsL p) j)) ((at_ p (lp (loopsL p) j).2.toNat).c + 1).toNat) := by
  induction n with
  | zero => exact .inl ⟨fun j hj => by omega, rfl⟩
  | succ n ih =>
    have e : lastIn (knownT bt p w (n + 1)) k = if hasB (lp (loopsL p) n) k = true then some (lp (loopsL p) n, repW bt (onceW bt p w (knownT bt p w n) (lp (loopsL p) n)) ((at_ p (lp (loopsL p) n).2.toNat).c + 1).toNat) else lastIn (knownT bt p w n) k := by
      unfold lastIn
      rw [knownT, List.reverse_append, List.reverse_singleton, List.singleton_append, List.find?_cons]
      show (match hasB (lp (loopsL p) n) k with | true => _ | false => _) = _
      cases hasB (lp (loopsL p) n) k <;> rfl
    by_cases hb : hasB (lp (loopsL p) n) k = true
    · refine .inr ⟨n, by omega, hb, fun i h1 h2 => by omega, ?_⟩
      rw [e, if_pos hb]
    · rw [e, if_neg hb]
      have hb' : hasB (lp (loopsL p) n) k = false := by simpa using hb
      rcases ih with ⟨h1, h2⟩ | ⟨j, h1, h2, h3, h4⟩
      · refine .inl ⟨fun j hj => ?_, h2⟩
        rcases Nat.lt_or_ge j n with h | h
        · exact h1 j h
        · have : j = n := by omega
          subst this; exact hb'
      · refine .inr ⟨j, by omega, h2, fun i hi1 hi2 => ?_, h4⟩
        rcases Nat.lt_or_ge i n with h | h
        · exact h3 i hi1 h
        · have : i = n := by omega
          subst this; exact hb'
theorem from_none {l : List (Int × Int)} {k : Int} (h : ∀ x ∈ l, x.1 ≠ k) : fromIn l k = none := by
  unfold fromIn
  rw [List.find?_eq_none]
  intro x hx
  simpa using h x (List.mem_reverse.1 hx)
theorem from_some {l : List (Int × Int)} (hs : l.Pairwise fun a b => a.2 < b.2) {k : Int} {x : Int × Int} (hx : x ∈ l) (hk : x.1 = k) (hlast : ∀ y ∈ l, x.2 < y.2 → y.1 ≠ k) : fromIn l k = some x := by
  unfold fromIn
  induction l with
  | nil => cases hx
  | cons a l ih =>
    obtain ⟨h1, h2⟩ := List.pairwise_cons.1 hs
    rw [List.reverse_cons, List.find?_append]
    rcases List.mem_cons.1 hx with rfl | hx
    · have : (l.reverse.find? fun y => decide (y.1 = k)) = none := from_none fun y hy => hlast y (List.mem_cons_of_mem _ hy) (h1 y hy)
      rw [this]
      simp [hk]
    · rw [ih h2 hx fun y hy => hlast y (List.mem_cons_of_mem _ hy)]
      rfl
theorem inner_sorted (s : Int × Int) : (innerL (loopsL p) s).Pairwise fun a b => a.2 < b.2 := (Fp.loopsTo_sorted (p := p) p.length).filter _
end
theorem set_getD (l : List Int) (i : Nat) : l.set i (l.getD i 0) = l := by
  apply List.ext_getElem?
  intro j
  rw [List.getElem?_set]
  split
  · rename_i h
    subst h
    split
    · rename_i h2
      rw [List.getD_eq_getElem?_getD, List.getElem?_eq_getElem h2]
      rfl
    · rename_i h2
      rw [List.getElem?_eq_none (by omega)]
  · rfl
theorem getD_set (l : List Int) (i j : Nat) (v : Int) : (l.set i v).getD j 0 = if i = j ∧ j < l.length then v else l.getD j 0 := by
  rw [List.getD_eq_getElem?_getD, List.getD_eq_getElem?_getD, List.getElem?_set]
  by_cases h : i = j
  · subst h
    rw [if_pos rfl]
    by_cases h2 : i < l.length
    · rw [if_pos h2, if_pos ⟨rfl, h2⟩]; rfl
    · rw [if_neg h2, if_neg (fun h => h2 h.2), List.getElem?_eq_none (by omega)]
  · rw [if_neg h, if_neg (fun h' => h h'.1)]

/-- what stands between two places -/
structure PInv (p : List Ins) (n : Nat) (st : St) (k : Nat) : Prop where
  len : st.come.length = p.length + 1
  ok : ∀ u, Ok (st.come.getD u 0)
  fin : Ok st.all.fin
  thr : Ok st.all.thru
  yet : (k : Int) ≤ (spn p n).2 → st.all.thru = -1
  off : ∀ x ∈ innerL (loopsL p) (spn p n), ∀ u : Nat, x.1 < u → (u : Int) ≤ x.2 → st.come.getD u 0 = -1
theorem lead_max {c : List Int} (hc : ∀ u, Ok (c.getD u 0)) {v : Int} (hv : Ok v) (t : Int) : leadI btG c t v = setMax c t v := by
  unfold leadI setMax
  rw [best_max (hc _) hv]
theorem lead_none {c : List Int} (hc : ∀ u, Ok (c.getD u 0)) (t : Int) : leadI btG c t (-1) = c := by
  unfold leadI
  rw [best_none_r (hc _), set_getD]
theorem ok_lead {c : List Int} (hc : ∀ u, Ok (c.getD u 0)) {v : Int} (hv : Ok v) (t : Int) : ∀ u, Ok ((leadI btG c t v).getD u 0) := by
  intro u
  unfold leadI
  rw [getD_set]
  split
  · exact ok_best (hc _) hv
  · exact hc u
theorem len_lead {c : List Int} (v t : Int) : (leadI btG c t v).length = c.length := by unfold leadI; rw [List.length_set]
section
variable {right : Ins → Bool} {p : List Ins}
theorem fold_none {c : List Int} (hc : ∀ u, Ok (c.getD u 0)) : ∀ (ts : List Int), ts.foldl (fun c t => leadI btG c t (-1)) c = c
  | [] => rfl
  | t :: ts => by
    rw [List.foldl_cons, lead_none hc]
    exact fold_none hc ts
theorem fold_max {v : Int} (hv : Ok v) : ∀ (ts : List Int) (c : List Int), (∀ u, Ok (c.getD u 0)) → ts.foldl (fun c t => leadI btG c t v) c = ts.foldl (fun c t => setMax c t v) c
  | [], _, _ => rfl
  | t :: ts, c, hc => by
    rw [List.foldl_cons, List.foldl_cons, fold_max hv ts _ (ok_lead hc hv t), lead_max hc hv]
theorem fold_keep {v : Int} (hv : Ok v) (B : Nat → Prop) : ∀ (ts : List Int) (c : List Int), (∀ u, Ok (c.getD u 0)) → (∀ t ∈ ts, ∀ u, t.toNat = u → ¬ B u) →
    (ts.foldl (fun c t => leadI btG c t v) c).length = c.length ∧ (∀ u, Ok ((ts.foldl (fun c t => leadI btG c t v) c).getD u 0)) ∧ ∀ u, B u → (ts.foldl (fun c t => leadI btG c t v) c).getD u 0 = c.getD u 0
  | [], c, hc, _ => ⟨rfl, hc, fun _ _ => rfl⟩
  | t :: ts, c, hc, hB => by
    rw [List.foldl_cons]
    obtain ⟨h1, h2, h3⟩ := fold_keep hv B ts _ (ok_lead hc hv t) (fun t' ht' => hB t' (List.mem_cons_of_mem _ ht'))
    refine ⟨h1.trans (len_lead _ _), h2, fun u hu => (h3 u hu).trans ?_⟩
    unfold leadI
    rw [getD_set, if_neg]
    exact fun h => hB t (List.mem_cons_self ..) u h.1 hu
theorem ml_in {c t : Int} (hc : 0 ≤ c ∧ c ≤ 1099511627776) (ht : 0 ≤ t ∧ t ≤ 1099511627776) : mlI c t = min (c * t) 1099511627776 := by
  unfold mlI
  rw [show max 0 (min c 1099511627776) = c by omega, show max 0 (min t 1099511627776) = t by omega]
theorem loop_fin {v m f fin : Int} (hfin : Ok fin) (hv : Ok v) (hv0 : 0 ≤ v) (hf : Ok f) (hm : 0 ≤ m) :
    max (max fin (bothI (bothI v (min m 1099511627776)) f)) (bothI v f) = bestI btG fin (bothI v (if f = -1 then -1 else adI (min m 1099511627776) f)) := by
  by_cases hfe : f = -1
  · rw [if_pos hfe, hfe, both_none_r, both_none_r, best_none_r hfin]
    unfold Ok at hfin
    omega
  · rw [if_neg hfe]
    have o1 : Ok (bothI v (adI (min m 1099511627776) f)) := ok_both hv (by unfold Ok adI; omega)
    rw [best_max hfin o1]
    unfold Ok at hv hf hfin
    unfold bothI
    have a1 : ¬ (v = -1 ∨ adI (min m 1099511627776) f = -1) := by unfold adI; omega
    have a2 : ¬ (v = -1 ∨ min m 1099511627776 = -1) := by omega
    rw [if_neg a1, if_neg a2]
    have a3 : ¬ (adI v (min m 1099511627776) = -1 ∨ f = -1) := by unfold adI; omega
    have a4 : ¬ (v = -1 ∨ f = -1) := by omega
    rw [if_neg a3, if_neg a4]
    unfold adI
    omega
set_option maxHeartbeats 1000000 in
set_option maxRecDepth 10000 in
theorem step_eq (hF : Fine right p) (hn : ∀ j, j < p.length → 0 ≤ (at_ p j).n) (hC : ∀ k, k < p.length → (at_ p k).op = 16 → 0 ≤ (at_ p k).c ∧ (at_ p k).c < 1099511627776) (w : List Int) {n : Nat} (h : n ≤ (loopsL p).length) (one : (Int × Int) → Wy)
    (hone : ∀ j, j < n → lp (loopsL p) j ∈ innerL (loopsL p) (spn p n) → one (lp (loopsL p) j) = onceW btG p w (knownT btG p w j) (lp (loopsL p) j))
    (hok : ∀ j, j < n → Ok (onceW btG p w (knownT btG p w j) (lp (loopsL p) j)).thru ∧ Ok (onceW btG p w (knownT btG p w j) (lp (loopsL p) j)).fin)
    {st : St} {k : Nat} (hi : PInv p n st k) (hk1 : (spn p n).1 ≤ k) (hk2 : (k : Int) ≤ (spn p n).2) :
    partS one p w (innerL (loopsL p) (spn p n)) st k = onceS btG p w (knownT btG p w n) (spn p n).2 st k ∧ PInv p n (onceS btG p w (knownT btG p w n) (spn p n).2 st k) (k + 1) := by
  have hsp := spn_in hF hn n h
  have hkl : k < p.length := by omega
  have hv : Ok (st.come.getD k 0) := hi.ok k
  have hyet : ((k + 1 : Nat) : Int) ≤ (spn p n).2 → st.all.thru = -1 := fun _ => hi.yet hk2
  rcases last_known (p := p) w btG k n with ⟨hno, hl⟩ | ⟨j, hj, hb, hlast, hl⟩
  · have hfr : fromIn (innerL (loopsL p) (spn p n)) k = none := from_none fun x hx he => by
      obtain ⟨j, hj, rfl⟩ := inner_lp hF hn h hx
      have h1 := lp_in hF hn (j := j) (by omega)
      have h2 := hno j hj
      rw [has_iff.2 ⟨by omega, by omega⟩] at h2
      cases h2
    have hcl := ok_cl (w.getD k 0)
    have hh : Ok (bothI (st.come.getD k 0) (clI (w.getD k 0))) := ok_both hv hcl
    have hO : onceS btG p w (knownT btG p w n) (spn p n).2 st k = if (at_ p k).op = 21 then ⟨st.come, ⟨st.all.thru, bestI btG st.all.fin (bothI (st.come.getD k 0) (clI (w.getD k 0)))⟩⟩
        else if (k : Int) = (spn p n).2 then ⟨st.come, ⟨bothI (st.come.getD k 0) (clI (w.getD k 0)), st.all.fin⟩⟩
        else ⟨(nextL p k).foldl (fun c t => leadI btG c t (bothI (st.come.getD k 0) (clI (w.getD k 0)))) st.come, st.all⟩ := by
      unfold onceS
      rw [hl]
      rfl
    have hP : partS one p w (innerL (loopsL p) (spn p n)) st k = if st.come.getD k 0 < 0 then st else
        if (at_ p k).op = 21 then ⟨st.come, ⟨st.all.thru, max st.all.fin (moreI (st.come.getD k 0) (clI (w.getD k 0)))⟩⟩
        else if (at_ p k).op = 16 then ⟨st.come, ⟨moreI (st.come.getD k 0) (clI (w.getD k 0)), st.all.fin⟩⟩
        else ⟨(nextL p k).foldl (fun c t => setMax c t (moreI (st.come.getD k 0) (clI (w.getD k 0)))) st.come, st.all⟩ := by
      unfold partS
      rw [hfr]
    rw [hO, hP, more_both hv hcl]
    have hneg : st.come.getD k 0 < 0 → bothI (st.come.getD k 0) (clI (w.getD k 0)) = -1 := fun h0 => by
      have : st.come.getD k 0 = -1 := by unfold Ok at hv; omega
      rw [this, both_none_l]
    generalize bothI (st.come.getD k 0) (clI (w.getD k 0)) = here at *
    by_cases h21 : (at_ p k).op = 21
    · rw [if_pos h21, if_pos h21]
      refine ⟨?_, hi.len, hi.ok, ok_best hi.fin hh, hi.thr, hyet, hi.off⟩
      split
      · rename_i h0
        rw [hneg h0, best_none_r hi.fin]
      · rw [best_max hi.fin hh]
    · rw [if_neg h21, if_neg h21]
      by_cases hkl2 : (k : Int) = (spn p n).2
      · have h16 : (at_ p k).op = 16 := by
          have := last_back hF hn h
          rw [← hkl2] at this
          exact this (by simpa using h21)
        rw [if_pos hkl2, if_pos h16]
        refine ⟨?_, hi.len, hi.ok, hi.fin, hh, fun h => by omega, hi.off⟩
        split
        · rename_i h0
          have := hi.yet hk2
          rw [hneg h0, ← this]
        · rfl
      · have h16 : ¬ (at_ p k).op = 16 := fun h16 => hkl2 (back_last hF hn h hkl hk2 h16 hno)
        rw [if_neg hkl2, if_neg h16]
        obtain ⟨f1, f2, f3⟩ := fold_keep hh (fun u => ∃ x ∈ innerL (loopsL p) (spn p n), x.1 < u ∧ (u : Int) ≤ x.2) (nextL p k) st.come hi.ok (by
          rintro t ht u hu ⟨x, hx, hx1, hx2⟩
          obtain ⟨j, hj, rfl⟩ := inner_lp hF hn h hx
          have he := (hF.edge hn hkl ht).1
          have := (hF.ways hn hkl ht (Fp.lp_mem (by omega : j < (loopsL p).length))).1 (has_iff.2 ⟨by omega, by omega⟩) (hno j hj)
          omega)
        refine ⟨?_, f1.trans hi.len, f2, hi.fin, hi.thr, hyet, fun x hx u h1 h2 => (f3 u ⟨x, hx, h1, h2⟩).trans (hi.off x hx u h1 h2)⟩
        split
        · rename_i h0
          rw [hneg h0, fold_none hi.ok]
        · rw [fold_max hh _ _ hi.ok]
  · have hx := lp_inner hF hn hj h hb hk1
    have hxl := lp_in hF hn (j := j) (by omega)
    have hxb := lp_back hF hn (j := j) (by omega)
    have hbk := has_iff.1 hb
    have hjn := hone j hj hx
    have hoj := hok j hj
    have hcc := hC _ (by omega) hxb
    have hls := lp_spn hF hn hj h
    have habove : ∀ y ∈ innerL (loopsL p) (spn p n), (lp (loopsL p) j).2 < y.2 → hasB y k = false := fun y hy hlt => by
      obtain ⟨i, hi, rfl⟩ := inner_lp hF hn h hy
      refine hlast i ?_ hi
      rcases Nat.lt_trichotomy j i with h1 | h1 | h1
      · exact h1
      · subst h1; omega
      · have := Fp.lp_lt h1 (by omega : j < (loopsL p).length); omega
    have hnest : ∀ y ∈ innerL (loopsL p) (spn p n), (lp (loopsL p) j).2 < y.2 → Fp.overB (lp (loopsL p) j) y = false := fun y hy hlt =>
      hF.nest (innerL_mem.1 hx).1 (innerL_mem.1 hy).1 hlt
    generalize lp (loopsL p) j = x at *
    obtain ⟨O, hOe⟩ : ∃ O, O = onceW btG p w (knownT btG p w j) x := ⟨_, rfl⟩
    rw [← hOe] at hjn hoj hl
    have hO : onceS btG p w (knownT btG p w n) (spn p n).2 st k = if (k : Int) = x.1 then ⟨leadI btG st.come (x.2 + 1) (bothI (st.come.getD k 0) (repW btG O ((at_ p x.2.toNat).c + 1).toNat).thru), ⟨st.all.thru, bestI btG st.all.fin (bothI (st.come.getD k 0) (repW btG O ((at_ p x.2.toNat).c + 1).toNat).fin)⟩⟩ else st := by
      unfold onceS
      rw [hl]
    rw [hO]
    clear hO hl
    by_cases hkx : (k : Int) = x.1
    · have hfr : fromIn (innerL (loopsL p) (spn p n)) k = some x := from_some (inner_sorted _) hx hkx.symm fun y hy hlt he => by
        have h1 := habove y hy hlt
        have : y.1 < y.2 := by
          obtain ⟨i, hi, rfl⟩ := inner_lp hF hn h hy
          have := lp_in hF hn (j := i) (by omega)
          omega
        rw [has_iff.2 ⟨by omega, by omega⟩] at h1
        cases h1
      have hP : partS one p w (innerL (loopsL p) (spn p n)) st k = if st.come.getD k 0 < 0 then st else
          if 0 ≤ O.thru then
            ⟨setMax st.come (x.2 + 1) (moreI (st.come.getD k 0) (mlI ((at_ p x.2.toNat).c + 1) O.thru)),
              ⟨st.all.thru, max (max st.all.fin (moreI (moreI (st.come.getD k 0) (mlI (at_ p x.2.toNat).c O.thru)) O.fin)) (moreI (st.come.getD k 0) O.fin)⟩⟩
          else ⟨st.come, ⟨st.all.thru, max st.all.fin (moreI (st.come.getD k 0) O.fin)⟩⟩ := by
        unfold partS
        rw [hfr]
        simp only
        rw [hjn]
      rw [if_pos hkx, hP]
      clear hP
      generalize (at_ p x.2.toNat).c = C at *
      have eC : (C + 1).toNat = C.toNat + 1 := by omega
      have eC2 : ((C.toNat : Nat) : Int) = C := by omega
      have hr := ok_rep hoj.1 hoj.2 (C + 1).toNat
      have rT : (repW btG O (C + 1).toNat).thru = if O.thru = -1 then -1 else min ((C + 1) * O.thru) 1099511627776 := by
        rw [eC, rep_thru hoj.1, if_neg (Nat.succ_ne_zero _), Int.natCast_succ, eC2]
      have rF : (repW btG O (C + 1).toNat).fin = if O.fin = -1 then -1 else if O.thru = -1 then O.fin else adI (min (C * O.thru) 1099511627776) O.fin := by
        rw [eC, rep_fin hoj.1 hoj.2, eC2]
      constructor
      · by_cases hv0 : st.come.getD k 0 < 0
        · have : st.come.getD k 0 = -1 := by unfold Ok at hv; omega
          rw [if_pos hv0, this, both_none_l, both_none_l, lead_none hi.ok, best_none_r hi.fin]
        · rw [if_neg hv0]
          generalize st.come.getD k 0 = v at *
          by_cases ht : O.thru = -1
          · rw [if_neg (by omega), rT, rF, if_pos ht, if_pos ht, both_none_r, lead_none hi.ok, more_both hv hoj.2]
            have e : (if O.fin = -1 then -1 else O.fin) = O.fin := by split <;> omega
            rw [e, best_max hi.fin (ok_both hv hoj.2)]
          · have h0 : 0 ≤ O.thru ∧ O.thru ≤ 1099511627776 := by have := hoj.1; unfold Ok at this; omega
            rw [if_pos h0.1, ml_in ⟨by omega, by omega⟩ h0, ml_in ⟨by omega, by omega⟩ h0]
            rw [rT, if_neg ht] at hr
            rw [rT, rF, if_neg ht, if_neg ht]
            have hm : 0 ≤ C * O.thru := Int.mul_nonneg hcc.1 h0.1
            generalize (C + 1) * O.thru = m1 at *
            generalize C * O.thru = m0 at *
            have o0 : Ok (min m0 1099511627776) := by unfold Ok; omega
            rw [more_both hv hr.1, more_both hv o0, more_both (ok_both hv o0) hoj.2, more_both hv hoj.2, lead_max hi.ok (ok_both hv hr.1)]
            rw [loop_fin hi.fin hv (by omega) hoj.2 hm]
      · have hlk : Ok (bothI (st.come.getD k 0) (repW btG O (C + 1).toNat).thru) := ok_both hv hr.1
        refine ⟨(len_lead _ _).trans hi.len, ok_lead hi.ok hlk _, ok_best hi.fin (ok_both hv hr.2), hi.thr, hyet, fun y hy u h1 h2 => ?_⟩
        unfold leadI
        simp only
        rw [getD_set, if_neg]
        · exact hi.off y hy u h1 h2
        · rintro ⟨he, _⟩
          have hu : (u : Int) = x.2 + 1 := by omega
          have h3 := hnest y hy (by omega)
          have h4 := habove y hy (by omega)
          unfold Fp.overB at h3
          simp only [decide_eq_false_iff_not] at h3
          rw [has_iff.2 ⟨by omega, by omega⟩] at h4
          cases h4
    · rw [if_neg hkx]
      have hv1 : st.come.getD k 0 = -1 := hi.off x hx k (by omega) (by omega)
      refine ⟨?_, hi.len, hi.ok, hi.fin, hi.thr, hyet, hi.off⟩
      unfold partS
      rw [if_pos (by omega)]
theorem part_all (hF : Fine right p) (hn : ∀ j, j < p.length → 0 ≤ (at_ p j).n) (hC : ∀ k, k < p.length → (at_ p k).op = 16 → 0 ≤ (at_ p k).c ∧ (at_ p k).c < 1099511627776) (w : List Int) (n : Nat) : n ≤ (loopsL p).length →
    (Ok (onceW btG p w (knownT btG p w n) (spn p n)).thru ∧ Ok (onceW btG p w (knownT btG p w n) (spn p n)).fin) ∧
    ∀ f l, l.length < f → (∀ y, (y = spn p n ∨ y ∈ innerL (loopsL p) (spn p n)) → innerL l y = innerL (loopsL p) y) → partF p w f l (spn p n) = onceW btG p w (knownT btG p w n) (spn p n) := by
  induction n using Nat.strongRecOn with
  | ind n ih =>
    intro h
    have hsp := spn_in hF hn n h
    have hok : ∀ j, j < n → Ok (onceW btG p w (knownT btG p w j) (lp (loopsL p) j)).thru ∧ Ok (onceW btG p w (knownT btG p w j) (lp (loopsL p) j)).fin := fun j hj => by
      have := (ih j hj (by omega)).1
      rw [spn_lt (by omega : j < (loopsL p).length)] at this
      exact this
    have key : ∀ f l, l.length < f + 1 → (∀ y, (y = spn p n ∨ y ∈ innerL (loopsL p) (spn p n)) → innerL l y = innerL (loopsL p) y) →
        ∀ i : Nat, (spn p n).1 + i ≤ (spn p n).2 + 1 → partT (fun x => partF p w f (innerL l x) x) p w (innerL l (spn p n)) (spn p n).1.toNat i = onceT btG p w (knownT btG p w n) (spn p n).1.toNat (spn p n).2 i ∧
          PInv p n (onceT btG p w (knownT btG p w n) (spn p n).1.toNat (spn p n).2 i) ((spn p n).1.toNat + i) := by
      intro f l hf hl i
      induction i with
      | zero =>
        intro _
        refine ⟨rfl, ?_⟩
        refine ⟨by simp [onceT, come0], fun u => ?_, ok_none, ok_none, fun _ => rfl, fun x hx u h1 h2 => ?_⟩
        · show Ok ((come0 p.length (spn p n).1.toNat).getD u 0)
          unfold come0
          rw [getD_set]
          split
          · exact ok_zero
          · rw [List.getD_eq_getElem?_getD, List.getElem?_replicate]
            split
            · exact ok_none
            · exact ok_zero
        · obtain ⟨_, h3, h4, h5⟩ := innerL_mem.1 hx
          show (come0 p.length (spn p n).1.toNat).getD u 0 = -1
          unfold come0
          rw [getD_set, if_neg (by omega), List.getD_eq_getElem?_getD, List.getElem?_replicate, if_pos (by omega)]
          rfl
      | succ i ihi =>
        intro hle
        obtain ⟨h1, h2⟩ := ihi (by omega)
        have hs := step_eq hF hn hC w h (fun x => partF p w f (innerL l x) x) (fun j hj hx => by
          have hxl : lp (loopsL p) j ∈ l := by
            have := hl (spn p n) (.inl rfl)
            rw [← this] at hx
            exact (innerL_mem.1 hx).1
          have e := hl _ (.inr hx)
          show partF p w f (innerL l (lp (loopsL p) j)) (lp (loopsL p) j) = _
          have hj2 := (ih j hj (by omega)).2 f (innerL l (lp (loopsL p) j)) (by have := inner_short hxl; omega)
          rw [spn_lt (by omega : j < (loopsL p).length)] at hj2
          exact hj2 fun y hy => by rw [e]; exact inner_inner hy) hok h2 (by omega) (by omega)
        rw [← hl (spn p n) (.inl rfl)] at hs
        refine ⟨?_, ?_⟩
        · rw [partT, onceT, h1]
          exact hs.1
        · rw [onceT]
          exact hs.2
    have e : (spn p n).1 + (((spn p n).2 + 1 - (spn p n).1).toNat : Nat) ≤ (spn p n).2 + 1 := by omega
    refine ⟨?_, fun f l hf hl => ?_⟩
    · obtain ⟨_, h2⟩ := key (loopsL p).length (loopsL p) (by omega) (fun _ _ => rfl) _ e
      exact ⟨h2.thr, h2.fin⟩
    · cases f with
      | zero => omega
      | succ f =>
        obtain ⟨h1, _⟩ := key f l hf hl _ e
        rw [partF, h1]
        rfl
/-- the document's weight is the program's -/
theorem part_weigh (hF : Fine right p) (hn : ∀ j, j < p.length → 0 ≤ (at_ p j).n) (hC : ∀ k, k < p.length → (at_ p k).op = 16 → 0 ≤ (at_ p k).c ∧ (at_ p k).c < 1099511627776) (w : List Int) :
    (partF p w ((loopsL p).length + 1) (loopsL p) (0, (p.length : Int) - 1)).fin = weighW btG p w := by
  have := (part_all hF hn hC w (loopsL p).length (Nat.le_refl _)).2 _ _ (Nat.lt_succ_self _) (fun _ _ => rfl)
  rw [spn_top] at this
  rw [this]
  rfl
theorem weigh_ok (hF : Fine right p) (hn : ∀ j, j < p.length → 0 ≤ (at_ p j).n) (hC : ∀ k, k < p.length → (at_ p k).op = 16 → 0 ≤ (at_ p k).c ∧ (at_ p k).c < 1099511627776) (w : List Int) : Ok (weighW btG p w) := by
  have := (part_all hF hn hC w (loopsL p).length (Nat.le_refl _)).1.2
  rw [spn_top] at this
  exact this
end
end Go.Proofs.YtnlndkpjfgpodaaDoor.Cs
