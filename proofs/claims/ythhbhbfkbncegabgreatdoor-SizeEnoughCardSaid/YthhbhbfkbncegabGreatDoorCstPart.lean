/-
 What the document's Part of a program weighs (chapter 12) is what the best walk weighs: plain.
-/
import Derived.Test.YthhbhbfkbncegabGreatDoorCstPure
import Derived.Test.YthhbhbfkbncegabGreatDoorFlowEnd
set_option linter.unusedSimpArgs false
set_option linter.unusedVariables false
set_option linter.unusedSectionVars false
namespace Go.Proofs.YthhbhbfkbncegabGreatDoor.Cs
open Fp (Ins at_ Fine check loopsL hasB nextL lp has_iff)

abbrev btG : Int → Int → Bool := fun a b => decide (a > b)
def Ok (v : Int) : Prop := v = -1 ∨ (0 ≤ v ∧ v ≤ 1099511627776)
theorem ok_none : Ok (-1) := .inl rfl
theorem ok_zero : Ok 0 := .inr ⟨by omega, by omega⟩
theorem ok_both {a b : Int} (ha : Ok a) (hb : Ok b) : Ok (bothI a b) := by
 unfold Ok at *
 unfold bothI adI
 split <;> omega
theorem ok_cl (n : Int) : Ok (clI n) := by unfold Ok clI; omega
/-! ### loops that lie within a part -/
section
variable {right : Ins → Bool} {p : List Ins}
/-- the part with this number: a loop, or behind all loops the whole -/
def spn (p : List Ins) (n : Nat) : Int × Int := if n < (loopsL p).length then lp (loopsL p) n else (0, (p.length : Int) - 1)
theorem spn_lt {n : Nat} (h : n < (loopsL p).length) : spn p n = lp (loopsL p) n := if_pos h
theorem spn_top : spn p (loopsL p).length = (0, (p.length : Int) - 1) := if_neg (by omega)
theorem mem_lp {x : Int × Int} (h : x ∈ loopsL p) : ∃ j, j < (loopsL p).length ∧ x = lp (loopsL p) j := by
 obtain ⟨j, hj, rfl⟩ := List.getElem_of_mem h
 exact ⟨j, hj, (Fp.lp_some (List.getElem?_eq_getElem hj)).symm⟩
variable (hF : Fine right p) (hn : ∀ j, j < p.length → 0 ≤ (at_ p j).n)
include hF hn
theorem lp_in {j : Nat} (hj : j < (loopsL p).length) : 0 ≤ (lp (loopsL p) j).1 ∧ (lp (loopsL p) j).1 < (lp (loopsL p) j).2 ∧ (lp (loopsL p) j).2 < p.length := hF.loop hn (Fp.lp_mem hj)
theorem lp_back {j : Nat} (hj : j < (loopsL p).length) : (at_ p (lp (loopsL p) j).2.toNat).op = 16 := by
 obtain ⟨k, h1, h2, h3⟩ := Fp.loopsTo_mem (Fp.lp_mem hj)
 have h4 : (lp (loopsL p) j).2 = (k : Int) := by rw [show lp (loopsL p) j = _ from h3]
 rw [h4]
 simpa using h2
theorem spn_in (n : Nat) (h : n ≤ (loopsL p).length) : 0 ≤ (spn p n).1 ∧ (spn p n).1 ≤ (spn p n).2 ∧ (spn p n).2 < p.length := by
 by_cases h1 : n < (loopsL p).length
 ·rw [spn_lt h1]
  have := lp_in hF hn h1
  omega
 ·have := hF.size
  unfold spn
  rw [if_neg h1]
  simp only
  omega
theorem lp_spn {j n : Nat} (hj : j < n) (h : n ≤ (loopsL p).length) : (lp (loopsL p) j).2 < (spn p n).2 := by
 by_cases h1 : n < (loopsL p).length
 ·rw [spn_lt h1]
  exact Fp.lp_lt hj h1
 ·unfold spn
  rw [if_neg h1]
  have h2 := lp_in hF hn (j := j) (by omega)
  have h3 := lp_back hF hn (j := j) (by omega)
  rcases Int.lt_or_le (lp (loopsL p) j).2 ((p.length : Int) - 1) with h4 | h4
  ·exact h4
  ·have e : (lp (loopsL p) j).2.toNat = p.length - 1 := by omega
   rw [e, hF.last] at h3
   cases h3
theorem back_last {n k : Nat} (h : n ≤ (loopsL p).length) (hk : k < p.length) (hk2 : (k : Int) ≤ (spn p n).2) (ho : (at_ p k).op = 16) (hno : ∀ j, j < n → hasB (lp (loopsL p) j) k = false) : (k : Int) = (spn p n).2 := by
 have hm : ((at_ p k).n, (k : Int)) ∈ loopsL p := Fp.loopsTo_has hk ho
 obtain ⟨j, hj, he⟩ := mem_lp hm
 have hb := hF.back hk ho
 rcases Nat.lt_or_ge j n with h1 | h1
 ·have := hno j h1
  rw [← he] at this
  unfold hasB at this
  simp at this
  omega
 ·have h5 : n < (loopsL p).length := by omega
  have e2 : (lp (loopsL p) j).2 = (k : Int) := by rw [← he]
  rw [spn_lt h5] at hk2 ⊢
  rcases Nat.lt_or_ge n j with h6 | h6
  ·have := Fp.lp_lt h6 hj
   omega
  ·have : n = j := by omega
   subst this
   exact e2.symm
theorem last_back {n : Nat} (h : n ≤ (loopsL p).length) (ho : ¬ (at_ p (spn p n).2.toNat).op = 21) : (at_ p (spn p n).2.toNat).op = 16 := by
 by_cases h5 : n < (loopsL p).length
 ·rw [spn_lt h5]
  exact lp_back hF hn h5
 ·have := hF.last
  have hs := hF.size
  unfold spn at ho ⊢
  rw [if_neg h5] at ho ⊢
  have e : ((p.length : Int) - 1).toNat = p.length - 1 := by omega
  simp only [e] at ho
  exact absurd this ho
omit hF hn
/-- of the known loops that have a place the last one -/
theorem last_known (w : List Int) (bt : Int → Int → Bool) (k : Int) (n : Nat) : ((∀ j, j < n → hasB (lp (loopsL p) j) k = false) ∧ lastIn (knownT bt p w n) k = none) ∨
 ∃ j, j < n ∧ hasB (lp (loopsL p) j) k = true ∧ (∀ i, j < i → i < n → hasB (lp (loopsL p) i) k = false) ∧
  lastIn (knownT bt p w n) k = some (lp (loopsL p) j, repW bt (onceW bt p w (knownT bt p w j) (lp (loopsL p) j)) ((at_ p (lp (loopsL p) j).2.toNat).c + 1).toNat) := by
 induction n with
 | zero => exact .inl ⟨fun j hj => by omega, rfl⟩
 | succ n ih =>
  have e : lastIn (knownT bt p w (n + 1)) k = if hasB (lp (loopsL p) n) k = true then some (lp (loopsL p) n, repW bt (onceW bt p w (knownT bt p w n) (lp (loopsL p) n)) ((at_ p (lp (loopsL p) n).2.toNat).c + 1).toNat) else lastIn (knownT bt p w n) k := by
   unfold lastIn
   rw [knownT, List.reverse_append, List.reverse_singleton, List.singleton_append, List.find?_cons]
   show (match hasB (lp (loopsL p) n) k with | true => _ | false => _) = _
   cases hasB (lp (loopsL p) n) k <;> rfl
  by_cases hb : hasB (lp (loopsL p) n) k = true
  ·refine .inr ⟨n, by omega, hb, fun i h1 h2 => by omega, ?_⟩
   rw [e, if_pos hb]
  ·rw [e, if_neg hb]
   have hb' : hasB (lp (loopsL p) n) k = false := by simpa using hb
   rcases ih with ⟨h1, h2⟩ | ⟨j, h1, h2, h3, h4⟩
   ·refine .inl ⟨fun j hj => ?_, h2⟩
    rcases Nat.lt_or_ge j n with h | h
    ·exact h1 j h
    ·have : j = n := by omega
     subst this; exact hb'
   ·refine .inr ⟨j, by omega, h2, fun i hi1 hi2 => ?_, h4⟩
    rcases Nat.lt_or_ge i n with h | h
    ·exact h3 i hi1 h
    ·have : i = n := by omega
     subst this; exact hb'
end
theorem getD_set (l : List Int) (i j : Nat) (v : Int) : (l.set i v).getD j 0 = if i = j ∧ j < l.length then v else l.getD j 0 := by
 rw [List.getD_eq_getElem?_getD, List.getD_eq_getElem?_getD, List.getElem?_set]
 by_cases h : i = j
 ·subst h
  rw [if_pos rfl]
  by_cases h2 : i < l.length
  ·rw [if_pos h2, if_pos ⟨rfl, h2⟩]; rfl
  ·rw [if_neg h2, if_neg (fun h => h2 h.2), List.getElem?_eq_none (by omega)]
 ·rw [if_neg h, if_neg (fun h' => h h'.1)]

section
variable {right : Ins → Bool} {p : List Ins}
end
end Go.Proofs.YthhbhbfkbncegabGreatDoor.Cs
