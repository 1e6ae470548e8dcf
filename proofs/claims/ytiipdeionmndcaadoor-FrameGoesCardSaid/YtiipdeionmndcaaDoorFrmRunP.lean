/-
  Steps of a frame, one behind the other: plain.
-/
import Derived.Test.YtiipdeionmndcaaDoorFrmPure
set_option linter.unusedSimpArgs false
set_option linter.unusedVariables false
namespace Go.Proofs.YtiipdeionmndcaaDoor.Fr
open Fp (Ins at_ Fine check)

def stN (p : List Ins) (oa ol : Int) : Nat → SS → SS
  | 0, s => s
  | k + 1, s => inst oa ol (curI p (stN p oa ol k s).f) (stN p oa ol k s)
theorem stN_first (p : List Ins) (oa ol : Int) (k : Nat) (s : SS) : stN p oa ol (k + 1) s = stN p oa ol k (inst oa ol (curI p s.f) s) := by
  induction k with
  | zero => rfl
  | succ k ih =>
    show inst oa ol (curI p (stN p oa ol (k + 1) s).f) (stN p oa ol (k + 1) s) = _
    rw [ih]
    rfl
theorem runW_add (p : List Ins) (oa ol : Int) : ∀ (k n : Nat) (s : SS), (∀ j, j < k → kindW p (stN p oa ol j s) = 0) →
    runW p oa ol (k + n) s = ((runW p oa ol n (stN p oa ol k s)).1, (runW p oa ol n (stN p oa ol k s)).2.1 + k, (runW p oa ol n (stN p oa ol k s)).2.2)
  | 0, n, s, _ => by rw [Nat.zero_add]; rfl
  | k + 1, n, s, h => by
    have h0 : kindW p s = 0 := h 0 (by omega)
    have e : k + 1 + n = (k + n) + 1 := by omega
    rw [e]
    show (if kindW p s = 0 then _ else _) = _
    rw [if_pos h0, runW_add p oa ol k n _ (fun j hj => by rw [← stN_first]; exact h (j + 1) (by omega)), ← stN_first]
    simp only [Nat.add_assoc]
theorem runW_all {p : List Ins} {oa ol : Int} {n : Nat} {s : SS} (h : ∀ j, j < n → kindW p (stN p oa ol j s) = 0) : runW p oa ol n s = (stN p oa ol n s, n, 0) := by
  have := runW_add p oa ol n 0 s h
  rw [Nat.add_zero] at this
  rw [this]
  show (stN p oa ol n s, 0 + n, 0) = _
  rw [Nat.zero_add]
theorem runW_stop {p : List Ins} {oa ol : Int} {n k : Nat} {s : SS} (hk : k < n) (h : ∀ j, j < k → kindW p (stN p oa ol j s) = 0) (hs : kindW p (stN p oa ol k s) ≠ 0) : runW p oa ol n s = (stN p oa ol k s, k, kindW p (stN p oa ol k s)) := by
  obtain ⟨d, rfl⟩ : ∃ d, n = k + (d + 1) := ⟨n - k - 1, by omega⟩
  rw [runW_add p oa ol k (d + 1) s h]
  have e : runW p oa ol (d + 1) (stN p oa ol k s) = (stN p oa ol k s, 0, kindW p (stN p oa ol k s)) := by
    show (if kindW p (stN p oa ol k s) = 0 then _ else _) = _
    rw [if_neg hs]
  rw [e]
  show (stN p oa ol k s, 0 + k, _) = _
  rw [Nat.zero_add]
theorem inst_st (oa ol : Int) (i : Ins) (s : SS) : s.st ≤ (inst oa ol i s).st ∧ (inst oa ol i s).st ≤ s.st + 1 := by
  show s.st ≤ (if isMem i then s.st + 1 else s.st) ∧ (if isMem i then s.st + 1 else s.st) ≤ s.st + 1
  split <;> omega
end Go.Proofs.YtiipdeionmndcaaDoor.Fr
