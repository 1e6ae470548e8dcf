/-
  Which asks are let through (layer 27): plain functions.
-/
import Derived.Test.YtikjkmomokhanaaDoorWords
set_option linter.unusedSimpArgs false
set_option linter.unusedVariables false
namespace Go.Proofs.YtikjkmomokhanaaDoor.Rl

def okR (P : Int) (p : Bool) (y t : Int) : Bool := decide (1 ≤ P) && (decide (0 ≤ t) && (!p || decide (P ≤ t - y)))
def lastI (l : List Int) : Int := l.getLast?.getD 0
def nextB (P : Int) (l : List Int) (t : Int) : Bool := okR P (!l.isEmpty) (lastI l) t
/-- what was let through and what was refused of the first k asks -/
def runTo (P : Int) (ts : List Int) : Nat → List Int × List Int
  | 0 => ([], [])
  | k + 1 => if nextB P (runTo P ts k).1 (ts.getD k 0) = true then ((runTo P ts k).1 ++ [ts.getD k 0], (runTo P ts k).2) else ((runTo P ts k).1, (runTo P ts k).2 ++ [ts.getD k 0])
def Max (x : Int) : Prop := 0 ≤ x ∧ x ≤ 9223372036854775807
structure Good (P : Int) (l : List Int) : Prop where
  inn : ∀ x ∈ l, Max x
  one : l ≠ [] → 1 ≤ P
  gap : ∀ i, i + 1 < l.length → P ≤ l.getD (i + 1) 0 - l.getD i 0
theorem lastI_app (l : List Int) (t : Int) : lastI (l ++ [t]) = t := by simp [lastI]
theorem lastI_at {l : List Int} (h : l ≠ []) : lastI l = l.getD (l.length - 1) 0 := by
  unfold lastI
  rw [List.getLast?_eq_getElem?]
  rfl
theorem lastI_max {P : Int} {l : List Int} (h : Good P l) : Max (lastI l) := by
  by_cases hl : l = []
  · subst hl
    unfold lastI Max
    simp
  · have := List.getLast?_eq_some_getLast hl
    unfold lastI
    rw [this]
    exact h.inn _ (List.getLast_mem hl)
theorem good_nil (P : Int) : Good P [] := ⟨fun x h => by simp at h, fun h => absurd rfl h, fun i h => by simp at h⟩
theorem good_app {P : Int} {l : List Int} {t : Int} (h : Good P l) (ht : t ≤ 9223372036854775807) (ho : nextB P l t = true) : Good P (l ++ [t]) := by
  unfold nextB okR at ho
  simp only [Bool.and_eq_true, decide_eq_true_eq, Bool.or_eq_true] at ho
  obtain ⟨h1, h2, h3⟩ := ho
  refine ⟨fun x hx => ?_, fun _ => h1, fun i hi => ?_⟩
  · rcases List.mem_append.1 hx with hx | hx
    · exact h.inn x hx
    · simp at hx
      subst hx
      exact ⟨h2, ht⟩
  · simp at hi
    by_cases hlt : i + 1 < l.length
    · have := h.gap i hlt
      rw [List.getD_eq_getElem?_getD, List.getElem?_append_left hlt, List.getD_eq_getElem?_getD, List.getElem?_append_left (by omega), ← List.getD_eq_getElem?_getD, ← List.getD_eq_getElem?_getD]
      exact this
    · have hne : l ≠ [] := by rintro rfl; simp at hi
      have hp : l.length = i + 1 := by
        have : 0 < l.length := List.length_pos_iff.2 hne
        omega
      rcases h3 with h3 | h3
      · simp at h3
        exact absurd h3 hne
      · rw [lastI_at hne, hp] at h3
        rw [List.getD_eq_getElem?_getD, List.getElem?_append_right (by omega), List.getD_eq_getElem?_getD, List.getElem?_append_left (by omega), ← List.getD_eq_getElem?_getD]
        rw [hp]
        simpa using h3
theorem run_good (P : Int) (ts : List Int) (ht : ∀ x ∈ ts, x ≤ 9223372036854775807) : ∀ k, k ≤ ts.length → Good P (runTo P ts k).1
  | 0, _ => good_nil P
  | k + 1, h => by
    have ih := run_good P ts ht k (by omega)
    have hk : ts.getD k 0 ≤ 9223372036854775807 := by
      rw [List.getD_eq_getElem?_getD, List.getElem?_eq_getElem (by omega)]
      exact ht _ (List.getElem_mem _)
    unfold runTo
    by_cases hn : nextB P (runTo P ts k).1 (ts.getD k 0) = true
    · rw [if_pos hn]
      exact good_app ih hk hn
    · rw [if_neg hn]
      exact ih
theorem run_len (P : Int) (ts : List Int) : ∀ k, (runTo P ts k).1.length ≤ k ∧ (runTo P ts k).2.length ≤ k
  | 0 => ⟨Nat.le_refl _, Nat.le_refl _⟩
  | k + 1 => by
    have := run_len P ts k
    unfold runTo
    split <;> simp <;> omega
theorem run_yes {P : Int} {ts : List Int} {k : Nat} (h : nextB P (runTo P ts k).1 (ts.getD k 0) = true) : runTo P ts (k + 1) = ((runTo P ts k).1 ++ [ts.getD k 0], (runTo P ts k).2) := by
  conv => lhs; unfold runTo
  rw [if_pos h]
theorem run_no {P : Int} {ts : List Int} {k : Nat} (h : nextB P (runTo P ts k).1 (ts.getD k 0) = false) : runTo P ts (k + 1) = ((runTo P ts k).1, (runTo P ts k).2 ++ [ts.getD k 0]) := by
  conv => lhs; unfold runTo
  rw [if_neg (by rw [h]; exact Bool.false_ne_true)]

end Go.Proofs.YtikjkmomokhanaaDoor.Rl
