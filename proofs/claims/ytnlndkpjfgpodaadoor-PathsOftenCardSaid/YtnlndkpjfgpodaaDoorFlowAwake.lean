/-

  Two rows of loops held against each other; the example of chapter 10.
-/
import Derived.Test.YtnlndkpjfgpodaaDoorFlowUse
set_option linter.unusedVariables false
set_option linter.unusedSimpArgs false
namespace Go.Proofs.YtnlndkpjfgpodaaDoor.Fw
open Go.ChangeShapes Go.WideShapes Go.ChangeAt Go.RowKit Ws Fp
open Go.Proofs.YtnlndkpjfgpodaaDoor.Is (Tabs ins rightB leadB)

theorem take_lp {l : List (Int × Int)} {k : Nat} (h : k < l.length) : l.take (k + 1) = l.take k ++ [lp l k] := by
  rw [List.take_add_one, lp_get h]
  rfl
def prgCells (p : List Ins) : List Value := p.flatMap cells
theorem prgCells_get : ∀ (p : List Ins) (i : Nat) (x : Ins), p[i]? = some x → ∀ j v, (cells x)[j]? = some v → (prgCells p)[i * 5 + j]? = some v
  | [], i, x, h, _, _, _ => by simp at h
  | y :: p, 0, x, h, j, v, hv => by
    simp at h
    subst h
    have hj : j < (cells y).length := by
      rcases Nat.lt_or_ge j (cells y).length with h | h
      · exact h
      · rw [List.getElem?_eq_none h] at hv; cases hv
    have e : prgCells (y :: p) = cells y ++ prgCells p := rfl
    rw [e, Nat.zero_mul, Nat.zero_add, List.getElem?_append_left hj]
    exact hv
  | y :: p, i + 1, x, h, j, v, hv => by
    have := prgCells_get p i x (by simpa using h) j v hv
    have e : prgCells (y :: p) = cells y ++ prgCells p := rfl
    have hl : (cells y).length = 5 := rfl
    rw [e, List.getElem?_append_right (by omega), hl, show (i + 1) * 5 + j - 5 = i * 5 + j by omega]
    exact this
theorem prg_of {w : World} {A : Option Addr} {p : List Ins} (h : Row w A (prgCells p)) (hok : ∀ x ∈ p, x.ok) : Prg w A p := by
  intro i x hx
  refine ⟨hok x (List.mem_of_getElem? hx), ?_⟩
  obtain ⟨b, o, hA, _⟩ := h _ _ (prgCells_get p i x hx 0 _ rfl)
  refine ⟨b, o, hA, fun j v hv => ?_⟩
  obtain ⟨b', o', hA', hc⟩ := h _ _ (prgCells_get p i x hx j v hv)
  rw [hA] at hA'
  injection hA' with hA'
  injection hA' with e1 e2
  subst e1
  subst e2
  rw [Nat.add_assoc]
  exact hc

def p0 : List Ins := [⟨0, 0, 0, 0, 0⟩, ⟨16, 0, 0, 3, 0⟩, ⟨21, 0, 0, 0, 0⟩]
theorem p0_ok : ckE p0 = 0 := by decide +kernel
theorem p0_told : toldL p0 = [(0, 1)] := by decide +kernel
theorem p0_next : nextsL p0 1 = [0, 2] := by decide +kernel
theorem p0_depth : depthI (toldL p0) 0 = 1 := by decide +kernel

end Go.Proofs.YtnlndkpjfgpodaaDoor.Fw
