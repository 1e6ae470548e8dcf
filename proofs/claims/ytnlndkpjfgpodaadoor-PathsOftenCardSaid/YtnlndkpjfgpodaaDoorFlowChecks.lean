/-

  The walk of the law FlowChecks: it returns true whatever the program is.
-/
import Derived.Test.YtnlndkpjfgpodaaDoorFlowAwake
import Derived.Test.YtnlndkpjfgpodaaDoorRefFlowCk
import Derived.Test.YtnlndkpjfgpodaaDoorFlat
set_option linter.unusedSimpArgs false
set_option linter.unusedVariables false
namespace Go.Proofs.YtnlndkpjfgpodaaDoor.Fw
open Go.ChangeShapes Go.WideShapes Go.ChangeAt Go.RowKit Ws Fp
open Go.Proofs.YtnlndkpjfgpodaaDoor.Is (Tabs)

/-- a program that came in -/
theorem prg_in {w : World} {A : Option Addr} {rows : List (List Int)} (h : Fl.Rows w A [.i64, .i64, .i64, .i64, .u32] rows) : ∃ p : List Ins, p.length = rows.length ∧ Prg w A p := by
  refine ⟨rows.map fun r => ⟨r.getD 0 0, r.getD 1 0, r.getD 2 0, r.getD 3 0, r.getD 4 0⟩, by simp, ?_⟩
  intro i x hx
  rw [List.getElem?_map] at hx
  cases hr : rows[i]? with
  | none => rw [hr] at hx; cases hx
  | some r =>
    rw [hr] at hx
    injection hx with hx
    obtain ⟨hf, b, o, hA, hc⟩ := h i r hr
    obtain ⟨hl, hw⟩ := hf
    match r, hl with
    | [op, a, bb, c, n], _ =>
      subst hx
      exact ⟨Fl.u32_bd (hw 4 .u32 rfl), b, o, hA, fun j v hv => hc j v hv⟩

end Go.Proofs.YtnlndkpjfgpodaaDoor.Fw
