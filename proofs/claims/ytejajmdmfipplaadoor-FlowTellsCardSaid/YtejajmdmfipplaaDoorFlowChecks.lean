/-
  The walk of the law FlowChecks: it returns true whatever the program is.
-/
import Derived.Test.YtejajmdmfipplaaDoorFlowAwake
import Derived.Test.YtejajmdmfipplaaDoorRefFlowCk
import Derived.Test.YtejajmdmfipplaaDoorFlat
set_option linter.unusedSimpArgs false
set_option linter.unusedVariables false
namespace Go.Proofs.YtejajmdmfipplaaDoor.Fw
open Go.ChangeShapes Go.WideShapes Go.ChangeAt Go.RowKit Ws Fp
open Go.Proofs.YtejajmdmfipplaaDoor.Is (Tabs)

/-- a program that came in -/
theorem prg_in {w : World} {A : Option Addr} {rows : List (List Int)} (h : Fl.Rows w A [.i64, .i64, .i64, .i64, .u32] rows) : ∃ p : List Ins, p.length = rows.length ∧ Prg w A p := by
  refine ⟨rows.map fun r => ⟨r.getD 0 0, r.getD 1 0, r.getD 2 0, r.getD 3 0, r.getD 4 0⟩, by simp, ?_⟩
  intro i x hx
  rw [List.getElem?_map] at hx
  cases hr : rows[i]? with
  | none => rw [hr] at hx; cases hx
  | some r =>
    rw [hr] at hx
    injection hx with hx
    obtain ⟨hf, b, o, hA, hc⟩ := h i r hr
    obtain ⟨hl, hw⟩ := hf
    match r, hl with
    | [op, a, bb, c, n], _ =>
      subst hx
      exact ⟨Fl.u32_bd (hw 4 .u32 rfl), b, o, hA, fun j v hv => hc j v hv⟩

theorem fchecks_any (A : Option Addr) (m c : Nat) (rows : List (List Int)) (w : World) (hr : Fl.Rows w A [.i64, .i64, .i64, .i64, .u32] rows) (hl : rows.length = m) (ht : Tabs w) :
    Calls Tryd.prog 6 #[.slice A m c] w fun e w' => e = .returned (.bool true) ∧ Same w w' := by
  obtain ⟨p, hp, hP⟩ := prg_in hr
  have hpl := hp.trans hl
  exact fchecks_walk A m c p w hpl hP ht fun w' s hm => rcheck_any A m c p w' hpl hm (hP.same s)

end Go.Proofs.YtejajmdmfipplaaDoor.Fw
