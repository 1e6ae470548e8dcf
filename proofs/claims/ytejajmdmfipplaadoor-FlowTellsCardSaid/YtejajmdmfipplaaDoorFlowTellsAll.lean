/-

  FlowTells returns true for every program and every place.
-/
import Derived.Test.YtejajmdmfipplaaDoorFlowTells
import Derived.Test.YtejajmdmfipplaaDoorFlowChecks
set_option linter.unusedSimpArgs false
set_option linter.unusedVariables false
namespace Go.Proofs.YtejajmdmfipplaaDoor.Fw
open Go.ChangeShapes Go.WideShapes Go.ChangeAt Go.RowKit Ws Fp
open Go.Proofs.YtejajmdmfipplaaDoor.Is (Tabs ins rightB leadB)

theorem ftells_any (A : Option Addr) (m c : Nat) (rows : List (List Int)) (x : Int) (w : World) (hr : Fl.Rows w A [.i64, .i64, .i64, .i64, .u32] rows) (hl : rows.length = m) (ht : Tabs w) :
    Calls Tryd.prog 7 #[.slice A m c, .int .i64 x] w fun e w' => e = .returned (.bool true) ∧ Same w w' := by
  obtain ⟨p, hp, hP⟩ := prg_in hr
  have hpl := hp.trans hl
  by_cases hm : m ≤ 200
  · cases hok : okB p
    · exact tells_bad A m c p x w hpl hm hP ht hok
    · exact tells_good A m c p x w hpl hm hP ht hok
  · exact tells_long A m c x w ht (by omega)

end Go.Proofs.YtejajmdmfipplaaDoor.Fw
