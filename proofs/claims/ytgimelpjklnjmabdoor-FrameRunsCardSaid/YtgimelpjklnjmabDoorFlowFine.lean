/-

  The document's Fine (layer 10).
-/
import Derived.Test.YtgimelpjklnjmabDoorFlowUse
import Derived.Test.YtgimelpjklnjmabDoorRefFlowCk
set_option linter.unusedVariables false
set_option linter.unusedSimpArgs false
namespace Go.Proofs.YtgimelpjklnjmabDoor.Fw
open Go.ChangeShapes Go.WideShapes Go.ChangeAt Go.RowKit Ws Fp
open Go.Proofs.YtgimelpjklnjmabDoor.Is (Tabs)

theorem rfine_any (A : Option Addr) (m c : Nat) (p : List Ins) (w : World) (hl : p.length = m) (hm : m ≤ 5000) (hp : Prg w A p) :
    Calls Tryd.prog 31 #[.slice A m c] w fun e w' => e = .returned (.bool (okB p)) ∧ Same w w' := by
  have CK := Lib.hid (rcheck_any A m c p w hl hm hp)
  have hE : (ckE p == 0) = okB p := by unfold okB; rw [Bool.eq_iff_iff]; simp
  have HE := Lib.hid hE
  clear hl hp hE
  go_enter Tryd.func31, Tryd.ntmps31
  go_wp2_with fail
  refine CK.out.mono ?_
  rintro e w1 ⟨rfl, s1⟩
  go_wp2_with fail
  go_ret
  exact ⟨ret_bool HE.out, s1⟩
end Go.Proofs.YtgimelpjklnjmabDoor.Fw
