/-

  Layer 13: a step of a frame, apart (frame.Step).
-/
import Derived.Test.YtgimelpjklnjmabDoorFrmRun
set_option linter.unusedVariables false
set_option linter.unusedSimpArgs false
namespace Go.Proofs.YtgimelpjklnjmabDoor.Fr
open Go.ChangeShapes Go.WideShapes Go.ChangeAt Go.RowKit Ws
open Go.Proofs.YtgimelpjklnjmabDoor.Fp (Ins at_ Fine at_some)
open Go.Proofs.YtgimelpjklnjmabDoor.Fw (Prg okB ckE check_any okB_fine rightI)
open Go.Proofs.YtgimelpjklnjmabDoor.Is (Tabs)

/-- a step, or none -/
def stepR (p : List Ins) (oa ol : Int) (s : SS) : SS × Int := if mayB p s oa ol = true then (stepW p oa ol s, kindW p s) else (s, 3)
theorem asked_of {p : List Ins} {s : SS} {m nT : Nat} {oa ol : Int} (h : mayB p s oa ol = true) (hw : Wide s) (hst : 0 ≤ s.st ∧ s.st ≤ 4611686018427387904) (hl : p.length = m) (hn : nT ≤ 5000) (h4 : s.ws.length ≤ 4096) : Asked p s m nT oa ol := by
  unfold mayB Mm.inB at h
  simp only [Bool.and_eq_true, decide_eq_true_eq] at h
  obtain ⟨h1, h2, h3⟩ := h
  exact ⟨h1, hw, by omega, by omega, by omega, hst, hl, hn⟩
end Go.Proofs.YtgimelpjklnjmabDoor.Fr
