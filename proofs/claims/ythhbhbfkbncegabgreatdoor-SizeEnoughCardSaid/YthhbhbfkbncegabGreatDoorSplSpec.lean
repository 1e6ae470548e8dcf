/-

 What spoil.Of and spoil.JobOf answer of any system, plainly; and the document's words of it (layer 37).
-/
import Derived.Test.YthhbhbfkbncegabGreatDoorDmdMost
import Derived.Test.YthhbhbfkbncegabGreatDoorWlkSum
import Derived.Test.YthhbhbfkbncegabGreatDoorSplPure
import Derived.Test.YthhbhbfkbncegabGreatDoorAhead
import Derived.Test.YthhbhbfkbncegabGreatDoorSysRole
section
set_option linter.unusedSimpArgs false
set_option linter.unusedVariables false
namespace Go.Proofs.YthhbhbfkbncegabGreatDoor.Sl
open Go.ChangeShapes Go.WideShapes Go.ChangeAt Go.RowKit Ws
open Im (PT PO PS TsAt OsAt SysAt)
open Dm

end Go.Proofs.YthhbhbfkbncegabGreatDoor.Sl
end
section
set_option linter.unusedSimpArgs false
set_option linter.unusedVariables false
namespace Go.Proofs.YthhbhbfkbncegabGreatDoor.Sl
open Im (PT PO PS TsAt OsAt SysAt)
open Dm (demI dearI dearE)
open Go.Proofs.YthhbhbfkbncegabGreatDoor.Wd (addv mulv ceilv)

noncomputable def readsP (s : PS) (i k : Int) : Bool := decide (Sy.roleF s i k = 1 ∧ demI s i k 17 20 ≠ 0)
def obj (s : PS) (k : Int) : PO := s.os.getD k.toNat default
def aheadP (s : PS) (i k : Int) : Bool := Ah.aheadI s.ts (obj s k).ow i
def failO (o : PO) : Int := Bd.failI o.k o.wd o.sl o.cp o.sa o.ini.length o.rd.length 1
noncomputable def ofR (s : PS) (i k : Int) : SR :=
 if readsP s i k = true then
  if aheadP s i k = true then ⟨(obj s k).k, (obj s k).sl, failO (obj s k), true, demI s (obj s k).ow k 18 19, (Ah.pt s.ts (obj s k).ow.toNat).per⟩
  else ⟨(obj s k).k, (obj s k).sl, failO (obj s k), false, 0, 0⟩
 else zeroR
theorem of_no {s : PS} {i k : Int} (h : readsP s i k = false) : ofR s i k = zeroR := if_neg (by rw [h]; exact Bool.noConfusion)
theorem of_behind {s : PS} {i k : Int} (h : readsP s i k = true) (g : aheadP s i k = false) : ofR s i k = ⟨(obj s k).k, (obj s k).sl, failO (obj s k), false, 0, 0⟩ := by
 unfold ofR
 rw [if_pos h, if_neg (by rw [g]; exact Bool.noConfusion)]
theorem of_ahead {s : PS} {i k : Int} (h : readsP s i k = true) (g : aheadP s i k = true) : ofR s i k = ⟨(obj s k).k, (obj s k).sl, failO (obj s k), true, demI s (obj s k).ow k 18 19, (Ah.pt s.ts (obj s k).ow.toNat).per⟩ := by
 unfold ofR
 rw [if_pos h, if_pos g]
theorem of_k {s : PS} {i k : Int} (h : readsP s i k = true) : (ofR s i k).k = (obj s k).k ∧ (ofR s i k).sl = (obj s k).sl ∧ (ofR s i k).fl = failO (obj s k) := by
 cases g : aheadP s i k with
 | false => rw [of_behind h g]; exact ⟨rfl, rfl, rfl⟩
 | true => rw [of_ahead h g]; exact ⟨rfl, rfl, rfl⟩
end Go.Proofs.YthhbhbfkbncegabGreatDoor.Sl
end
