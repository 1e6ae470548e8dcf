/-

 Package demand (layer 36): Clean and Whole of any system's task; the chapter's example.
-/
import Derived.Test.YthhbhbfkbncegabGreatDoorDmdCalls
import Derived.Test.YthhbhbfkbncegabGreatDoorBoundOf
import Derived.Test.YthhbhbfkbncegabGreatDoorDmdRd
import Derived.Test.YthhbhbfkbncegabGreatDoorRegionOff
section
set_option linter.unusedVariables false
set_option linter.unusedSimpArgs false
namespace Go.Proofs.YthhbhbfkbncegabGreatDoor.Dm
open Go.ChangeShapes Go.WideShapes Go.ChangeAt Go.RowKit Ws
open Im (PT PO PS TsAt OsAt SysAt tcells ocells)
open Go.Proofs.YthhbhbfkbncegabGreatDoor.Is (callB callV rightB)

def aftO (o : PO) (op fails : Int) : Int := Bd.afterI o.k o.wd o.sl o.cp o.sa o.ini.length o.rd.length op fails
def wgtI (s : PS) (fails : Int) (x : Im.Ins) : Int := if (rightB x.op x.a x.b x.c x.n && callB x.op) = true ∧ (0 ≤ x.b ∧ x.b < s.os.length) then max 1 (aftO (s.os.getD x.b.toNat default) (callV x.op) fails) else 1
def wgtL (s : PS) (i fails : Int) : List Int := if 0 ≤ i ∧ i < s.ts.length then (s.ts.getD i.toNat default).code.map (wgtI s fails) else []
end Go.Proofs.YthhbhbfkbncegabGreatDoor.Dm
end
section
set_option linter.unusedVariables false
set_option linter.unusedSimpArgs false
namespace Go.Proofs.YthhbhbfkbncegabGreatDoor.Dm
open Go.ChangeShapes Go.WideShapes Go.ChangeAt Go.RowKit Ws
open Im (PT PO PS TsAt OsAt SysAt tcells ocells)
open Go.Proofs.YthhbhbfkbncegabGreatDoor.Is (callB callV rightB)

def dearI (s : PS) (i fails : Int) : Int := if 0 ≤ i ∧ i < s.ts.length then Cs.weI true (pI (s.ts.getD i.toNat default)) (wgtL s i fails) else 0
def dearE (s : PS) (i fails : Int) : Int := if 0 ≤ i ∧ i < s.ts.length then Cs.weE (pI (s.ts.getD i.toNat default)) (wgtL s i fails).length else 1
end Go.Proofs.YthhbhbfkbncegabGreatDoor.Dm
end
