/-

 The document's Ahead of layer 37: does an object's writer go ahead of a task?
-/
import Derived.Test.YthhbhbfkbncegabGreatDoorAhead
import Derived.Test.YthhbhbfkbncegabGreatDoorRegionOff
import Derived.Deep.RegionHeld3
import Derived.Deep.Cut
import Derived.Lib.Hide
import Derived.ProofKit
set_option linter.unusedVariables false
set_option linter.unusedSimpArgs false
namespace Go.Proofs.YthhbhbfkbncegabGreatDoor.Ah
open Go.ChangeShapes Go.WideShapes Go.ChangeAt Go.RowKit Ws
open Im (PT PO PS TsAt OsAt SysAt tcells ocells)
open Go.Proofs.YthhbhbfkbncegabGreatDoor.Wd (ret_bool ret_int)
end Go.Proofs.YthhbhbfkbncegabGreatDoor.Ah
