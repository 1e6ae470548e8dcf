/-

 Package demand (layer 36): Clean and Whole of any system's task; the chapter's example.
-/
import Derived.Test.YthhbhbfkbncegabGreatDoorDmdCalls
import Derived.Test.YthhbhbfkbncegabGreatDoorBoundOf
import Derived.Test.YthhbhbfkbncegabGreatDoorDmdRd
import Derived.Test.YthhbhbfkbncegabGreatDoorRegionOff
section
set_option linter.unusedVariables false
set_option linter.unusedSimpArgs false
namespace Go.Proofs.YthhbhbfkbncegabGreatDoor.Dm
open Go.ChangeShapes Go.WideShapes Go.ChangeAt Go.RowKit Ws
open Im (PT PO PS TsAt OsAt SysAt tcells ocells)
open Go.Proofs.YthhbhbfkbncegabGreatDoor.Is (callB callV rightB)

end Go.Proofs.YthhbhbfkbncegabGreatDoor.Dm
end
section
set_option linter.unusedVariables false
set_option linter.unusedSimpArgs false
namespace Go.Proofs.YthhbhbfkbncegabGreatDoor.Dm
open Go.ChangeShapes Go.WideShapes Go.ChangeAt Go.RowKit Ws
open Im (PT PO PS TsAt OsAt SysAt tcells ocells)
open Go.Proofs.YthhbhbfkbncegabGreatDoor.Is (callB callV rightB)

end Go.Proofs.YthhbhbfkbncegabGreatDoor.Dm
end
