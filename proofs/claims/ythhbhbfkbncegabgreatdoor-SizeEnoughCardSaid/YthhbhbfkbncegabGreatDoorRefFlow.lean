/-

 The document's own answers on layer 10: its loops, and whether two overlap.
-/
import Derived.Test.YthhbhbfkbncegabGreatDoorFlowCk
import Derived.Test.YthhbhbfkbncegabGreatDoorIsaRef
import Derived.Test.YthhbhbfkbncegabGreatDoorRegionOff
set_option linter.unusedVariables false
set_option linter.unusedSimpArgs false
namespace Go.Proofs.YthhbhbfkbncegabGreatDoor.Fw
open Go.ChangeShapes Go.WideShapes Go.ChangeAt Go.RowKit Ws Fp
open Go.Proofs.YthhbhbfkbncegabGreatDoor.Is (Tabs ins rightB leadB rright_any)

end Go.Proofs.YthhbhbfkbncegabGreatDoor.Fw
