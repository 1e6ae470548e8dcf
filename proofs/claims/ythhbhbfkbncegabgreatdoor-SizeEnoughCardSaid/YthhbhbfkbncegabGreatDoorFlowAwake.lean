/-

 Two rows of loops held against each other; the example of chapter 10.
-/
import Derived.Test.YthhbhbfkbncegabGreatDoorFlowUse
set_option linter.unusedVariables false
set_option linter.unusedSimpArgs false
namespace Go.Proofs.YthhbhbfkbncegabGreatDoor.Fw
open Go.ChangeShapes Go.WideShapes Go.ChangeAt Go.RowKit Ws Fp
open Go.Proofs.YthhbhbfkbncegabGreatDoor.Is (Tabs ins rightB leadB)

end Go.Proofs.YthhbhbfkbncegabGreatDoor.Fw
