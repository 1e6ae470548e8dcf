/-

 Two rows of loops held against each other; the example of chapter 10.
-/
import Derived.Test.YthhbhbfkbncegaaGreatDoorFlowUse
set_option linter.unusedVariables false
set_option linter.unusedSimpArgs false
namespace Go.Proofs.YthhbhbfkbncegaaGreatDoor.Fw
open Go.ChangeShapes Go.WideShapes Go.ChangeAt Go.RowKit Ws Fp
open Go.Proofs.YthhbhbfkbncegaaGreatDoor.Is (Tabs ins rightB leadB)

end Go.Proofs.YthhbhbfkbncegaaGreatDoor.Fw
