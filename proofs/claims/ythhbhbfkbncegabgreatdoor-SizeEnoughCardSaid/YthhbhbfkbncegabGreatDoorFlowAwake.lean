/-

 Two rows of loops held against each other; the example of chapter 10.
-/
import Derived.Test.YthhbhbfkbncegabGreatDoorFlowUse
set_option linter.unusedVariables false
set_option linter.unusedSimpArgs false
namespace Go.Proofs.YthhbhbfkbncegabGreatDoor.Fw
open Go.ChangeShapes Go.WideShapes Go.ChangeAt Go.RowKit Ws Fp
open Go.Proofs.YthhbhbfkbncegabGreatDoor.Is (Tabs ins rightB leadB)

def p0 : List Ins := [⟨0, 0, 0, 0, 0⟩, ⟨16, 0, 0, 3, 0⟩, ⟨21, 0, 0, 0, 0⟩]
end Go.Proofs.YthhbhbfkbncegabGreatDoor.Fw
