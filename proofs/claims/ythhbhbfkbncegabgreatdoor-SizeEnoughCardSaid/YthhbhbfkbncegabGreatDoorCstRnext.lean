/-

 The document's Next tells in memory of its own. (gen156.py's neighbour: out of FlowMay's rnext_any.)
-/
import Derived.Test.YthhbhbfkbncegabGreatDoorRefFlow
import Derived.Test.YthhbhbfkbncegabGreatDoorFlowUse
import Derived.Test.YthhbhbfkbncegabGreatDoorCstNext
section
section
set_option linter.unusedVariables false
set_option linter.unusedSimpArgs false
namespace Go.Proofs.YthhbhbfkbncegabGreatDoor.Fw
open Go.ChangeShapes Go.WideShapes Go.ChangeAt Go.RowKit Ws Fp
open Go.Proofs.YthhbhbfkbncegabGreatDoor.Is (Tabs ins rightB leadB rright_any)

end Go.Proofs.YthhbhbfkbncegabGreatDoor.Fw
end
section
set_option linter.unusedVariables false
set_option linter.unusedSimpArgs false
namespace Go.Proofs.YthhbhbfkbncegabGreatDoor.Fw
open Go.ChangeShapes Go.WideShapes Go.ChangeAt Go.RowKit Ws Fp
open Go.Proofs.YthhbhbfkbncegabGreatDoor.Is (Tabs ins rightB leadB rleads_any)

end Go.Proofs.YthhbhbfkbncegabGreatDoor.Fw
end
end
section
set_option linter.unusedVariables false
set_option linter.unusedSimpArgs false
namespace Go.Proofs.YthhbhbfkbncegabGreatDoor.Fw
open Go.ChangeShapes Go.WideShapes Go.ChangeAt Go.RowKit Ws Fp
open Go.Proofs.YthhbhbfkbncegabGreatDoor.Is (Tabs ins rightB leadB rleads_any)

end Go.Proofs.YthhbhbfkbncegabGreatDoor.Fw
end
