/-
  What the texts on objects stand on, in a seat without operations.
-/
import Derived.Test.YtfpefkpbiioofabDoorRows
import Derived.Test.YtfpefkpbiioofabDoorWordsK
import Derived.Test.YtfpefkpbiioofabDoorOpKeep
import Derived.Test.YtfpefkpbiioofabDoorRegionOff
import Derived.WalkKit
import Derived.WalkLawsBesides
import Derived.ProofKit
import Derived.OpenShut
import Derived.Lib.Hide
import Derived.Deep.QuietTactic
import Derived.BigQuiet
import Derived.Deep.LoopGhost
import Derived.Deep.RegionHeld3
import Derived.Deep.CutRange
import Derived.Deep.CutBlock
import Derived.StillTailTactics
set_option linter.unusedSimpArgs false
set_option linter.unusedVariables false

namespace Go.Proofs.YtfpefkpbiioofabDoor.Mm
theorem ret_int {k : IntKind} {a b : Int} (h : a = b) : Ending.returned (.int k a) = .returned (.int k b) := by rw [h]
theorem ret_bool {a b : Bool} (h : a = b) : Ending.returned (.bool a) = .returned (.bool b) := by rw [h]
end Go.Proofs.YtfpefkpbiioofabDoor.Mm
namespace Go.Proofs.YtfpefkpbiioofabDoor.Pa
theorem here : True := trivial
end Go.Proofs.YtfpefkpbiioofabDoor.Pa
