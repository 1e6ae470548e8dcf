/-
  What the texts on objects stand on, in a seat without operations.
-/
import Derived.Test.YtikjkmomokhanacRows
import Derived.Test.YtikjkmomokhanacWordsK
import Derived.Test.YtikjkmomokhanacOpKeep
import Derived.Test.YtikjkmomokhanacRegionOff
import Derived.WalkKit
import Derived.WalkLawsBesides
import Derived.ProofKit
import Derived.OpenShut
import Derived.Lib.Hide
import Derived.Deep.QuietTactic
import Derived.BigQuiet
import Derived.Deep.LoopGhost
import Derived.Deep.RegionHeld3
import Derived.Deep.CutRange
import Derived.Deep.CutBlock
import Derived.StillTailTactics
set_option linter.unusedSimpArgs false
set_option linter.unusedVariables false

namespace Go.Proofs.Ytikjkmomokhanac.Mm
theorem ret_int {k : IntKind} {a b : Int} (h : a = b) : Ending.returned (.int k a) = .returned (.int k b) := by rw [h]
theorem ret_bool {a b : Bool} (h : a = b) : Ending.returned (.bool a) = .returned (.bool b) := by rw [h]
end Go.Proofs.Ytikjkmomokhanac.Mm
namespace Go.Proofs.Ytikjkmomokhanac.Pa
theorem here : True := trivial
end Go.Proofs.Ytikjkmomokhanac.Pa
