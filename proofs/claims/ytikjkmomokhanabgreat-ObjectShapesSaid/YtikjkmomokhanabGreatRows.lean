/-
  No cell of these rows narrows 'for every input' (looked for: loops, veiled, ifaces, maps, wideKeys, modest, calm, conditions, laid).
  DERIVED. THE GIVEN ROWS OF THIS SEAT. 4 by the template 'for every input the law returns true; each argument reads behind the call as it read before'; 0 by the template 'total and deterministic' (their statements: YtikjkmomokhanabGreatTotals.lean).
  GIVEN WITH THE SEED: the statements are not yours to turn. If you find one false, say at which input.
  Laid BY PROGRAM, IN A SANDBOX (cutbox-rows.mjs): the forced cells as the released guide's own fill.sh prints them over the translation e446a0c299b8afb0… (all of the seat's roots in one cut). By AI agents, Wed Nov 11 2026. No macro, syntax, notation, axiom, sorry.
-/
import Derived.Test.YtikjkmomokhanabGreatChecked
import GoSem.Claim
import GoSem.ClaimJoined
import GoSem.ClaimMapViews
import Derived.JoinedTies
import Derived.KernelRfl
namespace Go.Proofs.YtikjkmomokhanabGreat
/- THE CELL 'sum', in the pinned program and in every row, IS THE sha256 OF THE DUMP (.gsa) THAT YtikjkmomokhanabGreatProg.lean LOADS. Nothing in Lean hashes anything: it is a label: what it is worth is what the hold of that sum in a sandbox is worth. -/
noncomputable def Tryz.pinned : Pinned := { name := "ytikjkmomokhanabgreat", sum := "e446a0c299b8afb03a0cd15b06200aaa99cd8e7bc1f4a7ba85b9f76a862721be", checked := Tryz.checked }
namespace Rows
def none {H : Type} : Left H := { results := [], args := [] }

/-- 'coxswainlaw20.ObjectShapes': WHATEVER THE INPUT: true; the input reads as it did. -/
def objectShapesSpec : ChangeSpec := { name := "objectShapes", fn := fun _ => fun
  | [d1, d2, d3] => { results := [.lit (.bool true)], args := [d1, d2, d3] }
  | _ => none }
def objectShapesRow : OpenClaim := { program := "ytikjkmomokhanabgreat", sum := "e446a0c299b8afb03a0cd15b06200aaa99cd8e7bc1f4a7ba85b9f76a862721be", func := "coxswain/coxswainlaw20.ObjectShapes", spec := "objectShapes", unfollowed := true, recurses := true, apart := false }
def ObjectShapesSaid : Prop := objectShapesRow.holds Tryz.pinned (OpenSpec.ofChange objectShapesSpec)

/-- ITS FALSE NEIGHBOUR: 'it returns false'. Refute it at one input. -/
def objectShapesWrong : ChangeSpec := { name := "objectShapes", fn := fun _ => fun
  | [d1, d2, d3] => { results := [.lit (.bool false)], args := [d1, d2, d3] }
  | _ => none }
def ObjectShapesWrongFalsely : Prop := objectShapesRow.holds Tryz.pinned (OpenSpec.ofChange objectShapesWrong)

/-- 'coxswainlaw20.ObjectKinds': WHATEVER THE INPUT: true; the input reads as it did. -/
def objectKindsSpec : ChangeSpec := { name := "objectKinds", fn := fun _ => fun
  | [d1, d2] => { results := [.lit (.bool true)], args := [d1, d2] }
  | _ => none }
def objectKindsRow : OpenClaim := { program := "ytikjkmomokhanabgreat", sum := "e446a0c299b8afb03a0cd15b06200aaa99cd8e7bc1f4a7ba85b9f76a862721be", func := "coxswain/coxswainlaw20.ObjectKinds", spec := "objectKinds", unfollowed := true, recurses := true, apart := false }
def ObjectKindsSaid : Prop := objectKindsRow.holds Tryz.pinned (OpenSpec.ofChange objectKindsSpec)

/-- ITS FALSE NEIGHBOUR: 'it returns false'. Refute it at one input. -/
def objectKindsWrong : ChangeSpec := { name := "objectKinds", fn := fun _ => fun
  | [d1, d2] => { results := [.lit (.bool false)], args := [d1, d2] }
  | _ => none }
def ObjectKindsWrongFalsely : Prop := objectKindsRow.holds Tryz.pinned (OpenSpec.ofChange objectKindsWrong)

/-- 'coxswainlaw20.ObjectSteps': WHATEVER THE INPUT: true; the input reads as it did. -/
def objectStepsSpec : ChangeSpec := { name := "objectSteps", fn := fun _ => fun
  | [d] => { results := [.lit (.bool true)], args := [d] }
  | _ => none }
def objectStepsRow : OpenClaim := { program := "ytikjkmomokhanabgreat", sum := "e446a0c299b8afb03a0cd15b06200aaa99cd8e7bc1f4a7ba85b9f76a862721be", func := "coxswain/coxswainlaw20.ObjectSteps", spec := "objectSteps", unfollowed := true, recurses := true, apart := false }
def ObjectStepsSaid : Prop := objectStepsRow.holds Tryz.pinned (OpenSpec.ofChange objectStepsSpec)

/-- ITS FALSE NEIGHBOUR: 'it returns false'. Refute it at one input. -/
def objectStepsWrong : ChangeSpec := { name := "objectSteps", fn := fun _ => fun
  | [d] => { results := [.lit (.bool false)], args := [d] }
  | _ => none }
def ObjectStepsWrongFalsely : Prop := objectStepsRow.holds Tryz.pinned (OpenSpec.ofChange objectStepsWrong)

/-- 'coxswainlaw20.ObjectEnds': WHATEVER THE INPUT: true; the input reads as it did. -/
def objectEndsSpec : ChangeSpec := { name := "objectEnds", fn := fun _ => fun
  | [d] => { results := [.lit (.bool true)], args := [d] }
  | _ => none }
def objectEndsRow : OpenClaim := { program := "ytikjkmomokhanabgreat", sum := "e446a0c299b8afb03a0cd15b06200aaa99cd8e7bc1f4a7ba85b9f76a862721be", func := "coxswain/coxswainlaw20.ObjectEnds", spec := "objectEnds", unfollowed := true, recurses := true, apart := false }
def ObjectEndsSaid : Prop := objectEndsRow.holds Tryz.pinned (OpenSpec.ofChange objectEndsSpec)

/-- ITS FALSE NEIGHBOUR: 'it returns false'. Refute it at one input. -/
def objectEndsWrong : ChangeSpec := { name := "objectEnds", fn := fun _ => fun
  | [d] => { results := [.lit (.bool false)], args := [d] }
  | _ => none }
def ObjectEndsWrongFalsely : Prop := objectEndsRow.holds Tryz.pinned (OpenSpec.ofChange objectEndsWrong)

/- THE SECOND FORM. 'bulk': how many values and letters a reading holds, each counted each time it is reached (what is shared counts as often as it is met; a slice's spare places count too). A statement '..UptoSaid' is the law's where the arguments, and the package variables that the reading takes, are together of bulk at most 1048576: NARROWER than '..Said'. Prove '..Said' where nothing that the law and all that it calls make is longer than what came in: it says more and counts as full. Else prove '..UptoSaid'. A law counts once. -/
mutual
def uptoBulk {H : Type} : DataW H → Nat
  | .lit (.string bytes) => bytes.length + 1
  | .lit _ => 1
  | .nil => 1
  | .ptr d => uptoBulk d + 1
  | .slice elems spare => uptoBulkAll elems + uptoBulkAll spare + 1
  | .agg parts => uptoBulkAll parts + 1
  | .iface _ d => uptoBulk d + 1
  | .map entries => uptoBulkEntries entries + 1
  | .held _ => 1
def uptoBulkAll {H : Type} : List (DataW H) → Nat
  | [] => 0
  | d :: r => uptoBulk d + uptoBulkAll r
def uptoBulkEntries {H : Type} : List (Lit × DataW H) → Nat
  | [] => 0
  | x :: r => uptoBulkEntry x + uptoBulkEntries r
def uptoBulkEntry {H : Type} : Lit × DataW H → Nat
  | (.string bytes, d) => bytes.length + uptoBulk d + 1
  | (_, d) => uptoBulk d + 1
 end
def uptoSmall : (H : Type) → List (DataW H) → Bool := fun _ ds => decide (uptoBulkAll ds ≤ 1048576)
def OpenSpec.upto (s : _root_.Go.ChangeSpec) : _root_.Go.OpenSpec := { _root_.Go.OpenSpec.ofChange s with cond := some uptoSmall }

/-- 'coxswainlaw20.ObjectShapes', WHERE WHAT IT READS IS OF BULK AT MOST 1048576: true; the input reads as it did. -/
def objectShapesUptoRow : OpenClaim := { program := "ytikjkmomokhanabgreat", sum := "e446a0c299b8afb03a0cd15b06200aaa99cd8e7bc1f4a7ba85b9f76a862721be", func := "coxswain/coxswainlaw20.ObjectShapes", spec := "objectShapes", unfollowed := true, recurses := true, apart := false, narrowed := true }
def ObjectShapesUptoSaid : Prop := objectShapesUptoRow.holds Tryz.pinned (OpenSpec.upto objectShapesSpec)

/-- 'coxswainlaw20.ObjectKinds', WHERE WHAT IT READS IS OF BULK AT MOST 1048576: true; the input reads as it did. -/
def objectKindsUptoRow : OpenClaim := { program := "ytikjkmomokhanabgreat", sum := "e446a0c299b8afb03a0cd15b06200aaa99cd8e7bc1f4a7ba85b9f76a862721be", func := "coxswain/coxswainlaw20.ObjectKinds", spec := "objectKinds", unfollowed := true, recurses := true, apart := false, narrowed := true }
def ObjectKindsUptoSaid : Prop := objectKindsUptoRow.holds Tryz.pinned (OpenSpec.upto objectKindsSpec)

/-- 'coxswainlaw20.ObjectSteps', WHERE WHAT IT READS IS OF BULK AT MOST 1048576: true; the input reads as it did. -/
def objectStepsUptoRow : OpenClaim := { program := "ytikjkmomokhanabgreat", sum := "e446a0c299b8afb03a0cd15b06200aaa99cd8e7bc1f4a7ba85b9f76a862721be", func := "coxswain/coxswainlaw20.ObjectSteps", spec := "objectSteps", unfollowed := true, recurses := true, apart := false, narrowed := true }
def ObjectStepsUptoSaid : Prop := objectStepsUptoRow.holds Tryz.pinned (OpenSpec.upto objectStepsSpec)

/-- 'coxswainlaw20.ObjectEnds', WHERE WHAT IT READS IS OF BULK AT MOST 1048576: true; the input reads as it did. -/
def objectEndsUptoRow : OpenClaim := { program := "ytikjkmomokhanabgreat", sum := "e446a0c299b8afb03a0cd15b06200aaa99cd8e7bc1f4a7ba85b9f76a862721be", func := "coxswain/coxswainlaw20.ObjectEnds", spec := "objectEnds", unfollowed := true, recurses := true, apart := false, narrowed := true }
def ObjectEndsUptoSaid : Prop := objectEndsUptoRow.holds Tryz.pinned (OpenSpec.upto objectEndsSpec)

end Rows
end Go.Proofs.YtikjkmomokhanabGreat
