/-
  No cell of these rows narrows 'for every input' (looked for: loops, veiled, ifaces, maps, wideKeys, modest, calm, conditions, laid).
  DERIVED. THE GIVEN ROWS OF THIS SEAT. 5 by the template 'for every input the law returns true; each argument reads behind the call as it read before'; 0 by the template 'total and deterministic' (their statements: YtdepogopepjonaaTotals.lean).
  GIVEN WITH THE SEED: the statements are not yours to turn. If you find one false, say at which input.
  Laid BY PROGRAM, IN A SANDBOX (cutbox-rows.mjs): the forced cells as the released guide's own fill.sh prints them over the translation 7a6ea054ba395b9b… (all of the seat's roots in one cut). By AI agents, Wed Nov 11 2026. No macro, syntax, notation, axiom, sorry.
-/
import Derived.Test.YtdepogopepjonaaChecked
import GoSem.Claim
import GoSem.ClaimJoined
import GoSem.ClaimMapViews
import Derived.JoinedTies
import Derived.KernelRfl
namespace Go.Proofs.Ytdepogopepjonaa
/- THE CELL 'sum', in the pinned program and in every row, IS THE sha256 OF THE DUMP (.gsa) THAT YtdepogopepjonaaProg.lean LOADS. Nothing in Lean hashes anything: it is a label: what it is worth is what the hold of that sum in a sandbox is worth. -/
noncomputable def Try.pinned : Pinned := { name := "ytdepogopepjonaa", sum := "7a6ea054ba395b9b65dff3522bb59302815de8848121d8694519a0b72021b0f3", checked := Try.checked }
namespace Rows
def none {H : Type} : Left H := { results := [], args := [] }

/-- 'coxswainlaw19.FifoShapes': WHATEVER THE INPUT: true; the input reads as it did. -/
def fifoShapesSpec : ChangeSpec := { name := "fifoShapes", fn := fun _ => fun
  | [d1, d2] => { results := [.lit (.bool true)], args := [d1, d2] }
  | _ => none }
def fifoShapesRow : OpenClaim := { program := "ytdepogopepjonaa", sum := "7a6ea054ba395b9b65dff3522bb59302815de8848121d8694519a0b72021b0f3", func := "coxswain/coxswainlaw19.FifoShapes", spec := "fifoShapes", apart := false }
def FifoShapesSaid : Prop := fifoShapesRow.holds Try.pinned (OpenSpec.ofChange fifoShapesSpec)

/-- ITS FALSE NEIGHBOUR: 'it returns false'. Refute it at one input. -/
def fifoShapesWrong : ChangeSpec := { name := "fifoShapes", fn := fun _ => fun
  | [d1, d2] => { results := [.lit (.bool false)], args := [d1, d2] }
  | _ => none }
def FifoShapesWrongFalsely : Prop := fifoShapesRow.holds Try.pinned (OpenSpec.ofChange fifoShapesWrong)

/-- 'coxswainlaw19.FifoSteps': WHATEVER THE INPUT: true; the input reads as it did. -/
def fifoStepsSpec : ChangeSpec := { name := "fifoSteps", fn := fun _ => fun
  | [d] => { results := [.lit (.bool true)], args := [d] }
  | _ => none }
def fifoStepsRow : OpenClaim := { program := "ytdepogopepjonaa", sum := "7a6ea054ba395b9b65dff3522bb59302815de8848121d8694519a0b72021b0f3", func := "coxswain/coxswainlaw19.FifoSteps", spec := "fifoSteps", apart := false }
def FifoStepsSaid : Prop := fifoStepsRow.holds Try.pinned (OpenSpec.ofChange fifoStepsSpec)

/-- ITS FALSE NEIGHBOUR: 'it returns false'. Refute it at one input. -/
def fifoStepsWrong : ChangeSpec := { name := "fifoSteps", fn := fun _ => fun
  | [d] => { results := [.lit (.bool false)], args := [d] }
  | _ => none }
def FifoStepsWrongFalsely : Prop := fifoStepsRow.holds Try.pinned (OpenSpec.ofChange fifoStepsWrong)

/-- 'coxswainlaw19.FifoEnds': WHATEVER THE INPUT: true; the input reads as it did. -/
def fifoEndsSpec : ChangeSpec := { name := "fifoEnds", fn := fun _ => fun
  | [d] => { results := [.lit (.bool true)], args := [d] }
  | _ => none }
def fifoEndsRow : OpenClaim := { program := "ytdepogopepjonaa", sum := "7a6ea054ba395b9b65dff3522bb59302815de8848121d8694519a0b72021b0f3", func := "coxswain/coxswainlaw19.FifoEnds", spec := "fifoEnds", apart := false }
def FifoEndsSaid : Prop := fifoEndsRow.holds Try.pinned (OpenSpec.ofChange fifoEndsSpec)

/-- ITS FALSE NEIGHBOUR: 'it returns false'. Refute it at one input. -/
def fifoEndsWrong : ChangeSpec := { name := "fifoEnds", fn := fun _ => fun
  | [d] => { results := [.lit (.bool false)], args := [d] }
  | _ => none }
def FifoEndsWrongFalsely : Prop := fifoEndsRow.holds Try.pinned (OpenSpec.ofChange fifoEndsWrong)

/-- 'coxswainlaw19.FifoClones': WHATEVER THE INPUT: true; the input reads as it did. -/
def fifoClonesSpec : ChangeSpec := { name := "fifoClones", fn := fun _ => fun
  | [d1, d2] => { results := [.lit (.bool true)], args := [d1, d2] }
  | _ => none }
def fifoClonesRow : OpenClaim := { program := "ytdepogopepjonaa", sum := "7a6ea054ba395b9b65dff3522bb59302815de8848121d8694519a0b72021b0f3", func := "coxswain/coxswainlaw19.FifoClones", spec := "fifoClones", apart := false }
def FifoClonesSaid : Prop := fifoClonesRow.holds Try.pinned (OpenSpec.ofChange fifoClonesSpec)

/-- ITS FALSE NEIGHBOUR: 'it returns false'. Refute it at one input. -/
def fifoClonesWrong : ChangeSpec := { name := "fifoClones", fn := fun _ => fun
  | [d1, d2] => { results := [.lit (.bool false)], args := [d1, d2] }
  | _ => none }
def FifoClonesWrongFalsely : Prop := fifoClonesRow.holds Try.pinned (OpenSpec.ofChange fifoClonesWrong)

/-- 'coxswainlaw19.FifoKeeps': WHATEVER THE INPUT: true; the input reads as it did. -/
def fifoKeepsSpec : ChangeSpec := { name := "fifoKeeps", fn := fun _ => fun
  | [d1, d2] => { results := [.lit (.bool true)], args := [d1, d2] }
  | _ => none }
def fifoKeepsRow : OpenClaim := { program := "ytdepogopepjonaa", sum := "7a6ea054ba395b9b65dff3522bb59302815de8848121d8694519a0b72021b0f3", func := "coxswain/coxswainlaw19.FifoKeeps", spec := "fifoKeeps", apart := false }
def FifoKeepsSaid : Prop := fifoKeepsRow.holds Try.pinned (OpenSpec.ofChange fifoKeepsSpec)

/-- ITS FALSE NEIGHBOUR: 'it returns false'. Refute it at one input. -/
def fifoKeepsWrong : ChangeSpec := { name := "fifoKeeps", fn := fun _ => fun
  | [d1, d2] => { results := [.lit (.bool false)], args := [d1, d2] }
  | _ => none }
def FifoKeepsWrongFalsely : Prop := fifoKeepsRow.holds Try.pinned (OpenSpec.ofChange fifoKeepsWrong)

/- THE SECOND FORM. 'bulk': how many values and letters a reading holds, each counted each time it is reached (what is shared counts as often as it is met; a slice's spare places count too). A statement '..UptoSaid' is the law's where the arguments, and the package variables that the reading takes, are together of bulk at most 1048576: NARROWER than '..Said'. Prove '..Said' where nothing that the law and all that it calls make is longer than what came in: it says more and counts as full. Else prove '..UptoSaid'. A law counts once. -/
mutual
def uptoBulk {H : Type} : DataW H → Nat
  | .lit (.string bytes) => bytes.length + 1
  | .lit _ => 1
  | .nil => 1
  | .ptr d => uptoBulk d + 1
  | .slice elems spare => uptoBulkAll elems + uptoBulkAll spare + 1
  | .agg parts => uptoBulkAll parts + 1
  | .iface _ d => uptoBulk d + 1
  | .map entries => uptoBulkEntries entries + 1
  | .held _ => 1
def uptoBulkAll {H : Type} : List (DataW H) → Nat
  | [] => 0
  | d :: r => uptoBulk d + uptoBulkAll r
def uptoBulkEntries {H : Type} : List (Lit × DataW H) → Nat
  | [] => 0
  | x :: r => uptoBulkEntry x + uptoBulkEntries r
def uptoBulkEntry {H : Type} : Lit × DataW H → Nat
  | (.string bytes, d) => bytes.length + uptoBulk d + 1
  | (_, d) => uptoBulk d + 1
 end
def uptoSmall : (H : Type) → List (DataW H) → Bool := fun _ ds => decide (uptoBulkAll ds ≤ 1048576)
def OpenSpec.upto (s : _root_.Go.ChangeSpec) : _root_.Go.OpenSpec := { _root_.Go.OpenSpec.ofChange s with cond := some uptoSmall }

/-- 'coxswainlaw19.FifoShapes', WHERE WHAT IT READS IS OF BULK AT MOST 1048576: true; the input reads as it did. -/
def fifoShapesUptoRow : OpenClaim := { program := "ytdepogopepjonaa", sum := "7a6ea054ba395b9b65dff3522bb59302815de8848121d8694519a0b72021b0f3", func := "coxswain/coxswainlaw19.FifoShapes", spec := "fifoShapes", apart := false, narrowed := true }
def FifoShapesUptoSaid : Prop := fifoShapesUptoRow.holds Try.pinned (OpenSpec.upto fifoShapesSpec)

/-- 'coxswainlaw19.FifoSteps', WHERE WHAT IT READS IS OF BULK AT MOST 1048576: true; the input reads as it did. -/
def fifoStepsUptoRow : OpenClaim := { program := "ytdepogopepjonaa", sum := "7a6ea054ba395b9b65dff3522bb59302815de8848121d8694519a0b72021b0f3", func := "coxswain/coxswainlaw19.FifoSteps", spec := "fifoSteps", apart := false, narrowed := true }
def FifoStepsUptoSaid : Prop := fifoStepsUptoRow.holds Try.pinned (OpenSpec.upto fifoStepsSpec)

/-- 'coxswainlaw19.FifoEnds', WHERE WHAT IT READS IS OF BULK AT MOST 1048576: true; the input reads as it did. -/
def fifoEndsUptoRow : OpenClaim := { program := "ytdepogopepjonaa", sum := "7a6ea054ba395b9b65dff3522bb59302815de8848121d8694519a0b72021b0f3", func := "coxswain/coxswainlaw19.FifoEnds", spec := "fifoEnds", apart := false, narrowed := true }
def FifoEndsUptoSaid : Prop := fifoEndsUptoRow.holds Try.pinned (OpenSpec.upto fifoEndsSpec)

/-- 'coxswainlaw19.FifoClones', WHERE WHAT IT READS IS OF BULK AT MOST 1048576: true; the input reads as it did. -/
def fifoClonesUptoRow : OpenClaim := { program := "ytdepogopepjonaa", sum := "7a6ea054ba395b9b65dff3522bb59302815de8848121d8694519a0b72021b0f3", func := "coxswain/coxswainlaw19.FifoClones", spec := "fifoClones", apart := false, narrowed := true }
def FifoClonesUptoSaid : Prop := fifoClonesUptoRow.holds Try.pinned (OpenSpec.upto fifoClonesSpec)

/-- 'coxswainlaw19.FifoKeeps', WHERE WHAT IT READS IS OF BULK AT MOST 1048576: true; the input reads as it did. -/
def fifoKeepsUptoRow : OpenClaim := { program := "ytdepogopepjonaa", sum := "7a6ea054ba395b9b65dff3522bb59302815de8848121d8694519a0b72021b0f3", func := "coxswain/coxswainlaw19.FifoKeeps", spec := "fifoKeeps", apart := false, narrowed := true }
def FifoKeepsUptoSaid : Prop := fifoKeepsUptoRow.holds Try.pinned (OpenSpec.upto fifoKeepsSpec)

end Rows
end Go.Proofs.Ytdepogopepjonaa
