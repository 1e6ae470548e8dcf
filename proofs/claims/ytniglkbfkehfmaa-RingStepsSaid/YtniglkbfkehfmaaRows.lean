/-
  No cell of these rows narrows 'for every input' (looked for: loops, veiled, ifaces, maps, wideKeys, modest, calm, conditions, laid).
  DERIVED. THE GIVEN ROWS OF THIS SEAT. 4 by the template 'for every input the law returns true; each argument reads behind the call as it read before'; 0 by the template 'total and deterministic' (their statements: YtniglkbfkehfmaaTotals.lean).
  GIVEN WITH THE SEED: the statements are not yours to turn. If you find one false, say at which input.
  Laid BY PROGRAM, IN A SANDBOX (cutbox-rows.mjs): the forced cells as the released guide's own fill.sh prints them over the translation 67f9393ba25abb98… (all of the seat's roots in one cut). By AI agents, Wed Nov 11 2026. No macro, syntax, notation, axiom, sorry.
-/
import Derived.Test.YtniglkbfkehfmaaChecked
import GoSem.Claim
import GoSem.ClaimJoined
import GoSem.ClaimMapViews
import Derived.JoinedTies
import Derived.KernelRfl
namespace Go.Proofs.Ytniglkbfkehfmaa
/- THE CELL 'sum', in the pinned program and in every row, IS THE sha256 OF THE DUMP (.gsa) THAT YtniglkbfkehfmaaProg.lean LOADS. Nothing in Lean hashes anything: it is a label: what it is worth is what the hold of that sum in a sandbox is worth. -/
noncomputable def Try.pinned : Pinned := { name := "ytniglkbfkehfmaa", sum := "67f9393ba25abb980dd4617cf4e72b54665074801810c7f0333f68f336485fd9", checked := Try.checked }
namespace Rows
def none {H : Type} : Left H := { results := [], args := [] }

/-- 'coxswainlaw14.FourSteps': WHATEVER THE INPUT: true; the input reads as it did. -/
def fourStepsSpec : ChangeSpec := { name := "fourSteps", fn := fun _ => fun
  | [d] => { results := [.lit (.bool true)], args := [d] }
  | _ => none }
def fourStepsRow : OpenClaim := { program := "ytniglkbfkehfmaa", sum := "67f9393ba25abb980dd4617cf4e72b54665074801810c7f0333f68f336485fd9", func := "coxswain/coxswainlaw14.FourSteps", spec := "fourSteps", apart := false }
def FourStepsSaid : Prop := fourStepsRow.holds Try.pinned (OpenSpec.ofChange fourStepsSpec)

/-- ITS FALSE NEIGHBOUR: 'it returns false'. Refute it at one input. -/
def fourStepsWrong : ChangeSpec := { name := "fourSteps", fn := fun _ => fun
  | [d] => { results := [.lit (.bool false)], args := [d] }
  | _ => none }
def FourStepsWrongFalsely : Prop := fourStepsRow.holds Try.pinned (OpenSpec.ofChange fourStepsWrong)

/-- 'coxswainlaw16.SeqSteps': WHATEVER THE INPUT: true; the input reads as it did. -/
def seqStepsSpec : ChangeSpec := { name := "seqSteps", fn := fun _ => fun
  | [d] => { results := [.lit (.bool true)], args := [d] }
  | _ => none }
def seqStepsRow : OpenClaim := { program := "ytniglkbfkehfmaa", sum := "67f9393ba25abb980dd4617cf4e72b54665074801810c7f0333f68f336485fd9", func := "coxswain/coxswainlaw16.SeqSteps", spec := "seqSteps", apart := false }
def SeqStepsSaid : Prop := seqStepsRow.holds Try.pinned (OpenSpec.ofChange seqStepsSpec)

/-- ITS FALSE NEIGHBOUR: 'it returns false'. Refute it at one input. -/
def seqStepsWrong : ChangeSpec := { name := "seqSteps", fn := fun _ => fun
  | [d] => { results := [.lit (.bool false)], args := [d] }
  | _ => none }
def SeqStepsWrongFalsely : Prop := seqStepsRow.holds Try.pinned (OpenSpec.ofChange seqStepsWrong)

/-- 'coxswainlaw17.RingSteps': WHATEVER THE INPUT: true; the input reads as it did. -/
def ringStepsSpec : ChangeSpec := { name := "ringSteps", fn := fun _ => fun
  | [d] => { results := [.lit (.bool true)], args := [d] }
  | _ => none }
def ringStepsRow : OpenClaim := { program := "ytniglkbfkehfmaa", sum := "67f9393ba25abb980dd4617cf4e72b54665074801810c7f0333f68f336485fd9", func := "coxswain/coxswainlaw17.RingSteps", spec := "ringSteps", apart := false }
def RingStepsSaid : Prop := ringStepsRow.holds Try.pinned (OpenSpec.ofChange ringStepsSpec)

/-- ITS FALSE NEIGHBOUR: 'it returns false'. Refute it at one input. -/
def ringStepsWrong : ChangeSpec := { name := "ringSteps", fn := fun _ => fun
  | [d] => { results := [.lit (.bool false)], args := [d] }
  | _ => none }
def RingStepsWrongFalsely : Prop := ringStepsRow.holds Try.pinned (OpenSpec.ofChange ringStepsWrong)

/-- 'coxswainlaw26.TaskChain': WHATEVER THE INPUT: true; the input reads as it did. -/
def taskChainSpec : ChangeSpec := { name := "taskChain", fn := fun _ => fun
  | [d] => { results := [.lit (.bool true)], args := [d] }
  | _ => none }
def taskChainRow : OpenClaim := { program := "ytniglkbfkehfmaa", sum := "67f9393ba25abb980dd4617cf4e72b54665074801810c7f0333f68f336485fd9", func := "coxswain/coxswainlaw26.TaskChain", spec := "taskChain", apart := false }
def TaskChainSaid : Prop := taskChainRow.holds Try.pinned (OpenSpec.ofChange taskChainSpec)

/-- ITS FALSE NEIGHBOUR: 'it returns false'. Refute it at one input. -/
def taskChainWrong : ChangeSpec := { name := "taskChain", fn := fun _ => fun
  | [d] => { results := [.lit (.bool false)], args := [d] }
  | _ => none }
def TaskChainWrongFalsely : Prop := taskChainRow.holds Try.pinned (OpenSpec.ofChange taskChainWrong)

/- THE SECOND FORM. 'bulk': how many values and letters a reading holds, each counted each time it is reached (what is shared counts as often as it is met; a slice's spare places count too). A statement '..UptoSaid' is the law's where the arguments, and the package variables that the reading takes, are together of bulk at most 1048576: NARROWER than '..Said'. Prove '..Said' where nothing that the law and all that it calls make is longer than what came in: it says more and counts as full. Else prove '..UptoSaid'. A law counts once. -/
mutual
def uptoBulk {H : Type} : DataW H → Nat
  | .lit (.string bytes) => bytes.length + 1
  | .lit _ => 1
  | .nil => 1
  | .ptr d => uptoBulk d + 1
  | .slice elems spare => uptoBulkAll elems + uptoBulkAll spare + 1
  | .agg parts => uptoBulkAll parts + 1
  | .iface _ d => uptoBulk d + 1
  | .map entries => uptoBulkEntries entries + 1
  | .held _ => 1
def uptoBulkAll {H : Type} : List (DataW H) → Nat
  | [] => 0
  | d :: r => uptoBulk d + uptoBulkAll r
def uptoBulkEntries {H : Type} : List (Lit × DataW H) → Nat
  | [] => 0
  | x :: r => uptoBulkEntry x + uptoBulkEntries r
def uptoBulkEntry {H : Type} : Lit × DataW H → Nat
  | (.string bytes, d) => bytes.length + uptoBulk d + 1
  | (_, d) => uptoBulk d + 1
 end
def uptoSmall : (H : Type) → List (DataW H) → Bool := fun _ ds => decide (uptoBulkAll ds ≤ 1048576)
def OpenSpec.upto (s : _root_.Go.ChangeSpec) : _root_.Go.OpenSpec := { _root_.Go.OpenSpec.ofChange s with cond := some uptoSmall }

/-- 'coxswainlaw14.FourSteps', WHERE WHAT IT READS IS OF BULK AT MOST 1048576: true; the input reads as it did. -/
def fourStepsUptoRow : OpenClaim := { program := "ytniglkbfkehfmaa", sum := "67f9393ba25abb980dd4617cf4e72b54665074801810c7f0333f68f336485fd9", func := "coxswain/coxswainlaw14.FourSteps", spec := "fourSteps", apart := false, narrowed := true }
def FourStepsUptoSaid : Prop := fourStepsUptoRow.holds Try.pinned (OpenSpec.upto fourStepsSpec)

/-- 'coxswainlaw16.SeqSteps', WHERE WHAT IT READS IS OF BULK AT MOST 1048576: true; the input reads as it did. -/
def seqStepsUptoRow : OpenClaim := { program := "ytniglkbfkehfmaa", sum := "67f9393ba25abb980dd4617cf4e72b54665074801810c7f0333f68f336485fd9", func := "coxswain/coxswainlaw16.SeqSteps", spec := "seqSteps", apart := false, narrowed := true }
def SeqStepsUptoSaid : Prop := seqStepsUptoRow.holds Try.pinned (OpenSpec.upto seqStepsSpec)

/-- 'coxswainlaw17.RingSteps', WHERE WHAT IT READS IS OF BULK AT MOST 1048576: true; the input reads as it did. -/
def ringStepsUptoRow : OpenClaim := { program := "ytniglkbfkehfmaa", sum := "67f9393ba25abb980dd4617cf4e72b54665074801810c7f0333f68f336485fd9", func := "coxswain/coxswainlaw17.RingSteps", spec := "ringSteps", apart := false, narrowed := true }
def RingStepsUptoSaid : Prop := ringStepsUptoRow.holds Try.pinned (OpenSpec.upto ringStepsSpec)

/-- 'coxswainlaw26.TaskChain', WHERE WHAT IT READS IS OF BULK AT MOST 1048576: true; the input reads as it did. -/
def taskChainUptoRow : OpenClaim := { program := "ytniglkbfkehfmaa", sum := "67f9393ba25abb980dd4617cf4e72b54665074801810c7f0333f68f336485fd9", func := "coxswain/coxswainlaw26.TaskChain", spec := "taskChain", apart := false, narrowed := true }
def TaskChainUptoSaid : Prop := taskChainUptoRow.holds Try.pinned (OpenSpec.upto taskChainSpec)

end Rows
end Go.Proofs.Ytniglkbfkehfmaa
