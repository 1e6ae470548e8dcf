/-
  No cell of these rows narrows 'for every input' (looked for: loops, veiled, ifaces, maps, wideKeys, modest, calm, conditions, laid).
  DERIVED. THE GIVEN ROWS OF THIS SEAT. 3 by the template 'for every input the law returns true; each argument reads behind the call as it read before'; 0 by the template 'total and deterministic' (their statements: YtejajmdmfipplabTotals.lean).
  GIVEN WITH THE SEED: the statements are not yours to turn. If you find one false, say at which input.
  Laid BY PROGRAM, IN A SANDBOX (cutbox-rows.mjs): the forced cells as the released guide's own fill.sh prints them over the translation 9fcd9a12ae6bc523… (all of the seat's roots in one cut). By AI agents, Wed Nov 11 2026. No macro, syntax, notation, axiom, sorry.
-/
import Derived.Test.YtejajmdmfipplabChecked
import GoSem.Claim
import GoSem.ClaimJoined
import GoSem.ClaimMapViews
import Derived.JoinedTies
import Derived.KernelRfl
namespace Go.Proofs.Ytejajmdmfipplab
/- THE CELL 'sum', in the pinned program and in every row, IS THE sha256 OF THE DUMP (.gsa) THAT YtejajmdmfipplabProg.lean LOADS. Nothing in Lean hashes anything: it is a label: what it is worth is what the hold of that sum in a sandbox is worth. -/
noncomputable def Try.pinned : Pinned := { name := "ytejajmdmfipplab", sum := "9fcd9a12ae6bc523090ce0339d580d83a060d4304412627e0bee14854394a02a", checked := Try.checked }
namespace Rows
def none {H : Type} : Left H := { results := [], args := [] }

/-- 'coxswainlaw19.FifoKeeps': WHATEVER THE INPUT: true; the input reads as it did. -/
def fifoKeepsSpec : ChangeSpec := { name := "fifoKeeps", fn := fun _ => fun
  | [d1, d2] => { results := [.lit (.bool true)], args := [d1, d2] }
  | _ => none }
def fifoKeepsRow : OpenClaim := { program := "ytejajmdmfipplab", sum := "9fcd9a12ae6bc523090ce0339d580d83a060d4304412627e0bee14854394a02a", func := "coxswain/coxswainlaw19.FifoKeeps", spec := "fifoKeeps", apart := false }
def FifoKeepsSaid : Prop := fifoKeepsRow.holds Try.pinned (OpenSpec.ofChange fifoKeepsSpec)

/-- ITS FALSE NEIGHBOUR: 'it returns false'. Refute it at one input. -/
def fifoKeepsWrong : ChangeSpec := { name := "fifoKeeps", fn := fun _ => fun
  | [d1, d2] => { results := [.lit (.bool false)], args := [d1, d2] }
  | _ => none }
def FifoKeepsWrongFalsely : Prop := fifoKeepsRow.holds Try.pinned (OpenSpec.ofChange fifoKeepsWrong)

/-- 'coxswainlaw26.TaskChain': WHATEVER THE INPUT: true; the input reads as it did. -/
def taskChainSpec : ChangeSpec := { name := "taskChain", fn := fun _ => fun
  | [d] => { results := [.lit (.bool true)], args := [d] }
  | _ => none }
def taskChainRow : OpenClaim := { program := "ytejajmdmfipplab", sum := "9fcd9a12ae6bc523090ce0339d580d83a060d4304412627e0bee14854394a02a", func := "coxswain/coxswainlaw26.TaskChain", spec := "taskChain", apart := false }
def TaskChainSaid : Prop := taskChainRow.holds Try.pinned (OpenSpec.ofChange taskChainSpec)

/-- ITS FALSE NEIGHBOUR: 'it returns false'. Refute it at one input. -/
def taskChainWrong : ChangeSpec := { name := "taskChain", fn := fun _ => fun
  | [d] => { results := [.lit (.bool false)], args := [d] }
  | _ => none }
def TaskChainWrongFalsely : Prop := taskChainRow.holds Try.pinned (OpenSpec.ofChange taskChainWrong)

/-- 'coxswainlaw26.TaskCopies': WHATEVER THE INPUT: true; the input reads as it did. -/
def taskCopiesSpec : ChangeSpec := { name := "taskCopies", fn := fun _ => fun
  | [d1, d2] => { results := [.lit (.bool true)], args := [d1, d2] }
  | _ => none }
def taskCopiesRow : OpenClaim := { program := "ytejajmdmfipplab", sum := "9fcd9a12ae6bc523090ce0339d580d83a060d4304412627e0bee14854394a02a", func := "coxswain/coxswainlaw26.TaskCopies", spec := "taskCopies", apart := false }
def TaskCopiesSaid : Prop := taskCopiesRow.holds Try.pinned (OpenSpec.ofChange taskCopiesSpec)

/-- ITS FALSE NEIGHBOUR: 'it returns false'. Refute it at one input. -/
def taskCopiesWrong : ChangeSpec := { name := "taskCopies", fn := fun _ => fun
  | [d1, d2] => { results := [.lit (.bool false)], args := [d1, d2] }
  | _ => none }
def TaskCopiesWrongFalsely : Prop := taskCopiesRow.holds Try.pinned (OpenSpec.ofChange taskCopiesWrong)

/- THE SECOND FORM. 'bulk': how many values and letters a reading holds, each counted each time it is reached (what is shared counts as often as it is met; a slice's spare places count too). A statement '..UptoSaid' is the law's where the arguments, and the package variables that the reading takes, are together of bulk at most 1048576: NARROWER than '..Said'. Prove '..Said' where nothing that the law and all that it calls make is longer than what came in: it says more and counts as full. Else prove '..UptoSaid'. A law counts once. -/
mutual
def uptoBulk {H : Type} : DataW H → Nat
  | .lit (.string bytes) => bytes.length + 1
  | .lit _ => 1
  | .nil => 1
  | .ptr d => uptoBulk d + 1
  | .slice elems spare => uptoBulkAll elems + uptoBulkAll spare + 1
  | .agg parts => uptoBulkAll parts + 1
  | .iface _ d => uptoBulk d + 1
  | .map entries => uptoBulkEntries entries + 1
  | .held _ => 1
def uptoBulkAll {H : Type} : List (DataW H) → Nat
  | [] => 0
  | d :: r => uptoBulk d + uptoBulkAll r
def uptoBulkEntries {H : Type} : List (Lit × DataW H) → Nat
  | [] => 0
  | x :: r => uptoBulkEntry x + uptoBulkEntries r
def uptoBulkEntry {H : Type} : Lit × DataW H → Nat
  | (.string bytes, d) => bytes.length + uptoBulk d + 1
  | (_, d) => uptoBulk d + 1
 end
def uptoSmall : (H : Type) → List (DataW H) → Bool := fun _ ds => decide (uptoBulkAll ds ≤ 1048576)
def OpenSpec.upto (s : _root_.Go.ChangeSpec) : _root_.Go.OpenSpec := { _root_.Go.OpenSpec.ofChange s with cond := some uptoSmall }

/-- 'coxswainlaw19.FifoKeeps', WHERE WHAT IT READS IS OF BULK AT MOST 1048576: true; the input reads as it did. -/
def fifoKeepsUptoRow : OpenClaim := { program := "ytejajmdmfipplab", sum := "9fcd9a12ae6bc523090ce0339d580d83a060d4304412627e0bee14854394a02a", func := "coxswain/coxswainlaw19.FifoKeeps", spec := "fifoKeeps", apart := false, narrowed := true }
def FifoKeepsUptoSaid : Prop := fifoKeepsUptoRow.holds Try.pinned (OpenSpec.upto fifoKeepsSpec)

/-- 'coxswainlaw26.TaskChain', WHERE WHAT IT READS IS OF BULK AT MOST 1048576: true; the input reads as it did. -/
def taskChainUptoRow : OpenClaim := { program := "ytejajmdmfipplab", sum := "9fcd9a12ae6bc523090ce0339d580d83a060d4304412627e0bee14854394a02a", func := "coxswain/coxswainlaw26.TaskChain", spec := "taskChain", apart := false, narrowed := true }
def TaskChainUptoSaid : Prop := taskChainUptoRow.holds Try.pinned (OpenSpec.upto taskChainSpec)

/-- 'coxswainlaw26.TaskCopies', WHERE WHAT IT READS IS OF BULK AT MOST 1048576: true; the input reads as it did. -/
def taskCopiesUptoRow : OpenClaim := { program := "ytejajmdmfipplab", sum := "9fcd9a12ae6bc523090ce0339d580d83a060d4304412627e0bee14854394a02a", func := "coxswain/coxswainlaw26.TaskCopies", spec := "taskCopies", apart := false, narrowed := true }
def TaskCopiesUptoSaid : Prop := taskCopiesUptoRow.holds Try.pinned (OpenSpec.upto taskCopiesSpec)

end Rows
end Go.Proofs.Ytejajmdmfipplab
