/-
  No cell of these rows narrows 'for every input' (looked for: loops, veiled, ifaces, maps, wideKeys, modest, calm, conditions, laid).
  DERIVED. THE GIVEN ROWS OF THIS SEAT. 4 by the template 'for every input the law returns true; each argument reads behind the call as it read before'; 0 by the template 'total and deterministic' (their statements: YtjimdhfdmjafmaaTotals.lean).
  GIVEN WITH THE SEED: the statements are not yours to turn. If you find one false, say at which input.
  Laid BY PROGRAM, IN A SANDBOX (cutbox-rows.mjs): the forced cells as the released guide's own fill.sh prints them over the translation 4462c6e050fbde93… (all of the seat's roots in one cut). By AI agents, Wed Nov 11 2026. No macro, syntax, notation, axiom, sorry.
-/
import Derived.Test.YtjimdhfdmjafmaaChecked
import GoSem.Claim
import GoSem.ClaimJoined
import GoSem.ClaimMapViews
import Derived.JoinedTies
import Derived.KernelRfl
namespace Go.Proofs.Ytjimdhfdmjafmaa
/- THE CELL 'sum', in the pinned program and in every row, IS THE sha256 OF THE DUMP (.gsa) THAT YtjimdhfdmjafmaaProg.lean LOADS. Nothing in Lean hashes anything: it is a label: what it is worth is what the hold of that sum in a sandbox is worth. -/
noncomputable def Try.pinned : Pinned := { name := "ytjimdhfdmjafmaa", sum := "4462c6e050fbde931ec5e0fac02c950225fb96229311cc14eea5200751ff31e7", checked := Try.checked }
namespace Rows
def none {H : Type} : Left H := { results := [], args := [] }

/-- 'coxswainlaw16.SeqSteps': WHATEVER THE INPUT: true; the input reads as it did. -/
def seqStepsSpec : ChangeSpec := { name := "seqSteps", fn := fun _ => fun
  | [d] => { results := [.lit (.bool true)], args := [d] }
  | _ => none }
def seqStepsRow : OpenClaim := { program := "ytjimdhfdmjafmaa", sum := "4462c6e050fbde931ec5e0fac02c950225fb96229311cc14eea5200751ff31e7", func := "coxswain/coxswainlaw16.SeqSteps", spec := "seqSteps", apart := false }
def SeqStepsSaid : Prop := seqStepsRow.holds Try.pinned (OpenSpec.ofChange seqStepsSpec)

/-- ITS FALSE NEIGHBOUR: 'it returns false'. Refute it at one input. -/
def seqStepsWrong : ChangeSpec := { name := "seqSteps", fn := fun _ => fun
  | [d] => { results := [.lit (.bool false)], args := [d] }
  | _ => none }
def SeqStepsWrongFalsely : Prop := seqStepsRow.holds Try.pinned (OpenSpec.ofChange seqStepsWrong)

/-- 'coxswainlaw16.SeqEnds': WHATEVER THE INPUT: true; the input reads as it did. -/
def seqEndsSpec : ChangeSpec := { name := "seqEnds", fn := fun _ => fun
  | [d] => { results := [.lit (.bool true)], args := [d] }
  | _ => none }
def seqEndsRow : OpenClaim := { program := "ytjimdhfdmjafmaa", sum := "4462c6e050fbde931ec5e0fac02c950225fb96229311cc14eea5200751ff31e7", func := "coxswain/coxswainlaw16.SeqEnds", spec := "seqEnds", apart := false }
def SeqEndsSaid : Prop := seqEndsRow.holds Try.pinned (OpenSpec.ofChange seqEndsSpec)

/-- ITS FALSE NEIGHBOUR: 'it returns false'. Refute it at one input. -/
def seqEndsWrong : ChangeSpec := { name := "seqEnds", fn := fun _ => fun
  | [d] => { results := [.lit (.bool false)], args := [d] }
  | _ => none }
def SeqEndsWrongFalsely : Prop := seqEndsRow.holds Try.pinned (OpenSpec.ofChange seqEndsWrong)

/-- 'coxswainlaw16.SeqClones': WHATEVER THE INPUT: true; the input reads as it did. -/
def seqClonesSpec : ChangeSpec := { name := "seqClones", fn := fun _ => fun
  | [d1, d2] => { results := [.lit (.bool true)], args := [d1, d2] }
  | _ => none }
def seqClonesRow : OpenClaim := { program := "ytjimdhfdmjafmaa", sum := "4462c6e050fbde931ec5e0fac02c950225fb96229311cc14eea5200751ff31e7", func := "coxswain/coxswainlaw16.SeqClones", spec := "seqClones", apart := false }
def SeqClonesSaid : Prop := seqClonesRow.holds Try.pinned (OpenSpec.ofChange seqClonesSpec)

/-- ITS FALSE NEIGHBOUR: 'it returns false'. Refute it at one input. -/
def seqClonesWrong : ChangeSpec := { name := "seqClones", fn := fun _ => fun
  | [d1, d2] => { results := [.lit (.bool false)], args := [d1, d2] }
  | _ => none }
def SeqClonesWrongFalsely : Prop := seqClonesRow.holds Try.pinned (OpenSpec.ofChange seqClonesWrong)

/-- 'coxswainlaw16.SeqKeeps': WHATEVER THE INPUT: true; the input reads as it did. -/
def seqKeepsSpec : ChangeSpec := { name := "seqKeeps", fn := fun _ => fun
  | [d1, d2] => { results := [.lit (.bool true)], args := [d1, d2] }
  | _ => none }
def seqKeepsRow : OpenClaim := { program := "ytjimdhfdmjafmaa", sum := "4462c6e050fbde931ec5e0fac02c950225fb96229311cc14eea5200751ff31e7", func := "coxswain/coxswainlaw16.SeqKeeps", spec := "seqKeeps", apart := false }
def SeqKeepsSaid : Prop := seqKeepsRow.holds Try.pinned (OpenSpec.ofChange seqKeepsSpec)

/-- ITS FALSE NEIGHBOUR: 'it returns false'. Refute it at one input. -/
def seqKeepsWrong : ChangeSpec := { name := "seqKeeps", fn := fun _ => fun
  | [d1, d2] => { results := [.lit (.bool false)], args := [d1, d2] }
  | _ => none }
def SeqKeepsWrongFalsely : Prop := seqKeepsRow.holds Try.pinned (OpenSpec.ofChange seqKeepsWrong)

/- THE SECOND FORM. 'bulk': how many values and letters a reading holds, each counted each time it is reached (what is shared counts as often as it is met; a slice's spare places count too). A statement '..UptoSaid' is the law's where the arguments, and the package variables that the reading takes, are together of bulk at most 1048576: NARROWER than '..Said'. Prove '..Said' where nothing that the law and all that it calls make is longer than what came in: it says more and counts as full. Else prove '..UptoSaid'. A law counts once. -/
mutual
def uptoBulk {H : Type} : DataW H → Nat
  | .lit (.string bytes) => bytes.length + 1
  | .lit _ => 1
  | .nil => 1
  | .ptr d => uptoBulk d + 1
  | .slice elems spare => uptoBulkAll elems + uptoBulkAll spare + 1
  | .agg parts => uptoBulkAll parts + 1
  | .iface _ d => uptoBulk d + 1
  | .map entries => uptoBulkEntries entries + 1
  | .held _ => 1
def uptoBulkAll {H : Type} : List (DataW H) → Nat
  | [] => 0
  | d :: r => uptoBulk d + uptoBulkAll r
def uptoBulkEntries {H : Type} : List (Lit × DataW H) → Nat
  | [] => 0
  | x :: r => uptoBulkEntry x + uptoBulkEntries r
def uptoBulkEntry {H : Type} : Lit × DataW H → Nat
  | (.string bytes, d) => bytes.length + uptoBulk d + 1
  | (_, d) => uptoBulk d + 1
 end
def uptoSmall : (H : Type) → List (DataW H) → Bool := fun _ ds => decide (uptoBulkAll ds ≤ 1048576)
def OpenSpec.upto (s : _root_.Go.ChangeSpec) : _root_.Go.OpenSpec := { _root_.Go.OpenSpec.ofChange s with cond := some uptoSmall }

/-- 'coxswainlaw16.SeqSteps', WHERE WHAT IT READS IS OF BULK AT MOST 1048576: true; the input reads as it did. -/
def seqStepsUptoRow : OpenClaim := { program := "ytjimdhfdmjafmaa", sum := "4462c6e050fbde931ec5e0fac02c950225fb96229311cc14eea5200751ff31e7", func := "coxswain/coxswainlaw16.SeqSteps", spec := "seqSteps", apart := false, narrowed := true }
def SeqStepsUptoSaid : Prop := seqStepsUptoRow.holds Try.pinned (OpenSpec.upto seqStepsSpec)

/-- 'coxswainlaw16.SeqEnds', WHERE WHAT IT READS IS OF BULK AT MOST 1048576: true; the input reads as it did. -/
def seqEndsUptoRow : OpenClaim := { program := "ytjimdhfdmjafmaa", sum := "4462c6e050fbde931ec5e0fac02c950225fb96229311cc14eea5200751ff31e7", func := "coxswain/coxswainlaw16.SeqEnds", spec := "seqEnds", apart := false, narrowed := true }
def SeqEndsUptoSaid : Prop := seqEndsUptoRow.holds Try.pinned (OpenSpec.upto seqEndsSpec)

/-- 'coxswainlaw16.SeqClones', WHERE WHAT IT READS IS OF BULK AT MOST 1048576: true; the input reads as it did. -/
def seqClonesUptoRow : OpenClaim := { program := "ytjimdhfdmjafmaa", sum := "4462c6e050fbde931ec5e0fac02c950225fb96229311cc14eea5200751ff31e7", func := "coxswain/coxswainlaw16.SeqClones", spec := "seqClones", apart := false, narrowed := true }
def SeqClonesUptoSaid : Prop := seqClonesUptoRow.holds Try.pinned (OpenSpec.upto seqClonesSpec)

/-- 'coxswainlaw16.SeqKeeps', WHERE WHAT IT READS IS OF BULK AT MOST 1048576: true; the input reads as it did. -/
def seqKeepsUptoRow : OpenClaim := { program := "ytjimdhfdmjafmaa", sum := "4462c6e050fbde931ec5e0fac02c950225fb96229311cc14eea5200751ff31e7", func := "coxswain/coxswainlaw16.SeqKeeps", spec := "seqKeeps", apart := false, narrowed := true }
def SeqKeepsUptoSaid : Prop := seqKeepsUptoRow.holds Try.pinned (OpenSpec.upto seqKeepsSpec)

end Rows
end Go.Proofs.Ytjimdhfdmjafmaa
