/-
  No cell of these rows narrows 'for every input' (looked for: loops, veiled, ifaces, maps, wideKeys, modest, calm, conditions, laid).
  DERIVED. THE GIVEN ROWS OF THIS SEAT. 4 by the template 'for every input the law returns true; each argument reads behind the call as it read before'; 0 by the template 'total and deterministic' (their statements: YtoejokjbamijnabTotals.lean).
  GIVEN WITH THE SEED: the statements are not yours to turn. If you find one false, say at which input.
  Laid BY PROGRAM, IN A SANDBOX (cutbox-rows.mjs): the forced cells as the released guide's own fill.sh prints them over the translation 00fed75a9eeb5198… (all of the seat's roots in one cut). By AI agents, Wed Nov 11 2026. No macro, syntax, notation, axiom, sorry.
-/
import Derived.Test.YtoejokjbamijnabChecked
import GoSem.Claim
import GoSem.ClaimJoined
import GoSem.ClaimMapViews
import Derived.JoinedTies
import Derived.KernelRfl
namespace Go.Proofs.Ytoejokjbamijnab
/- THE CELL 'sum', in the pinned program and in every row, IS THE sha256 OF THE DUMP (.gsa) THAT YtoejokjbamijnabProg.lean LOADS. Nothing in Lean hashes anything: it is a label: what it is worth is what the hold of that sum in a sandbox is worth. -/
noncomputable def Try.pinned : Pinned := { name := "ytoejokjbamijnab", sum := "00fed75a9eeb5198fc60e40998235111809fe035ab91c72f36a2e44e3492c03b", checked := Try.checked }
namespace Rows
def none {H : Type} : Left H := { results := [], args := [] }

/-- 'coxswainlaw14.FourSteps': WHATEVER THE INPUT: true; the input reads as it did. -/
def fourStepsSpec : ChangeSpec := { name := "fourSteps", fn := fun _ => fun
  | [d] => { results := [.lit (.bool true)], args := [d] }
  | _ => none }
def fourStepsRow : OpenClaim := { program := "ytoejokjbamijnab", sum := "00fed75a9eeb5198fc60e40998235111809fe035ab91c72f36a2e44e3492c03b", func := "coxswain/coxswainlaw14.FourSteps", spec := "fourSteps", apart := false }
def FourStepsSaid : Prop := fourStepsRow.holds Try.pinned (OpenSpec.ofChange fourStepsSpec)

/-- ITS FALSE NEIGHBOUR: 'it returns false'. Refute it at one input. -/
def fourStepsWrong : ChangeSpec := { name := "fourSteps", fn := fun _ => fun
  | [d] => { results := [.lit (.bool false)], args := [d] }
  | _ => none }
def FourStepsWrongFalsely : Prop := fourStepsRow.holds Try.pinned (OpenSpec.ofChange fourStepsWrong)

/-- 'coxswainlaw14.FourEnds': WHATEVER THE INPUT: true; the input reads as it did. -/
def fourEndsSpec : ChangeSpec := { name := "fourEnds", fn := fun _ => fun
  | [d] => { results := [.lit (.bool true)], args := [d] }
  | _ => none }
def fourEndsRow : OpenClaim := { program := "ytoejokjbamijnab", sum := "00fed75a9eeb5198fc60e40998235111809fe035ab91c72f36a2e44e3492c03b", func := "coxswain/coxswainlaw14.FourEnds", spec := "fourEnds", apart := false }
def FourEndsSaid : Prop := fourEndsRow.holds Try.pinned (OpenSpec.ofChange fourEndsSpec)

/-- ITS FALSE NEIGHBOUR: 'it returns false'. Refute it at one input. -/
def fourEndsWrong : ChangeSpec := { name := "fourEnds", fn := fun _ => fun
  | [d] => { results := [.lit (.bool false)], args := [d] }
  | _ => none }
def FourEndsWrongFalsely : Prop := fourEndsRow.holds Try.pinned (OpenSpec.ofChange fourEndsWrong)

/-- 'coxswainlaw14.FourClones': WHATEVER THE INPUT: true; the input reads as it did. -/
def fourClonesSpec : ChangeSpec := { name := "fourClones", fn := fun _ => fun
  | [d1, d2] => { results := [.lit (.bool true)], args := [d1, d2] }
  | _ => none }
def fourClonesRow : OpenClaim := { program := "ytoejokjbamijnab", sum := "00fed75a9eeb5198fc60e40998235111809fe035ab91c72f36a2e44e3492c03b", func := "coxswain/coxswainlaw14.FourClones", spec := "fourClones", apart := false }
def FourClonesSaid : Prop := fourClonesRow.holds Try.pinned (OpenSpec.ofChange fourClonesSpec)

/-- ITS FALSE NEIGHBOUR: 'it returns false'. Refute it at one input. -/
def fourClonesWrong : ChangeSpec := { name := "fourClones", fn := fun _ => fun
  | [d1, d2] => { results := [.lit (.bool false)], args := [d1, d2] }
  | _ => none }
def FourClonesWrongFalsely : Prop := fourClonesRow.holds Try.pinned (OpenSpec.ofChange fourClonesWrong)

/-- 'coxswainlaw14.FourKeeps': WHATEVER THE INPUT: true; the input reads as it did. -/
def fourKeepsSpec : ChangeSpec := { name := "fourKeeps", fn := fun _ => fun
  | [d1, d2] => { results := [.lit (.bool true)], args := [d1, d2] }
  | _ => none }
def fourKeepsRow : OpenClaim := { program := "ytoejokjbamijnab", sum := "00fed75a9eeb5198fc60e40998235111809fe035ab91c72f36a2e44e3492c03b", func := "coxswain/coxswainlaw14.FourKeeps", spec := "fourKeeps", apart := false }
def FourKeepsSaid : Prop := fourKeepsRow.holds Try.pinned (OpenSpec.ofChange fourKeepsSpec)

/-- ITS FALSE NEIGHBOUR: 'it returns false'. Refute it at one input. -/
def fourKeepsWrong : ChangeSpec := { name := "fourKeeps", fn := fun _ => fun
  | [d1, d2] => { results := [.lit (.bool false)], args := [d1, d2] }
  | _ => none }
def FourKeepsWrongFalsely : Prop := fourKeepsRow.holds Try.pinned (OpenSpec.ofChange fourKeepsWrong)

/- THE SECOND FORM. 'bulk': how many values and letters a reading holds, each counted each time it is reached (what is shared counts as often as it is met; a slice's spare places count too). A statement '..UptoSaid' is the law's where the arguments, and the package variables that the reading takes, are together of bulk at most 1048576: NARROWER than '..Said'. Prove '..Said' where nothing that the law and all that it calls make is longer than what came in: it says more and counts as full. Else prove '..UptoSaid'. A law counts once. -/
mutual
def uptoBulk {H : Type} : DataW H → Nat
  | .lit (.string bytes) => bytes.length + 1
  | .lit _ => 1
  | .nil => 1
  | .ptr d => uptoBulk d + 1
  | .slice elems spare => uptoBulkAll elems + uptoBulkAll spare + 1
  | .agg parts => uptoBulkAll parts + 1
  | .iface _ d => uptoBulk d + 1
  | .map entries => uptoBulkEntries entries + 1
  | .held _ => 1
def uptoBulkAll {H : Type} : List (DataW H) → Nat
  | [] => 0
  | d :: r => uptoBulk d + uptoBulkAll r
def uptoBulkEntries {H : Type} : List (Lit × DataW H) → Nat
  | [] => 0
  | x :: r => uptoBulkEntry x + uptoBulkEntries r
def uptoBulkEntry {H : Type} : Lit × DataW H → Nat
  | (.string bytes, d) => bytes.length + uptoBulk d + 1
  | (_, d) => uptoBulk d + 1
 end
def uptoSmall : (H : Type) → List (DataW H) → Bool := fun _ ds => decide (uptoBulkAll ds ≤ 1048576)
def OpenSpec.upto (s : _root_.Go.ChangeSpec) : _root_.Go.OpenSpec := { _root_.Go.OpenSpec.ofChange s with cond := some uptoSmall }

/-- 'coxswainlaw14.FourSteps', WHERE WHAT IT READS IS OF BULK AT MOST 1048576: true; the input reads as it did. -/
def fourStepsUptoRow : OpenClaim := { program := "ytoejokjbamijnab", sum := "00fed75a9eeb5198fc60e40998235111809fe035ab91c72f36a2e44e3492c03b", func := "coxswain/coxswainlaw14.FourSteps", spec := "fourSteps", apart := false, narrowed := true }
def FourStepsUptoSaid : Prop := fourStepsUptoRow.holds Try.pinned (OpenSpec.upto fourStepsSpec)

/-- 'coxswainlaw14.FourEnds', WHERE WHAT IT READS IS OF BULK AT MOST 1048576: true; the input reads as it did. -/
def fourEndsUptoRow : OpenClaim := { program := "ytoejokjbamijnab", sum := "00fed75a9eeb5198fc60e40998235111809fe035ab91c72f36a2e44e3492c03b", func := "coxswain/coxswainlaw14.FourEnds", spec := "fourEnds", apart := false, narrowed := true }
def FourEndsUptoSaid : Prop := fourEndsUptoRow.holds Try.pinned (OpenSpec.upto fourEndsSpec)

/-- 'coxswainlaw14.FourClones', WHERE WHAT IT READS IS OF BULK AT MOST 1048576: true; the input reads as it did. -/
def fourClonesUptoRow : OpenClaim := { program := "ytoejokjbamijnab", sum := "00fed75a9eeb5198fc60e40998235111809fe035ab91c72f36a2e44e3492c03b", func := "coxswain/coxswainlaw14.FourClones", spec := "fourClones", apart := false, narrowed := true }
def FourClonesUptoSaid : Prop := fourClonesUptoRow.holds Try.pinned (OpenSpec.upto fourClonesSpec)

/-- 'coxswainlaw14.FourKeeps', WHERE WHAT IT READS IS OF BULK AT MOST 1048576: true; the input reads as it did. -/
def fourKeepsUptoRow : OpenClaim := { program := "ytoejokjbamijnab", sum := "00fed75a9eeb5198fc60e40998235111809fe035ab91c72f36a2e44e3492c03b", func := "coxswain/coxswainlaw14.FourKeeps", spec := "fourKeeps", apart := false, narrowed := true }
def FourKeepsUptoSaid : Prop := fourKeepsUptoRow.holds Try.pinned (OpenSpec.upto fourKeepsSpec)

end Rows
end Go.Proofs.Ytoejokjbamijnab
