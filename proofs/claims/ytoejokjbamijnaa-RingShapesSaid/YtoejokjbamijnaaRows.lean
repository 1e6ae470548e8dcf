/-
  No cell of these rows narrows 'for every input' (looked for: loops, veiled, ifaces, maps, wideKeys, modest, calm, conditions, laid).
  DERIVED. THE GIVEN ROWS OF THIS SEAT. 3 by the template 'for every input the law returns true; each argument reads behind the call as it read before'; 0 by the template 'total and deterministic' (their statements: YtoejokjbamijnaaTotals.lean).
  GIVEN WITH THE SEED: the statements are not yours to turn. If you find one false, say at which input.
  Laid BY PROGRAM, IN A SANDBOX (cutbox-rows.mjs): the forced cells as the released guide's own fill.sh prints them over the translation 05796bd07f1c76d8… (all of the seat's roots in one cut). By AI agents, Wed Nov 11 2026. No macro, syntax, notation, axiom, sorry.
-/
import Derived.Test.YtoejokjbamijnaaChecked
import GoSem.Claim
import GoSem.ClaimJoined
import GoSem.ClaimMapViews
import Derived.JoinedTies
import Derived.KernelRfl
namespace Go.Proofs.Ytoejokjbamijnaa
/- THE CELL 'sum', in the pinned program and in every row, IS THE sha256 OF THE DUMP (.gsa) THAT YtoejokjbamijnaaProg.lean LOADS. Nothing in Lean hashes anything: it is a label: what it is worth is what the hold of that sum in a sandbox is worth. -/
noncomputable def Try.pinned : Pinned := { name := "ytoejokjbamijnaa", sum := "05796bd07f1c76d843eba11ca677e8d6310b0e6d7b701c80cedaea1b5476ad0e", checked := Try.checked }
namespace Rows
def none {H : Type} : Left H := { results := [], args := [] }

/-- 'coxswainlaw16.SeqShapes': WHATEVER THE INPUT: true; the input reads as it did. -/
def seqShapesSpec : ChangeSpec := { name := "seqShapes", fn := fun _ => fun
  | [d1, d2] => { results := [.lit (.bool true)], args := [d1, d2] }
  | _ => none }
def seqShapesRow : OpenClaim := { program := "ytoejokjbamijnaa", sum := "05796bd07f1c76d843eba11ca677e8d6310b0e6d7b701c80cedaea1b5476ad0e", func := "coxswain/coxswainlaw16.SeqShapes", spec := "seqShapes", apart := false }
def SeqShapesSaid : Prop := seqShapesRow.holds Try.pinned (OpenSpec.ofChange seqShapesSpec)

/-- ITS FALSE NEIGHBOUR: 'it returns false'. Refute it at one input. -/
def seqShapesWrong : ChangeSpec := { name := "seqShapes", fn := fun _ => fun
  | [d1, d2] => { results := [.lit (.bool false)], args := [d1, d2] }
  | _ => none }
def SeqShapesWrongFalsely : Prop := seqShapesRow.holds Try.pinned (OpenSpec.ofChange seqShapesWrong)

/-- 'coxswainlaw17.RingShapes': WHATEVER THE INPUT: true; the input reads as it did. -/
def ringShapesSpec : ChangeSpec := { name := "ringShapes", fn := fun _ => fun
  | [d1, d2] => { results := [.lit (.bool true)], args := [d1, d2] }
  | _ => none }
def ringShapesRow : OpenClaim := { program := "ytoejokjbamijnaa", sum := "05796bd07f1c76d843eba11ca677e8d6310b0e6d7b701c80cedaea1b5476ad0e", func := "coxswain/coxswainlaw17.RingShapes", spec := "ringShapes", apart := false }
def RingShapesSaid : Prop := ringShapesRow.holds Try.pinned (OpenSpec.ofChange ringShapesSpec)

/-- ITS FALSE NEIGHBOUR: 'it returns false'. Refute it at one input. -/
def ringShapesWrong : ChangeSpec := { name := "ringShapes", fn := fun _ => fun
  | [d1, d2] => { results := [.lit (.bool false)], args := [d1, d2] }
  | _ => none }
def RingShapesWrongFalsely : Prop := ringShapesRow.holds Try.pinned (OpenSpec.ofChange ringShapesWrong)

/-- 'coxswainlaw19.FifoShapes': WHATEVER THE INPUT: true; the input reads as it did. -/
def fifoShapesSpec : ChangeSpec := { name := "fifoShapes", fn := fun _ => fun
  | [d1, d2] => { results := [.lit (.bool true)], args := [d1, d2] }
  | _ => none }
def fifoShapesRow : OpenClaim := { program := "ytoejokjbamijnaa", sum := "05796bd07f1c76d843eba11ca677e8d6310b0e6d7b701c80cedaea1b5476ad0e", func := "coxswain/coxswainlaw19.FifoShapes", spec := "fifoShapes", apart := false }
def FifoShapesSaid : Prop := fifoShapesRow.holds Try.pinned (OpenSpec.ofChange fifoShapesSpec)

/-- ITS FALSE NEIGHBOUR: 'it returns false'. Refute it at one input. -/
def fifoShapesWrong : ChangeSpec := { name := "fifoShapes", fn := fun _ => fun
  | [d1, d2] => { results := [.lit (.bool false)], args := [d1, d2] }
  | _ => none }
def FifoShapesWrongFalsely : Prop := fifoShapesRow.holds Try.pinned (OpenSpec.ofChange fifoShapesWrong)

/- THE SECOND FORM. 'bulk': how many values and letters a reading holds, each counted each time it is reached (what is shared counts as often as it is met; a slice's spare places count too). A statement '..UptoSaid' is the law's where the arguments, and the package variables that the reading takes, are together of bulk at most 1048576: NARROWER than '..Said'. Prove '..Said' where nothing that the law and all that it calls make is longer than what came in: it says more and counts as full. Else prove '..UptoSaid'. A law counts once. -/
mutual
def uptoBulk {H : Type} : DataW H → Nat
  | .lit (.string bytes) => bytes.length + 1
  | .lit _ => 1
  | .nil => 1
  | .ptr d => uptoBulk d + 1
  | .slice elems spare => uptoBulkAll elems + uptoBulkAll spare + 1
  | .agg parts => uptoBulkAll parts + 1
  | .iface _ d => uptoBulk d + 1
  | .map entries => uptoBulkEntries entries + 1
  | .held _ => 1
def uptoBulkAll {H : Type} : List (DataW H) → Nat
  | [] => 0
  | d :: r => uptoBulk d + uptoBulkAll r
def uptoBulkEntries {H : Type} : List (Lit × DataW H) → Nat
  | [] => 0
  | x :: r => uptoBulkEntry x + uptoBulkEntries r
def uptoBulkEntry {H : Type} : Lit × DataW H → Nat
  | (.string bytes, d) => bytes.length + uptoBulk d + 1
  | (_, d) => uptoBulk d + 1
 end
def uptoSmall : (H : Type) → List (DataW H) → Bool := fun _ ds => decide (uptoBulkAll ds ≤ 1048576)
def OpenSpec.upto (s : _root_.Go.ChangeSpec) : _root_.Go.OpenSpec := { _root_.Go.OpenSpec.ofChange s with cond := some uptoSmall }

/-- 'coxswainlaw16.SeqShapes', WHERE WHAT IT READS IS OF BULK AT MOST 1048576: true; the input reads as it did. -/
def seqShapesUptoRow : OpenClaim := { program := "ytoejokjbamijnaa", sum := "05796bd07f1c76d843eba11ca677e8d6310b0e6d7b701c80cedaea1b5476ad0e", func := "coxswain/coxswainlaw16.SeqShapes", spec := "seqShapes", apart := false, narrowed := true }
def SeqShapesUptoSaid : Prop := seqShapesUptoRow.holds Try.pinned (OpenSpec.upto seqShapesSpec)

/-- 'coxswainlaw17.RingShapes', WHERE WHAT IT READS IS OF BULK AT MOST 1048576: true; the input reads as it did. -/
def ringShapesUptoRow : OpenClaim := { program := "ytoejokjbamijnaa", sum := "05796bd07f1c76d843eba11ca677e8d6310b0e6d7b701c80cedaea1b5476ad0e", func := "coxswain/coxswainlaw17.RingShapes", spec := "ringShapes", apart := false, narrowed := true }
def RingShapesUptoSaid : Prop := ringShapesUptoRow.holds Try.pinned (OpenSpec.upto ringShapesSpec)

/-- 'coxswainlaw19.FifoShapes', WHERE WHAT IT READS IS OF BULK AT MOST 1048576: true; the input reads as it did. -/
def fifoShapesUptoRow : OpenClaim := { program := "ytoejokjbamijnaa", sum := "05796bd07f1c76d843eba11ca677e8d6310b0e6d7b701c80cedaea1b5476ad0e", func := "coxswain/coxswainlaw19.FifoShapes", spec := "fifoShapes", apart := false, narrowed := true }
def FifoShapesUptoSaid : Prop := fifoShapesUptoRow.holds Try.pinned (OpenSpec.upto fifoShapesSpec)

end Rows
end Go.Proofs.Ytoejokjbamijnaa
