/-
  No cell of these rows narrows 'for every input' (looked for: loops, veiled, ifaces, maps, wideKeys, modest, calm, conditions, laid).
  DERIVED. THE GIVEN ROWS OF THIS SEAT. 6 by the template 'for every input the law returns true; each argument reads behind the call as it read before'; 0 by the template 'total and deterministic' (their statements: YtnlndkpjfgpodabTotals.lean).
  GIVEN WITH THE SEED: the statements are not yours to turn. If you find one false, say at which input.
  Laid BY PROGRAM, IN A SANDBOX (cutbox-rows.mjs): the forced cells as the released guide's own fill.sh prints them over the translation 4bf9415de2c53b7b… (all of the seat's roots in one cut). By AI agents, Wed Nov 11 2026. No macro, syntax, notation, axiom, sorry.
-/
import Derived.Test.YtnlndkpjfgpodabChecked
import GoSem.Claim
import GoSem.ClaimJoined
import GoSem.ClaimMapViews
import Derived.JoinedTies
import Derived.KernelRfl
namespace Go.Proofs.Ytnlndkpjfgpodab
/- THE CELL 'sum', in the pinned program and in every row, IS THE sha256 OF THE DUMP (.gsa) THAT YtnlndkpjfgpodabProg.lean LOADS. Nothing in Lean hashes anything: it is a label: what it is worth is what the hold of that sum in a sandbox is worth. -/
noncomputable def Try.pinned : Pinned := { name := "ytnlndkpjfgpodab", sum := "4bf9415de2c53b7b0c0c26f8c0d8195c2d81efa61585c096c8248d4221ba33fd", checked := Try.checked }
namespace Rows
def none {H : Type} : Left H := { results := [], args := [] }

/-- 'coxswainlaw35.BoundHolds': WHATEVER THE INPUT: true; the input reads as it did. -/
def boundHoldsSpec : ChangeSpec := { name := "boundHolds", fn := fun _ => fun
  | [d] => { results := [.lit (.bool true)], args := [d] }
  | _ => none }
def boundHoldsRow : OpenClaim := { program := "ytnlndkpjfgpodab", sum := "4bf9415de2c53b7b0c0c26f8c0d8195c2d81efa61585c096c8248d4221ba33fd", func := "coxswain/coxswainlaw35.BoundHolds", spec := "boundHolds", unfollowed := true, recurses := true, apart := false }
def BoundHoldsSaid : Prop := boundHoldsRow.holds Try.pinned (OpenSpec.ofChange boundHoldsSpec)

/-- ITS FALSE NEIGHBOUR: 'it returns false'. Refute it at one input. -/
def boundHoldsWrong : ChangeSpec := { name := "boundHolds", fn := fun _ => fun
  | [d] => { results := [.lit (.bool false)], args := [d] }
  | _ => none }
def BoundHoldsWrongFalsely : Prop := boundHoldsRow.holds Try.pinned (OpenSpec.ofChange boundHoldsWrong)

/-- 'coxswainlaw27.ReleaseAll': WHATEVER THE INPUT: true; the input reads as it did. -/
def releaseAllSpec : ChangeSpec := { name := "releaseAll", fn := fun _ => fun
  | [d1, d2, d3] => { results := [.lit (.bool true)], args := [d1, d2, d3] }
  | _ => none }
def releaseAllRow : OpenClaim := { program := "ytnlndkpjfgpodab", sum := "4bf9415de2c53b7b0c0c26f8c0d8195c2d81efa61585c096c8248d4221ba33fd", func := "coxswain/coxswainlaw27.ReleaseAll", spec := "releaseAll", unfollowed := true, recurses := true, apart := false }
def ReleaseAllSaid : Prop := releaseAllRow.holds Try.pinned (OpenSpec.ofChange releaseAllSpec)

/-- ITS FALSE NEIGHBOUR: 'it returns false'. Refute it at one input. -/
def releaseAllWrong : ChangeSpec := { name := "releaseAll", fn := fun _ => fun
  | [d1, d2, d3] => { results := [.lit (.bool false)], args := [d1, d2, d3] }
  | _ => none }
def ReleaseAllWrongFalsely : Prop := releaseAllRow.holds Try.pinned (OpenSpec.ofChange releaseAllWrong)

/-- 'coxswainlaw27.ReleaseApart': WHATEVER THE INPUT: true; the input reads as it did. -/
def releaseApartSpec : ChangeSpec := { name := "releaseApart", fn := fun _ => fun
  | [d1, d2, d3] => { results := [.lit (.bool true)], args := [d1, d2, d3] }
  | _ => none }
def releaseApartRow : OpenClaim := { program := "ytnlndkpjfgpodab", sum := "4bf9415de2c53b7b0c0c26f8c0d8195c2d81efa61585c096c8248d4221ba33fd", func := "coxswain/coxswainlaw27.ReleaseApart", spec := "releaseApart", unfollowed := true, recurses := true, apart := false }
def ReleaseApartSaid : Prop := releaseApartRow.holds Try.pinned (OpenSpec.ofChange releaseApartSpec)

/-- ITS FALSE NEIGHBOUR: 'it returns false'. Refute it at one input. -/
def releaseApartWrong : ChangeSpec := { name := "releaseApart", fn := fun _ => fun
  | [d1, d2, d3] => { results := [.lit (.bool false)], args := [d1, d2, d3] }
  | _ => none }
def ReleaseApartWrongFalsely : Prop := releaseApartRow.holds Try.pinned (OpenSpec.ofChange releaseApartWrong)

/-- 'coxswainlaw30.AbstractTells': WHATEVER THE INPUT: true; the input reads as it did. -/
def abstractTellsSpec : ChangeSpec := { name := "abstractTells", fn := fun _ => fun
  | [d1, d2, d3] => { results := [.lit (.bool true)], args := [d1, d2, d3] }
  | _ => none }
def abstractTellsRow : OpenClaim := { program := "ytnlndkpjfgpodab", sum := "4bf9415de2c53b7b0c0c26f8c0d8195c2d81efa61585c096c8248d4221ba33fd", func := "coxswain/coxswainlaw30.AbstractTells", spec := "abstractTells", unfollowed := true, recurses := true, apart := false }
def AbstractTellsSaid : Prop := abstractTellsRow.holds Try.pinned (OpenSpec.ofChange abstractTellsSpec)

/-- ITS FALSE NEIGHBOUR: 'it returns false'. Refute it at one input. -/
def abstractTellsWrong : ChangeSpec := { name := "abstractTells", fn := fun _ => fun
  | [d1, d2, d3] => { results := [.lit (.bool false)], args := [d1, d2, d3] }
  | _ => none }
def AbstractTellsWrongFalsely : Prop := abstractTellsRow.holds Try.pinned (OpenSpec.ofChange abstractTellsWrong)

/-- 'coxswainlaw22.LinregLess': WHATEVER THE INPUT: true; the input reads as it did. -/
def linregLessSpec : ChangeSpec := { name := "linregLess", fn := fun _ => fun
  | [d1, d2, d3] => { results := [.lit (.bool true)], args := [d1, d2, d3] }
  | _ => none }
def linregLessRow : OpenClaim := { program := "ytnlndkpjfgpodab", sum := "4bf9415de2c53b7b0c0c26f8c0d8195c2d81efa61585c096c8248d4221ba33fd", func := "coxswain/coxswainlaw22.LinregLess", spec := "linregLess", unfollowed := true, recurses := true, apart := false }
def LinregLessSaid : Prop := linregLessRow.holds Try.pinned (OpenSpec.ofChange linregLessSpec)

/-- ITS FALSE NEIGHBOUR: 'it returns false'. Refute it at one input. -/
def linregLessWrong : ChangeSpec := { name := "linregLess", fn := fun _ => fun
  | [d1, d2, d3] => { results := [.lit (.bool false)], args := [d1, d2, d3] }
  | _ => none }
def LinregLessWrongFalsely : Prop := linregLessRow.holds Try.pinned (OpenSpec.ofChange linregLessWrong)

/-- 'coxswainlaw46.ObserveEvents': WHATEVER THE INPUT: true; the input reads as it did. -/
def observeEventsSpec : ChangeSpec := { name := "observeEvents", fn := fun _ => fun
  | [d1, d2] => { results := [.lit (.bool true)], args := [d1, d2] }
  | _ => none }
def observeEventsRow : OpenClaim := { program := "ytnlndkpjfgpodab", sum := "4bf9415de2c53b7b0c0c26f8c0d8195c2d81efa61585c096c8248d4221ba33fd", func := "coxswain/coxswainlaw46.ObserveEvents", spec := "observeEvents", unfollowed := true, recurses := true, apart := false }
def ObserveEventsSaid : Prop := observeEventsRow.holds Try.pinned (OpenSpec.ofChange observeEventsSpec)

/-- ITS FALSE NEIGHBOUR: 'it returns false'. Refute it at one input. -/
def observeEventsWrong : ChangeSpec := { name := "observeEvents", fn := fun _ => fun
  | [d1, d2] => { results := [.lit (.bool false)], args := [d1, d2] }
  | _ => none }
def ObserveEventsWrongFalsely : Prop := observeEventsRow.holds Try.pinned (OpenSpec.ofChange observeEventsWrong)

/- THE SECOND FORM. 'bulk': how many values and letters a reading holds, each counted each time it is reached (what is shared counts as often as it is met; a slice's spare places count too). A statement '..UptoSaid' is the law's where the arguments, and the package variables that the reading takes, are together of bulk at most 1048576: NARROWER than '..Said'. Prove '..Said' where nothing that the law and all that it calls make is longer than what came in: it says more and counts as full. Else prove '..UptoSaid'. A law counts once. -/
mutual
def uptoBulk {H : Type} : DataW H → Nat
  | .lit (.string bytes) => bytes.length + 1
  | .lit _ => 1
  | .nil => 1
  | .ptr d => uptoBulk d + 1
  | .slice elems spare => uptoBulkAll elems + uptoBulkAll spare + 1
  | .agg parts => uptoBulkAll parts + 1
  | .iface _ d => uptoBulk d + 1
  | .map entries => uptoBulkEntries entries + 1
  | .held _ => 1
def uptoBulkAll {H : Type} : List (DataW H) → Nat
  | [] => 0
  | d :: r => uptoBulk d + uptoBulkAll r
def uptoBulkEntries {H : Type} : List (Lit × DataW H) → Nat
  | [] => 0
  | x :: r => uptoBulkEntry x + uptoBulkEntries r
def uptoBulkEntry {H : Type} : Lit × DataW H → Nat
  | (.string bytes, d) => bytes.length + uptoBulk d + 1
  | (_, d) => uptoBulk d + 1
 end
def uptoSmall : (H : Type) → List (DataW H) → Bool := fun _ ds => decide (uptoBulkAll ds ≤ 1048576)
def OpenSpec.upto (s : _root_.Go.ChangeSpec) : _root_.Go.OpenSpec := { _root_.Go.OpenSpec.ofChange s with cond := some uptoSmall }

/-- 'coxswainlaw35.BoundHolds', WHERE WHAT IT READS IS OF BULK AT MOST 1048576: true; the input reads as it did. -/
def boundHoldsUptoRow : OpenClaim := { program := "ytnlndkpjfgpodab", sum := "4bf9415de2c53b7b0c0c26f8c0d8195c2d81efa61585c096c8248d4221ba33fd", func := "coxswain/coxswainlaw35.BoundHolds", spec := "boundHolds", unfollowed := true, recurses := true, apart := false, narrowed := true }
def BoundHoldsUptoSaid : Prop := boundHoldsUptoRow.holds Try.pinned (OpenSpec.upto boundHoldsSpec)

/-- 'coxswainlaw27.ReleaseAll', WHERE WHAT IT READS IS OF BULK AT MOST 1048576: true; the input reads as it did. -/
def releaseAllUptoRow : OpenClaim := { program := "ytnlndkpjfgpodab", sum := "4bf9415de2c53b7b0c0c26f8c0d8195c2d81efa61585c096c8248d4221ba33fd", func := "coxswain/coxswainlaw27.ReleaseAll", spec := "releaseAll", unfollowed := true, recurses := true, apart := false, narrowed := true }
def ReleaseAllUptoSaid : Prop := releaseAllUptoRow.holds Try.pinned (OpenSpec.upto releaseAllSpec)

/-- 'coxswainlaw27.ReleaseApart', WHERE WHAT IT READS IS OF BULK AT MOST 1048576: true; the input reads as it did. -/
def releaseApartUptoRow : OpenClaim := { program := "ytnlndkpjfgpodab", sum := "4bf9415de2c53b7b0c0c26f8c0d8195c2d81efa61585c096c8248d4221ba33fd", func := "coxswain/coxswainlaw27.ReleaseApart", spec := "releaseApart", unfollowed := true, recurses := true, apart := false, narrowed := true }
def ReleaseApartUptoSaid : Prop := releaseApartUptoRow.holds Try.pinned (OpenSpec.upto releaseApartSpec)

/-- 'coxswainlaw30.AbstractTells', WHERE WHAT IT READS IS OF BULK AT MOST 1048576: true; the input reads as it did. -/
def abstractTellsUptoRow : OpenClaim := { program := "ytnlndkpjfgpodab", sum := "4bf9415de2c53b7b0c0c26f8c0d8195c2d81efa61585c096c8248d4221ba33fd", func := "coxswain/coxswainlaw30.AbstractTells", spec := "abstractTells", unfollowed := true, recurses := true, apart := false, narrowed := true }
def AbstractTellsUptoSaid : Prop := abstractTellsUptoRow.holds Try.pinned (OpenSpec.upto abstractTellsSpec)

/-- 'coxswainlaw22.LinregLess', WHERE WHAT IT READS IS OF BULK AT MOST 1048576: true; the input reads as it did. -/
def linregLessUptoRow : OpenClaim := { program := "ytnlndkpjfgpodab", sum := "4bf9415de2c53b7b0c0c26f8c0d8195c2d81efa61585c096c8248d4221ba33fd", func := "coxswain/coxswainlaw22.LinregLess", spec := "linregLess", unfollowed := true, recurses := true, apart := false, narrowed := true }
def LinregLessUptoSaid : Prop := linregLessUptoRow.holds Try.pinned (OpenSpec.upto linregLessSpec)

/-- 'coxswainlaw46.ObserveEvents', WHERE WHAT IT READS IS OF BULK AT MOST 1048576: true; the input reads as it did. -/
def observeEventsUptoRow : OpenClaim := { program := "ytnlndkpjfgpodab", sum := "4bf9415de2c53b7b0c0c26f8c0d8195c2d81efa61585c096c8248d4221ba33fd", func := "coxswain/coxswainlaw46.ObserveEvents", spec := "observeEvents", unfollowed := true, recurses := true, apart := false, narrowed := true }
def ObserveEventsUptoSaid : Prop := observeEventsUptoRow.holds Try.pinned (OpenSpec.upto observeEventsSpec)

end Rows
end Go.Proofs.Ytnlndkpjfgpodab
