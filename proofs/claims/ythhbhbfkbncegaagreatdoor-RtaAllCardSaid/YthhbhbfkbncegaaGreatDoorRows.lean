/-
  NARROWER THAN 'FOR EVERY INPUT', by the rows' own cells (each row's printed sentence says how): InterfereTells: laid · InterfereGrows: laid · InterfereNone: laid · RtaLoads: laid · RtaResponses: laid · RtaAll: laid.
  DERIVED. THE GIVEN ROWS OF THIS SEAT. 6 by the template 'for every input the law returns true; each argument reads behind the call as it read before'; 0 by the template 'total and deterministic' (their statements: YthhbhbfkbncegaaGreatDoorTotals.lean).
  GIVEN WITH THE SEED: the statements are not yours to turn. If you find one false, say at which input.
  Laid BY PROGRAM, IN A SANDBOX (cutbox-rows.mjs): the forced cells as the released guide's own fill.sh prints them over the translation 17ddc2f88a20a307… (all of the seat's roots in one cut). By AI agents, Wed Nov 11 2026. No macro, syntax, notation, axiom, sorry.
-/
import Derived.Test.YthhbhbfkbncegaaGreatDoorChecked
import GoSem.Claim
import GoSem.ClaimJoined
import GoSem.ClaimMapViews
import Derived.JoinedTies
import Derived.KernelRfl
namespace Go.Proofs.YthhbhbfkbncegaaGreatDoor
/- THE CELL 'sum', in the pinned program and in every row, IS THE sha256 OF THE DUMP (.gsa) THAT YthhbhbfkbncegaaGreatDoorProg.lean LOADS. Nothing in Lean hashes anything: it is a label: what it is worth is what the hold of that sum in a sandbox is worth. -/
noncomputable def Tryz.pinned : Pinned := { name := "ythhbhbfkbncegaagreatdoor", sum := "17ddc2f88a20a3073153921601ad44ea5d360ba6ed2beec71fd63c0d5a04cee7", checked := Tryz.checked }
namespace Rows
def none {H : Type} : Left H := { results := [], args := [] }

/- WHAT THE LISTED PACKAGE-LEVEL VARIABLES READ AS WHEN THE CALL BEGINS. Each datum BY PROGRAM (the guide's laid-datum.mjs) off the statement by which the dump's own 'gosem.cut.vars' lays the variable. In a bare row this is a premise. The card (YthhbhbfkbncegaaGreatDoorCards.lean) ties it to the program's text. -/
def laid_coxswain_isa_bounds {H : Type} : DataW H := .agg [.agg [.lit (.int .i64 0), .lit (.int .i64 0)], .agg [.lit (.int .i64 0), .lit (.int .i64 7)], .agg [.lit (.int .i64 0), .lit (.int .i64 7)], .agg [.lit (.int .i64 1), .lit (.int .i64 255)], .agg [.lit (.int .i64 0), .lit (.int .i64 63)], .agg [.lit (.int .i64 0), .lit (.int .i64 63)], .agg [.lit (.int .i64 0), .lit (.int .i64 4294967295)]]
def laid_coxswain_isa_kinds {H : Type} : DataW H := .agg [.agg [.lit (.string [110, 111, 112]), .agg [.lit (.int .i64 0), .lit (.int .i64 0), .lit (.int .i64 0), .lit (.int .i64 0)], .lit (.string []), .lit (.string [])], .agg [.lit (.string [115, 101, 116]), .agg [.lit (.int .i64 1), .lit (.int .i64 0), .lit (.int .i64 0), .lit (.int .i64 6)], .lit (.string []), .lit (.string [65])], .agg [.lit (.string [109, 111, 118, 101]), .agg [.lit (.int .i64 1), .lit (.int .i64 1), .lit (.int .i64 0), .lit (.int .i64 0)], .lit (.string [66]), .lit (.string [65])], .agg [.lit (.string [97, 100, 100]), .agg [.lit (.int .i64 1), .lit (.int .i64 1), .lit (.int .i64 1), .lit (.int .i64 0)], .lit (.string [66, 67]), .lit (.string [65])], .agg [.lit (.string [115, 117, 98]), .agg [.lit (.int .i64 1), .lit (.int .i64 1), .lit (.int .i64 1), .lit (.int .i64 0)], .lit (.string [66, 67]), .lit (.string [65])], .agg [.lit (.string [109, 117, 108]), .agg [.lit (.int .i64 1), .lit (.int .i64 1), .lit (.int .i64 1), .lit (.int .i64 0)], .lit (.string [66, 67]), .lit (.string [65])], .agg [.lit (.string [97, 110, 100]), .agg [.lit (.int .i64 1), .lit (.int .i64 1), .lit (.int .i64 1), .lit (.int .i64 0)], .lit (.string [66, 67]), .lit (.string [65])], .agg [.lit (.string [111, 114]), .agg [.lit (.int .i64 1), .lit (.int .i64 1), .lit (.int .i64 1), .lit (.int .i64 0)], .lit (.string [66, 67]), .lit (.string [65])], .agg [.lit (.string [120, 111, 114]), .agg [.lit (.int .i64 1), .lit (.int .i64 1), .lit (.int .i64 1), .lit (.int .i64 0)], .lit (.string [66, 67]), .lit (.string [65])], .agg [.lit (.string [108, 101, 115, 115]), .agg [.lit (.int .i64 1), .lit (.int .i64 1), .lit (.int .i64 1), .lit (.int .i64 0)], .lit (.string [66, 67]), .lit (.string [65])], .agg [.lit (.string [101, 113, 117, 97, 108]), .agg [.lit (.int .i64 1), .lit (.int .i64 1), .lit (.int .i64 1), .lit (.int .i64 0)], .lit (.string [66, 67]), .lit (.string [65])], .agg [.lit (.string [108, 111, 97, 100]), .agg [.lit (.int .i64 1), .lit (.int .i64 1), .lit (.int .i64 0), .lit (.int .i64 6)], .lit (.string [66]), .lit (.string [65])], .agg [.lit (.string [115, 116, 111, 114, 101]), .agg [.lit (.int .i64 1), .lit (.int .i64 1), .lit (.int .i64 0), .lit (.int .i64 6)], .lit (.string [65, 66]), .lit (.string [])], .agg [.lit (.string [99, 97, 115]), .agg [.lit (.int .i64 1), .lit (.int .i64 1), .lit (.int .i64 1), .lit (.int .i64 6)], .lit (.string [65, 66, 67]), .lit (.string [65])], .agg [.lit (.string [106, 117, 109, 112]), .agg [.lit (.int .i64 0), .lit (.int .i64 0), .lit (.int .i64 0), .lit (.int .i64 4)], .lit (.string []), .lit (.string [])], .agg [.lit (.string [122, 101, 114, 111]), .agg [.lit (.int .i64 1), .lit (.int .i64 0), .lit (.int .i64 0), .lit (.int .i64 4)], .lit (.string [65]), .lit (.string [])], .agg [.lit (.string [98, 97, 99, 107]), .agg [.lit (.int .i64 0), .lit (.int .i64 0), .lit (.int .i64 3), .lit (.int .i64 4)], .lit (.string []), .lit (.string [])], .agg [.lit (.string [114, 101, 97, 100]), .agg [.lit (.int .i64 1), .lit (.int .i64 2), .lit (.int .i64 0), .lit (.int .i64 5)], .lit (.string []), .lit (.string [65])], .agg [.lit (.string [119, 114, 105, 116, 101]), .agg [.lit (.int .i64 1), .lit (.int .i64 2), .lit (.int .i64 0), .lit (.int .i64 5)], .lit (.string []), .lit (.string [65])], .agg [.lit (.string [112, 117, 116]), .agg [.lit (.int .i64 1), .lit (.int .i64 2), .lit (.int .i64 0), .lit (.int .i64 5)], .lit (.string []), .lit (.string [65])], .agg [.lit (.string [116, 97, 107, 101]), .agg [.lit (.int .i64 1), .lit (.int .i64 2), .lit (.int .i64 0), .lit (.int .i64 5)], .lit (.string []), .lit (.string [65])], .agg [.lit (.string [100, 111, 110, 101]), .agg [.lit (.int .i64 0), .lit (.int .i64 0), .lit (.int .i64 0), .lit (.int .i64 0)], .lit (.string []), .lit (.string [])]]

/-- 'coxswainlaw37.InterfereTells': WHATEVER THE INPUT: true; the input reads as it did. -/
def interfereTellsSpec : ChangeSpec := { name := "interfereTells", fn := fun _ => fun
  | [d1, d2, d3] => { results := [.lit (.bool true)], args := [d1, d2, d3] }
  | _ => none }
def interfereTellsRow : OpenClaim := { program := "ythhbhbfkbncegaagreatdoor", sum := "17ddc2f88a20a3073153921601ad44ea5d360ba6ed2beec71fd63c0d5a04cee7", func := "coxswain/coxswainlaw37.InterfereTells", spec := "interfereTells", unfollowed := true, recurses := true, named := ["coxswain/isa.kinds", "coxswain/isa.bounds"], apart := false, laid := [("coxswain/isa.bounds", laid_coxswain_isa_bounds), ("coxswain/isa.kinds", laid_coxswain_isa_kinds)] }
def InterfereTellsSaid : Prop := interfereTellsRow.holds Tryz.pinned (OpenSpec.ofChange interfereTellsSpec)

/-- ITS FALSE NEIGHBOUR: 'it returns false'. Refute it at one input. -/
def interfereTellsWrong : ChangeSpec := { name := "interfereTells", fn := fun _ => fun
  | [d1, d2, d3] => { results := [.lit (.bool false)], args := [d1, d2, d3] }
  | _ => none }
def InterfereTellsWrongFalsely : Prop := interfereTellsRow.holds Tryz.pinned (OpenSpec.ofChange interfereTellsWrong)

/-- 'coxswainlaw37.InterfereGrows': WHATEVER THE INPUT: true; the input reads as it did. -/
def interfereGrowsSpec : ChangeSpec := { name := "interfereGrows", fn := fun _ => fun
  | [d1, d2, d3] => { results := [.lit (.bool true)], args := [d1, d2, d3] }
  | _ => none }
def interfereGrowsRow : OpenClaim := { program := "ythhbhbfkbncegaagreatdoor", sum := "17ddc2f88a20a3073153921601ad44ea5d360ba6ed2beec71fd63c0d5a04cee7", func := "coxswain/coxswainlaw37.InterfereGrows", spec := "interfereGrows", unfollowed := true, recurses := true, named := ["coxswain/isa.kinds", "coxswain/isa.bounds"], apart := false, laid := [("coxswain/isa.bounds", laid_coxswain_isa_bounds), ("coxswain/isa.kinds", laid_coxswain_isa_kinds)] }
def InterfereGrowsSaid : Prop := interfereGrowsRow.holds Tryz.pinned (OpenSpec.ofChange interfereGrowsSpec)

/-- ITS FALSE NEIGHBOUR: 'it returns false'. Refute it at one input. -/
def interfereGrowsWrong : ChangeSpec := { name := "interfereGrows", fn := fun _ => fun
  | [d1, d2, d3] => { results := [.lit (.bool false)], args := [d1, d2, d3] }
  | _ => none }
def InterfereGrowsWrongFalsely : Prop := interfereGrowsRow.holds Tryz.pinned (OpenSpec.ofChange interfereGrowsWrong)

/-- 'coxswainlaw37.InterfereNone': WHATEVER THE INPUT: true; the input reads as it did. -/
def interfereNoneSpec : ChangeSpec := { name := "interfereNone", fn := fun _ => fun
  | [d1, d2, d3] => { results := [.lit (.bool true)], args := [d1, d2, d3] }
  | _ => none }
def interfereNoneRow : OpenClaim := { program := "ythhbhbfkbncegaagreatdoor", sum := "17ddc2f88a20a3073153921601ad44ea5d360ba6ed2beec71fd63c0d5a04cee7", func := "coxswain/coxswainlaw37.InterfereNone", spec := "interfereNone", unfollowed := true, recurses := true, named := ["coxswain/isa.kinds", "coxswain/isa.bounds"], apart := false, laid := [("coxswain/isa.bounds", laid_coxswain_isa_bounds), ("coxswain/isa.kinds", laid_coxswain_isa_kinds)] }
def InterfereNoneSaid : Prop := interfereNoneRow.holds Tryz.pinned (OpenSpec.ofChange interfereNoneSpec)

/-- ITS FALSE NEIGHBOUR: 'it returns false'. Refute it at one input. -/
def interfereNoneWrong : ChangeSpec := { name := "interfereNone", fn := fun _ => fun
  | [d1, d2, d3] => { results := [.lit (.bool false)], args := [d1, d2, d3] }
  | _ => none }
def InterfereNoneWrongFalsely : Prop := interfereNoneRow.holds Tryz.pinned (OpenSpec.ofChange interfereNoneWrong)

/-- 'coxswainlaw38.RtaLoads': WHATEVER THE INPUT: true; the input reads as it did. -/
def rtaLoadsSpec : ChangeSpec := { name := "rtaLoads", fn := fun _ => fun
  | [d1, d2, d3] => { results := [.lit (.bool true)], args := [d1, d2, d3] }
  | _ => none }
def rtaLoadsRow : OpenClaim := { program := "ythhbhbfkbncegaagreatdoor", sum := "17ddc2f88a20a3073153921601ad44ea5d360ba6ed2beec71fd63c0d5a04cee7", func := "coxswain/coxswainlaw38.RtaLoads", spec := "rtaLoads", unfollowed := true, recurses := true, named := ["coxswain/isa.kinds", "coxswain/isa.bounds"], apart := false, laid := [("coxswain/isa.bounds", laid_coxswain_isa_bounds), ("coxswain/isa.kinds", laid_coxswain_isa_kinds)] }
def RtaLoadsSaid : Prop := rtaLoadsRow.holds Tryz.pinned (OpenSpec.ofChange rtaLoadsSpec)

/-- ITS FALSE NEIGHBOUR: 'it returns false'. Refute it at one input. -/
def rtaLoadsWrong : ChangeSpec := { name := "rtaLoads", fn := fun _ => fun
  | [d1, d2, d3] => { results := [.lit (.bool false)], args := [d1, d2, d3] }
  | _ => none }
def RtaLoadsWrongFalsely : Prop := rtaLoadsRow.holds Tryz.pinned (OpenSpec.ofChange rtaLoadsWrong)

/-- 'coxswainlaw38.RtaResponses': WHATEVER THE INPUT: true; the input reads as it did. -/
def rtaResponsesSpec : ChangeSpec := { name := "rtaResponses", fn := fun _ => fun
  | [d1, d2, d3] => { results := [.lit (.bool true)], args := [d1, d2, d3] }
  | _ => none }
def rtaResponsesRow : OpenClaim := { program := "ythhbhbfkbncegaagreatdoor", sum := "17ddc2f88a20a3073153921601ad44ea5d360ba6ed2beec71fd63c0d5a04cee7", func := "coxswain/coxswainlaw38.RtaResponses", spec := "rtaResponses", unfollowed := true, recurses := true, named := ["coxswain/isa.kinds", "coxswain/isa.bounds"], apart := false, laid := [("coxswain/isa.bounds", laid_coxswain_isa_bounds), ("coxswain/isa.kinds", laid_coxswain_isa_kinds)] }
def RtaResponsesSaid : Prop := rtaResponsesRow.holds Tryz.pinned (OpenSpec.ofChange rtaResponsesSpec)

/-- ITS FALSE NEIGHBOUR: 'it returns false'. Refute it at one input. -/
def rtaResponsesWrong : ChangeSpec := { name := "rtaResponses", fn := fun _ => fun
  | [d1, d2, d3] => { results := [.lit (.bool false)], args := [d1, d2, d3] }
  | _ => none }
def RtaResponsesWrongFalsely : Prop := rtaResponsesRow.holds Tryz.pinned (OpenSpec.ofChange rtaResponsesWrong)

/-- 'coxswainlaw38.RtaAll': WHATEVER THE INPUT: true; the input reads as it did. -/
def rtaAllSpec : ChangeSpec := { name := "rtaAll", fn := fun _ => fun
  | [d] => { results := [.lit (.bool true)], args := [d] }
  | _ => none }
def rtaAllRow : OpenClaim := { program := "ythhbhbfkbncegaagreatdoor", sum := "17ddc2f88a20a3073153921601ad44ea5d360ba6ed2beec71fd63c0d5a04cee7", func := "coxswain/coxswainlaw38.RtaAll", spec := "rtaAll", unfollowed := true, recurses := true, named := ["coxswain/isa.kinds", "coxswain/isa.bounds"], apart := false, laid := [("coxswain/isa.bounds", laid_coxswain_isa_bounds), ("coxswain/isa.kinds", laid_coxswain_isa_kinds)] }
def RtaAllSaid : Prop := rtaAllRow.holds Tryz.pinned (OpenSpec.ofChange rtaAllSpec)

/-- ITS FALSE NEIGHBOUR: 'it returns false'. Refute it at one input. -/
def rtaAllWrong : ChangeSpec := { name := "rtaAll", fn := fun _ => fun
  | [d] => { results := [.lit (.bool false)], args := [d] }
  | _ => none }
def RtaAllWrongFalsely : Prop := rtaAllRow.holds Tryz.pinned (OpenSpec.ofChange rtaAllWrong)

/- THE SECOND FORM. 'bulk': how many values and letters a reading holds, each counted each time it is reached (what is shared counts as often as it is met; a slice's spare places count too). A statement '..UptoSaid' is the law's where the arguments, and the package variables that the reading takes, are together of bulk at most 1048576: NARROWER than '..Said'. Prove '..Said' where nothing that the law and all that it calls make is longer than what came in: it says more and counts as full. Else prove '..UptoSaid'. A law counts once. -/
mutual
def uptoBulk {H : Type} : DataW H → Nat
  | .lit (.string bytes) => bytes.length + 1
  | .lit _ => 1
  | .nil => 1
  | .ptr d => uptoBulk d + 1
  | .slice elems spare => uptoBulkAll elems + uptoBulkAll spare + 1
  | .agg parts => uptoBulkAll parts + 1
  | .iface _ d => uptoBulk d + 1
  | .map entries => uptoBulkEntries entries + 1
  | .held _ => 1
def uptoBulkAll {H : Type} : List (DataW H) → Nat
  | [] => 0
  | d :: r => uptoBulk d + uptoBulkAll r
def uptoBulkEntries {H : Type} : List (Lit × DataW H) → Nat
  | [] => 0
  | x :: r => uptoBulkEntry x + uptoBulkEntries r
def uptoBulkEntry {H : Type} : Lit × DataW H → Nat
  | (.string bytes, d) => bytes.length + uptoBulk d + 1
  | (_, d) => uptoBulk d + 1
 end
def uptoSmall : (H : Type) → List (DataW H) → Bool := fun _ ds => decide (uptoBulkAll ds ≤ 1048576)
def OpenSpec.upto (s : _root_.Go.ChangeSpec) : _root_.Go.OpenSpec := { _root_.Go.OpenSpec.ofChange s with cond := some uptoSmall }

/-- 'coxswainlaw37.InterfereTells', WHERE WHAT IT READS IS OF BULK AT MOST 1048576: true; the input reads as it did. -/
def interfereTellsUptoRow : OpenClaim := { program := "ythhbhbfkbncegaagreatdoor", sum := "17ddc2f88a20a3073153921601ad44ea5d360ba6ed2beec71fd63c0d5a04cee7", func := "coxswain/coxswainlaw37.InterfereTells", spec := "interfereTells", unfollowed := true, recurses := true, named := ["coxswain/isa.kinds", "coxswain/isa.bounds"], apart := false, laid := [("coxswain/isa.bounds", laid_coxswain_isa_bounds), ("coxswain/isa.kinds", laid_coxswain_isa_kinds)], narrowed := true }
def InterfereTellsUptoSaid : Prop := interfereTellsUptoRow.holds Tryz.pinned (OpenSpec.upto interfereTellsSpec)

/-- 'coxswainlaw37.InterfereGrows', WHERE WHAT IT READS IS OF BULK AT MOST 1048576: true; the input reads as it did. -/
def interfereGrowsUptoRow : OpenClaim := { program := "ythhbhbfkbncegaagreatdoor", sum := "17ddc2f88a20a3073153921601ad44ea5d360ba6ed2beec71fd63c0d5a04cee7", func := "coxswain/coxswainlaw37.InterfereGrows", spec := "interfereGrows", unfollowed := true, recurses := true, named := ["coxswain/isa.kinds", "coxswain/isa.bounds"], apart := false, laid := [("coxswain/isa.bounds", laid_coxswain_isa_bounds), ("coxswain/isa.kinds", laid_coxswain_isa_kinds)], narrowed := true }
def InterfereGrowsUptoSaid : Prop := interfereGrowsUptoRow.holds Tryz.pinned (OpenSpec.upto interfereGrowsSpec)

/-- 'coxswainlaw37.InterfereNone', WHERE WHAT IT READS IS OF BULK AT MOST 1048576: true; the input reads as it did. -/
def interfereNoneUptoRow : OpenClaim := { program := "ythhbhbfkbncegaagreatdoor", sum := "17ddc2f88a20a3073153921601ad44ea5d360ba6ed2beec71fd63c0d5a04cee7", func := "coxswain/coxswainlaw37.InterfereNone", spec := "interfereNone", unfollowed := true, recurses := true, named := ["coxswain/isa.kinds", "coxswain/isa.bounds"], apart := false, laid := [("coxswain/isa.bounds", laid_coxswain_isa_bounds), ("coxswain/isa.kinds", laid_coxswain_isa_kinds)], narrowed := true }
def InterfereNoneUptoSaid : Prop := interfereNoneUptoRow.holds Tryz.pinned (OpenSpec.upto interfereNoneSpec)

/-- 'coxswainlaw38.RtaLoads', WHERE WHAT IT READS IS OF BULK AT MOST 1048576: true; the input reads as it did. -/
def rtaLoadsUptoRow : OpenClaim := { program := "ythhbhbfkbncegaagreatdoor", sum := "17ddc2f88a20a3073153921601ad44ea5d360ba6ed2beec71fd63c0d5a04cee7", func := "coxswain/coxswainlaw38.RtaLoads", spec := "rtaLoads", unfollowed := true, recurses := true, named := ["coxswain/isa.kinds", "coxswain/isa.bounds"], apart := false, laid := [("coxswain/isa.bounds", laid_coxswain_isa_bounds), ("coxswain/isa.kinds", laid_coxswain_isa_kinds)], narrowed := true }
def RtaLoadsUptoSaid : Prop := rtaLoadsUptoRow.holds Tryz.pinned (OpenSpec.upto rtaLoadsSpec)

/-- 'coxswainlaw38.RtaResponses', WHERE WHAT IT READS IS OF BULK AT MOST 1048576: true; the input reads as it did. -/
def rtaResponsesUptoRow : OpenClaim := { program := "ythhbhbfkbncegaagreatdoor", sum := "17ddc2f88a20a3073153921601ad44ea5d360ba6ed2beec71fd63c0d5a04cee7", func := "coxswain/coxswainlaw38.RtaResponses", spec := "rtaResponses", unfollowed := true, recurses := true, named := ["coxswain/isa.kinds", "coxswain/isa.bounds"], apart := false, laid := [("coxswain/isa.bounds", laid_coxswain_isa_bounds), ("coxswain/isa.kinds", laid_coxswain_isa_kinds)], narrowed := true }
def RtaResponsesUptoSaid : Prop := rtaResponsesUptoRow.holds Tryz.pinned (OpenSpec.upto rtaResponsesSpec)

/-- 'coxswainlaw38.RtaAll', WHERE WHAT IT READS IS OF BULK AT MOST 1048576: true; the input reads as it did. -/
def rtaAllUptoRow : OpenClaim := { program := "ythhbhbfkbncegaagreatdoor", sum := "17ddc2f88a20a3073153921601ad44ea5d360ba6ed2beec71fd63c0d5a04cee7", func := "coxswain/coxswainlaw38.RtaAll", spec := "rtaAll", unfollowed := true, recurses := true, named := ["coxswain/isa.kinds", "coxswain/isa.bounds"], apart := false, laid := [("coxswain/isa.bounds", laid_coxswain_isa_bounds), ("coxswain/isa.kinds", laid_coxswain_isa_kinds)], narrowed := true }
def RtaAllUptoSaid : Prop := rtaAllUptoRow.holds Tryz.pinned (OpenSpec.upto rtaAllSpec)

end Rows
end Go.Proofs.YthhbhbfkbncegaaGreatDoor
