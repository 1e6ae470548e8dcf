/-
  NARROWER THAN 'FOR EVERY INPUT', by the rows' own cells (each row's printed sentence says how): CostTells: laid · CostWalks: laid · FrameGoes: laid · PathsWalks: laid · PathsOften: laid · PathsCounts: laid.
  DERIVED. THE GIVEN ROWS OF THIS SEAT. 6 by the template 'for every input the law returns true; each argument reads behind the call as it read before'; 0 by the template 'total and deterministic' (their statements: YtnlndkpjfgpodaaDoorTotals.lean).
  GIVEN WITH THE SEED: the statements are not yours to turn. If you find one false, say at which input.
  Laid BY PROGRAM, IN A SANDBOX (cutbox-rows.mjs): the forced cells as the released guide's own fill.sh prints them over the translation 59bae8dc8a7bee6a… (all of the seat's roots in one cut). By AI agents, Wed Nov 11 2026. No macro, syntax, notation, axiom, sorry.
-/
import Derived.Test.YtnlndkpjfgpodaaDoorChecked
import GoSem.Claim
import GoSem.ClaimJoined
import GoSem.ClaimMapViews
import Derived.JoinedTies
import Derived.KernelRfl
namespace Go.Proofs.YtnlndkpjfgpodaaDoor
/- THE CELL 'sum', in the pinned program and in every row, IS THE sha256 OF THE DUMP (.gsa) THAT YtnlndkpjfgpodaaDoorProg.lean LOADS. Nothing in Lean hashes anything: it is a label: what it is worth is what the hold of that sum in a sandbox is worth. -/
noncomputable def Tryd.pinned : Pinned := { name := "ytnlndkpjfgpodaadoor", sum := "59bae8dc8a7bee6a6d4fdade68709da9f65b223f9690205bb5b5b6cb5c2d5326", checked := Tryd.checked }
namespace Rows
def none {H : Type} : Left H := { results := [], args := [] }

/- WHAT THE LISTED PACKAGE-LEVEL VARIABLES READ AS WHEN THE CALL BEGINS. Each datum BY PROGRAM (the guide's laid-datum.mjs) off the statement by which the dump's own 'gosem.cut.vars' lays the variable. In a bare row this is a premise. The card (YtnlndkpjfgpodaaDoorCards.lean) ties it to the program's text. -/
def laid_coxswain_isa_bounds {H : Type} : DataW H := .agg [.agg [.lit (.int .i64 0), .lit (.int .i64 0)], .agg [.lit (.int .i64 0), .lit (.int .i64 7)], .agg [.lit (.int .i64 0), .lit (.int .i64 7)], .agg [.lit (.int .i64 1), .lit (.int .i64 255)], .agg [.lit (.int .i64 0), .lit (.int .i64 63)], .agg [.lit (.int .i64 0), .lit (.int .i64 63)], .agg [.lit (.int .i64 0), .lit (.int .i64 4294967295)]]
def laid_coxswain_isa_kinds {H : Type} : DataW H := .agg [.agg [.lit (.string [110, 111, 112]), .agg [.lit (.int .i64 0), .lit (.int .i64 0), .lit (.int .i64 0), .lit (.int .i64 0)], .lit (.string []), .lit (.string [])], .agg [.lit (.string [115, 101, 116]), .agg [.lit (.int .i64 1), .lit (.int .i64 0), .lit (.int .i64 0), .lit (.int .i64 6)], .lit (.string []), .lit (.string [65])], .agg [.lit (.string [109, 111, 118, 101]), .agg [.lit (.int .i64 1), .lit (.int .i64 1), .lit (.int .i64 0), .lit (.int .i64 0)], .lit (.string [66]), .lit (.string [65])], .agg [.lit (.string [97, 100, 100]), .agg [.lit (.int .i64 1), .lit (.int .i64 1), .lit (.int .i64 1), .lit (.int .i64 0)], .lit (.string [66, 67]), .lit (.string [65])], .agg [.lit (.string [115, 117, 98]), .agg [.lit (.int .i64 1), .lit (.int .i64 1), .lit (.int .i64 1), .lit (.int .i64 0)], .lit (.string [66, 67]), .lit (.string [65])], .agg [.lit (.string [109, 117, 108]), .agg [.lit (.int .i64 1), .lit (.int .i64 1), .lit (.int .i64 1), .lit (.int .i64 0)], .lit (.string [66, 67]), .lit (.string [65])], .agg [.lit (.string [97, 110, 100]), .agg [.lit (.int .i64 1), .lit (.int .i64 1), .lit (.int .i64 1), .lit (.int .i64 0)], .lit (.string [66, 67]), .lit (.string [65])], .agg [.lit (.string [111, 114]), .agg [.lit (.int .i64 1), .lit (.int .i64 1), .lit (.int .i64 1), .lit (.int .i64 0)], .lit (.string [66, 67]), .lit (.string [65])], .agg [.lit (.string [120, 111, 114]), .agg [.lit (.int .i64 1), .lit (.int .i64 1), .lit (.int .i64 1), .lit (.int .i64 0)], .lit (.string [66, 67]), .lit (.string [65])], .agg [.lit (.string [108, 101, 115, 115]), .agg [.lit (.int .i64 1), .lit (.int .i64 1), .lit (.int .i64 1), .lit (.int .i64 0)], .lit (.string [66, 67]), .lit (.string [65])], .agg [.lit (.string [101, 113, 117, 97, 108]), .agg [.lit (.int .i64 1), .lit (.int .i64 1), .lit (.int .i64 1), .lit (.int .i64 0)], .lit (.string [66, 67]), .lit (.string [65])], .agg [.lit (.string [108, 111, 97, 100]), .agg [.lit (.int .i64 1), .lit (.int .i64 1), .lit (.int .i64 0), .lit (.int .i64 6)], .lit (.string [66]), .lit (.string [65])], .agg [.lit (.string [115, 116, 111, 114, 101]), .agg [.lit (.int .i64 1), .lit (.int .i64 1), .lit (.int .i64 0), .lit (.int .i64 6)], .lit (.string [65, 66]), .lit (.string [])], .agg [.lit (.string [99, 97, 115]), .agg [.lit (.int .i64 1), .lit (.int .i64 1), .lit (.int .i64 1), .lit (.int .i64 6)], .lit (.string [65, 66, 67]), .lit (.string [65])], .agg [.lit (.string [106, 117, 109, 112]), .agg [.lit (.int .i64 0), .lit (.int .i64 0), .lit (.int .i64 0), .lit (.int .i64 4)], .lit (.string []), .lit (.string [])], .agg [.lit (.string [122, 101, 114, 111]), .agg [.lit (.int .i64 1), .lit (.int .i64 0), .lit (.int .i64 0), .lit (.int .i64 4)], .lit (.string [65]), .lit (.string [])], .agg [.lit (.string [98, 97, 99, 107]), .agg [.lit (.int .i64 0), .lit (.int .i64 0), .lit (.int .i64 3), .lit (.int .i64 4)], .lit (.string []), .lit (.string [])], .agg [.lit (.string [114, 101, 97, 100]), .agg [.lit (.int .i64 1), .lit (.int .i64 2), .lit (.int .i64 0), .lit (.int .i64 5)], .lit (.string []), .lit (.string [65])], .agg [.lit (.string [119, 114, 105, 116, 101]), .agg [.lit (.int .i64 1), .lit (.int .i64 2), .lit (.int .i64 0), .lit (.int .i64 5)], .lit (.string []), .lit (.string [65])], .agg [.lit (.string [112, 117, 116]), .agg [.lit (.int .i64 1), .lit (.int .i64 2), .lit (.int .i64 0), .lit (.int .i64 5)], .lit (.string []), .lit (.string [65])], .agg [.lit (.string [116, 97, 107, 101]), .agg [.lit (.int .i64 1), .lit (.int .i64 2), .lit (.int .i64 0), .lit (.int .i64 5)], .lit (.string []), .lit (.string [65])], .agg [.lit (.string [100, 111, 110, 101]), .agg [.lit (.int .i64 0), .lit (.int .i64 0), .lit (.int .i64 0), .lit (.int .i64 0)], .lit (.string []), .lit (.string [])]]

/-- 'coxswainlaw12.CostTells': WHATEVER THE INPUT: true; the input reads as it did. -/
def costTellsSpec : ChangeSpec := { name := "costTells", fn := fun _ => fun
  | [d1, d2] => { results := [.lit (.bool true)], args := [d1, d2] }
  | _ => none }
def costTellsRow : OpenClaim := { program := "ytnlndkpjfgpodaadoor", sum := "59bae8dc8a7bee6a6d4fdade68709da9f65b223f9690205bb5b5b6cb5c2d5326", func := "coxswain/coxswainlaw12.CostTells", spec := "costTells", unfollowed := true, recurses := true, named := ["coxswain/isa.kinds", "coxswain/isa.bounds"], apart := false, laid := [("coxswain/isa.bounds", laid_coxswain_isa_bounds), ("coxswain/isa.kinds", laid_coxswain_isa_kinds)] }
def CostTellsSaid : Prop := costTellsRow.holds Tryd.pinned (OpenSpec.ofChange costTellsSpec)

/-- ITS FALSE NEIGHBOUR: 'it returns false'. Refute it at one input. -/
def costTellsWrong : ChangeSpec := { name := "costTells", fn := fun _ => fun
  | [d1, d2] => { results := [.lit (.bool false)], args := [d1, d2] }
  | _ => none }
def CostTellsWrongFalsely : Prop := costTellsRow.holds Tryd.pinned (OpenSpec.ofChange costTellsWrong)

/-- 'coxswainlaw12.CostWalks': WHATEVER THE INPUT: true; the input reads as it did. -/
def costWalksSpec : ChangeSpec := { name := "costWalks", fn := fun _ => fun
  | [d1, d2, d3] => { results := [.lit (.bool true)], args := [d1, d2, d3] }
  | _ => none }
def costWalksRow : OpenClaim := { program := "ytnlndkpjfgpodaadoor", sum := "59bae8dc8a7bee6a6d4fdade68709da9f65b223f9690205bb5b5b6cb5c2d5326", func := "coxswain/coxswainlaw12.CostWalks", spec := "costWalks", unfollowed := true, recurses := true, named := ["coxswain/isa.kinds", "coxswain/isa.bounds"], apart := false, laid := [("coxswain/isa.bounds", laid_coxswain_isa_bounds), ("coxswain/isa.kinds", laid_coxswain_isa_kinds)] }
def CostWalksSaid : Prop := costWalksRow.holds Tryd.pinned (OpenSpec.ofChange costWalksSpec)

/-- ITS FALSE NEIGHBOUR: 'it returns false'. Refute it at one input. -/
def costWalksWrong : ChangeSpec := { name := "costWalks", fn := fun _ => fun
  | [d1, d2, d3] => { results := [.lit (.bool false)], args := [d1, d2, d3] }
  | _ => none }
def CostWalksWrongFalsely : Prop := costWalksRow.holds Tryd.pinned (OpenSpec.ofChange costWalksWrong)

/-- 'coxswainlaw13.FrameGoes': WHATEVER THE INPUT: true; the input reads as it did. -/
def frameGoesSpec : ChangeSpec := { name := "frameGoes", fn := fun _ => fun
  | [d] => { results := [.lit (.bool true)], args := [d] }
  | _ => none }
def frameGoesRow : OpenClaim := { program := "ytnlndkpjfgpodaadoor", sum := "59bae8dc8a7bee6a6d4fdade68709da9f65b223f9690205bb5b5b6cb5c2d5326", func := "coxswain/coxswainlaw13.FrameGoes", spec := "frameGoes", unfollowed := true, recurses := true, named := ["coxswain/isa.kinds", "coxswain/isa.bounds"], apart := false, laid := [("coxswain/isa.bounds", laid_coxswain_isa_bounds), ("coxswain/isa.kinds", laid_coxswain_isa_kinds)] }
def FrameGoesSaid : Prop := frameGoesRow.holds Tryd.pinned (OpenSpec.ofChange frameGoesSpec)

/-- ITS FALSE NEIGHBOUR: 'it returns false'. Refute it at one input. -/
def frameGoesWrong : ChangeSpec := { name := "frameGoes", fn := fun _ => fun
  | [d] => { results := [.lit (.bool false)], args := [d] }
  | _ => none }
def FrameGoesWrongFalsely : Prop := frameGoesRow.holds Tryd.pinned (OpenSpec.ofChange frameGoesWrong)

/-- 'coxswainlaw11.PathsWalks': WHATEVER THE INPUT: true; the input reads as it did. -/
def pathsWalksSpec : ChangeSpec := { name := "pathsWalks", fn := fun _ => fun
  | [d1, d2, d3] => { results := [.lit (.bool true)], args := [d1, d2, d3] }
  | _ => none }
def pathsWalksRow : OpenClaim := { program := "ytnlndkpjfgpodaadoor", sum := "59bae8dc8a7bee6a6d4fdade68709da9f65b223f9690205bb5b5b6cb5c2d5326", func := "coxswain/coxswainlaw11.PathsWalks", spec := "pathsWalks", unfollowed := true, recurses := true, named := ["coxswain/isa.kinds", "coxswain/isa.bounds"], apart := false, laid := [("coxswain/isa.bounds", laid_coxswain_isa_bounds), ("coxswain/isa.kinds", laid_coxswain_isa_kinds)] }
def PathsWalksSaid : Prop := pathsWalksRow.holds Tryd.pinned (OpenSpec.ofChange pathsWalksSpec)

/-- ITS FALSE NEIGHBOUR: 'it returns false'. Refute it at one input. -/
def pathsWalksWrong : ChangeSpec := { name := "pathsWalks", fn := fun _ => fun
  | [d1, d2, d3] => { results := [.lit (.bool false)], args := [d1, d2, d3] }
  | _ => none }
def PathsWalksWrongFalsely : Prop := pathsWalksRow.holds Tryd.pinned (OpenSpec.ofChange pathsWalksWrong)

/-- 'coxswainlaw11.PathsOften': WHATEVER THE INPUT: true; the input reads as it did. -/
def pathsOftenSpec : ChangeSpec := { name := "pathsOften", fn := fun _ => fun
  | [d1, d2, d3] => { results := [.lit (.bool true)], args := [d1, d2, d3] }
  | _ => none }
def pathsOftenRow : OpenClaim := { program := "ytnlndkpjfgpodaadoor", sum := "59bae8dc8a7bee6a6d4fdade68709da9f65b223f9690205bb5b5b6cb5c2d5326", func := "coxswain/coxswainlaw11.PathsOften", spec := "pathsOften", unfollowed := true, recurses := true, named := ["coxswain/isa.kinds", "coxswain/isa.bounds"], apart := false, laid := [("coxswain/isa.bounds", laid_coxswain_isa_bounds), ("coxswain/isa.kinds", laid_coxswain_isa_kinds)] }
def PathsOftenSaid : Prop := pathsOftenRow.holds Tryd.pinned (OpenSpec.ofChange pathsOftenSpec)

/-- ITS FALSE NEIGHBOUR: 'it returns false'. Refute it at one input. -/
def pathsOftenWrong : ChangeSpec := { name := "pathsOften", fn := fun _ => fun
  | [d1, d2, d3] => { results := [.lit (.bool false)], args := [d1, d2, d3] }
  | _ => none }
def PathsOftenWrongFalsely : Prop := pathsOftenRow.holds Tryd.pinned (OpenSpec.ofChange pathsOftenWrong)

/-- 'coxswainlaw11.PathsCounts': WHATEVER THE INPUT: true; the input reads as it did. -/
def pathsCountsSpec : ChangeSpec := { name := "pathsCounts", fn := fun _ => fun
  | [d] => { results := [.lit (.bool true)], args := [d] }
  | _ => none }
def pathsCountsRow : OpenClaim := { program := "ytnlndkpjfgpodaadoor", sum := "59bae8dc8a7bee6a6d4fdade68709da9f65b223f9690205bb5b5b6cb5c2d5326", func := "coxswain/coxswainlaw11.PathsCounts", spec := "pathsCounts", unfollowed := true, recurses := true, named := ["coxswain/isa.kinds", "coxswain/isa.bounds"], apart := false, laid := [("coxswain/isa.bounds", laid_coxswain_isa_bounds), ("coxswain/isa.kinds", laid_coxswain_isa_kinds)] }
def PathsCountsSaid : Prop := pathsCountsRow.holds Tryd.pinned (OpenSpec.ofChange pathsCountsSpec)

/-- ITS FALSE NEIGHBOUR: 'it returns false'. Refute it at one input. -/
def pathsCountsWrong : ChangeSpec := { name := "pathsCounts", fn := fun _ => fun
  | [d] => { results := [.lit (.bool false)], args := [d] }
  | _ => none }
def PathsCountsWrongFalsely : Prop := pathsCountsRow.holds Tryd.pinned (OpenSpec.ofChange pathsCountsWrong)

/- THE SECOND FORM. 'bulk': how many values and letters a reading holds, each counted each time it is reached (what is shared counts as often as it is met; a slice's spare places count too). A statement '..UptoSaid' is the law's where the arguments, and the package variables that the reading takes, are together of bulk at most 1048576: NARROWER than '..Said'. Prove '..Said' where nothing that the law and all that it calls make is longer than what came in: it says more and counts as full. Else prove '..UptoSaid'. A law counts once. -/
mutual
def uptoBulk {H : Type} : DataW H → Nat
  | .lit (.string bytes) => bytes.length + 1
  | .lit _ => 1
  | .nil => 1
  | .ptr d => uptoBulk d + 1
  | .slice elems spare => uptoBulkAll elems + uptoBulkAll spare + 1
  | .agg parts => uptoBulkAll parts + 1
  | .iface _ d => uptoBulk d + 1
  | .map entries => uptoBulkEntries entries + 1
  | .held _ => 1
def uptoBulkAll {H : Type} : List (DataW H) → Nat
  | [] => 0
  | d :: r => uptoBulk d + uptoBulkAll r
def uptoBulkEntries {H : Type} : List (Lit × DataW H) → Nat
  | [] => 0
  | x :: r => uptoBulkEntry x + uptoBulkEntries r
def uptoBulkEntry {H : Type} : Lit × DataW H → Nat
  | (.string bytes, d) => bytes.length + uptoBulk d + 1
  | (_, d) => uptoBulk d + 1
 end
def uptoSmall : (H : Type) → List (DataW H) → Bool := fun _ ds => decide (uptoBulkAll ds ≤ 1048576)
def OpenSpec.upto (s : _root_.Go.ChangeSpec) : _root_.Go.OpenSpec := { _root_.Go.OpenSpec.ofChange s with cond := some uptoSmall }

/-- 'coxswainlaw12.CostTells', WHERE WHAT IT READS IS OF BULK AT MOST 1048576: true; the input reads as it did. -/
def costTellsUptoRow : OpenClaim := { program := "ytnlndkpjfgpodaadoor", sum := "59bae8dc8a7bee6a6d4fdade68709da9f65b223f9690205bb5b5b6cb5c2d5326", func := "coxswain/coxswainlaw12.CostTells", spec := "costTells", unfollowed := true, recurses := true, named := ["coxswain/isa.kinds", "coxswain/isa.bounds"], apart := false, laid := [("coxswain/isa.bounds", laid_coxswain_isa_bounds), ("coxswain/isa.kinds", laid_coxswain_isa_kinds)], narrowed := true }
def CostTellsUptoSaid : Prop := costTellsUptoRow.holds Tryd.pinned (OpenSpec.upto costTellsSpec)

/-- 'coxswainlaw12.CostWalks', WHERE WHAT IT READS IS OF BULK AT MOST 1048576: true; the input reads as it did. -/
def costWalksUptoRow : OpenClaim := { program := "ytnlndkpjfgpodaadoor", sum := "59bae8dc8a7bee6a6d4fdade68709da9f65b223f9690205bb5b5b6cb5c2d5326", func := "coxswain/coxswainlaw12.CostWalks", spec := "costWalks", unfollowed := true, recurses := true, named := ["coxswain/isa.kinds", "coxswain/isa.bounds"], apart := false, laid := [("coxswain/isa.bounds", laid_coxswain_isa_bounds), ("coxswain/isa.kinds", laid_coxswain_isa_kinds)], narrowed := true }
def CostWalksUptoSaid : Prop := costWalksUptoRow.holds Tryd.pinned (OpenSpec.upto costWalksSpec)

/-- 'coxswainlaw13.FrameGoes', WHERE WHAT IT READS IS OF BULK AT MOST 1048576: true; the input reads as it did. -/
def frameGoesUptoRow : OpenClaim := { program := "ytnlndkpjfgpodaadoor", sum := "59bae8dc8a7bee6a6d4fdade68709da9f65b223f9690205bb5b5b6cb5c2d5326", func := "coxswain/coxswainlaw13.FrameGoes", spec := "frameGoes", unfollowed := true, recurses := true, named := ["coxswain/isa.kinds", "coxswain/isa.bounds"], apart := false, laid := [("coxswain/isa.bounds", laid_coxswain_isa_bounds), ("coxswain/isa.kinds", laid_coxswain_isa_kinds)], narrowed := true }
def FrameGoesUptoSaid : Prop := frameGoesUptoRow.holds Tryd.pinned (OpenSpec.upto frameGoesSpec)

/-- 'coxswainlaw11.PathsWalks', WHERE WHAT IT READS IS OF BULK AT MOST 1048576: true; the input reads as it did. -/
def pathsWalksUptoRow : OpenClaim := { program := "ytnlndkpjfgpodaadoor", sum := "59bae8dc8a7bee6a6d4fdade68709da9f65b223f9690205bb5b5b6cb5c2d5326", func := "coxswain/coxswainlaw11.PathsWalks", spec := "pathsWalks", unfollowed := true, recurses := true, named := ["coxswain/isa.kinds", "coxswain/isa.bounds"], apart := false, laid := [("coxswain/isa.bounds", laid_coxswain_isa_bounds), ("coxswain/isa.kinds", laid_coxswain_isa_kinds)], narrowed := true }
def PathsWalksUptoSaid : Prop := pathsWalksUptoRow.holds Tryd.pinned (OpenSpec.upto pathsWalksSpec)

/-- 'coxswainlaw11.PathsOften', WHERE WHAT IT READS IS OF BULK AT MOST 1048576: true; the input reads as it did. -/
def pathsOftenUptoRow : OpenClaim := { program := "ytnlndkpjfgpodaadoor", sum := "59bae8dc8a7bee6a6d4fdade68709da9f65b223f9690205bb5b5b6cb5c2d5326", func := "coxswain/coxswainlaw11.PathsOften", spec := "pathsOften", unfollowed := true, recurses := true, named := ["coxswain/isa.kinds", "coxswain/isa.bounds"], apart := false, laid := [("coxswain/isa.bounds", laid_coxswain_isa_bounds), ("coxswain/isa.kinds", laid_coxswain_isa_kinds)], narrowed := true }
def PathsOftenUptoSaid : Prop := pathsOftenUptoRow.holds Tryd.pinned (OpenSpec.upto pathsOftenSpec)

/-- 'coxswainlaw11.PathsCounts', WHERE WHAT IT READS IS OF BULK AT MOST 1048576: true; the input reads as it did. -/
def pathsCountsUptoRow : OpenClaim := { program := "ytnlndkpjfgpodaadoor", sum := "59bae8dc8a7bee6a6d4fdade68709da9f65b223f9690205bb5b5b6cb5c2d5326", func := "coxswain/coxswainlaw11.PathsCounts", spec := "pathsCounts", unfollowed := true, recurses := true, named := ["coxswain/isa.kinds", "coxswain/isa.bounds"], apart := false, laid := [("coxswain/isa.bounds", laid_coxswain_isa_bounds), ("coxswain/isa.kinds", laid_coxswain_isa_kinds)], narrowed := true }
def PathsCountsUptoSaid : Prop := pathsCountsUptoRow.holds Tryd.pinned (OpenSpec.upto pathsCountsSpec)

end Rows
end Go.Proofs.YtnlndkpjfgpodaaDoor
