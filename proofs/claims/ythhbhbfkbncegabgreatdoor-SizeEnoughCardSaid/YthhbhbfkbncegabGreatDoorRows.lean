/-
  NARROWER THAN 'FOR EVERY INPUT', by the rows' own cells (each row's printed sentence says how): RtaLeast: laid · SizeTells: laid · SizeEnough: laid.
  DERIVED. THE GIVEN ROWS OF THIS SEAT. 3 by the template 'for every input the law returns true; each argument reads behind the call as it read before'; 0 by the template 'total and deterministic' (their statements: YthhbhbfkbncegabGreatDoorTotals.lean).
  GIVEN WITH THE SEED: the statements are not yours to turn. If you find one false, say at which input.
  Laid BY PROGRAM, IN A SANDBOX (cutbox-rows.mjs): the forced cells as the released guide's own fill.sh prints them over the translation 477001f97cc08406… (all of the seat's roots in one cut). By AI agents, Wed Nov 11 2026. No macro, syntax, notation, axiom, sorry.
-/
import Derived.Test.YthhbhbfkbncegabGreatDoorChecked
import GoSem.Claim
import GoSem.ClaimJoined
import GoSem.ClaimMapViews
import Derived.JoinedTies
import Derived.KernelRfl
namespace Go.Proofs.YthhbhbfkbncegabGreatDoor
/- THE CELL 'sum', in the pinned program and in every row, IS THE sha256 OF THE DUMP (.gsa) THAT YthhbhbfkbncegabGreatDoorProg.lean LOADS. Nothing in Lean hashes anything: it is a label: what it is worth is what the hold of that sum in a sandbox is worth. -/
noncomputable def Tryz.pinned : Pinned := { name := "ythhbhbfkbncegabgreatdoor", sum := "477001f97cc0840614e15fa81c3ae52925ff35290ddbaf79539e12b357d75085", checked := Tryz.checked }
namespace Rows
def none {H : Type} : Left H := { results := [], args := [] }

/- WHAT THE LISTED PACKAGE-LEVEL VARIABLES READ AS WHEN THE CALL BEGINS. Each datum BY PROGRAM (the guide's laid-datum.mjs) off the statement by which the dump's own 'gosem.cut.vars' lays the variable. In a bare row this is a premise. The card (YthhbhbfkbncegabGreatDoorCards.lean) ties it to the program's text. -/
def laid_coxswain_isa_bounds {H : Type} : DataW H := .agg [.agg [.lit (.int .i64 0), .lit (.int .i64 0)], .agg [.lit (.int .i64 0), .lit (.int .i64 7)], .agg [.lit (.int .i64 0), .lit (.int .i64 7)], .agg [.lit (.int .i64 1), .lit (.int .i64 255)], .agg [.lit (.int .i64 0), .lit (.int .i64 63)], .agg [.lit (.int .i64 0), .lit (.int .i64 63)], .agg [.lit (.int .i64 0), .lit (.int .i64 4294967295)]]
def laid_coxswain_isa_kinds {H : Type} : DataW H := .agg [.agg [.lit (.string [110, 111, 112]), .agg [.lit (.int .i64 0), .lit (.int .i64 0), .lit (.int .i64 0), .lit (.int .i64 0)], .lit (.string []), .lit (.string [])], .agg [.lit (.string [115, 101, 116]), .agg [.lit (.int .i64 1), .lit (.int .i64 0), .lit (.int .i64 0), .lit (.int .i64 6)], .lit (.string []), .lit (.string [65])], .agg [.lit (.string [109, 111, 118, 101]), .agg [.lit (.int .i64 1), .lit (.int .i64 1), .lit (.int .i64 0), .lit (.int .i64 0)], .lit (.string [66]), .lit (.string [65])], .agg [.lit (.string [97, 100, 100]), .agg [.lit (.int .i64 1), .lit (.int .i64 1), .lit (.int .i64 1), .lit (.int .i64 0)], .lit (.string [66, 67]), .lit (.string [65])], .agg [.lit (.string [115, 117, 98]), .agg [.lit (.int .i64 1), .lit (.int .i64 1), .lit (.int .i64 1), .lit (.int .i64 0)], .lit (.string [66, 67]), .lit (.string [65])], .agg [.lit (.string [109, 117, 108]), .agg [.lit (.int .i64 1), .lit (.int .i64 1), .lit (.int .i64 1), .lit (.int .i64 0)], .lit (.string [66, 67]), .lit (.string [65])], .agg [.lit (.string [97, 110, 100]), .agg [.lit (.int .i64 1), .lit (.int .i64 1), .lit (.int .i64 1), .lit (.int .i64 0)], .lit (.string [66, 67]), .lit (.string [65])], .agg [.lit (.string [111, 114]), .agg [.lit (.int .i64 1), .lit (.int .i64 1), .lit (.int .i64 1), .lit (.int .i64 0)], .lit (.string [66, 67]), .lit (.string [65])], .agg [.lit (.string [120, 111, 114]), .agg [.lit (.int .i64 1), .lit (.int .i64 1), .lit (.int .i64 1), .lit (.int .i64 0)], .lit (.string [66, 67]), .lit (.string [65])], .agg [.lit (.string [108, 101, 115, 115]), .agg [.lit (.int .i64 1), .lit (.int .i64 1), .lit (.int .i64 1), .lit (.int .i64 0)], .lit (.string [66, 67]), .lit (.string [65])], .agg [.lit (.string [101, 113, 117, 97, 108]), .agg [.lit (.int .i64 1), .lit (.int .i64 1), .lit (.int .i64 1), .lit (.int .i64 0)], .lit (.string [66, 67]), .lit (.string [65])], .agg [.lit (.string [108, 111, 97, 100]), .agg [.lit (.int .i64 1), .lit (.int .i64 1), .lit (.int .i64 0), .lit (.int .i64 6)], .lit (.string [66]), .lit (.string [65])], .agg [.lit (.string [115, 116, 111, 114, 101]), .agg [.lit (.int .i64 1), .lit (.int .i64 1), .lit (.int .i64 0), .lit (.int .i64 6)], .lit (.string [65, 66]), .lit (.string [])], .agg [.lit (.string [99, 97, 115]), .agg [.lit (.int .i64 1), .lit (.int .i64 1), .lit (.int .i64 1), .lit (.int .i64 6)], .lit (.string [65, 66, 67]), .lit (.string [65])], .agg [.lit (.string [106, 117, 109, 112]), .agg [.lit (.int .i64 0), .lit (.int .i64 0), .lit (.int .i64 0), .lit (.int .i64 4)], .lit (.string []), .lit (.string [])], .agg [.lit (.string [122, 101, 114, 111]), .agg [.lit (.int .i64 1), .lit (.int .i64 0), .lit (.int .i64 0), .lit (.int .i64 4)], .lit (.string [65]), .lit (.string [])], .agg [.lit (.string [98, 97, 99, 107]), .agg [.lit (.int .i64 0), .lit (.int .i64 0), .lit (.int .i64 3), .lit (.int .i64 4)], .lit (.string []), .lit (.string [])], .agg [.lit (.string [114, 101, 97, 100]), .agg [.lit (.int .i64 1), .lit (.int .i64 2), .lit (.int .i64 0), .lit (.int .i64 5)], .lit (.string []), .lit (.string [65])], .agg [.lit (.string [119, 114, 105, 116, 101]), .agg [.lit (.int .i64 1), .lit (.int .i64 2), .lit (.int .i64 0), .lit (.int .i64 5)], .lit (.string []), .lit (.string [65])], .agg [.lit (.string [112, 117, 116]), .agg [.lit (.int .i64 1), .lit (.int .i64 2), .lit (.int .i64 0), .lit (.int .i64 5)], .lit (.string []), .lit (.string [65])], .agg [.lit (.string [116, 97, 107, 101]), .agg [.lit (.int .i64 1), .lit (.int .i64 2), .lit (.int .i64 0), .lit (.int .i64 5)], .lit (.string []), .lit (.string [65])], .agg [.lit (.string [100, 111, 110, 101]), .agg [.lit (.int .i64 0), .lit (.int .i64 0), .lit (.int .i64 0), .lit (.int .i64 0)], .lit (.string []), .lit (.string [])]]

/-- 'coxswainlaw38.RtaLeast': WHATEVER THE INPUT: true; the input reads as it did. -/
def rtaLeastSpec : ChangeSpec := { name := "rtaLeast", fn := fun _ => fun
  | [d1, d2, d3] => { results := [.lit (.bool true)], args := [d1, d2, d3] }
  | _ => none }
def rtaLeastRow : OpenClaim := { program := "ythhbhbfkbncegabgreatdoor", sum := "477001f97cc0840614e15fa81c3ae52925ff35290ddbaf79539e12b357d75085", func := "coxswain/coxswainlaw38.RtaLeast", spec := "rtaLeast", unfollowed := true, recurses := true, named := ["coxswain/isa.kinds", "coxswain/isa.bounds"], apart := false, laid := [("coxswain/isa.bounds", laid_coxswain_isa_bounds), ("coxswain/isa.kinds", laid_coxswain_isa_kinds)] }
def RtaLeastSaid : Prop := rtaLeastRow.holds Tryz.pinned (OpenSpec.ofChange rtaLeastSpec)

/-- ITS FALSE NEIGHBOUR: 'it returns false'. Refute it at one input. -/
def rtaLeastWrong : ChangeSpec := { name := "rtaLeast", fn := fun _ => fun
  | [d1, d2, d3] => { results := [.lit (.bool false)], args := [d1, d2, d3] }
  | _ => none }
def RtaLeastWrongFalsely : Prop := rtaLeastRow.holds Tryz.pinned (OpenSpec.ofChange rtaLeastWrong)

/-- 'coxswainlaw39.SizeTells': WHATEVER THE INPUT: true; the input reads as it did. -/
def sizeTellsSpec : ChangeSpec := { name := "sizeTells", fn := fun _ => fun
  | [d1, d2, d3] => { results := [.lit (.bool true)], args := [d1, d2, d3] }
  | _ => none }
def sizeTellsRow : OpenClaim := { program := "ythhbhbfkbncegabgreatdoor", sum := "477001f97cc0840614e15fa81c3ae52925ff35290ddbaf79539e12b357d75085", func := "coxswain/coxswainlaw39.SizeTells", spec := "sizeTells", unfollowed := true, recurses := true, named := ["coxswain/isa.kinds", "coxswain/isa.bounds"], apart := false, laid := [("coxswain/isa.bounds", laid_coxswain_isa_bounds), ("coxswain/isa.kinds", laid_coxswain_isa_kinds)] }
def SizeTellsSaid : Prop := sizeTellsRow.holds Tryz.pinned (OpenSpec.ofChange sizeTellsSpec)

/-- ITS FALSE NEIGHBOUR: 'it returns false'. Refute it at one input. -/
def sizeTellsWrong : ChangeSpec := { name := "sizeTells", fn := fun _ => fun
  | [d1, d2, d3] => { results := [.lit (.bool false)], args := [d1, d2, d3] }
  | _ => none }
def SizeTellsWrongFalsely : Prop := sizeTellsRow.holds Tryz.pinned (OpenSpec.ofChange sizeTellsWrong)

/-- 'coxswainlaw39.SizeEnough': WHATEVER THE INPUT: true; the input reads as it did. -/
def sizeEnoughSpec : ChangeSpec := { name := "sizeEnough", fn := fun _ => fun
  | [d1, d2, d3] => { results := [.lit (.bool true)], args := [d1, d2, d3] }
  | _ => none }
def sizeEnoughRow : OpenClaim := { program := "ythhbhbfkbncegabgreatdoor", sum := "477001f97cc0840614e15fa81c3ae52925ff35290ddbaf79539e12b357d75085", func := "coxswain/coxswainlaw39.SizeEnough", spec := "sizeEnough", unfollowed := true, recurses := true, named := ["coxswain/isa.kinds", "coxswain/isa.bounds"], apart := false, laid := [("coxswain/isa.bounds", laid_coxswain_isa_bounds), ("coxswain/isa.kinds", laid_coxswain_isa_kinds)] }
def SizeEnoughSaid : Prop := sizeEnoughRow.holds Tryz.pinned (OpenSpec.ofChange sizeEnoughSpec)

/-- ITS FALSE NEIGHBOUR: 'it returns false'. Refute it at one input. -/
def sizeEnoughWrong : ChangeSpec := { name := "sizeEnough", fn := fun _ => fun
  | [d1, d2, d3] => { results := [.lit (.bool false)], args := [d1, d2, d3] }
  | _ => none }
def SizeEnoughWrongFalsely : Prop := sizeEnoughRow.holds Tryz.pinned (OpenSpec.ofChange sizeEnoughWrong)

/- THE SECOND FORM. 'bulk': how many values and letters a reading holds, each counted each time it is reached (what is shared counts as often as it is met; a slice's spare places count too). A statement '..UptoSaid' is the law's where the arguments, and the package variables that the reading takes, are together of bulk at most 1048576: NARROWER than '..Said'. Prove '..Said' where nothing that the law and all that it calls make is longer than what came in: it says more and counts as full. Else prove '..UptoSaid'. A law counts once. -/
mutual
def uptoBulk {H : Type} : DataW H → Nat
  | .lit (.string bytes) => bytes.length + 1
  | .lit _ => 1
  | .nil => 1
  | .ptr d => uptoBulk d + 1
  | .slice elems spare => uptoBulkAll elems + uptoBulkAll spare + 1
  | .agg parts => uptoBulkAll parts + 1
  | .iface _ d => uptoBulk d + 1
  | .map entries => uptoBulkEntries entries + 1
  | .held _ => 1
def uptoBulkAll {H : Type} : List (DataW H) → Nat
  | [] => 0
  | d :: r => uptoBulk d + uptoBulkAll r
def uptoBulkEntries {H : Type} : List (Lit × DataW H) → Nat
  | [] => 0
  | x :: r => uptoBulkEntry x + uptoBulkEntries r
def uptoBulkEntry {H : Type} : Lit × DataW H → Nat
  | (.string bytes, d) => bytes.length + uptoBulk d + 1
  | (_, d) => uptoBulk d + 1
 end
def uptoSmall : (H : Type) → List (DataW H) → Bool := fun _ ds => decide (uptoBulkAll ds ≤ 1048576)
def OpenSpec.upto (s : _root_.Go.ChangeSpec) : _root_.Go.OpenSpec := { _root_.Go.OpenSpec.ofChange s with cond := some uptoSmall }

/-- 'coxswainlaw38.RtaLeast', WHERE WHAT IT READS IS OF BULK AT MOST 1048576: true; the input reads as it did. -/
def rtaLeastUptoRow : OpenClaim := { program := "ythhbhbfkbncegabgreatdoor", sum := "477001f97cc0840614e15fa81c3ae52925ff35290ddbaf79539e12b357d75085", func := "coxswain/coxswainlaw38.RtaLeast", spec := "rtaLeast", unfollowed := true, recurses := true, named := ["coxswain/isa.kinds", "coxswain/isa.bounds"], apart := false, laid := [("coxswain/isa.bounds", laid_coxswain_isa_bounds), ("coxswain/isa.kinds", laid_coxswain_isa_kinds)], narrowed := true }
def RtaLeastUptoSaid : Prop := rtaLeastUptoRow.holds Tryz.pinned (OpenSpec.upto rtaLeastSpec)

/-- 'coxswainlaw39.SizeTells', WHERE WHAT IT READS IS OF BULK AT MOST 1048576: true; the input reads as it did. -/
def sizeTellsUptoRow : OpenClaim := { program := "ythhbhbfkbncegabgreatdoor", sum := "477001f97cc0840614e15fa81c3ae52925ff35290ddbaf79539e12b357d75085", func := "coxswain/coxswainlaw39.SizeTells", spec := "sizeTells", unfollowed := true, recurses := true, named := ["coxswain/isa.kinds", "coxswain/isa.bounds"], apart := false, laid := [("coxswain/isa.bounds", laid_coxswain_isa_bounds), ("coxswain/isa.kinds", laid_coxswain_isa_kinds)], narrowed := true }
def SizeTellsUptoSaid : Prop := sizeTellsUptoRow.holds Tryz.pinned (OpenSpec.upto sizeTellsSpec)

/-- 'coxswainlaw39.SizeEnough', WHERE WHAT IT READS IS OF BULK AT MOST 1048576: true; the input reads as it did. -/
def sizeEnoughUptoRow : OpenClaim := { program := "ythhbhbfkbncegabgreatdoor", sum := "477001f97cc0840614e15fa81c3ae52925ff35290ddbaf79539e12b357d75085", func := "coxswain/coxswainlaw39.SizeEnough", spec := "sizeEnough", unfollowed := true, recurses := true, named := ["coxswain/isa.kinds", "coxswain/isa.bounds"], apart := false, laid := [("coxswain/isa.bounds", laid_coxswain_isa_bounds), ("coxswain/isa.kinds", laid_coxswain_isa_kinds)], narrowed := true }
def SizeEnoughUptoSaid : Prop := sizeEnoughUptoRow.holds Tryz.pinned (OpenSpec.upto sizeEnoughSpec)

end Rows
end Go.Proofs.YthhbhbfkbncegabGreatDoor
