/-
  NARROWER THAN 'FOR EVERY INPUT', by the rows' own cells (each row's printed sentence says how): BitmapSets: laid · BitmapOrders: laid · BitmapPicks: laid · FrameSteps: laid · FramePasses: laid · FrameRuns: laid.
  DERIVED. THE GIVEN ROWS OF THIS SEAT. 6 by the template 'for every input the law returns true; each argument reads behind the call as it read before'; 0 by the template 'total and deterministic' (their statements: YtikjkmomokhanaaDoorTotals.lean).
  GIVEN WITH THE SEED: the statements are not yours to turn. If you find one false, say at which input.
  Laid BY PROGRAM, IN A SANDBOX (cutbox-rows.mjs): the forced cells as the released guide's own fill.sh prints them over the translation e243c37d47d34ea1… (all of the seat's roots in one cut). By AI agents, Wed Nov 11 2026. No macro, syntax, notation, axiom, sorry.
-/
import Derived.Test.YtikjkmomokhanaaDoorChecked
import GoSem.Claim
import GoSem.ClaimJoined
import GoSem.ClaimMapViews
import Derived.JoinedTies
import Derived.KernelRfl
namespace Go.Proofs.YtikjkmomokhanaaDoor
/- THE CELL 'sum', in the pinned program and in every row, IS THE sha256 OF THE DUMP (.gsa) THAT YtikjkmomokhanaaDoorProg.lean LOADS. Nothing in Lean hashes anything: it is a label: what it is worth is what the hold of that sum in a sandbox is worth. -/
noncomputable def Tryd.pinned : Pinned := { name := "ytikjkmomokhanaadoor", sum := "e243c37d47d34ea1b7865f69ad72cf87f0d0806760612697ff947171dc919630", checked := Tryd.checked }
namespace Rows
def none {H : Type} : Left H := { results := [], args := [] }

/- WHAT THE LISTED PACKAGE-LEVEL VARIABLES READ AS WHEN THE CALL BEGINS. Each datum BY PROGRAM (the guide's laid-datum.mjs) off the statement by which the dump's own 'gosem.cut.vars' lays the variable. In a bare row this is a premise. The card (YtikjkmomokhanaaDoorCards.lean) ties it to the program's text. -/
def laid_math_bits_deBruijn64tab {H : Type} : DataW H := .agg [.lit (.int .u8 0), .lit (.int .u8 1), .lit (.int .u8 56), .lit (.int .u8 2), .lit (.int .u8 57), .lit (.int .u8 49), .lit (.int .u8 28), .lit (.int .u8 3), .lit (.int .u8 61), .lit (.int .u8 58), .lit (.int .u8 42), .lit (.int .u8 50), .lit (.int .u8 38), .lit (.int .u8 29), .lit (.int .u8 17), .lit (.int .u8 4), .lit (.int .u8 62), .lit (.int .u8 47), .lit (.int .u8 59), .lit (.int .u8 36), .lit (.int .u8 45), .lit (.int .u8 43), .lit (.int .u8 51), .lit (.int .u8 22), .lit (.int .u8 53), .lit (.int .u8 39), .lit (.int .u8 33), .lit (.int .u8 30), .lit (.int .u8 24), .lit (.int .u8 18), .lit (.int .u8 12), .lit (.int .u8 5), .lit (.int .u8 63), .lit (.int .u8 55), .lit (.int .u8 48), .lit (.int .u8 27), .lit (.int .u8 60), .lit (.int .u8 41), .lit (.int .u8 37), .lit (.int .u8 16), .lit (.int .u8 46), .lit (.int .u8 35), .lit (.int .u8 44), .lit (.int .u8 21), .lit (.int .u8 52), .lit (.int .u8 32), .lit (.int .u8 23), .lit (.int .u8 11), .lit (.int .u8 54), .lit (.int .u8 26), .lit (.int .u8 40), .lit (.int .u8 15), .lit (.int .u8 34), .lit (.int .u8 20), .lit (.int .u8 31), .lit (.int .u8 10), .lit (.int .u8 25), .lit (.int .u8 14), .lit (.int .u8 19), .lit (.int .u8 9), .lit (.int .u8 13), .lit (.int .u8 8), .lit (.int .u8 7), .lit (.int .u8 6)]
def laid_coxswain_isa_bounds {H : Type} : DataW H := .agg [.agg [.lit (.int .i64 0), .lit (.int .i64 0)], .agg [.lit (.int .i64 0), .lit (.int .i64 7)], .agg [.lit (.int .i64 0), .lit (.int .i64 7)], .agg [.lit (.int .i64 1), .lit (.int .i64 255)], .agg [.lit (.int .i64 0), .lit (.int .i64 63)], .agg [.lit (.int .i64 0), .lit (.int .i64 63)], .agg [.lit (.int .i64 0), .lit (.int .i64 4294967295)]]
def laid_coxswain_isa_kinds {H : Type} : DataW H := .agg [.agg [.lit (.string [110, 111, 112]), .agg [.lit (.int .i64 0), .lit (.int .i64 0), .lit (.int .i64 0), .lit (.int .i64 0)], .lit (.string []), .lit (.string [])], .agg [.lit (.string [115, 101, 116]), .agg [.lit (.int .i64 1), .lit (.int .i64 0), .lit (.int .i64 0), .lit (.int .i64 6)], .lit (.string []), .lit (.string [65])], .agg [.lit (.string [109, 111, 118, 101]), .agg [.lit (.int .i64 1), .lit (.int .i64 1), .lit (.int .i64 0), .lit (.int .i64 0)], .lit (.string [66]), .lit (.string [65])], .agg [.lit (.string [97, 100, 100]), .agg [.lit (.int .i64 1), .lit (.int .i64 1), .lit (.int .i64 1), .lit (.int .i64 0)], .lit (.string [66, 67]), .lit (.string [65])], .agg [.lit (.string [115, 117, 98]), .agg [.lit (.int .i64 1), .lit (.int .i64 1), .lit (.int .i64 1), .lit (.int .i64 0)], .lit (.string [66, 67]), .lit (.string [65])], .agg [.lit (.string [109, 117, 108]), .agg [.lit (.int .i64 1), .lit (.int .i64 1), .lit (.int .i64 1), .lit (.int .i64 0)], .lit (.string [66, 67]), .lit (.string [65])], .agg [.lit (.string [97, 110, 100]), .agg [.lit (.int .i64 1), .lit (.int .i64 1), .lit (.int .i64 1), .lit (.int .i64 0)], .lit (.string [66, 67]), .lit (.string [65])], .agg [.lit (.string [111, 114]), .agg [.lit (.int .i64 1), .lit (.int .i64 1), .lit (.int .i64 1), .lit (.int .i64 0)], .lit (.string [66, 67]), .lit (.string [65])], .agg [.lit (.string [120, 111, 114]), .agg [.lit (.int .i64 1), .lit (.int .i64 1), .lit (.int .i64 1), .lit (.int .i64 0)], .lit (.string [66, 67]), .lit (.string [65])], .agg [.lit (.string [108, 101, 115, 115]), .agg [.lit (.int .i64 1), .lit (.int .i64 1), .lit (.int .i64 1), .lit (.int .i64 0)], .lit (.string [66, 67]), .lit (.string [65])], .agg [.lit (.string [101, 113, 117, 97, 108]), .agg [.lit (.int .i64 1), .lit (.int .i64 1), .lit (.int .i64 1), .lit (.int .i64 0)], .lit (.string [66, 67]), .lit (.string [65])], .agg [.lit (.string [108, 111, 97, 100]), .agg [.lit (.int .i64 1), .lit (.int .i64 1), .lit (.int .i64 0), .lit (.int .i64 6)], .lit (.string [66]), .lit (.string [65])], .agg [.lit (.string [115, 116, 111, 114, 101]), .agg [.lit (.int .i64 1), .lit (.int .i64 1), .lit (.int .i64 0), .lit (.int .i64 6)], .lit (.string [65, 66]), .lit (.string [])], .agg [.lit (.string [99, 97, 115]), .agg [.lit (.int .i64 1), .lit (.int .i64 1), .lit (.int .i64 1), .lit (.int .i64 6)], .lit (.string [65, 66, 67]), .lit (.string [65])], .agg [.lit (.string [106, 117, 109, 112]), .agg [.lit (.int .i64 0), .lit (.int .i64 0), .lit (.int .i64 0), .lit (.int .i64 4)], .lit (.string []), .lit (.string [])], .agg [.lit (.string [122, 101, 114, 111]), .agg [.lit (.int .i64 1), .lit (.int .i64 0), .lit (.int .i64 0), .lit (.int .i64 4)], .lit (.string [65]), .lit (.string [])], .agg [.lit (.string [98, 97, 99, 107]), .agg [.lit (.int .i64 0), .lit (.int .i64 0), .lit (.int .i64 3), .lit (.int .i64 4)], .lit (.string []), .lit (.string [])], .agg [.lit (.string [114, 101, 97, 100]), .agg [.lit (.int .i64 1), .lit (.int .i64 2), .lit (.int .i64 0), .lit (.int .i64 5)], .lit (.string []), .lit (.string [65])], .agg [.lit (.string [119, 114, 105, 116, 101]), .agg [.lit (.int .i64 1), .lit (.int .i64 2), .lit (.int .i64 0), .lit (.int .i64 5)], .lit (.string []), .lit (.string [65])], .agg [.lit (.string [112, 117, 116]), .agg [.lit (.int .i64 1), .lit (.int .i64 2), .lit (.int .i64 0), .lit (.int .i64 5)], .lit (.string []), .lit (.string [65])], .agg [.lit (.string [116, 97, 107, 101]), .agg [.lit (.int .i64 1), .lit (.int .i64 2), .lit (.int .i64 0), .lit (.int .i64 5)], .lit (.string []), .lit (.string [65])], .agg [.lit (.string [100, 111, 110, 101]), .agg [.lit (.int .i64 0), .lit (.int .i64 0), .lit (.int .i64 0), .lit (.int .i64 0)], .lit (.string []), .lit (.string [])]]

/-- 'coxswainlaw03.BitmapSets': WHATEVER THE INPUT: true; the input reads as it did. -/
def bitmapSetsSpec : ChangeSpec := { name := "bitmapSets", fn := fun _ => fun
  | [d1, d2, d3] => { results := [.lit (.bool true)], args := [d1, d2, d3] }
  | _ => none }
def bitmapSetsRow : OpenClaim := { program := "ytikjkmomokhanaadoor", sum := "e243c37d47d34ea1b7865f69ad72cf87f0d0806760612697ff947171dc919630", func := "coxswain/coxswainlaw03.BitmapSets", spec := "bitmapSets", unfollowed := true, recurses := true, named := ["math/bits.deBruijn64tab"], apart := false, laid := [("math/bits.deBruijn64tab", laid_math_bits_deBruijn64tab)] }
def BitmapSetsSaid : Prop := bitmapSetsRow.holds Tryd.pinned (OpenSpec.ofChange bitmapSetsSpec)

/-- ITS FALSE NEIGHBOUR: 'it returns false'. Refute it at one input. -/
def bitmapSetsWrong : ChangeSpec := { name := "bitmapSets", fn := fun _ => fun
  | [d1, d2, d3] => { results := [.lit (.bool false)], args := [d1, d2, d3] }
  | _ => none }
def BitmapSetsWrongFalsely : Prop := bitmapSetsRow.holds Tryd.pinned (OpenSpec.ofChange bitmapSetsWrong)

/-- 'coxswainlaw03.BitmapOrders': WHATEVER THE INPUT: true; the input reads as it did. -/
def bitmapOrdersSpec : ChangeSpec := { name := "bitmapOrders", fn := fun _ => fun
  | [d] => { results := [.lit (.bool true)], args := [d] }
  | _ => none }
def bitmapOrdersRow : OpenClaim := { program := "ytikjkmomokhanaadoor", sum := "e243c37d47d34ea1b7865f69ad72cf87f0d0806760612697ff947171dc919630", func := "coxswain/coxswainlaw03.BitmapOrders", spec := "bitmapOrders", unfollowed := true, recurses := true, named := ["math/bits.deBruijn64tab"], apart := false, laid := [("math/bits.deBruijn64tab", laid_math_bits_deBruijn64tab)] }
def BitmapOrdersSaid : Prop := bitmapOrdersRow.holds Tryd.pinned (OpenSpec.ofChange bitmapOrdersSpec)

/-- ITS FALSE NEIGHBOUR: 'it returns false'. Refute it at one input. -/
def bitmapOrdersWrong : ChangeSpec := { name := "bitmapOrders", fn := fun _ => fun
  | [d] => { results := [.lit (.bool false)], args := [d] }
  | _ => none }
def BitmapOrdersWrongFalsely : Prop := bitmapOrdersRow.holds Tryd.pinned (OpenSpec.ofChange bitmapOrdersWrong)

/-- 'coxswainlaw03.BitmapPicks': WHATEVER THE INPUT: true; the input reads as it did. -/
def bitmapPicksSpec : ChangeSpec := { name := "bitmapPicks", fn := fun _ => fun
  | [d1, d2] => { results := [.lit (.bool true)], args := [d1, d2] }
  | _ => none }
def bitmapPicksRow : OpenClaim := { program := "ytikjkmomokhanaadoor", sum := "e243c37d47d34ea1b7865f69ad72cf87f0d0806760612697ff947171dc919630", func := "coxswain/coxswainlaw03.BitmapPicks", spec := "bitmapPicks", unfollowed := true, recurses := true, named := ["math/bits.deBruijn64tab"], apart := false, laid := [("math/bits.deBruijn64tab", laid_math_bits_deBruijn64tab)] }
def BitmapPicksSaid : Prop := bitmapPicksRow.holds Tryd.pinned (OpenSpec.ofChange bitmapPicksSpec)

/-- ITS FALSE NEIGHBOUR: 'it returns false'. Refute it at one input. -/
def bitmapPicksWrong : ChangeSpec := { name := "bitmapPicks", fn := fun _ => fun
  | [d1, d2] => { results := [.lit (.bool false)], args := [d1, d2] }
  | _ => none }
def BitmapPicksWrongFalsely : Prop := bitmapPicksRow.holds Tryd.pinned (OpenSpec.ofChange bitmapPicksWrong)

/-- 'coxswainlaw13.FrameSteps': WHATEVER THE INPUT: true; the input reads as it did. -/
def frameStepsSpec : ChangeSpec := { name := "frameSteps", fn := fun _ => fun
  | [d] => { results := [.lit (.bool true)], args := [d] }
  | _ => none }
def frameStepsRow : OpenClaim := { program := "ytikjkmomokhanaadoor", sum := "e243c37d47d34ea1b7865f69ad72cf87f0d0806760612697ff947171dc919630", func := "coxswain/coxswainlaw13.FrameSteps", spec := "frameSteps", named := ["coxswain/isa.kinds", "coxswain/isa.bounds"], apart := false, laid := [("coxswain/isa.bounds", laid_coxswain_isa_bounds), ("coxswain/isa.kinds", laid_coxswain_isa_kinds)] }
def FrameStepsSaid : Prop := frameStepsRow.holds Tryd.pinned (OpenSpec.ofChange frameStepsSpec)

/-- ITS FALSE NEIGHBOUR: 'it returns false'. Refute it at one input. -/
def frameStepsWrong : ChangeSpec := { name := "frameSteps", fn := fun _ => fun
  | [d] => { results := [.lit (.bool false)], args := [d] }
  | _ => none }
def FrameStepsWrongFalsely : Prop := frameStepsRow.holds Tryd.pinned (OpenSpec.ofChange frameStepsWrong)

/-- 'coxswainlaw13.FramePasses': WHATEVER THE INPUT: true; the input reads as it did. -/
def framePassesSpec : ChangeSpec := { name := "framePasses", fn := fun _ => fun
  | [d1, d2] => { results := [.lit (.bool true)], args := [d1, d2] }
  | _ => none }
def framePassesRow : OpenClaim := { program := "ytikjkmomokhanaadoor", sum := "e243c37d47d34ea1b7865f69ad72cf87f0d0806760612697ff947171dc919630", func := "coxswain/coxswainlaw13.FramePasses", spec := "framePasses", named := ["coxswain/isa.kinds", "coxswain/isa.bounds"], apart := false, laid := [("coxswain/isa.bounds", laid_coxswain_isa_bounds), ("coxswain/isa.kinds", laid_coxswain_isa_kinds)] }
def FramePassesSaid : Prop := framePassesRow.holds Tryd.pinned (OpenSpec.ofChange framePassesSpec)

/-- ITS FALSE NEIGHBOUR: 'it returns false'. Refute it at one input. -/
def framePassesWrong : ChangeSpec := { name := "framePasses", fn := fun _ => fun
  | [d1, d2] => { results := [.lit (.bool false)], args := [d1, d2] }
  | _ => none }
def FramePassesWrongFalsely : Prop := framePassesRow.holds Tryd.pinned (OpenSpec.ofChange framePassesWrong)

/-- 'coxswainlaw13.FrameRuns': WHATEVER THE INPUT: true; the input reads as it did. -/
def frameRunsSpec : ChangeSpec := { name := "frameRuns", fn := fun _ => fun
  | [d1, d2] => { results := [.lit (.bool true)], args := [d1, d2] }
  | _ => none }
def frameRunsRow : OpenClaim := { program := "ytikjkmomokhanaadoor", sum := "e243c37d47d34ea1b7865f69ad72cf87f0d0806760612697ff947171dc919630", func := "coxswain/coxswainlaw13.FrameRuns", spec := "frameRuns", named := ["coxswain/isa.kinds", "coxswain/isa.bounds"], apart := false, laid := [("coxswain/isa.bounds", laid_coxswain_isa_bounds), ("coxswain/isa.kinds", laid_coxswain_isa_kinds)] }
def FrameRunsSaid : Prop := frameRunsRow.holds Tryd.pinned (OpenSpec.ofChange frameRunsSpec)

/-- ITS FALSE NEIGHBOUR: 'it returns false'. Refute it at one input. -/
def frameRunsWrong : ChangeSpec := { name := "frameRuns", fn := fun _ => fun
  | [d1, d2] => { results := [.lit (.bool false)], args := [d1, d2] }
  | _ => none }
def FrameRunsWrongFalsely : Prop := frameRunsRow.holds Tryd.pinned (OpenSpec.ofChange frameRunsWrong)

/- THE SECOND FORM. 'bulk': how many values and letters a reading holds, each counted each time it is reached (what is shared counts as often as it is met; a slice's spare places count too). A statement '..UptoSaid' is the law's where the arguments, and the package variables that the reading takes, are together of bulk at most 1048576: NARROWER than '..Said'. Prove '..Said' where nothing that the law and all that it calls make is longer than what came in: it says more and counts as full. Else prove '..UptoSaid'. A law counts once. -/
mutual
def uptoBulk {H : Type} : DataW H → Nat
  | .lit (.string bytes) => bytes.length + 1
  | .lit _ => 1
  | .nil => 1
  | .ptr d => uptoBulk d + 1
  | .slice elems spare => uptoBulkAll elems + uptoBulkAll spare + 1
  | .agg parts => uptoBulkAll parts + 1
  | .iface _ d => uptoBulk d + 1
  | .map entries => uptoBulkEntries entries + 1
  | .held _ => 1
def uptoBulkAll {H : Type} : List (DataW H) → Nat
  | [] => 0
  | d :: r => uptoBulk d + uptoBulkAll r
def uptoBulkEntries {H : Type} : List (Lit × DataW H) → Nat
  | [] => 0
  | x :: r => uptoBulkEntry x + uptoBulkEntries r
def uptoBulkEntry {H : Type} : Lit × DataW H → Nat
  | (.string bytes, d) => bytes.length + uptoBulk d + 1
  | (_, d) => uptoBulk d + 1
 end
def uptoSmall : (H : Type) → List (DataW H) → Bool := fun _ ds => decide (uptoBulkAll ds ≤ 1048576)
def OpenSpec.upto (s : _root_.Go.ChangeSpec) : _root_.Go.OpenSpec := { _root_.Go.OpenSpec.ofChange s with cond := some uptoSmall }

/-- 'coxswainlaw03.BitmapSets', WHERE WHAT IT READS IS OF BULK AT MOST 1048576: true; the input reads as it did. -/
def bitmapSetsUptoRow : OpenClaim := { program := "ytikjkmomokhanaadoor", sum := "e243c37d47d34ea1b7865f69ad72cf87f0d0806760612697ff947171dc919630", func := "coxswain/coxswainlaw03.BitmapSets", spec := "bitmapSets", unfollowed := true, recurses := true, named := ["math/bits.deBruijn64tab"], apart := false, laid := [("math/bits.deBruijn64tab", laid_math_bits_deBruijn64tab)], narrowed := true }
def BitmapSetsUptoSaid : Prop := bitmapSetsUptoRow.holds Tryd.pinned (OpenSpec.upto bitmapSetsSpec)

/-- 'coxswainlaw03.BitmapOrders', WHERE WHAT IT READS IS OF BULK AT MOST 1048576: true; the input reads as it did. -/
def bitmapOrdersUptoRow : OpenClaim := { program := "ytikjkmomokhanaadoor", sum := "e243c37d47d34ea1b7865f69ad72cf87f0d0806760612697ff947171dc919630", func := "coxswain/coxswainlaw03.BitmapOrders", spec := "bitmapOrders", unfollowed := true, recurses := true, named := ["math/bits.deBruijn64tab"], apart := false, laid := [("math/bits.deBruijn64tab", laid_math_bits_deBruijn64tab)], narrowed := true }
def BitmapOrdersUptoSaid : Prop := bitmapOrdersUptoRow.holds Tryd.pinned (OpenSpec.upto bitmapOrdersSpec)

/-- 'coxswainlaw03.BitmapPicks', WHERE WHAT IT READS IS OF BULK AT MOST 1048576: true; the input reads as it did. -/
def bitmapPicksUptoRow : OpenClaim := { program := "ytikjkmomokhanaadoor", sum := "e243c37d47d34ea1b7865f69ad72cf87f0d0806760612697ff947171dc919630", func := "coxswain/coxswainlaw03.BitmapPicks", spec := "bitmapPicks", unfollowed := true, recurses := true, named := ["math/bits.deBruijn64tab"], apart := false, laid := [("math/bits.deBruijn64tab", laid_math_bits_deBruijn64tab)], narrowed := true }
def BitmapPicksUptoSaid : Prop := bitmapPicksUptoRow.holds Tryd.pinned (OpenSpec.upto bitmapPicksSpec)

/-- 'coxswainlaw13.FrameSteps', WHERE WHAT IT READS IS OF BULK AT MOST 1048576: true; the input reads as it did. -/
def frameStepsUptoRow : OpenClaim := { program := "ytikjkmomokhanaadoor", sum := "e243c37d47d34ea1b7865f69ad72cf87f0d0806760612697ff947171dc919630", func := "coxswain/coxswainlaw13.FrameSteps", spec := "frameSteps", named := ["coxswain/isa.kinds", "coxswain/isa.bounds"], apart := false, laid := [("coxswain/isa.bounds", laid_coxswain_isa_bounds), ("coxswain/isa.kinds", laid_coxswain_isa_kinds)], narrowed := true }
def FrameStepsUptoSaid : Prop := frameStepsUptoRow.holds Tryd.pinned (OpenSpec.upto frameStepsSpec)

/-- 'coxswainlaw13.FramePasses', WHERE WHAT IT READS IS OF BULK AT MOST 1048576: true; the input reads as it did. -/
def framePassesUptoRow : OpenClaim := { program := "ytikjkmomokhanaadoor", sum := "e243c37d47d34ea1b7865f69ad72cf87f0d0806760612697ff947171dc919630", func := "coxswain/coxswainlaw13.FramePasses", spec := "framePasses", named := ["coxswain/isa.kinds", "coxswain/isa.bounds"], apart := false, laid := [("coxswain/isa.bounds", laid_coxswain_isa_bounds), ("coxswain/isa.kinds", laid_coxswain_isa_kinds)], narrowed := true }
def FramePassesUptoSaid : Prop := framePassesUptoRow.holds Tryd.pinned (OpenSpec.upto framePassesSpec)

/-- 'coxswainlaw13.FrameRuns', WHERE WHAT IT READS IS OF BULK AT MOST 1048576: true; the input reads as it did. -/
def frameRunsUptoRow : OpenClaim := { program := "ytikjkmomokhanaadoor", sum := "e243c37d47d34ea1b7865f69ad72cf87f0d0806760612697ff947171dc919630", func := "coxswain/coxswainlaw13.FrameRuns", spec := "frameRuns", named := ["coxswain/isa.kinds", "coxswain/isa.bounds"], apart := false, laid := [("coxswain/isa.bounds", laid_coxswain_isa_bounds), ("coxswain/isa.kinds", laid_coxswain_isa_kinds)], narrowed := true }
def FrameRunsUptoSaid : Prop := frameRunsUptoRow.holds Tryd.pinned (OpenSpec.upto frameRunsSpec)

end Rows
end Go.Proofs.YtikjkmomokhanaaDoor
