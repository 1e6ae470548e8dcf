/-
  NARROWER THAN 'FOR EVERY INPUT', by the rows' own cells (each row's printed sentence says how): AluDoes: laid · AluSwaps: laid · AluRests: laid.
  DERIVED. THE GIVEN ROWS OF THIS SEAT. 3 by the template 'for every input the law returns true; each argument reads behind the call as it read before'; 0 by the template 'total and deterministic' (their statements: YtgpipfmgjbecjabDoorTotals.lean).
  GIVEN WITH THE SEED: the statements are not yours to turn. If you find one false, say at which input.
  Laid BY PROGRAM, IN A SANDBOX (cutbox-rows.mjs): the forced cells as the released guide's own fill.sh prints them over the translation ed4080f3f411b3c8… (all of the seat's roots in one cut). By AI agents, Wed Nov 11 2026. No macro, syntax, notation, axiom, sorry.
-/
import Derived.Test.YtgpipfmgjbecjabDoorChecked
import GoSem.Claim
import GoSem.ClaimJoined
import GoSem.ClaimMapViews
import Derived.JoinedTies
import Derived.KernelRfl
namespace Go.Proofs.YtgpipfmgjbecjabDoor
/- THE CELL 'sum', in the pinned program and in every row, IS THE sha256 OF THE DUMP (.gsa) THAT YtgpipfmgjbecjabDoorProg.lean LOADS. Nothing in Lean hashes anything: it is a label: what it is worth is what the hold of that sum in a sandbox is worth. -/
noncomputable def Tryd.pinned : Pinned := { name := "ytgpipfmgjbecjabdoor", sum := "ed4080f3f411b3c8431b71ecb9880fc5caa08e0fc6f29df3f464935a681bc551", checked := Tryd.checked }
namespace Rows
def none {H : Type} : Left H := { results := [], args := [] }

/- WHAT THE LISTED PACKAGE-LEVEL VARIABLES READ AS WHEN THE CALL BEGINS. Each datum BY PROGRAM (the guide's laid-datum.mjs) off the statement by which the dump's own 'gosem.cut.vars' lays the variable. In a bare row this is a premise. The card (YtgpipfmgjbecjabDoorCards.lean) ties it to the program's text. -/
def laid_coxswain_alu_rests {H : Type} : DataW H := .agg [.lit (.int .u32 0), .lit (.int .u32 0), .lit (.int .u32 0), .lit (.int .u32 0), .lit (.int .u32 0), .lit (.int .u32 1), .lit (.int .u32 4294967295), .lit (.int .u32 0), .lit (.int .u32 0)]

/-- 'coxswainlaw07.AluDoes': WHATEVER THE INPUT: true; the input reads as it did. -/
def aluDoesSpec : ChangeSpec := { name := "aluDoes", fn := fun _ => fun
  | [d1, d2, d3] => { results := [.lit (.bool true)], args := [d1, d2, d3] }
  | _ => none }
def aluDoesRow : OpenClaim := { program := "ytgpipfmgjbecjabdoor", sum := "ed4080f3f411b3c8431b71ecb9880fc5caa08e0fc6f29df3f464935a681bc551", func := "coxswain/coxswainlaw07.AluDoes", spec := "aluDoes", named := ["coxswain/alu.rests"], apart := false, laid := [("coxswain/alu.rests", laid_coxswain_alu_rests)] }
def AluDoesSaid : Prop := aluDoesRow.holds Tryd.pinned (OpenSpec.ofChange aluDoesSpec)

/-- ITS FALSE NEIGHBOUR: 'it returns false'. Refute it at one input. -/
def aluDoesWrong : ChangeSpec := { name := "aluDoes", fn := fun _ => fun
  | [d1, d2, d3] => { results := [.lit (.bool false)], args := [d1, d2, d3] }
  | _ => none }
def AluDoesWrongFalsely : Prop := aluDoesRow.holds Tryd.pinned (OpenSpec.ofChange aluDoesWrong)

/-- 'coxswainlaw07.AluSwaps': WHATEVER THE INPUT: true; the input reads as it did. -/
def aluSwapsSpec : ChangeSpec := { name := "aluSwaps", fn := fun _ => fun
  | [d1, d2, d3] => { results := [.lit (.bool true)], args := [d1, d2, d3] }
  | _ => none }
def aluSwapsRow : OpenClaim := { program := "ytgpipfmgjbecjabdoor", sum := "ed4080f3f411b3c8431b71ecb9880fc5caa08e0fc6f29df3f464935a681bc551", func := "coxswain/coxswainlaw07.AluSwaps", spec := "aluSwaps", named := ["coxswain/alu.rests"], apart := false, laid := [("coxswain/alu.rests", laid_coxswain_alu_rests)] }
def AluSwapsSaid : Prop := aluSwapsRow.holds Tryd.pinned (OpenSpec.ofChange aluSwapsSpec)

/-- ITS FALSE NEIGHBOUR: 'it returns false'. Refute it at one input. -/
def aluSwapsWrong : ChangeSpec := { name := "aluSwaps", fn := fun _ => fun
  | [d1, d2, d3] => { results := [.lit (.bool false)], args := [d1, d2, d3] }
  | _ => none }
def AluSwapsWrongFalsely : Prop := aluSwapsRow.holds Tryd.pinned (OpenSpec.ofChange aluSwapsWrong)

/-- 'coxswainlaw07.AluRests': WHATEVER THE INPUT: true; the input reads as it did. -/
def aluRestsSpec : ChangeSpec := { name := "aluRests", fn := fun _ => fun
  | [d1, d2, d3] => { results := [.lit (.bool true)], args := [d1, d2, d3] }
  | _ => none }
def aluRestsRow : OpenClaim := { program := "ytgpipfmgjbecjabdoor", sum := "ed4080f3f411b3c8431b71ecb9880fc5caa08e0fc6f29df3f464935a681bc551", func := "coxswain/coxswainlaw07.AluRests", spec := "aluRests", named := ["coxswain/alu.rests"], apart := false, laid := [("coxswain/alu.rests", laid_coxswain_alu_rests)] }
def AluRestsSaid : Prop := aluRestsRow.holds Tryd.pinned (OpenSpec.ofChange aluRestsSpec)

/-- ITS FALSE NEIGHBOUR: 'it returns false'. Refute it at one input. -/
def aluRestsWrong : ChangeSpec := { name := "aluRests", fn := fun _ => fun
  | [d1, d2, d3] => { results := [.lit (.bool false)], args := [d1, d2, d3] }
  | _ => none }
def AluRestsWrongFalsely : Prop := aluRestsRow.holds Tryd.pinned (OpenSpec.ofChange aluRestsWrong)

/- THE SECOND FORM. 'bulk': how many values and letters a reading holds, each counted each time it is reached (what is shared counts as often as it is met; a slice's spare places count too). A statement '..UptoSaid' is the law's where the arguments, and the package variables that the reading takes, are together of bulk at most 1048576: NARROWER than '..Said'. Prove '..Said' where nothing that the law and all that it calls make is longer than what came in: it says more and counts as full. Else prove '..UptoSaid'. A law counts once. -/
mutual
def uptoBulk {H : Type} : DataW H → Nat
  | .lit (.string bytes) => bytes.length + 1
  | .lit _ => 1
  | .nil => 1
  | .ptr d => uptoBulk d + 1
  | .slice elems spare => uptoBulkAll elems + uptoBulkAll spare + 1
  | .agg parts => uptoBulkAll parts + 1
  | .iface _ d => uptoBulk d + 1
  | .map entries => uptoBulkEntries entries + 1
  | .held _ => 1
def uptoBulkAll {H : Type} : List (DataW H) → Nat
  | [] => 0
  | d :: r => uptoBulk d + uptoBulkAll r
def uptoBulkEntries {H : Type} : List (Lit × DataW H) → Nat
  | [] => 0
  | x :: r => uptoBulkEntry x + uptoBulkEntries r
def uptoBulkEntry {H : Type} : Lit × DataW H → Nat
  | (.string bytes, d) => bytes.length + uptoBulk d + 1
  | (_, d) => uptoBulk d + 1
 end
def uptoSmall : (H : Type) → List (DataW H) → Bool := fun _ ds => decide (uptoBulkAll ds ≤ 1048576)
def OpenSpec.upto (s : _root_.Go.ChangeSpec) : _root_.Go.OpenSpec := { _root_.Go.OpenSpec.ofChange s with cond := some uptoSmall }

/-- 'coxswainlaw07.AluDoes', WHERE WHAT IT READS IS OF BULK AT MOST 1048576: true; the input reads as it did. -/
def aluDoesUptoRow : OpenClaim := { program := "ytgpipfmgjbecjabdoor", sum := "ed4080f3f411b3c8431b71ecb9880fc5caa08e0fc6f29df3f464935a681bc551", func := "coxswain/coxswainlaw07.AluDoes", spec := "aluDoes", named := ["coxswain/alu.rests"], apart := false, laid := [("coxswain/alu.rests", laid_coxswain_alu_rests)], narrowed := true }
def AluDoesUptoSaid : Prop := aluDoesUptoRow.holds Tryd.pinned (OpenSpec.upto aluDoesSpec)

/-- 'coxswainlaw07.AluSwaps', WHERE WHAT IT READS IS OF BULK AT MOST 1048576: true; the input reads as it did. -/
def aluSwapsUptoRow : OpenClaim := { program := "ytgpipfmgjbecjabdoor", sum := "ed4080f3f411b3c8431b71ecb9880fc5caa08e0fc6f29df3f464935a681bc551", func := "coxswain/coxswainlaw07.AluSwaps", spec := "aluSwaps", named := ["coxswain/alu.rests"], apart := false, laid := [("coxswain/alu.rests", laid_coxswain_alu_rests)], narrowed := true }
def AluSwapsUptoSaid : Prop := aluSwapsUptoRow.holds Tryd.pinned (OpenSpec.upto aluSwapsSpec)

/-- 'coxswainlaw07.AluRests', WHERE WHAT IT READS IS OF BULK AT MOST 1048576: true; the input reads as it did. -/
def aluRestsUptoRow : OpenClaim := { program := "ytgpipfmgjbecjabdoor", sum := "ed4080f3f411b3c8431b71ecb9880fc5caa08e0fc6f29df3f464935a681bc551", func := "coxswain/coxswainlaw07.AluRests", spec := "aluRests", named := ["coxswain/alu.rests"], apart := false, laid := [("coxswain/alu.rests", laid_coxswain_alu_rests)], narrowed := true }
def AluRestsUptoSaid : Prop := aluRestsUptoRow.holds Tryd.pinned (OpenSpec.upto aluRestsSpec)

end Rows
end Go.Proofs.YtgpipfmgjbecjabDoor
