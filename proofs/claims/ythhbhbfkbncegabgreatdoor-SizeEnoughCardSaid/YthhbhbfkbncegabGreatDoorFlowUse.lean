/-

 Contracts of package flow (layer 10): may, Loops, Depth, Next; two rows of numbers, or of loops, held against each other.
-/
import Derived.Test.YthhbhbfkbncegabGreatDoorFlowCk
import Derived.WalkKit
set_option linter.unusedVariables false
set_option linter.unusedSimpArgs false
namespace Go.Proofs.YthhbhbfkbncegabGreatDoor.Fw
open Go.ChangeShapes Go.WideShapes Go.ChangeAt Go.RowKit Ws Fp
open Go.Proofs.YthhbhbfkbncegabGreatDoor.Is (Tabs ins rightB leadB)

/-- does a program go where it may? -/
def okB (p : List Ins) : Bool := decide (ckE p = 0)
theorem okB_fine {p : List Ins} (h : okB p = true) : Fine rightI p := fine_of (of_decide_eq_true h)
theorem may_any (A : Option Addr) (m c : Nat) (p : List Ins) (w : World) (hl : p.length = m) (hm : m ≤ 5000) (hp : Prg w A p) (ht : Tabs w) :
 Calls Tryz.prog 144 #[.slice A m c] w fun e w' => e = .returned (.bool (okB p)) ∧ Same w w' := by
 have CK := Lib.hid (check_any A m c p w hl hm hp ht)
 have hE : (ckE p == 0) = okB p := by unfold okB; rw [Bool.eq_iff_iff]; simp
 have HE := Lib.hid hE
 clear hl hp ht hE
 go_enter Tryz.func144, Tryz.ntmps144
 go_wp2_with fail
 refine CK.out.mono ?_
 rintro e w1 ⟨rfl, s1⟩
 go_wp2_with fail
 go_ret
 exact ⟨ret_bool HE.out, s1⟩
/-- the places to which one may come, as a row of numbers -/
def Nums (w : World) (l : List Int) (e : Ending) (w' : World) : Prop := ∃ A c, e = .returned (.slice A l.length c) ∧ Row w' A (l.map (Value.int .i64)) ∧ Same w w'
/-- what Next tells -/
def nextsL (p : List Ins) (x : Int) : List Int := if okB p = true ∧ 0 ≤ x ∧ x < p.length then nextL p x.toNat else []
end Go.Proofs.YthhbhbfkbncegabGreatDoor.Fw
