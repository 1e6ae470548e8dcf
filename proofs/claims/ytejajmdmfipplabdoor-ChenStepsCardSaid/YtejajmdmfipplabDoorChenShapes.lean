/-

  The walk of the law ChenShapes.
-/
import Derived.Test.YtejajmdmfipplabDoorChenAwake
import Derived.Test.YtejajmdmfipplabDoorChenRlay
set_option linter.unusedSimpArgs false
set_option linter.unusedVariables false
namespace Go.Proofs.YtejajmdmfipplabDoor.Ch
open Go.ChangeShapes Go.WideShapes Go.ChangeAt Go.RowKit Ws Mm Pa
open Go.Proofs.YtejajmdmfipplabDoor.Ob (obj_cells)

theorem right_none (k wd sl cp sa ow : Int) (ia ra : Option Addr) (il ic rl rc : Nat) (w : World) (hr : k ≠ 2 ∨ rightB wd sl cp sa il rl = false) (hsa : 0 ≤ sa ∧ sa < 4294967296 := by assumption) : Calls Tryd.prog 29 #[.agg #[.int .i64 k, .int .i64 wd, .int .i64 sl, .int .i64 cp, .int .u32 sa, .slice ia il ic, .int .i64 ow, .slice ra rl rc]] w fun e w' => e = .returned (.bool false) ∧ Same w w' := by
  by_cases hk : k = 2
  · subst hk
    have := right_any wd sl cp sa ow ia ra il ic rl rc w
    rcases hr with hr | hr
    · exact absurd rfl hr
    · rw [hr] at this
      exact this
  · exact right_not k wd sl cp sa ow ia ra il ic rl rc hk w
theorem size_none (k wd sl cp sa ow : Int) (ia ra : Option Addr) (il ic rl rc : Nat) (w : World) (hr : k ≠ 2 ∨ rightB wd sl cp sa il rl = false) (hsa : 0 ≤ sa ∧ sa < 4294967296 := by assumption) : Calls Tryd.prog 41 #[.agg #[.int .i64 k, .int .i64 wd, .int .i64 sl, .int .i64 cp, .int .u32 sa, .slice ia il ic, .int .i64 ow, .slice ra rl rc]] w fun e w' => e = .returned (.int .i64 0) ∧ Same w w' := by
  have HR : ∀ w', Calls Tryd.prog 29 #[.agg #[.int .i64 k, .int .i64 wd, .int .i64 sl, .int .i64 cp, .int .u32 sa, .slice ia il ic, .int .i64 ow, .slice ra rl rc]] w' fun e w'' => e = .returned (.bool false) ∧ Same w' w'' := fun w' => right_none k wd sl cp sa ow ia ra il ic rl rc w' hr
  clear hr
  go_enter Tryd.func41, Tryd.ntmps41
  go_wp2_with fail
  refine (HR _).mono ?_
  rintro e w1 ⟨rfl, s1⟩
  go_wp2_with fail
  go_ret
  exact ⟨rfl, Same.trans ((Same.refl _).alloc _) s1⟩
theorem small_any (k wd sl cp sa ow : Int) (ia ra : Option Addr) (il ic rl rc : Nat) (w : World) (b : Bool) (hb : decide ((il : Int) ≤ 100 ∧ (rl : Int) ≤ 100) = b) (hsa : 0 ≤ sa ∧ sa < 4294967296 := by assumption) : Calls Tryd.prog 28 #[.agg #[.int .i64 k, .int .i64 wd, .int .i64 sl, .int .i64 cp, .int .u32 sa, .slice ia il ic, .int .i64 ow, .slice ra rl rc]] w fun e w' => e = .returned (.bool b) ∧ Same w w' := by
  have HB := Lib.hid hb
  clear hb
  go_enter Tryd.func28, Tryd.ntmps28
  go_wp2
  all_goals
    go_ret
    refine ⟨ret_bool ?_, (Same.refl _).alloc _⟩
    rw [← HB.out]
    first
      | (rw [Bool.eq_iff_iff, decide_eq_true_eq, decide_eq_true_eq]; omega)
      | (simp <;> omega)


end Go.Proofs.YtejajmdmfipplabDoor.Ch
