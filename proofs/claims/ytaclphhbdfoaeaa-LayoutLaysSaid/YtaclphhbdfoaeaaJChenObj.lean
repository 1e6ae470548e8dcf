/-

  An object by value: what package chen, and the document's own layer, say of one of the kind chen.
-/
import Derived.Test.YtaclphhbdfoaeaaJSeqObj
set_option linter.unusedSimpArgs false
set_option linter.unusedVariables false
namespace Go.Proofs.Ytaclphhbdfoaeaa.Ch
open Go.ChangeShapes Go.WideShapes Go.ChangeAt Go.RowKit Ws Mm Pa
open Go.Proofs.Ytaclphhbdfoaeaa.Ob

theorem records_any (n : Nat) (hn : n ≤ 4) (w : World) :
    Calls Try.prog 61 #[.int .i64 n] w fun e w' => e = .returned (.int .i64 ((1 + n : Nat) : Int)) ∧ w = w' := by
  have f1 := i64_in (1 + (n : Int)) (by omega)
  have E : Hid ((1 : Int) + (n : Int) = ((1 + n : Nat) : Int)) := Lib.hid (by omega)
  clear hn
  go_enter Try.func61, Try.ntmps61
  go_wp2
  go_ret
  exact ⟨ret_int E.out, rfl⟩

theorem slots_any (n : Nat) (hn : n ≤ 4) (w : World) :
    Calls Try.prog 62 #[.int .i64 n] w fun e w' => e = .returned (.int .i64 ((n + 2 : Nat) : Int)) ∧ w = w' := by
  have f1 := i64_in ((n : Int) + 2) (by omega)
  have E : Hid ((n : Int) + 2 = ((n + 2 : Nat) : Int)) := Lib.hid (by omega)
  clear hn
  go_enter Try.func62, Try.ntmps62
  go_wp2
  go_ret
  exact ⟨ret_int E.out, rfl⟩

/-- whether an object of this kind may be -/
def rightB (wd sl cp sa : Int) (il rl : Nat) : Bool := decide ((1 ≤ wd ∧ wd ≤ 8) ∧ (il : Int) = wd ∧ (1 ≤ (rl : Int) ∧ (rl : Int) ≤ 4) ∧ sl = 0 ∧ cp = 0 ∧ sa = 0)

theorem right_not (k wd sl cp sa ow : Int) (ia ra : Option Addr) (il ic rl rc : Nat) (hk : k ≠ 2) (w : World) (hsa : 0 ≤ sa ∧ sa < 4294967296 := by assumption) :
    Calls Try.prog 39 #[.agg #[.int .i64 k, .int .i64 wd, .int .i64 sl, .int .i64 cp, .int .u32 sa, .slice ia il ic, .int .i64 ow, .slice ra rl rc]] w fun e w' => e = .returned (.bool false) ∧ Same w w' := by
  have hb : regB k wd il rl 2 = false := by unfold regB; rw [decide_eq_false (by omega)]
  have HR := fun w' => register_any 2 k wd sl cp sa ow ia ra il ic rl rc w'
  simp only [hb] at HR
  clear hb
  go_enter Try.func39, Try.ntmps39
  go_wp2_with fail
  refine (HR _).mono ?_
  rintro e w1 ⟨rfl, s1⟩
  go_wp2_with fail
  go_ret
  exact ⟨rfl, Same.trans ((Same.refl _).alloc _) s1⟩

set_option maxHeartbeats 400000 in
theorem right_any (wd sl cp sa ow : Int) (ia ra : Option Addr) (il ic rl rc : Nat) (w : World) (hsa : 0 ≤ sa ∧ sa < 4294967296 := by assumption) :
    Calls Try.prog 39 #[.agg #[.int .i64 2, .int .i64 wd, .int .i64 sl, .int .i64 cp, .int .u32 sa, .slice ia il ic, .int .i64 ow, .slice ra rl rc]] w fun e w' => e = .returned (.bool (rightB wd sl cp sa il rl)) ∧ Same w w' := by
  have s0 := (Same.refl w).alloc (.cells #[.int .i64 2, .int .i64 wd, .int .i64 sl, .int .i64 cp, .int .u32 sa, .slice ia il ic, .int .i64 ow, .slice ra rl rc] 47)
  have hb := Blk.new w 47 #[.int .i64 2, .int .i64 wd, .int .i64 sl, .int .i64 cp, .int .u32 sa, .slice ia il ic, .int .i64 ow, .slice ra rl rc]
  have HB := Lib.hid hb
  clear hb
  cases hr : regB 2 wd il rl 2
  all_goals
    have HR := fun w' => register_any 2 2 wd sl cp sa ow ia ra il ic rl rc w'
    simp only [hr] at HR
    have hr2 := Lib.hid hr
    clear hr
    go_enter Try.func39, Try.ntmps39
    go_wp2_with fail
    refine (HR _).mono ?_
    rintro e w1 ⟨rfl, s1⟩
    obtain ⟨_, _, d2, d3, d4, _, _, d7⟩ := obj_cells (HB.out.same s1)
    have S := s0.trans s1
    clear HB s0 s1 HR
    generalize w.heap.size = q at *
    go_wp2
    all_goals
      go_ret
      have hr := hr2.out
      unfold regB at hr
      simp only [decide_eq_true_eq, decide_eq_false_iff_not] at hr
      refine ⟨ret_bool ?_, S⟩
      unfold rightB
      first
        | (rw [Bool.eq_iff_iff, decide_eq_true_eq, decide_eq_true_eq]; omega)
        | (rw [Bool.eq_iff_iff]; simp only [beq_iff_eq, bne_iff_ne, ne_eq, beq_eq_false_iff_ne, bne_eq_false_iff_eq, decide_eq_true_eq, Bool.false_eq_true, true_iff, false_iff, and_true, true_and, and_false, false_and] at *; omega)

set_option maxHeartbeats 2000000 in
set_option maxRecDepth 100000 in
theorem rright_any (wd sl cp sa ow : Int) (ia ra : Option Addr) (il ic rl rc : Nat) (w : World) (hsa : 0 ≤ sa ∧ sa < 4294967296 := by assumption) :
    Calls Try.prog 22 #[.agg #[.int .i64 2, .int .i64 wd, .int .i64 sl, .int .i64 cp, .int .u32 sa, .slice ia il ic, .int .i64 ow, .slice ra rl rc]] w fun e w' => e = .returned (.bool (rightB wd sl cp sa il rl)) ∧ Same w w' := by
  go_enter Try.func22, Try.ntmps22
  go_wp2
  all_goals
    go_ret
    refine ⟨ret_bool ?_, (Same.refl _).alloc _⟩
    unfold rightB
    first
      | (rw [Bool.eq_iff_iff, decide_eq_true_eq, decide_eq_true_eq]; omega)
      | (rw [Bool.eq_iff_iff]; simp only [beq_iff_eq, bne_iff_ne, ne_eq, beq_eq_false_iff_ne, bne_eq_false_iff_eq, decide_eq_true_eq, Bool.false_eq_true, true_iff, false_iff, and_true, true_and, and_false, false_and] at *; omega)

end Go.Proofs.Ytaclphhbdfoaeaa.Ch
