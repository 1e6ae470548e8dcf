/-

 An object of the kind seq by value: how many words it has, how many steps its operations have, and its words at the beginning.
-/
import Derived.Test.YthhbhbfkbncegabGreatDoorJObj
import Derived.Deep.CutRange
section
set_option linter.unusedSimpArgs false
set_option linter.unusedVariables false
namespace Go.Proofs.YthhbhbfkbncegabGreatDoor.Sq
open Go.ChangeShapes Go.WideShapes Go.ChangeAt Go.RowKit Ws Mm Pa
open Go.Proofs.YthhbhbfkbncegabGreatDoor.Ob

/-- whether an object of this kind may be -/
def rightB (wd sl cp sa : Int) (il rl : Nat) : Bool := decide ((1 ≤ wd ∧ wd ≤ 8) ∧ (il : Int) = wd ∧ (1 ≤ (rl : Int) ∧ (rl : Int) ≤ 4) ∧ sl = 0 ∧ (1 ≤ cp ∧ cp ≤ 16) ∧ sa % 2 = 0)

theorem right_not (k wd sl cp sa ow : Int) (ia ra : Option Addr) (il ic rl rc : Nat) (hk : k ≠ 3) (w : World) (hsa : 0 ≤ sa ∧ sa < 4294967296 := by assumption) :
 Calls Tryz.prog 120 #[.agg #[.int .i64 k, .int .i64 wd, .int .i64 sl, .int .i64 cp, .int .u32 sa, .slice ia il ic, .int .i64 ow, .slice ra rl rc]] w fun e w' => e = .returned (.bool false) ∧ Same w w' := by
 have hb : regB k wd il rl 3 = false := by unfold regB; rw [decide_eq_false (by omega)]
 have HR := fun w' => register_any 3 k wd sl cp sa ow ia ra il ic rl rc w'
 simp only [hb] at HR
 clear hb
 go_enter Tryz.func120, Tryz.ntmps120
 go_wp2_with fail
 refine (HR _).mono ?_
 rintro e w1 ⟨rfl, s1⟩
 go_wp2_with fail
 go_ret
 exact ⟨rfl, Same.trans ((Same.refl _).alloc _) s1⟩

set_option maxHeartbeats 400000 in
theorem right_any (wd sl cp sa ow : Int) (ia ra : Option Addr) (il ic rl rc : Nat) (w : World) (hsa : 0 ≤ sa ∧ sa < 4294967296 := by assumption) :
 Calls Tryz.prog 120 #[.agg #[.int .i64 3, .int .i64 wd, .int .i64 sl, .int .i64 cp, .int .u32 sa, .slice ia il ic, .int .i64 ow, .slice ra rl rc]] w fun e w' => e = .returned (.bool (rightB wd sl cp sa il rl)) ∧ Same w w' := by
 have f1 := and_one sa hsa
 have s0 := (Same.refl w).alloc (.cells #[.int .i64 3, .int .i64 wd, .int .i64 sl, .int .i64 cp, .int .u32 sa, .slice ia il ic, .int .i64 ow, .slice ra rl rc] 43)
 have hb := Blk.new w 43 #[.int .i64 3, .int .i64 wd, .int .i64 sl, .int .i64 cp, .int .u32 sa, .slice ia il ic, .int .i64 ow, .slice ra rl rc]
 have HB := Lib.hid hb
 clear hb
 cases hr : regB 3 wd il rl 3
 all_goals
  have HR := fun w' => register_any 3 3 wd sl cp sa ow ia ra il ic rl rc w'
  simp only [hr] at HR
  have hr2 := Lib.hid hr
  clear hr
  go_enter Tryz.func120, Tryz.ntmps120
  go_wp2_with fail
  refine (HR _).mono ?_
  rintro e w1 ⟨rfl, s1⟩
  obtain ⟨_, _, d2, d3, d4, _, _, d7⟩ := obj_cells (HB.out.same s1)
  have S := s0.trans s1
  clear HB s0 s1 HR
  generalize w.heap.size = q at *
  go_wp2
  all_goals
   go_ret
   have hr := hr2.out
   unfold regB at hr
   simp only [decide_eq_true_eq, decide_eq_false_iff_not] at hr
   refine ⟨ret_bool ?_, S⟩
   unfold rightB
   first
    | (rw [Bool.eq_iff_iff, decide_eq_true_eq, decide_eq_true_eq]; omega)
    | (rw [Bool.eq_iff_iff]; simp only [Bool.not_eq_true', Bool.not_eq_eq_eq_not, Bool.not_true, Bool.not_false, beq_iff_eq, bne_iff_ne, ne_eq, beq_eq_false_iff_ne, bne_eq_false_iff_eq, decide_eq_true_eq, Bool.false_eq_true, true_iff, false_iff, and_true, true_and, and_false, false_and] at *; omega)

end Go.Proofs.YthhbhbfkbncegabGreatDoor.Sq
end
section
set_option linter.unusedSimpArgs false
set_option linter.unusedVariables false
namespace Go.Proofs.YthhbhbfkbncegabGreatDoor.Sq
open Go.ChangeShapes Go.WideShapes Go.ChangeAt Go.RowKit Ws Mm Pa
open Go.Proofs.YthhbhbfkbncegabGreatDoor.Ob

theorem HQ {wd sl cp sa : Int} {il rl : Nat} (h : rightB wd sl cp sa il rl = true) : (1 ≤ wd ∧ wd ≤ 8) ∧ (il : Int) = wd ∧ (1 ≤ (rl : Int) ∧ (rl : Int) ≤ 4) ∧ sl = 0 ∧ (1 ≤ cp ∧ cp ≤ 16) ∧ sa % 2 = 0 := by
 unfold rightB at h
 exact of_decide_eq_true h
def boundI (wd cp op : Int) : Int := if op = 2 then wd + 3 else if op = 1 then cp * (wd + 2) else 0
theorem bound_yes (wd sl cp sa ow : Int) (ia ra : Option Addr) (il ic rl rc : Nat) (op : Int) (w : World) (hr : rightB wd sl cp sa il rl = true) (hsa : 0 ≤ sa ∧ sa < 4294967296 := by assumption) :
 Calls Tryz.prog 123 #[.agg #[.int .i64 3, .int .i64 wd, .int .i64 sl, .int .i64 cp, .int .u32 sa, .slice ia il ic, .int .i64 ow, .slice ra rl rc], .int .i64 op] w fun e w' => e = .returned (.int .i64 (boundI wd cp op)) ∧ Same w w' := by
 have hb := Blk.new w 43 #[.int .i64 3, .int .i64 wd, .int .i64 sl, .int .i64 cp, .int .u32 sa, .slice ia il ic, .int .i64 ow, .slice ra rl rc]
 have s0 := (Same.refl w).alloc (.cells #[.int .i64 3, .int .i64 wd, .int .i64 sl, .int .i64 cp, .int .u32 sa, .slice ia il ic, .int .i64 ow, .slice ra rl rc] 43)
 have HB := Lib.hid hb
 have HR := fun w' => right_any wd sl cp sa ow ia ra il ic rl rc w'
 rw [hr] at HR
 have hq := HQ hr
 obtain ⟨c1, c2⟩ := hq.2.2.2.2.1
 have m1 : 0 ≤ cp * (wd + 2) := Int.mul_nonneg (by omega) (by omega)
 have m2 : cp * (wd + 2) ≤ 160 := by
  have := Int.mul_le_mul c2 (show wd + 2 ≤ 10 by omega) (by omega) (by omega)
  omega
 have m3 : wrap64 (cp * (wd + 2)) = cp * (wd + 2) := by unfold wrap64; omega
 have m4 : IntKind.i64.wrap (cp * (wd + 2)) = cp * (wd + 2) := Go.IntWalk.i64_in _ (by omega)
 obtain ⟨h1, h2⟩ := hq.1
 have HQ2 := Lib.hid hq
 clear hb hq hr
 go_enter Tryz.func123, Tryz.ntmps123
 go_wp2_with fail
 refine (HR _).mono ?_
 rintro e w1 ⟨rfl, s1⟩
 have hb1 := HB.out.same s1
 have S1 := Lib.hid (s0.trans s1)
 have HB1 := Lib.hid hb1
 obtain ⟨d0, d1, d2, d3, d4, d5, d6, d7⟩ := obj_cells hb1
 clear hb1 s0 s1 HB HR
 generalize w.heap.size = q at *
 go_wp2
 all_goals
  go_ret
  exact ⟨ret_int (by unfold boundI; try simp only [beq_iff_eq, beq_eq_false_iff_ne, ne_eq] at *; repeat (split <;> try omega)), S1.out⟩
theorem bound_no (wd sl cp sa ow : Int) (ia ra : Option Addr) (il ic rl rc : Nat) (op : Int) (w : World) (hr : rightB wd sl cp sa il rl = false) (hsa : 0 ≤ sa ∧ sa < 4294967296 := by assumption) :
 Calls Tryz.prog 123 #[.agg #[.int .i64 3, .int .i64 wd, .int .i64 sl, .int .i64 cp, .int .u32 sa, .slice ia il ic, .int .i64 ow, .slice ra rl rc], .int .i64 op] w fun e w' => e = .returned (.int .i64 0) ∧ Same w w' := by
 have HR := fun w' => right_any wd sl cp sa ow ia ra il ic rl rc w'
 rw [hr] at HR
 clear hr
 go_enter Tryz.func123, Tryz.ntmps123
 go_wp2_with fail
 refine (HR _).mono ?_
 rintro e w1 ⟨rfl, s1⟩
 go_wp2_with fail
 go_ret
 exact ⟨rfl, Same.trans ((Same.refl _).alloc _) s1⟩
end Go.Proofs.YthhbhbfkbncegabGreatDoor.Sq
end
