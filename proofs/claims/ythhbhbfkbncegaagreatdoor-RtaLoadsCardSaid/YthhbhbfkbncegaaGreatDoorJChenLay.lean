/-

 An object of the kind chen by value: how many words it has, how many steps its operations have, and its words at the beginning.
-/
import Derived.Test.YthhbhbfkbncegaaGreatDoorJObj
import Derived.Deep.CutRange
section
set_option linter.unusedSimpArgs false
set_option linter.unusedVariables false
namespace Go.Proofs.YthhbhbfkbncegaaGreatDoor.Ch
open Go.ChangeShapes Go.WideShapes Go.ChangeAt Go.RowKit Ws Mm Pa
open Go.Proofs.YthhbhbfkbncegaaGreatDoor.Ob

/-- whether an object of this kind may be -/
def rightB (wd sl cp sa : Int) (il rl : Nat) : Bool := decide ((1 ≤ wd ∧ wd ≤ 8) ∧ (il : Int) = wd ∧ (1 ≤ (rl : Int) ∧ (rl : Int) ≤ 4) ∧ sl = 0 ∧ cp = 0 ∧ sa = 0)

theorem right_not (k wd sl cp sa ow : Int) (ia ra : Option Addr) (il ic rl rc : Nat) (hk : k ≠ 2) (w : World) (hsa : 0 ≤ sa ∧ sa < 4294967296 := by assumption) :
  Calls Tryz.prog 142 #[.agg #[.int .i64 k, .int .i64 wd, .int .i64 sl, .int .i64 cp, .int .u32 sa, .slice ia il ic, .int .i64 ow, .slice ra rl rc]] w fun e w' => e = .returned (.bool false) ∧ Same w w' := by
 have hb : regB k wd il rl 2 = false := by unfold regB; rw [decide_eq_false (by omega)]
 have HR := fun w' => register_any 2 k wd sl cp sa ow ia ra il ic rl rc w'
 simp only [hb] at HR
 clear hb
 go_enter Tryz.func142, Tryz.ntmps142
 go_wp2_with fail
 refine (HR _).mono ?_
 rintro e w1 ⟨rfl, s1⟩
 go_wp2_with fail
 go_ret
 exact ⟨rfl, Same.trans ((Same.refl _).alloc _) s1⟩

set_option maxHeartbeats 400000 in
theorem right_any (wd sl cp sa ow : Int) (ia ra : Option Addr) (il ic rl rc : Nat) (w : World) (hsa : 0 ≤ sa ∧ sa < 4294967296 := by assumption) :
  Calls Tryz.prog 142 #[.agg #[.int .i64 2, .int .i64 wd, .int .i64 sl, .int .i64 cp, .int .u32 sa, .slice ia il ic, .int .i64 ow, .slice ra rl rc]] w fun e w' => e = .returned (.bool (rightB wd sl cp sa il rl)) ∧ Same w w' := by
 have s0 := (Same.refl w).alloc (.cells #[.int .i64 2, .int .i64 wd, .int .i64 sl, .int .i64 cp, .int .u32 sa, .slice ia il ic, .int .i64 ow, .slice ra rl rc] 34)
 have hb := Blk.new w 34 #[.int .i64 2, .int .i64 wd, .int .i64 sl, .int .i64 cp, .int .u32 sa, .slice ia il ic, .int .i64 ow, .slice ra rl rc]
 have HB := Lib.hid hb
 clear hb
 cases hr : regB 2 wd il rl 2
 all_goals
  have HR := fun w' => register_any 2 2 wd sl cp sa ow ia ra il ic rl rc w'
  simp only [hr] at HR
  have hr2 := Lib.hid hr
  clear hr
  go_enter Tryz.func142, Tryz.ntmps142
  go_wp2_with fail
  refine (HR _).mono ?_
  rintro e w1 ⟨rfl, s1⟩
  obtain ⟨_, _, d2, d3, d4, _, _, d7⟩ := obj_cells (HB.out.same s1)
  have S := s0.trans s1
  clear HB s0 s1 HR
  generalize w.heap.size = q at *
  go_wp2
  all_goals
   go_ret
   have hr := hr2.out
   unfold regB at hr
   simp only [decide_eq_true_eq, decide_eq_false_iff_not] at hr
   refine ⟨ret_bool ?_, S⟩
   unfold rightB
   first
    | (rw [Bool.eq_iff_iff, decide_eq_true_eq, decide_eq_true_eq]; omega)
    | (rw [Bool.eq_iff_iff]; simp only [beq_iff_eq, bne_iff_ne, ne_eq, beq_eq_false_iff_ne, bne_eq_false_iff_eq, decide_eq_true_eq, Bool.false_eq_true, true_iff, false_iff, and_true, true_and, and_false, false_and] at *; omega)

set_option maxHeartbeats 2000000 in
set_option maxRecDepth 100000 in
theorem rright_any (wd sl cp sa ow : Int) (ia ra : Option Addr) (il ic rl rc : Nat) (w : World) (hsa : 0 ≤ sa ∧ sa < 4294967296 := by assumption) :
  Calls Tryz.prog 92 #[.agg #[.int .i64 2, .int .i64 wd, .int .i64 sl, .int .i64 cp, .int .u32 sa, .slice ia il ic, .int .i64 ow, .slice ra rl rc]] w fun e w' => e = .returned (.bool (rightB wd sl cp sa il rl)) ∧ Same w w' := by
 go_enter Tryz.func92, Tryz.ntmps92
 go_wp2
 all_goals
  go_ret
  refine ⟨ret_bool ?_, (Same.refl _).alloc _⟩
  unfold rightB
  first
   | (rw [Bool.eq_iff_iff, decide_eq_true_eq, decide_eq_true_eq]; omega)
   | (rw [Bool.eq_iff_iff]; simp only [beq_iff_eq, bne_iff_ne, ne_eq, beq_eq_false_iff_ne, bne_eq_false_iff_eq, decide_eq_true_eq, Bool.false_eq_true, true_iff, false_iff, and_true, true_and, and_false, false_and] at *; omega)

end Go.Proofs.YthhbhbfkbncegaaGreatDoor.Ch
end
section
set_option linter.unusedSimpArgs false
set_option linter.unusedVariables false
namespace Go.Proofs.YthhbhbfkbncegaaGreatDoor.Ch
open Go.ChangeShapes Go.WideShapes Go.ChangeAt Go.RowKit Ws Mm Pa
open Go.Proofs.YthhbhbfkbncegaaGreatDoor.Ob

theorem HQ {wd sl cp sa : Int} {il rl : Nat} (h : rightB wd sl cp sa il rl = true) : (1 ≤ wd ∧ wd ≤ 8) ∧ (il : Int) = wd ∧ (1 ≤ (rl : Int) ∧ (rl : Int) ≤ 4) ∧ sl = 0 ∧ cp = 0 ∧ sa = 0 := by
 unfold rightB at h
 exact of_decide_eq_true h
def boundI (wd cp : Int) (rl : Nat) (op : Int) : Int := if op = 2 then wd + 2 * rl + 2 else if op = 1 then wd + 4 else 0
theorem bound_yes (wd sl cp sa ow : Int) (ia ra : Option Addr) (il ic rl rc : Nat) (op : Int) (w : World) (hr : rightB wd sl cp sa il rl = true) (hsa : 0 ≤ sa ∧ sa < 4294967296 := by assumption) :
  Calls Tryz.prog 145 #[.agg #[.int .i64 2, .int .i64 wd, .int .i64 sl, .int .i64 cp, .int .u32 sa, .slice ia il ic, .int .i64 ow, .slice ra rl rc], .int .i64 op] w fun e w' => e = .returned (.int .i64 (boundI wd cp rl op)) ∧ Same w w' := by
 have hb := Blk.new w 34 #[.int .i64 2, .int .i64 wd, .int .i64 sl, .int .i64 cp, .int .u32 sa, .slice ia il ic, .int .i64 ow, .slice ra rl rc]
 have s0 := (Same.refl w).alloc (.cells #[.int .i64 2, .int .i64 wd, .int .i64 sl, .int .i64 cp, .int .u32 sa, .slice ia il ic, .int .i64 ow, .slice ra rl rc] 34)
 have HB := Lib.hid hb
 have HR := fun w' => right_any wd sl cp sa ow ia ra il ic rl rc w'
 rw [hr] at HR
 have hq := HQ hr
 obtain ⟨c1, c2⟩ := hq.2.2.2.2.1
 obtain ⟨n1, n2⟩ := hq.2.2.1
 have m1 := i64_in (2 * (rl : Int)) (by omega)
 have m2 := i64_in (wd + 2 * (rl : Int)) (by omega)
 have m3 := i64_in (wd + 2 * (rl : Int) + 2) (by omega)
 have m4 := i64_in (wd + 4) (by omega)
 obtain ⟨h1, h2⟩ := hq.1
 have HQ2 := Lib.hid hq
 clear hb hq hr
 go_enter Tryz.func145, Tryz.ntmps145
 go_wp2_with fail
 refine (HR _).mono ?_
 rintro e w1 ⟨rfl, s1⟩
 have hb1 := HB.out.same s1
 have S1 := Lib.hid (s0.trans s1)
 have HB1 := Lib.hid hb1
 obtain ⟨d0, d1, d2, d3, d4, d5, d6, d7⟩ := obj_cells hb1
 clear hb1 s0 s1 HB HR
 generalize w.heap.size = q at *
 go_wp2
 all_goals
  go_ret
  exact ⟨ret_int (by unfold boundI; try simp only [beq_iff_eq, beq_eq_false_iff_ne, ne_eq] at *; repeat (split <;> try omega)), S1.out⟩
theorem bound_no (wd sl cp sa ow : Int) (ia ra : Option Addr) (il ic rl rc : Nat) (op : Int) (w : World) (hr : rightB wd sl cp sa il rl = false) (hsa : 0 ≤ sa ∧ sa < 4294967296 := by assumption) :
  Calls Tryz.prog 145 #[.agg #[.int .i64 2, .int .i64 wd, .int .i64 sl, .int .i64 cp, .int .u32 sa, .slice ia il ic, .int .i64 ow, .slice ra rl rc], .int .i64 op] w fun e w' => e = .returned (.int .i64 0) ∧ Same w w' := by
 have HR := fun w' => right_any wd sl cp sa ow ia ra il ic rl rc w'
 rw [hr] at HR
 clear hr
 go_enter Tryz.func145, Tryz.ntmps145
 go_wp2_with fail
 refine (HR _).mono ?_
 rintro e w1 ⟨rfl, s1⟩
 go_wp2_with fail
 go_ret
 exact ⟨rfl, Same.trans ((Same.refl _).alloc _) s1⟩
set_option maxHeartbeats 400000 in
theorem rbound_yes (wd sl cp sa ow : Int) (ia ra : Option Addr) (il ic rl rc : Nat) (op : Int) (w : World) (hr : rightB wd sl cp sa il rl = true) (hsa : 0 ≤ sa ∧ sa < 4294967296 := by assumption) :
  Calls Tryz.prog 90 #[.agg #[.int .i64 2, .int .i64 wd, .int .i64 sl, .int .i64 cp, .int .u32 sa, .slice ia il ic, .int .i64 ow, .slice ra rl rc], .int .i64 op] w fun e w' => e = .returned (.int .i64 (boundI wd cp rl op)) ∧ Same w w' := by
 have hb := Blk.new w 34 #[.int .i64 2, .int .i64 wd, .int .i64 sl, .int .i64 cp, .int .u32 sa, .slice ia il ic, .int .i64 ow, .slice ra rl rc]
 have s0 := (Same.refl w).alloc (.cells #[.int .i64 2, .int .i64 wd, .int .i64 sl, .int .i64 cp, .int .u32 sa, .slice ia il ic, .int .i64 ow, .slice ra rl rc] 34)
 have HB := Lib.hid hb
 have HR := fun w' => rright_any wd sl cp sa ow ia ra il ic rl rc w'
 rw [hr] at HR
 have hq := HQ hr
 obtain ⟨c1, c2⟩ := hq.2.2.2.2.1
 obtain ⟨n1, n2⟩ := hq.2.2.1
 have m1 := i64_in (2 * (rl : Int)) (by omega)
 have m2 := i64_in (wd + 2 * (rl : Int)) (by omega)
 have m3 := i64_in (wd + 2 * (rl : Int) + 2) (by omega)
 have m4 := i64_in (wd + 4) (by omega)
 obtain ⟨h1, h2⟩ := hq.1
 have HQ2 := Lib.hid hq
 clear hb hq hr
 go_enter Tryz.func90, Tryz.ntmps90
 go_wp2_with fail
 refine (HR _).mono ?_
 rintro e w1 ⟨rfl, s1⟩
 have hb1 := HB.out.same s1
 have S1 := Lib.hid (s0.trans s1)
 have HB1 := Lib.hid hb1
 obtain ⟨d0, d1, d2, d3, d4, d5, d6, d7⟩ := obj_cells hb1
 clear hb1 s0 s1 HB HR
 generalize w.heap.size = q at *
 go_wp2_with (first | (go_at_call 54; ((with_reducible refine (rwrites_reg 2 (by decide) _).mono ?_); rintro e w' ⟨rfl, rfl⟩)) | (go_at_call 56; ((with_reducible refine (rreads_reg 2 (by decide) _).mono ?_); rintro e w' ⟨rfl, rfl⟩)))
 all_goals
  go_ret
  refine ⟨ret_int ?_, S1.out⟩
  by_cases h2 : op = 2
  ·rw [boundI, if_pos h2]
   all_goals first | rfl | (exfalso; simp_all)
  ·rw [boundI, if_neg h2]
   by_cases h1 : op = 1
   ·rw [if_pos h1]
    all_goals first | rfl | (exfalso; simp_all)
   ·rw [if_neg h1]
    all_goals first | rfl | (exfalso; simp_all)
theorem rbound_no (wd sl cp sa ow : Int) (ia ra : Option Addr) (il ic rl rc : Nat) (op : Int) (w : World) (hr : rightB wd sl cp sa il rl = false) (hsa : 0 ≤ sa ∧ sa < 4294967296 := by assumption) :
  Calls Tryz.prog 90 #[.agg #[.int .i64 2, .int .i64 wd, .int .i64 sl, .int .i64 cp, .int .u32 sa, .slice ia il ic, .int .i64 ow, .slice ra rl rc], .int .i64 op] w fun e w' => e = .returned (.int .i64 0) ∧ Same w w' := by
 have HR := fun w' => rright_any wd sl cp sa ow ia ra il ic rl rc w'
 rw [hr] at HR
 clear hr
 go_enter Tryz.func90, Tryz.ntmps90
 go_wp2_with fail
 refine (HR _).mono ?_
 rintro e w1 ⟨rfl, s1⟩
 go_wp2_with fail
 go_ret
 exact ⟨rfl, Same.trans ((Same.refl _).alloc _) s1⟩

end Go.Proofs.YthhbhbfkbncegaaGreatDoor.Ch
end
