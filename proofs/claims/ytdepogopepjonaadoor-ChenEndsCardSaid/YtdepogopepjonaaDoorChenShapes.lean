/-

  The walk of the law ChenShapes.
-/
import Derived.Test.YtdepogopepjonaaDoorChenAwake
import Derived.Test.YtdepogopepjonaaDoorChenRlay
set_option linter.unusedSimpArgs false
set_option linter.unusedVariables false
namespace Go.Proofs.YtdepogopepjonaaDoor.Ch
open Go.ChangeShapes Go.WideShapes Go.ChangeAt Go.RowKit Ws Mm Pa
open Go.Proofs.YtdepogopepjonaaDoor.Ob (obj_cells)

theorem right_none (k wd sl cp sa ow : Int) (ia ra : Option Addr) (il ic rl rc : Nat) (w : World) (hr : k ≠ 2 ∨ rightB wd sl cp sa il rl = false) (hsa : 0 ≤ sa ∧ sa < 4294967296 := by assumption) : Calls Tryd.prog 11 #[.agg #[.int .i64 k, .int .i64 wd, .int .i64 sl, .int .i64 cp, .int .u32 sa, .slice ia il ic, .int .i64 ow, .slice ra rl rc]] w fun e w' => e = .returned (.bool false) ∧ Same w w' := by
  by_cases hk : k = 2
  · subst hk
    have := right_any wd sl cp sa ow ia ra il ic rl rc w
    rcases hr with hr | hr
    · exact absurd rfl hr
    · rw [hr] at this
      exact this
  · exact right_not k wd sl cp sa ow ia ra il ic rl rc hk w
theorem size_none (k wd sl cp sa ow : Int) (ia ra : Option Addr) (il ic rl rc : Nat) (w : World) (hr : k ≠ 2 ∨ rightB wd sl cp sa il rl = false) (hsa : 0 ≤ sa ∧ sa < 4294967296 := by assumption) : Calls Tryd.prog 12 #[.agg #[.int .i64 k, .int .i64 wd, .int .i64 sl, .int .i64 cp, .int .u32 sa, .slice ia il ic, .int .i64 ow, .slice ra rl rc]] w fun e w' => e = .returned (.int .i64 0) ∧ Same w w' := by
  have HR : ∀ w', Calls Tryd.prog 11 #[.agg #[.int .i64 k, .int .i64 wd, .int .i64 sl, .int .i64 cp, .int .u32 sa, .slice ia il ic, .int .i64 ow, .slice ra rl rc]] w' fun e w'' => e = .returned (.bool false) ∧ Same w' w'' := fun w' => right_none k wd sl cp sa ow ia ra il ic rl rc w' hr
  clear hr
  go_enter Tryd.func12, Tryd.ntmps12
  go_wp2_with fail
  refine (HR _).mono ?_
  rintro e w1 ⟨rfl, s1⟩
  go_wp2_with fail
  go_ret
  exact ⟨rfl, Same.trans ((Same.refl _).alloc _) s1⟩
theorem bound_none (k wd sl cp sa ow : Int) (ia ra : Option Addr) (il ic rl rc : Nat) (op : Int) (w : World) (hr : k ≠ 2 ∨ rightB wd sl cp sa il rl = false) (hsa : 0 ≤ sa ∧ sa < 4294967296 := by assumption) : Calls Tryd.prog 14 #[.agg #[.int .i64 k, .int .i64 wd, .int .i64 sl, .int .i64 cp, .int .u32 sa, .slice ia il ic, .int .i64 ow, .slice ra rl rc], .int .i64 op] w fun e w' => e = .returned (.int .i64 0) ∧ Same w w' := by
  have HR : ∀ w', Calls Tryd.prog 11 #[.agg #[.int .i64 k, .int .i64 wd, .int .i64 sl, .int .i64 cp, .int .u32 sa, .slice ia il ic, .int .i64 ow, .slice ra rl rc]] w' fun e w'' => e = .returned (.bool false) ∧ Same w' w'' := fun w' => right_none k wd sl cp sa ow ia ra il ic rl rc w' hr
  clear hr
  go_enter Tryd.func14, Tryd.ntmps14
  go_wp2_with fail
  refine (HR _).mono ?_
  rintro e w1 ⟨rfl, s1⟩
  go_wp2_with fail
  go_ret
  exact ⟨rfl, Same.trans ((Same.refl _).alloc _) s1⟩
theorem small_any (k wd sl cp sa ow : Int) (ia ra : Option Addr) (il ic rl rc : Nat) (w : World) (b : Bool) (hb : decide ((il : Int) ≤ 100 ∧ (rl : Int) ≤ 100) = b) (hsa : 0 ≤ sa ∧ sa < 4294967296 := by assumption) : Calls Tryd.prog 8 #[.agg #[.int .i64 k, .int .i64 wd, .int .i64 sl, .int .i64 cp, .int .u32 sa, .slice ia il ic, .int .i64 ow, .slice ra rl rc]] w fun e w' => e = .returned (.bool b) ∧ Same w w' := by
  have HB := Lib.hid hb
  clear hb
  go_enter Tryd.func8, Tryd.ntmps8
  go_wp2
  all_goals
    go_ret
    refine ⟨ret_bool ?_, (Same.refl _).alloc _⟩
    rw [← HB.out]
    first
      | (rw [Bool.eq_iff_iff, decide_eq_true_eq, decide_eq_true_eq]; omega)
      | (simp <;> omega)


set_option maxHeartbeats 1000000 in
theorem shapes_nok (k wd sl cp sa ow : Int) (ia ra : Option Addr) (il ic rl rc : Nat) (op : Int) (w : World) (hsm : decide ((il : Int) ≤ 100 ∧ (rl : Int) ≤ 100) = true) (hk : (k == 2) = false) (hsa : 0 ≤ sa ∧ sa < 4294967296 := by assumption) (hT : TZ w := by assumption) :
    Calls Tryd.prog 3 #[.agg #[.int .i64 k, .int .i64 wd, .int .i64 sl, .int .i64 cp, .int .u32 sa, .slice ia il ic, .int .i64 ow, .slice ra rl rc], .int .i64 op] w fun e w' => e = .returned (.bool true) ∧ Same w w' := by
  have HTZ := Lib.hid hT
  have HTL : Hid (0 < w.heap.size) := Lib.hid hT.lt
  clear hT
  have hb := Blk.new w 26 #[.int .i64 k, .int .i64 wd, .int .i64 sl, .int .i64 cp, .int .u32 sa, .slice ia il ic, .int .i64 ow, .slice ra rl rc]
  have s0 := (Same.refl w).alloc (.cells #[.int .i64 k, .int .i64 wd, .int .i64 sl, .int .i64 cp, .int .u32 sa, .slice ia il ic, .int .i64 ow, .slice ra rl rc] 26)
  have HB0 := Lib.hid hb
  have HS0 := Lib.hid s0
  have HSM := Lib.hid hsm
  have HR := Lib.hid (show k ≠ 2 ∨ rightB wd sl cp sa il rl = false from .inl (by simpa using hk))
  clear hb s0 hsm
  go_enter Tryd.func3, Tryd.ntmps3
  obtain ⟨d0, d1, d2, d3, d4, d5, d6, d7⟩ := obj_cells HB0.out
  go_wp2_with fail
  refine (small_any k wd sl cp sa ow ia ra il ic rl rc _ true HSM.out).mono ?_
  rintro e v1 ⟨rfl, s1⟩
  have HB1 := Lib.hid (HB0.out.same s1)
  have HS1 := Lib.hid (HS0.out.trans s1)
  clear s1 d0 d1 d2 d3 d4 d5 d6 d7 HB0 HS0
  obtain ⟨d0, d1, d2, d3, d4, d5, d6, d7⟩ := obj_cells HB1.out
  go_wp2_with fail
  refine (right_none k wd sl cp sa ow ia ra il ic rl rc _ HR.out).mono ?_
  rintro e v2 ⟨rfl, s1⟩
  have HB2 := Lib.hid (HB1.out.same s1)
  have HS2 := Lib.hid (HS1.out.trans s1)
  clear s1 d0 d1 d2 d3 d4 d5 d6 d7 HB1 HS1
  obtain ⟨d0, d1, d2, d3, d4, d5, d6, d7⟩ := obj_cells HB2.out
  go_wp2_with fail
  refine (size_none k wd sl cp sa ow ia ra il ic rl rc _ HR.out).mono ?_
  rintro e v3 ⟨rfl, s1⟩
  have HB3 := Lib.hid (HB2.out.same s1)
  have HS3 := Lib.hid (HS2.out.trans s1)
  clear s1 d0 d1 d2 d3 d4 d5 d6 d7 HB2 HS2
  obtain ⟨d0, d1, d2, d3, d4, d5, d6, d7⟩ := obj_cells HB3.out
  go_wp2_with fail
  refine (lay_no k wd sl cp sa ow ia ra il ic rl rc _ HR.out).mono ?_
  rintro e v4 ⟨rfl, s1⟩
  have HB4 := Lib.hid (HB3.out.same s1)
  have HS4 := Lib.hid (HS3.out.trans s1)
  clear s1 d0 d1 d2 d3 d4 d5 d6 d7 HB3 HS3
  obtain ⟨d0, d1, d2, d3, d4, d5, d6, d7⟩ := obj_cells HB4.out
  go_wp2_with fail
  refine (bound_none k wd sl cp sa ow ia ra il ic rl rc op _ HR.out).mono ?_
  rintro e v5 ⟨rfl, s1⟩
  have HB5 := Lib.hid (HB4.out.same s1)
  have HS5 := Lib.hid (HS4.out.trans s1)
  clear s1 d0 d1 d2 d3 d4 d5 d6 d7 HB4 HS4
  go_wp2_with fail
  refine (awake_any _ (HTZ.out.same (HS5.out))).mono ?_
  rintro e w9 ⟨rfl, s1⟩
  go_wp2
  go_ret
  exact ⟨rfl, HS5.out.trans s1⟩

set_option maxHeartbeats 1000000 in
theorem shapes_no1 (wd sl cp sa ow : Int) (ia ra : Option Addr) (il ic rl rc : Nat) (op : Int) (w : World) (hsm : decide ((il : Int) ≤ 100 ∧ (rl : Int) ≤ 100) = true) (hr : rightB wd sl cp sa il rl = false) (hsa : 0 ≤ sa ∧ sa < 4294967296 := by assumption) (hT : TZ w := by assumption) :
    Calls Tryd.prog 3 #[.agg #[.int .i64 2, .int .i64 wd, .int .i64 sl, .int .i64 cp, .int .u32 sa, .slice ia il ic, .int .i64 ow, .slice ra rl rc], .int .i64 op] w fun e w' => e = .returned (.bool true) ∧ Same w w' := by
  have HTZ := Lib.hid hT
  have HTL : Hid (0 < w.heap.size) := Lib.hid hT.lt
  clear hT
  have hb := Blk.new w 26 #[.int .i64 2, .int .i64 wd, .int .i64 sl, .int .i64 cp, .int .u32 sa, .slice ia il ic, .int .i64 ow, .slice ra rl rc]
  have s0 := (Same.refl w).alloc (.cells #[.int .i64 2, .int .i64 wd, .int .i64 sl, .int .i64 cp, .int .u32 sa, .slice ia il ic, .int .i64 ow, .slice ra rl rc] 26)
  have HB0 := Lib.hid hb
  have HS0 := Lib.hid s0
  have HSM := Lib.hid hsm
  have HR := Lib.hid (show (2 : Int) ≠ 2 ∨ rightB wd sl cp sa il rl = false from .inr hr)
  have HRR := fun w' => rright_any wd sl cp sa ow ia ra il ic rl rc w'
  rw [hr] at HRR
  clear hr
  clear hb s0 hsm
  go_enter Tryd.func3, Tryd.ntmps3
  obtain ⟨d0, d1, d2, d3, d4, d5, d6, d7⟩ := obj_cells HB0.out
  go_wp2_with fail
  refine (small_any 2 wd sl cp sa ow ia ra il ic rl rc _ true HSM.out).mono ?_
  rintro e v1 ⟨rfl, s1⟩
  have HB1 := Lib.hid (HB0.out.same s1)
  have HS1 := Lib.hid (HS0.out.trans s1)
  clear s1 d0 d1 d2 d3 d4 d5 d6 d7 HB0 HS0
  obtain ⟨d0, d1, d2, d3, d4, d5, d6, d7⟩ := obj_cells HB1.out
  go_wp2_with fail
  refine (HRR _).mono ?_
  rintro e v2 ⟨rfl, s1⟩
  have HB2 := Lib.hid (HB1.out.same s1)
  have HS2 := Lib.hid (HS1.out.trans s1)
  clear s1 d0 d1 d2 d3 d4 d5 d6 d7 HB1 HS1
  obtain ⟨d0, d1, d2, d3, d4, d5, d6, d7⟩ := obj_cells HB2.out
  go_wp2_with fail
  refine (right_none 2 wd sl cp sa ow ia ra il ic rl rc _ HR.out).mono ?_
  rintro e v3 ⟨rfl, s1⟩
  have HB3 := Lib.hid (HB2.out.same s1)
  have HS3 := Lib.hid (HS2.out.trans s1)
  clear s1 d0 d1 d2 d3 d4 d5 d6 d7 HB2 HS2
  obtain ⟨d0, d1, d2, d3, d4, d5, d6, d7⟩ := obj_cells HB3.out
  go_wp2_with fail
  refine (size_none 2 wd sl cp sa ow ia ra il ic rl rc _ HR.out).mono ?_
  rintro e v4 ⟨rfl, s1⟩
  have HB4 := Lib.hid (HB3.out.same s1)
  have HS4 := Lib.hid (HS3.out.trans s1)
  clear s1 d0 d1 d2 d3 d4 d5 d6 d7 HB3 HS3
  obtain ⟨d0, d1, d2, d3, d4, d5, d6, d7⟩ := obj_cells HB4.out
  go_wp2_with fail
  refine (lay_no 2 wd sl cp sa ow ia ra il ic rl rc _ HR.out).mono ?_
  rintro e v5 ⟨rfl, s1⟩
  have HB5 := Lib.hid (HB4.out.same s1)
  have HS5 := Lib.hid (HS4.out.trans s1)
  clear s1 d0 d1 d2 d3 d4 d5 d6 d7 HB4 HS4
  obtain ⟨d0, d1, d2, d3, d4, d5, d6, d7⟩ := obj_cells HB5.out
  go_wp2_with fail
  refine (bound_none 2 wd sl cp sa ow ia ra il ic rl rc op _ HR.out).mono ?_
  rintro e v6 ⟨rfl, s1⟩
  have HB6 := Lib.hid (HB5.out.same s1)
  have HS6 := Lib.hid (HS5.out.trans s1)
  clear s1 d0 d1 d2 d3 d4 d5 d6 d7 HB5 HS5
  go_wp2_with fail
  refine (awake_any _ (HTZ.out.same (HS6.out))).mono ?_
  rintro e w9 ⟨rfl, s1⟩
  go_wp2
  go_ret
  exact ⟨rfl, HS6.out.trans s1⟩

theorem shapes_big (k wd sl cp sa ow : Int) (ia ra : Option Addr) (il ic rl rc : Nat) (op : Int) (w : World) (hsm : decide ((il : Int) ≤ 100 ∧ (rl : Int) ≤ 100) = false) (hsa : 0 ≤ sa ∧ sa < 4294967296 := by assumption) (hT : TZ w := by assumption) :
    Calls Tryd.prog 3 #[.agg #[.int .i64 k, .int .i64 wd, .int .i64 sl, .int .i64 cp, .int .u32 sa, .slice ia il ic, .int .i64 ow, .slice ra rl rc], .int .i64 op] w fun e w' => e = .returned (.bool true) ∧ Same w w' := by
  have HTZ := Lib.hid hT
  have HTL : Hid (0 < w.heap.size) := Lib.hid hT.lt
  clear hT
  have s0 := Lib.hid ((Same.refl w).alloc (.cells #[.int .i64 k, .int .i64 wd, .int .i64 sl, .int .i64 cp, .int .u32 sa, .slice ia il ic, .int .i64 ow, .slice ra rl rc] 26))
  have HSM := Lib.hid hsm
  clear hsm
  go_enter Tryd.func3, Tryd.ntmps3
  go_wp2_with fail
  refine (small_any k wd sl cp sa ow ia ra il ic rl rc _ false HSM.out).mono ?_
  rintro e w1 ⟨rfl, s1⟩
  have S1 := Lib.hid (s0.out.trans s1)
  clear s1
  go_wp2_with fail
  refine (awake_any _ (HTZ.out.same (S1.out))).mono ?_
  rintro e w2 ⟨rfl, s2⟩
  go_wp2
  go_ret
  exact ⟨rfl, S1.out.trans s2⟩

end Go.Proofs.YtdepogopepjonaaDoor.Ch
