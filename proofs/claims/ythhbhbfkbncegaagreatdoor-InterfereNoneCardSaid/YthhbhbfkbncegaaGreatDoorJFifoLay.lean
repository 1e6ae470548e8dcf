/-

  An object of the kind fifo by value: how many words it has, how many steps its operations have, and its words at the beginning.
-/
import Derived.Test.YthhbhbfkbncegaaGreatDoorJFifoObj
import Derived.Deep.CutRange
set_option linter.unusedSimpArgs false
set_option linter.unusedVariables false
namespace Go.Proofs.YthhbhbfkbncegaaGreatDoor.Ff
open Go.ChangeShapes Go.WideShapes Go.ChangeAt Go.RowKit Ws Mm Pa
open Go.Proofs.YthhbhbfkbncegaaGreatDoor.Ob

theorem objS {w w' : World} {q : Nat} {T : TypeId} {wd sl cp sa ow : Int} {ia ra : Option Addr} {il ic rl rc : Nat} (h : Blk w q T #[.int .i64 6, .int .i64 wd, .int .i64 sl, .int .i64 cp, .int .u32 sa, .slice ia il ic, .int .i64 ow, .slice ra rl rc]) (s : Same w w') : w'.cell? ⟨q, 0, none⟩ = some (.int .i64 6) ∧ w'.cell? ⟨q, 1, none⟩ = some (.int .i64 wd) ∧ w'.cell? ⟨q, 2, none⟩ = some (.int .i64 sl) ∧ w'.cell? ⟨q, 3, none⟩ = some (.int .i64 cp) ∧ w'.cell? ⟨q, 4, none⟩ = some (.int .u32 sa) ∧ w'.cell? ⟨q, 5, none⟩ = some (.slice ia il ic) ∧ w'.cell? ⟨q, 6, none⟩ = some (.int .i64 ow) ∧ w'.cell? ⟨q, 7, none⟩ = some (.slice ra rl rc) ∧ Same w w' := by
  obtain ⟨a, b, c, d, e, f, g, i⟩ := obj_cells (h.same s)
  exact ⟨a, b, c, d, e, f, g, i, s⟩

theorem size_yes (wd sl cp sa ow : Int) (ia ra : Option Addr) (il ic rl rc : Nat) (w : World) (hr : rightB wd sl cp sa il rl = true) (hsa : 0 ≤ sa ∧ sa < 4294967296 := by assumption) :
    Calls Tryz.prog 159 #[.agg #[.int .i64 6, .int .i64 wd, .int .i64 sl, .int .i64 cp, .int .u32 sa, .slice ia il ic, .int .i64 ow, .slice ra rl rc]] w fun e w' => e = .returned (.int .i64 (2 + sl * wd)) ∧ Same w w' := by
  have hb := Blk.new w 34 #[.int .i64 6, .int .i64 wd, .int .i64 sl, .int .i64 cp, .int .u32 sa, .slice ia il ic, .int .i64 ow, .slice ra rl rc]
  have s0 := (Same.refl w).alloc (.cells #[.int .i64 6, .int .i64 wd, .int .i64 sl, .int .i64 cp, .int .u32 sa, .slice ia il ic, .int .i64 ow, .slice ra rl rc] 34)
  have HB := Lib.hid hb
  have HR := fun w' => right_any wd sl cp sa ow ia ra il ic rl rc w'
  rw [hr] at HR
  have hq := HQ hr
  obtain ⟨h1, h2⟩ := hq.1
  obtain ⟨e1, e2⟩ := hq.2.1
  have k1 : 0 ≤ sl * wd := Int.mul_nonneg (by omega) (by omega)
  have k2 : sl * wd ≤ 128 := by
    have := Int.mul_le_mul e2 (show wd ≤ 8 by omega) (by omega) (by omega)
    omega
  have k3 : wrap64 (sl * wd) = sl * wd := by unfold wrap64; omega
  have k4 : IntKind.i64.wrap (sl * wd) = sl * wd := Go.IntWalk.i64_in _ (by omega)
  have k5 : wrap64 (2 + sl * wd) = 2 + sl * wd := by unfold wrap64; omega
  have k6 : IntKind.i64.wrap (2 + sl * wd) = 2 + sl * wd := Go.IntWalk.i64_in _ (by omega)
  have HQ2 := Lib.hid hq
  clear hb hq hr
  go_enter Tryz.func159, Tryz.ntmps159
  go_wp2_with fail
  refine (HR _).mono ?_
  rintro e w1 ⟨rfl, s1⟩
  have hb1 := HB.out.same s1
  have S1 := Lib.hid (s0.trans s1)
  have HB1 := Lib.hid hb1
  obtain ⟨d0, d1, d2, d3, d4, d5, d6, d7⟩ := obj_cells hb1
  clear hb1 s0 s1 HB HR
  generalize w.heap.size = q at *
  go_wp2
  go_ret
  exact ⟨rfl, S1.out⟩
theorem size_no (wd sl cp sa ow : Int) (ia ra : Option Addr) (il ic rl rc : Nat) (w : World) (hr : rightB wd sl cp sa il rl = false) (hsa : 0 ≤ sa ∧ sa < 4294967296 := by assumption) :
    Calls Tryz.prog 159 #[.agg #[.int .i64 6, .int .i64 wd, .int .i64 sl, .int .i64 cp, .int .u32 sa, .slice ia il ic, .int .i64 ow, .slice ra rl rc]] w fun e w' => e = .returned (.int .i64 0) ∧ Same w w' := by
  have HR := fun w' => right_any wd sl cp sa ow ia ra il ic rl rc w'
  rw [hr] at HR
  clear hr
  go_enter Tryz.func159, Tryz.ntmps159
  go_wp2_with fail
  refine (HR _).mono ?_
  rintro e w1 ⟨rfl, s1⟩
  go_wp2_with fail
  go_ret
  exact ⟨rfl, Same.trans ((Same.refl _).alloc _) s1⟩
def boundI (wd op : Int) : Int := if op = 3 then wd + 3 else if op = 4 then wd + 3 else 0
theorem bound_yes (wd sl cp sa ow : Int) (ia ra : Option Addr) (il ic rl rc : Nat) (op : Int) (w : World) (hr : rightB wd sl cp sa il rl = true) (hsa : 0 ≤ sa ∧ sa < 4294967296 := by assumption) :
    Calls Tryz.prog 161 #[.agg #[.int .i64 6, .int .i64 wd, .int .i64 sl, .int .i64 cp, .int .u32 sa, .slice ia il ic, .int .i64 ow, .slice ra rl rc], .int .i64 op] w fun e w' => e = .returned (.int .i64 (boundI wd op)) ∧ Same w w' := by
  have hb := Blk.new w 34 #[.int .i64 6, .int .i64 wd, .int .i64 sl, .int .i64 cp, .int .u32 sa, .slice ia il ic, .int .i64 ow, .slice ra rl rc]
  have s0 := (Same.refl w).alloc (.cells #[.int .i64 6, .int .i64 wd, .int .i64 sl, .int .i64 cp, .int .u32 sa, .slice ia il ic, .int .i64 ow, .slice ra rl rc] 34)
  have HB := Lib.hid hb
  have HR := fun w' => right_any wd sl cp sa ow ia ra il ic rl rc w'
  rw [hr] at HR
  have hq := HQ hr
  have m4 : IntKind.i64.wrap (wd + 3) = wd + 3 := Go.IntWalk.i64_in _ (by omega)
  have m3 : wrap64 (wd + 3) = wd + 3 := by unfold wrap64; omega
  obtain ⟨h1, h2⟩ := hq.1
  have HQ2 := Lib.hid hq
  clear hb hq hr
  go_enter Tryz.func161, Tryz.ntmps161
  go_wp2_with fail
  refine (HR _).mono ?_
  rintro e w1 ⟨rfl, s1⟩
  have hb1 := HB.out.same s1
  have S1 := Lib.hid (s0.trans s1)
  have HB1 := Lib.hid hb1
  obtain ⟨d0, d1, d2, d3, d4, d5, d6, d7⟩ := obj_cells hb1
  clear hb1 s0 s1 HB HR
  generalize w.heap.size = q at *
  go_wp2
  all_goals
    go_ret
    refine ⟨ret_int ?_, S1.out⟩
    by_cases h2 : op = 3
    · rw [boundI, if_pos h2]
      all_goals first | rfl | (exfalso; simp_all)
    · rw [boundI, if_neg h2]
      by_cases h1 : op = 4
      · rw [if_pos h1]
        all_goals first | rfl | (exfalso; simp_all)
      · rw [if_neg h1]
        all_goals first | rfl | (exfalso; simp_all)
theorem bound_no (wd sl cp sa ow : Int) (ia ra : Option Addr) (il ic rl rc : Nat) (op : Int) (w : World) (hr : rightB wd sl cp sa il rl = false) (hsa : 0 ≤ sa ∧ sa < 4294967296 := by assumption) :
    Calls Tryz.prog 161 #[.agg #[.int .i64 6, .int .i64 wd, .int .i64 sl, .int .i64 cp, .int .u32 sa, .slice ia il ic, .int .i64 ow, .slice ra rl rc], .int .i64 op] w fun e w' => e = .returned (.int .i64 0) ∧ Same w w' := by
  have HR := fun w' => right_any wd sl cp sa ow ia ra il ic rl rc w'
  rw [hr] at HR
  clear hr
  go_enter Tryz.func161, Tryz.ntmps161
  go_wp2_with fail
  refine (HR _).mono ?_
  rintro e w1 ⟨rfl, s1⟩
  go_wp2_with fail
  go_ret
  exact ⟨rfl, Same.trans ((Same.refl _).alloc _) s1⟩
set_option maxHeartbeats 400000 in
theorem rbound_yes (wd sl cp sa ow : Int) (ia ra : Option Addr) (il ic rl rc : Nat) (op : Int) (w : World) (hr : rightB wd sl cp sa il rl = true) (hsa : 0 ≤ sa ∧ sa < 4294967296 := by assumption) :
    Calls Tryz.prog 90 #[.agg #[.int .i64 6, .int .i64 wd, .int .i64 sl, .int .i64 cp, .int .u32 sa, .slice ia il ic, .int .i64 ow, .slice ra rl rc], .int .i64 op] w fun e w' => e = .returned (.int .i64 (boundI wd op)) ∧ Same w w' := by
  have hb := Blk.new w 34 #[.int .i64 6, .int .i64 wd, .int .i64 sl, .int .i64 cp, .int .u32 sa, .slice ia il ic, .int .i64 ow, .slice ra rl rc]
  have s0 := (Same.refl w).alloc (.cells #[.int .i64 6, .int .i64 wd, .int .i64 sl, .int .i64 cp, .int .u32 sa, .slice ia il ic, .int .i64 ow, .slice ra rl rc] 34)
  have HB := Lib.hid hb
  have HR := fun w' => rright_any wd sl cp sa ow ia ra il ic rl rc w'
  rw [hr] at HR
  have hq := HQ hr
  have m4 : IntKind.i64.wrap (wd + 3) = wd + 3 := Go.IntWalk.i64_in _ (by omega)
  have m3 : wrap64 (wd + 3) = wd + 3 := by unfold wrap64; omega
  obtain ⟨h1, h2⟩ := hq.1
  have HQ2 := Lib.hid hq
  clear hb hq hr
  go_enter Tryz.func90, Tryz.ntmps90
  go_wp2_with fail
  refine (HR _).mono ?_
  rintro e w1 ⟨rfl, s1⟩
  have hb1 := HB.out.same s1
  have S1 := Lib.hid (s0.trans s1)
  have HB1 := Lib.hid hb1
  obtain ⟨d0, d1, d2, d3, d4, d5, d6, d7⟩ := obj_cells hb1
  clear hb1 s0 s1 HB HR
  generalize w.heap.size = q at *
  go_wp2_with (first | (go_at_call 54; ((with_reducible refine (rwrites_fifo _).mono ?_); rintro e w' ⟨rfl, rfl⟩)) | (go_at_call 56; ((with_reducible refine (rreads_fifo _).mono ?_); rintro e w' ⟨rfl, rfl⟩)))
  all_goals
    go_ret
    refine ⟨ret_int ?_, S1.out⟩
    by_cases h2 : op = 3
    · rw [boundI, if_pos h2]
      all_goals first | rfl | (exfalso; simp_all)
    · rw [boundI, if_neg h2]
      by_cases h1 : op = 4
      · rw [if_pos h1]
        all_goals first | rfl | (exfalso; simp_all)
      · rw [if_neg h1]
        all_goals first | rfl | (exfalso; simp_all)
theorem rbound_no (wd sl cp sa ow : Int) (ia ra : Option Addr) (il ic rl rc : Nat) (op : Int) (w : World) (hr : rightB wd sl cp sa il rl = false) (hsa : 0 ≤ sa ∧ sa < 4294967296 := by assumption) :
    Calls Tryz.prog 90 #[.agg #[.int .i64 6, .int .i64 wd, .int .i64 sl, .int .i64 cp, .int .u32 sa, .slice ia il ic, .int .i64 ow, .slice ra rl rc], .int .i64 op] w fun e w' => e = .returned (.int .i64 0) ∧ Same w w' := by
  have HR := fun w' => rright_any wd sl cp sa ow ia ra il ic rl rc w'
  rw [hr] at HR
  clear hr
  go_enter Tryz.func90, Tryz.ntmps90
  go_wp2_with fail
  refine (HR _).mono ?_
  rintro e w1 ⟨rfl, s1⟩
  go_wp2_with fail
  go_ret
  exact ⟨rfl, Same.trans ((Same.refl _).alloc _) s1⟩

end Go.Proofs.YthhbhbfkbncegaaGreatDoor.Ff
