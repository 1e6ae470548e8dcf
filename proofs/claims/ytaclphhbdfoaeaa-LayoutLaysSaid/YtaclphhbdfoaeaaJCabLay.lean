/-

  An object of the kind cab by value: how many words it has, how many steps its operations have, and its words at the beginning.
-/
import Derived.Test.YtaclphhbdfoaeaaJCabObj
import Derived.Deep.CutRange
set_option linter.unusedSimpArgs false
set_option linter.unusedVariables false
namespace Go.Proofs.Ytaclphhbdfoaeaa.Cb
open Go.ChangeShapes Go.WideShapes Go.ChangeAt Go.RowKit Ws Mm Pa
open Go.Proofs.Ytaclphhbdfoaeaa.Ob

theorem HQ {wd sl cp sa : Int} {il rl : Nat} (h : rightB wd sl cp sa il rl = true) : (1 ≤ wd ∧ wd ≤ 8) ∧ (il : Int) = wd ∧ (1 ≤ (rl : Int) ∧ (rl : Int) ≤ 4) ∧ ((rl : Int) + 2 ≤ sl ∧ sl ≤ 16) ∧ (1 ≤ cp ∧ cp ≤ 16) ∧ sa = 0 := by
  unfold rightB at h
  exact of_decide_eq_true h
theorem objS {w w' : World} {q : Nat} {T : TypeId} {wd sl cp sa ow : Int} {ia ra : Option Addr} {il ic rl rc : Nat} (h : Blk w q T #[.int .i64 5, .int .i64 wd, .int .i64 sl, .int .i64 cp, .int .u32 sa, .slice ia il ic, .int .i64 ow, .slice ra rl rc]) (s : Same w w') : w'.cell? ⟨q, 0, none⟩ = some (.int .i64 5) ∧ w'.cell? ⟨q, 1, none⟩ = some (.int .i64 wd) ∧ w'.cell? ⟨q, 2, none⟩ = some (.int .i64 sl) ∧ w'.cell? ⟨q, 3, none⟩ = some (.int .i64 cp) ∧ w'.cell? ⟨q, 4, none⟩ = some (.int .u32 sa) ∧ w'.cell? ⟨q, 5, none⟩ = some (.slice ia il ic) ∧ w'.cell? ⟨q, 6, none⟩ = some (.int .i64 ow) ∧ w'.cell? ⟨q, 7, none⟩ = some (.slice ra rl rc) ∧ Same w w' := by
  obtain ⟨a, b, c, d, e, f, g, i⟩ := obj_cells (h.same s)
  exact ⟨a, b, c, d, e, f, g, i, s⟩

theorem size_yes (wd sl cp sa ow : Int) (ia ra : Option Addr) (il ic rl rc : Nat) (w : World) (hr : rightB wd sl cp sa il rl = true) (hsa : 0 ≤ sa ∧ sa < 4294967296 := by assumption) :
    Calls Try.prog 52 #[.agg #[.int .i64 5, .int .i64 wd, .int .i64 sl, .int .i64 cp, .int .u32 sa, .slice ia il ic, .int .i64 ow, .slice ra rl rc]] w fun e w' => e = .returned (.int .i64 (1 + (rl : Int) + sl * wd)) ∧ Same w w' := by
  have hb := Blk.new w 47 #[.int .i64 5, .int .i64 wd, .int .i64 sl, .int .i64 cp, .int .u32 sa, .slice ia il ic, .int .i64 ow, .slice ra rl rc]
  have s0 := (Same.refl w).alloc (.cells #[.int .i64 5, .int .i64 wd, .int .i64 sl, .int .i64 cp, .int .u32 sa, .slice ia il ic, .int .i64 ow, .slice ra rl rc] 47)
  have HB := Lib.hid hb
  have HR := fun w' => right_any wd sl cp sa ow ia ra il ic rl rc w'
  rw [hr] at HR
  have hq := HQ hr
  obtain ⟨h1, h2⟩ := hq.1
  obtain ⟨e1, e2⟩ := hq.2.2.2.1
  have k1 : 0 ≤ sl * wd := Int.mul_nonneg (by omega) (by omega)
  have k2 : sl * wd ≤ 128 := by
    have := Int.mul_le_mul e2 (show wd ≤ 8 by omega) (by omega) (by omega)
    omega
  have k3 : wrap64 (sl * wd) = sl * wd := by unfold wrap64; omega
  have k4 : IntKind.i64.wrap (sl * wd) = sl * wd := Go.IntWalk.i64_in _ (by omega)
  obtain ⟨n1, n2⟩ := hq.2.2.1
  have k6 := i64_in (1 + (rl : Int) + sl * wd) (by omega)
  have k7 : wrap64 (1 + (rl : Int) + sl * wd) = 1 + (rl : Int) + sl * wd := by unfold wrap64; omega
  have hrl4 : rl ≤ 4 := by omega
  have RC := fun w' => records_any rl hrl4 w'
  have ec : ((1 + rl : Nat) : Int) = 1 + (rl : Int) := by omega
  rw [ec] at RC
  clear ec
  have HQ2 := Lib.hid hq
  clear hb hq hr
  go_enter Try.func52, Try.ntmps52
  go_wp2_with fail
  refine (HR _).mono ?_
  rintro e w1 ⟨rfl, s1⟩
  have hb1 := HB.out.same s1
  have S1 := Lib.hid (s0.trans s1)
  have HB1 := Lib.hid hb1
  obtain ⟨d0, d1, d2, d3, d4, d5, d6, d7⟩ := obj_cells hb1
  clear hb1 s0 s1 HB HR
  generalize w.heap.size = q at *
  go_wp2_with fail
  go_quiet ((go_at_call 67; exact Calls.quiet_of_same ((RC _).mono fun _ _ ⟨he, hw⟩ => ⟨he, hw.symm⟩)))
  go_wp2
  go_ret
  exact ⟨rfl, S1.out.drewN _⟩
theorem size_no (wd sl cp sa ow : Int) (ia ra : Option Addr) (il ic rl rc : Nat) (w : World) (hr : rightB wd sl cp sa il rl = false) (hsa : 0 ≤ sa ∧ sa < 4294967296 := by assumption) :
    Calls Try.prog 52 #[.agg #[.int .i64 5, .int .i64 wd, .int .i64 sl, .int .i64 cp, .int .u32 sa, .slice ia il ic, .int .i64 ow, .slice ra rl rc]] w fun e w' => e = .returned (.int .i64 0) ∧ Same w w' := by
  have HR := fun w' => right_any wd sl cp sa ow ia ra il ic rl rc w'
  rw [hr] at HR
  clear hr
  go_enter Try.func52, Try.ntmps52
  go_wp2_with fail
  refine (HR _).mono ?_
  rintro e w1 ⟨rfl, s1⟩
  go_wp2_with fail
  go_ret
  exact ⟨rfl, Same.trans ((Same.refl _).alloc _) s1⟩
def boundI (wd cp : Int) (rl : Nat) (op : Int) : Int := if op = 2 then wd + rl + 2 else if op = 1 then 3 * cp + wd + 1 else 0
theorem bound_yes (wd sl cp sa ow : Int) (ia ra : Option Addr) (il ic rl rc : Nat) (op : Int) (w : World) (hr : rightB wd sl cp sa il rl = true) (hsa : 0 ≤ sa ∧ sa < 4294967296 := by assumption) :
    Calls Try.prog 54 #[.agg #[.int .i64 5, .int .i64 wd, .int .i64 sl, .int .i64 cp, .int .u32 sa, .slice ia il ic, .int .i64 ow, .slice ra rl rc], .int .i64 op] w fun e w' => e = .returned (.int .i64 (boundI wd cp rl op)) ∧ Same w w' := by
  have hb := Blk.new w 47 #[.int .i64 5, .int .i64 wd, .int .i64 sl, .int .i64 cp, .int .u32 sa, .slice ia il ic, .int .i64 ow, .slice ra rl rc]
  have s0 := (Same.refl w).alloc (.cells #[.int .i64 5, .int .i64 wd, .int .i64 sl, .int .i64 cp, .int .u32 sa, .slice ia il ic, .int .i64 ow, .slice ra rl rc] 47)
  have HB := Lib.hid hb
  have HR := fun w' => right_any wd sl cp sa ow ia ra il ic rl rc w'
  rw [hr] at HR
  have hq := HQ hr
  obtain ⟨c1, c2⟩ := hq.2.2.2.2.1
  obtain ⟨n1, n2⟩ := hq.2.2.1
  have m1 := i64_in (wd + rl) (by omega)
  have m2 := i64_in (wd + rl + 2) (by omega)
  have m3 := i64_in (3 * cp) (by omega)
  have m4 := i64_in (3 * cp + wd) (by omega)
  have m5 := i64_in (3 * cp + wd + 1) (by omega)
  obtain ⟨h1, h2⟩ := hq.1
  have HQ2 := Lib.hid hq
  clear hb hq hr
  go_enter Try.func54, Try.ntmps54
  go_wp2_with fail
  refine (HR _).mono ?_
  rintro e w1 ⟨rfl, s1⟩
  have hb1 := HB.out.same s1
  have S1 := Lib.hid (s0.trans s1)
  have HB1 := Lib.hid hb1
  obtain ⟨d0, d1, d2, d3, d4, d5, d6, d7⟩ := obj_cells hb1
  clear hb1 s0 s1 HB HR
  generalize w.heap.size = q at *
  go_wp2
  all_goals
    go_ret
    exact ⟨ret_int (by unfold boundI; try simp only [beq_iff_eq, beq_eq_false_iff_ne, ne_eq] at *; repeat (split <;> try omega)), S1.out⟩
theorem bound_no (wd sl cp sa ow : Int) (ia ra : Option Addr) (il ic rl rc : Nat) (op : Int) (w : World) (hr : rightB wd sl cp sa il rl = false) (hsa : 0 ≤ sa ∧ sa < 4294967296 := by assumption) :
    Calls Try.prog 54 #[.agg #[.int .i64 5, .int .i64 wd, .int .i64 sl, .int .i64 cp, .int .u32 sa, .slice ia il ic, .int .i64 ow, .slice ra rl rc], .int .i64 op] w fun e w' => e = .returned (.int .i64 0) ∧ Same w w' := by
  have HR := fun w' => right_any wd sl cp sa ow ia ra il ic rl rc w'
  rw [hr] at HR
  clear hr
  go_enter Try.func54, Try.ntmps54
  go_wp2_with fail
  refine (HR _).mono ?_
  rintro e w1 ⟨rfl, s1⟩
  go_wp2_with fail
  go_ret
  exact ⟨rfl, Same.trans ((Same.refl _).alloc _) s1⟩
theorem rhead_any (wd sl cp sa ow : Int) (ia ra : Option Addr) (il ic rl rc : Nat) (w : World) (hrl : rl ≤ 4) : Calls Try.prog 31 #[.agg #[.int .i64 5, .int .i64 wd, .int .i64 sl, .int .i64 cp, .int .u32 sa, .slice ia il ic, .int .i64 ow, .slice ra rl rc]] w fun e w' => e = .returned (.int .i64 (1 + (rl : Int))) ∧ Same w w' := by
  have f1 := i64_in (1 + (rl : Int)) (by omega)
  go_enter Try.func31, Try.ntmps31
  go_wp2
  go_ret
  exact ⟨rfl, (Same.refl _).alloc _⟩
theorem rrecords_any (wd sl cp sa ow : Int) (ia ra : Option Addr) (il ic rl rc : Nat) (w : World) (hsa : 0 ≤ sa ∧ sa < 4294967296 := by assumption) : Calls Try.prog 32 #[.agg #[.int .i64 5, .int .i64 wd, .int .i64 sl, .int .i64 cp, .int .u32 sa, .slice ia il ic, .int .i64 ow, .slice ra rl rc]] w fun e w' => e = .returned (.int .i64 sl) ∧ Same w w' := by
  go_enter Try.func32, Try.ntmps32
  go_wp2
  go_ret
  exact ⟨rfl, (Same.refl _).alloc _⟩
set_option maxHeartbeats 400000 in
theorem rsize_yes (wd sl cp sa ow : Int) (ia ra : Option Addr) (il ic rl rc : Nat) (w : World) (hr : rightB wd sl cp sa il rl = true) (hsa : 0 ≤ sa ∧ sa < 4294967296 := by assumption) :
    Calls Try.prog 23 #[.agg #[.int .i64 5, .int .i64 wd, .int .i64 sl, .int .i64 cp, .int .u32 sa, .slice ia il ic, .int .i64 ow, .slice ra rl rc]] w fun e w' => e = .returned (.int .i64 (1 + (rl : Int) + sl * wd)) ∧ Same w w' := by
  have hb := Blk.new w 47 #[.int .i64 5, .int .i64 wd, .int .i64 sl, .int .i64 cp, .int .u32 sa, .slice ia il ic, .int .i64 ow, .slice ra rl rc]
  have s0 := (Same.refl w).alloc (.cells #[.int .i64 5, .int .i64 wd, .int .i64 sl, .int .i64 cp, .int .u32 sa, .slice ia il ic, .int .i64 ow, .slice ra rl rc] 47)
  have HB := Lib.hid hb
  have HR := fun w' => rright_any wd sl cp sa ow ia ra il ic rl rc w'
  rw [hr] at HR
  have hq := HQ hr
  obtain ⟨h1, h2⟩ := hq.1
  obtain ⟨e1, e2⟩ := hq.2.2.2.1
  have k1 : 0 ≤ sl * wd := Int.mul_nonneg (by omega) (by omega)
  have k2 : sl * wd ≤ 128 := by
    have := Int.mul_le_mul e2 (show wd ≤ 8 by omega) (by omega) (by omega)
    omega
  have k3 : wrap64 (sl * wd) = sl * wd := by unfold wrap64; omega
  have k4 : IntKind.i64.wrap (sl * wd) = sl * wd := Go.IntWalk.i64_in _ (by omega)
  obtain ⟨n1, n2⟩ := hq.2.2.1
  have k6 := i64_in (1 + (rl : Int) + sl * wd) (by omega)
  have k7 : wrap64 (1 + (rl : Int) + sl * wd) = 1 + (rl : Int) + sl * wd := by unfold wrap64; omega
  have hrl4 : rl ≤ 4 := by omega
  have RC := fun w' => records_any rl hrl4 w'
  have ec : ((1 + rl : Nat) : Int) = 1 + (rl : Int) := by omega
  rw [ec] at RC
  clear ec
  have HQ2 := Lib.hid hq
  clear hb hq hr
  go_enter Try.func23, Try.ntmps23
  go_wp2_with fail
  refine (HR _).mono ?_
  rintro e w1 ⟨rfl, s1⟩
  have hb1 := HB.out.same s1
  have S1 := Lib.hid (s0.trans s1)
  have HB1 := Lib.hid hb1
  obtain ⟨d0, d1, d2, d3, d4, d5, d6, d7⟩ := obj_cells hb1
  clear hb1 s0 s1 HB HR
  generalize w.heap.size = q at *
  go_wp2_with fail
  go_region_held3 (fun w' => w'.cell? ⟨q, 0, none⟩ = some (.int .i64 5) ∧ w'.cell? ⟨q, 1, none⟩ = some (.int .i64 wd) ∧ w'.cell? ⟨q, 2, none⟩ = some (.int .i64 sl) ∧ w'.cell? ⟨q, 3, none⟩ = some (.int .i64 cp) ∧ w'.cell? ⟨q, 4, none⟩ = some (.int .u32 sa) ∧ w'.cell? ⟨q, 5, none⟩ = some (.slice ia il ic) ∧ w'.cell? ⟨q, 6, none⟩ = some (.int .i64 ow) ∧ w'.cell? ⟨q, 7, none⟩ = some (.slice ra rl rc) ∧ Same w1 w')
    (first | assumption | exact objS HB1.out (Same.refl _).drew | (rcases ‹_ ∧ _ ∧ _ ∧ _ ∧ _ ∧ _ ∧ _ ∧ _ ∧ Same w1 _› with ⟨_, _, _, _, _, _, _, _, x9⟩; exact objS HB1.out (x9.trans hs)))
    (first | (go_at_call 31; ((with_reducible refine (rhead_any wd sl cp sa ow ia ra il ic rl rc _ hrl4).mono ?_); rintro e w' ⟨rfl, hs⟩)) | (go_at_call 32; ((with_reducible refine (rrecords_any wd sl cp sa ow ia ra il ic rl rc _).mono ?_); rintro e w' ⟨rfl, hs⟩)))
  rcases ‹_ ∧ _ ∧ _ ∧ _ ∧ _ ∧ _ ∧ _ ∧ _ ∧ Same w1 _› with ⟨_, _, _, _, _, _, _, _, x9⟩
  go_wp2
  go_ret
  exact ⟨rfl, S1.out.trans x9⟩
theorem rsize_no (wd sl cp sa ow : Int) (ia ra : Option Addr) (il ic rl rc : Nat) (w : World) (hr : rightB wd sl cp sa il rl = false) (hsa : 0 ≤ sa ∧ sa < 4294967296 := by assumption) :
    Calls Try.prog 23 #[.agg #[.int .i64 5, .int .i64 wd, .int .i64 sl, .int .i64 cp, .int .u32 sa, .slice ia il ic, .int .i64 ow, .slice ra rl rc]] w fun e w' => e = .returned (.int .i64 0) ∧ Same w w' := by
  have HR := fun w' => rright_any wd sl cp sa ow ia ra il ic rl rc w'
  rw [hr] at HR
  clear hr
  go_enter Try.func23, Try.ntmps23
  go_wp2_with fail
  refine (HR _).mono ?_
  rintro e w1 ⟨rfl, s1⟩
  go_wp2_with fail
  go_ret
  exact ⟨rfl, Same.trans ((Same.refl _).alloc _) s1⟩

end Go.Proofs.Ytaclphhbdfoaeaa.Cb
