/-

 An object of the kind cab by value: how many words it has, how many steps its operations have, and its words at the beginning.
-/
import Derived.Test.YthhbhbfkbncegabGreatDoorJObj
import Derived.Deep.CutRange
section
set_option linter.unusedSimpArgs false
set_option linter.unusedVariables false
namespace Go.Proofs.YthhbhbfkbncegabGreatDoor.Cb
open Go.ChangeShapes Go.WideShapes Go.ChangeAt Go.RowKit Ws Mm Pa
open Go.Proofs.YthhbhbfkbncegabGreatDoor.Ob

/-- whether an object of this kind may be -/
def rightB (wd sl cp sa : Int) (il rl : Nat) : Bool := decide ((1 ≤ wd ∧ wd ≤ 8) ∧ (il : Int) = wd ∧ (1 ≤ (rl : Int) ∧ (rl : Int) ≤ 4) ∧ ((rl : Int) + 2 ≤ sl ∧ sl ≤ 16) ∧ (1 ≤ cp ∧ cp ≤ 16) ∧ sa = 0)

theorem beq_dec (a b : Int) : (a == b) = decide (a = b) := by rw [Bool.eq_iff_iff]; simp
set_option maxHeartbeats 400000 in
theorem right_any (wd sl cp sa ow : Int) (ia ra : Option Addr) (il ic rl rc : Nat) (w : World) (hsa : 0 ≤ sa ∧ sa < 4294967296 := by assumption) :
 Calls Tryz.prog 128 #[.agg #[.int .i64 5, .int .i64 wd, .int .i64 sl, .int .i64 cp, .int .u32 sa, .slice ia il ic, .int .i64 ow, .slice ra rl rc]] w fun e w' => e = .returned (.bool (rightB wd sl cp sa il rl)) ∧ Same w w' := by
 have s0 := (Same.refl w).alloc (.cells #[.int .i64 5, .int .i64 wd, .int .i64 sl, .int .i64 cp, .int .u32 sa, .slice ia il ic, .int .i64 ow, .slice ra rl rc] 43)
 have hb := Blk.new w 43 #[.int .i64 5, .int .i64 wd, .int .i64 sl, .int .i64 cp, .int .u32 sa, .slice ia il ic, .int .i64 ow, .slice ra rl rc]
 have HB := Lib.hid hb
 clear hb
 have HR := fun w' => register_any 5 5 wd sl cp sa ow ia ra il ic rl rc w'
 have WS := fun w' => within_any sl ((rl : Int) + 2) 16 w'
 have WC := fun w' => within_any cp 1 16 w'
 obtain ⟨G, hG⟩ : ∃ G, G = rightB wd sl cp sa il rl := ⟨_, rfl⟩
 rw [← hG]
 unfold rightB at hG
 cases hr : regB 5 wd il rl 5
 ·rw [hr] at HR
  have hr' : ¬ ((1 ≤ wd ∧ wd ≤ 8) ∧ (il : Int) = wd ∧ (1 ≤ (rl : Int) ∧ (rl : Int) ≤ 4)) := by
   intro h
   have h2 : regB 5 wd il rl 5 = true := decide_eq_true ⟨rfl, h⟩
   rw [hr] at h2
   cases h2
  have E : Hid (false = G) := Lib.hid (by rw [hG]; symm; apply decide_eq_false; intro h; exact hr' ⟨h.1, h.2.1, h.2.2.1⟩)
  clear hG hr hr'
  go_enter Tryz.func128, Tryz.ntmps128
  go_wp2_with fail
  refine (HR _).mono ?_
  rintro e w1 ⟨rfl, s1⟩
  obtain ⟨_, _, d2, d3, d4, _, _, d7⟩ := obj_cells (HB.out.same s1)
  have S := Lib.hid (s0.trans s1)
  clear HB s0 s1 HR
  generalize w.heap.size = q at *
  go_wp2_with fail
  go_ret
  exact ⟨ret_bool E.out, S.out⟩
 ·rw [hr] at HR
  have hr' : (1 ≤ wd ∧ wd ≤ 8) ∧ (il : Int) = wd ∧ (1 ≤ (rl : Int) ∧ (rl : Int) ≤ 4) := by
   unfold regB at hr
   exact (of_decide_eq_true hr).2
  have fr := i64_in ((rl : Int) + 2) (by omega)
  by_cases hs : (rl : Int) + 2 ≤ sl ∧ sl ≤ 16
  ·rw [decide_eq_true hs] at WS
   by_cases hc : 1 ≤ cp ∧ cp ≤ 16
   ·rw [decide_eq_true hc] at WC
    have E : Hid (decide (sa = 0) = G) := Lib.hid (by rw [hG, decide_eq_decide]; exact ⟨fun h => ⟨hr'.1, hr'.2.1, hr'.2.2, hs, hc, h⟩, fun h => h.2.2.2.2.2⟩)
    clear hG hr hr' hs hc
    go_enter Tryz.func128, Tryz.ntmps128
    go_wp2_with fail
    refine (HR _).mono ?_
    rintro e w1 ⟨rfl, s1⟩
    obtain ⟨_, _, d2, d3, d4, _, _, d7⟩ := obj_cells (HB.out.same s1)
    have S := Lib.hid (s0.trans s1)
    clear HB s0 s1 HR
    generalize w.heap.size = q at *
    go_wp2_with fail
    refine (WS _).mono ?_
    rintro e w2 ⟨rfl, rfl⟩
    go_wp2_with fail
    refine (WC _).mono ?_
    rintro e w2 ⟨rfl, rfl⟩
    go_wp2_with fail
    go_ret
    exact ⟨ret_bool (by rw [← E.out]; exact beq_dec _ _), S.out⟩
   ·rw [decide_eq_false hc] at WC
    have E : Hid (false = G) := Lib.hid (by rw [hG]; symm; apply decide_eq_false; intro h; exact hc h.2.2.2.2.1)
    clear hG hr hr' hs hc
    go_enter Tryz.func128, Tryz.ntmps128
    go_wp2_with fail
    refine (HR _).mono ?_
    rintro e w1 ⟨rfl, s1⟩
    obtain ⟨_, _, d2, d3, d4, _, _, d7⟩ := obj_cells (HB.out.same s1)
    have S := Lib.hid (s0.trans s1)
    clear HB s0 s1 HR
    generalize w.heap.size = q at *
    go_wp2_with fail
    refine (WS _).mono ?_
    rintro e w2 ⟨rfl, rfl⟩
    go_wp2_with fail
    refine (WC _).mono ?_
    rintro e w2 ⟨rfl, rfl⟩
    go_wp2_with fail
    go_ret
    exact ⟨ret_bool E.out, S.out⟩
  ·rw [decide_eq_false hs] at WS
   have E : Hid (false = G) := Lib.hid (by rw [hG]; symm; apply decide_eq_false; intro h; exact hs h.2.2.2.1)
   clear hG hr hr' hs
   go_enter Tryz.func128, Tryz.ntmps128
   go_wp2_with fail
   refine (HR _).mono ?_
   rintro e w1 ⟨rfl, s1⟩
   obtain ⟨_, _, d2, d3, d4, _, _, d7⟩ := obj_cells (HB.out.same s1)
   have S := Lib.hid (s0.trans s1)
   clear HB s0 s1 HR
   generalize w.heap.size = q at *
   go_wp2_with fail
   refine (WS _).mono ?_
   rintro e w2 ⟨rfl, rfl⟩
   go_wp2_with fail
   go_ret
   exact ⟨ret_bool E.out, S.out⟩

end Go.Proofs.YthhbhbfkbncegabGreatDoor.Cb
end
section
set_option linter.unusedSimpArgs false
set_option linter.unusedVariables false
namespace Go.Proofs.YthhbhbfkbncegabGreatDoor.Cb
open Go.ChangeShapes Go.WideShapes Go.ChangeAt Go.RowKit Ws Mm Pa
open Go.Proofs.YthhbhbfkbncegabGreatDoor.Ob

theorem HQ {wd sl cp sa : Int} {il rl : Nat} (h : rightB wd sl cp sa il rl = true) : (1 ≤ wd ∧ wd ≤ 8) ∧ (il : Int) = wd ∧ (1 ≤ (rl : Int) ∧ (rl : Int) ≤ 4) ∧ ((rl : Int) + 2 ≤ sl ∧ sl ≤ 16) ∧ (1 ≤ cp ∧ cp ≤ 16) ∧ sa = 0 := by
 unfold rightB at h
 exact of_decide_eq_true h
def boundI (wd cp : Int) (rl : Nat) (op : Int) : Int := if op = 2 then wd + rl + 2 else if op = 1 then 3 * cp + wd + 1 else 0
theorem bound_yes (wd sl cp sa ow : Int) (ia ra : Option Addr) (il ic rl rc : Nat) (op : Int) (w : World) (hr : rightB wd sl cp sa il rl = true) (hsa : 0 ≤ sa ∧ sa < 4294967296 := by assumption) :
 Calls Tryz.prog 131 #[.agg #[.int .i64 5, .int .i64 wd, .int .i64 sl, .int .i64 cp, .int .u32 sa, .slice ia il ic, .int .i64 ow, .slice ra rl rc], .int .i64 op] w fun e w' => e = .returned (.int .i64 (boundI wd cp rl op)) ∧ Same w w' := by
 have hb := Blk.new w 43 #[.int .i64 5, .int .i64 wd, .int .i64 sl, .int .i64 cp, .int .u32 sa, .slice ia il ic, .int .i64 ow, .slice ra rl rc]
 have s0 := (Same.refl w).alloc (.cells #[.int .i64 5, .int .i64 wd, .int .i64 sl, .int .i64 cp, .int .u32 sa, .slice ia il ic, .int .i64 ow, .slice ra rl rc] 43)
 have HB := Lib.hid hb
 have HR := fun w' => right_any wd sl cp sa ow ia ra il ic rl rc w'
 rw [hr] at HR
 have hq := HQ hr
 obtain ⟨c1, c2⟩ := hq.2.2.2.2.1
 obtain ⟨n1, n2⟩ := hq.2.2.1
 have m1 := i64_in (wd + rl) (by omega)
 have m2 := i64_in (wd + rl + 2) (by omega)
 have m3 := i64_in (3 * cp) (by omega)
 have m4 := i64_in (3 * cp + wd) (by omega)
 have m5 := i64_in (3 * cp + wd + 1) (by omega)
 obtain ⟨h1, h2⟩ := hq.1
 have HQ2 := Lib.hid hq
 clear hb hq hr
 go_enter Tryz.func131, Tryz.ntmps131
 go_wp2_with fail
 refine (HR _).mono ?_
 rintro e w1 ⟨rfl, s1⟩
 have hb1 := HB.out.same s1
 have S1 := Lib.hid (s0.trans s1)
 have HB1 := Lib.hid hb1
 obtain ⟨d0, d1, d2, d3, d4, d5, d6, d7⟩ := obj_cells hb1
 clear hb1 s0 s1 HB HR
 generalize w.heap.size = q at *
 go_wp2
 all_goals
  go_ret
  exact ⟨ret_int (by unfold boundI; try simp only [beq_iff_eq, beq_eq_false_iff_ne, ne_eq] at *; repeat (split <;> try omega)), S1.out⟩
theorem bound_no (wd sl cp sa ow : Int) (ia ra : Option Addr) (il ic rl rc : Nat) (op : Int) (w : World) (hr : rightB wd sl cp sa il rl = false) (hsa : 0 ≤ sa ∧ sa < 4294967296 := by assumption) :
 Calls Tryz.prog 131 #[.agg #[.int .i64 5, .int .i64 wd, .int .i64 sl, .int .i64 cp, .int .u32 sa, .slice ia il ic, .int .i64 ow, .slice ra rl rc], .int .i64 op] w fun e w' => e = .returned (.int .i64 0) ∧ Same w w' := by
 have HR := fun w' => right_any wd sl cp sa ow ia ra il ic rl rc w'
 rw [hr] at HR
 clear hr
 go_enter Tryz.func131, Tryz.ntmps131
 go_wp2_with fail
 refine (HR _).mono ?_
 rintro e w1 ⟨rfl, s1⟩
 go_wp2_with fail
 go_ret
 exact ⟨rfl, Same.trans ((Same.refl _).alloc _) s1⟩
end Go.Proofs.YthhbhbfkbncegabGreatDoor.Cb
end
