/-

  The walk of the law ChenShapes, where the object is one of this kind.
-/
import Derived.Test.YtdepogopepjonaaDoorChenShapes
set_option linter.unusedSimpArgs false
set_option linter.unusedVariables false
namespace Go.Proofs.YtdepogopepjonaaDoor.Ch
open Go.ChangeShapes Go.WideShapes Go.ChangeAt Go.RowKit Ws Mm Pa
open Go.Proofs.YtdepogopepjonaaDoor.Ob (obj_cells)

theorem objY {w w' : World} {q : Nat} {T : TypeId} {W sl : Nat} {cp sa ow : Int} {ia ra : Option Addr} {il ic rl rc : Nat} (h : Blk w q T #[.int .i64 2, .int .i64 W, .int .i64 sl, .int .i64 cp, .int .u32 sa, .slice ia il ic, .int .i64 ow, .slice ra rl rc]) (s : Same w w') : w'.cell? ⟨q, 0, none⟩ = some (.int .i64 2) ∧ w'.cell? ⟨q, 1, none⟩ = some (.int .i64 W) ∧ w'.cell? ⟨q, 2, none⟩ = some (.int .i64 sl) ∧ w'.cell? ⟨q, 3, none⟩ = some (.int .i64 cp) ∧ w'.cell? ⟨q, 4, none⟩ = some (.int .u32 sa) ∧ w'.cell? ⟨q, 5, none⟩ = some (.slice ia il ic) ∧ w'.cell? ⟨q, 6, none⟩ = some (.int .i64 ow) ∧ w'.cell? ⟨q, 7, none⟩ = some (.slice ra rl rc) ∧ Same w w' := by
  obtain ⟨a, b, c, d, e, f, g, i⟩ := obj_cells (h.same s)
  exact ⟨a, b, c, d, e, f, g, i, s⟩
theorem words_same (A C : Option Addr) (n m c d : Nat) (xs : List Int) (w : World) (hn : xs.length = n) (hm : xs.length = m) (hx : Row w A (xs.map (Value.int .u32))) (hy : Row w C (xs.map (Value.int .u32))) (b1 : n ≤ 4294967296) (b2 : m ≤ 4294967296) :
    Calls Tryd.prog 16 #[.slice A n c, .slice C m d] w fun e w' => e = .returned (.bool true) ∧ Same w w' :=
  (words_eq A C n m c d xs xs w hn hm hx hy b1 b2).mono fun e w' ⟨he, k, hk⟩ => ⟨by rw [he, decide_eq_true rfl], by rw [hk]; exact (Same.refl w).drewN k⟩

set_option maxHeartbeats 4000000 in
set_option maxRecDepth 100000 in
theorem shapes_yes (W sl : Nat) (cp sa ow : Int) (ia ra : Option Addr) (il ic rl rc : Nat) (init : List Int) (op : Int) (w : World) (hsm : decide ((il : Int) ≤ 100 ∧ (rl : Int) ≤ 100) = true) (hr : rightB W sl cp sa il rl = true) (hi : Row w ia (init.map (Value.int .u32))) (hl : init.length = il) (hsa : 0 ≤ sa ∧ sa < 4294967296 := by assumption) (hT : TZ w := by assumption) :
    Calls Tryd.prog 3 #[.agg #[.int .i64 2, .int .i64 W, .int .i64 sl, .int .i64 cp, .int .u32 sa, .slice ia il ic, .int .i64 ow, .slice ra rl rc], .int .i64 op] w fun e w' => e = .returned (.bool true) ∧ Same w w' := by
  have HTZ := Lib.hid hT
  have HTL : Hid (0 < w.heap.size) := Lib.hid hT.lt
  clear hT
  have hb := Blk.new w 26 #[.int .i64 2, .int .i64 W, .int .i64 sl, .int .i64 cp, .int .u32 sa, .slice ia il ic, .int .i64 ow, .slice ra rl rc]
  have s0 := (Same.refl w).alloc (.cells #[.int .i64 2, .int .i64 W, .int .i64 sl, .int .i64 cp, .int .u32 sa, .slice ia il ic, .int .i64 ow, .slice ra rl rc] 26)
  have HB0 := Lib.hid hb
  have HS0 := Lib.hid s0
  have HSM := Lib.hid hsm
  have HR := Lib.hid hr
  have HI := Lib.hid hi
  have HL := Lib.hid hl
  have HLL := Lib.hid (lay_len W sl rl sa init)
  have hq := HQ hr
  have hm : (rl + 2) * W ≤ 6 * 8 := Nat.mul_le_mul (by omega) (by omega)
  have HW8 : Hid (1 + rl + (rl + 2) * W ≤ 4294967296) := Lib.hid (by omega)
  clear hm
  have HRI := fun w' => right_any W sl cp sa ow ia ra il ic rl rc w'
  have HRR := fun w' => rright_any W sl cp sa ow ia ra il ic rl rc w'
  rw [hr] at HRI HRR
  clear hb s0 hsm hr hi hl hq
  go_enter Tryd.func3, Tryd.ntmps3
  obtain ⟨d0, d1, d2, d3, d4, d5, d6, d7⟩ := obj_cells HB0.out
  go_wp2_with fail
  refine (small_any 2 W sl cp sa ow ia ra il ic rl rc _ true HSM.out).mono ?_
  rintro e v1 ⟨rfl, s1⟩
  have HB1 := Lib.hid (HB0.out.same s1)
  have HS1 := Lib.hid (HS0.out.trans s1)
  clear s1 d0 d1 d2 d3 d4 d5 d6 d7 HB0 HS0
  obtain ⟨d0, d1, d2, d3, d4, d5, d6, d7⟩ := obj_cells HB1.out
  go_wp2_with fail
  refine (HRR _).mono ?_
  rintro e v2 ⟨rfl, s1⟩
  have HB2 := Lib.hid (HB1.out.same s1)
  have HS2 := Lib.hid (HS1.out.trans s1)
  clear s1 d0 d1 d2 d3 d4 d5 d6 d7 HB1 HS1
  obtain ⟨d0, d1, d2, d3, d4, d5, d6, d7⟩ := obj_cells HB2.out
  go_wp2_with fail
  refine (HRI _).mono ?_
  rintro e v3 ⟨rfl, s1⟩
  have HB3 := Lib.hid (HB2.out.same s1)
  have HS3 := Lib.hid (HS2.out.trans s1)
  clear s1 d0 d1 d2 d3 d4 d5 d6 d7 HB2 HS2
  obtain ⟨d0, d1, d2, d3, d4, d5, d6, d7⟩ := obj_cells HB3.out
  have HI3 := Lib.hid (HI.out.same HS3.out)
  have HTZ3 := Lib.hid (HTZ.out.same HS3.out)
  go_wp2_with fail
  generalize w.heap.size = q at *
  go_region_held3 (fun w' => w'.cell? ⟨q, 0, none⟩ = some (.int .i64 2) ∧ w'.cell? ⟨q, 1, none⟩ = some (.int .i64 W) ∧ w'.cell? ⟨q, 2, none⟩ = some (.int .i64 sl) ∧ w'.cell? ⟨q, 3, none⟩ = some (.int .i64 cp) ∧ w'.cell? ⟨q, 4, none⟩ = some (.int .u32 sa) ∧ w'.cell? ⟨q, 5, none⟩ = some (.slice ia il ic) ∧ w'.cell? ⟨q, 6, none⟩ = some (.int .i64 ow) ∧ w'.cell? ⟨q, 7, none⟩ = some (.slice ra rl rc) ∧ Same v3 w')
    (first | (with_reducible assumption) | (with_reducible exact objY HB3.out (Same.refl _).drew) | (rcases ‹_ ∧ _ ∧ _ ∧ _ ∧ _ ∧ _ ∧ _ ∧ _ ∧ Same v3 _› with ⟨_, _, _, _, _, _, _, _, x9⟩; (with_reducible exact objY HB3.out (x9.trans hs))))
    (first | (go_at_call 12; ((with_reducible refine (size_yes W sl cp sa ow ia ra il ic rl rc _ HR.out).mono ?_); rintro e w' ⟨rfl, hs⟩)) | (go_at_call 15; ((with_reducible refine (rsize_yes W sl cp sa ow ia ra il ic rl rc _ HR.out).mono ?_); rintro e w' ⟨rfl, hs⟩)) | (go_at_call 14; ((with_reducible refine (bound_yes W sl cp sa ow ia ra il ic rl rc op _ HR.out).mono ?_); rintro e w' ⟨rfl, hs⟩)) | (go_at_call 18; ((with_reducible refine (rbound_yes W sl cp sa ow ia ra il ic rl rc op _ HR.out).mono ?_); rintro e w' ⟨rfl, hs⟩)) | (go_at_call 9; ((with_reducible refine Calls.mono (awake_any _ ?_) ?_); exact HTZ3.out.same (‹_ ∧ _ ∧ _ ∧ _ ∧ _ ∧ _ ∧ _ ∧ _ ∧ Same v3 _›).2.2.2.2.2.2.2.2; rintro e w' ⟨rfl, hs⟩)) | (go_at_call 13; ((with_reducible refine Calls.mono (lay_yes W sl cp sa ow ia ra il ic rl rc init _ HR.out ?_ HL.out) ?_); exact HI3.out.same (‹_ ∧ _ ∧ _ ∧ _ ∧ _ ∧ _ ∧ _ ∧ _ ∧ Same v3 _›).2.2.2.2.2.2.2.2; rintro e w' ⟨g1, rfl, hs, o1⟩; have HO1 := Lib.hid o1.row; clear o1)) | (go_at_call 17; ((with_reducible refine Calls.mono (rlay_yes W sl cp sa ow ia ra il ic rl rc init _ HR.out ?_ HL.out) ?_); exact HI3.out.same (‹_ ∧ _ ∧ _ ∧ _ ∧ _ ∧ _ ∧ _ ∧ _ ∧ Same v3 _›).2.2.2.2.2.2.2.2; rintro e w' ⟨g2, rfl, hs, o2⟩; have HO2 := Lib.hid o2.row; clear o2)) | (go_at_call 16; ((with_reducible refine Calls.mono (words_same _ _ (1 + rl + (rl + 2) * W) (1 + rl + (rl + 2) * W) _ _ (lay0 W sl rl sa init) _ HLL.out HLL.out ?_ ?_ HW8.out HW8.out) ?_); (first | (with_reducible exact HO1.out) | exact HO1.out.same hs); (first | (with_reducible exact HO2.out) | exact HO2.out.same hs); rintro e w' ⟨rfl, hs⟩)))
  all_goals
    rcases ‹_ ∧ _ ∧ _ ∧ _ ∧ _ ∧ _ ∧ _ ∧ _ ∧ Same v3 _› with ⟨_, _, _, _, _, _, _, _, x9⟩
    have HX := Lib.hid x9
    clear x9
    go_wp2
    go_ret
    exact ⟨rfl, HS3.out.trans HX.out⟩

end Go.Proofs.YtdepogopepjonaaDoor.Ch
