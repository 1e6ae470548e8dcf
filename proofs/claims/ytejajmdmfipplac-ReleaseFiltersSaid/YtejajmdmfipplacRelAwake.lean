/-

  The example of chapter 27.
-/
import Derived.Test.YtejajmdmfipplacRelFilter
set_option linter.unusedVariables false
set_option linter.unusedSimpArgs false
namespace Go.Proofs.Ytejajmdmfipplac.Rl
open Go.ChangeShapes Go.WideShapes Go.ChangeAt Go.RowKit Ws

theorem task_cells {w : World} {g : Nat} {v0 v1 v2 v3 v4 v5 v6 : Value} (hb : Blk w g 31 #[v0, v1, v2, v3, v4, v5, v6]) :
    w.cell? ⟨g, 0, none⟩ = some v0 ∧ w.cell? ⟨g, 1, none⟩ = some v1 ∧ w.cell? ⟨g, 2, none⟩ = some v2 ∧ w.cell? ⟨g, 3, none⟩ = some v3 ∧ w.cell? ⟨g, 4, none⟩ = some v4 ∧ w.cell? ⟨g, 5, none⟩ = some v5 ∧ w.cell? ⟨g, 6, none⟩ = some v6 :=
  ⟨hb.cell 0, hb.cell 1, hb.cell 2, hb.cell 3, hb.cell 4, hb.cell 5, hb.cell 6⟩
theorem within_yes (x lo hi : Int) (h1 : lo ≤ x) (h2 : x ≤ hi) (w : World) : Calls Try.prog 17 #[.int .i64 x, .int .i64 lo, .int .i64 hi] w fun e w' => e = .returned (.bool true) ∧ Same w w' := by
  go_enter Try.func17, Try.ntmps17
  go_wp2_with fail
  go_ret
  exact ⟨rfl, Same.refl _⟩
theorem ceil_lit (w : World) : Calls Try.prog 15 #[.int .i64 6, .int .i64 3] w fun e w' => e = .returned (.int .i64 2) ∧ Same w w' := by
  go_enter Try.func15, Try.ntmps15
  go_wp2_with fail
  go_ret
  exact ⟨rfl, Same.refl _⟩
set_option maxRecDepth 100000 in
theorem start_lit (w : World) : Calls Try.prog 16 #[.agg #[.int .i64 1, .int .i64 0, .int .i64 3, .int .i64 1, .int .i64 1, .int .i64 1, .slice none 0 0]] w fun e w' => e = .returned (.bool true) ∧ Same w w' := by
  go_enter Try.func16, Try.ntmps16
  go_wp2_with fail
  refine (within_yes 1 0 1048576 (by omega) (by omega) _).mono ?_
  rintro e w1 ⟨rfl, s1⟩
  go_wp2_with fail
  go_ret
  exact ⟨rfl, Same.trans ((Same.refl w).alloc (.cells #[.int .i64 1, .int .i64 0, .int .i64 3, .int .i64 1, .int .i64 1, .int .i64 1, .slice none 0 0] 31)) s1⟩
set_option maxRecDepth 100000 in
theorem plain_lit (w : World) : Calls Try.prog 14 #[.agg #[.int .i64 1, .int .i64 0, .int .i64 3, .int .i64 1, .int .i64 1, .int .i64 1, .slice none 0 0]] w fun e w' => e = .returned (.bool true) ∧ Same w w' := by
  go_enter Try.func14, Try.ntmps14
  have hb := Blk.new w 31 #[.int .i64 1, .int .i64 0, .int .i64 3, .int .i64 1, .int .i64 1, .int .i64 1, .slice none 0 0]
  have HB := Lib.hid hb
  have HS := Lib.hid ((Same.refl w).alloc (.cells #[.int .i64 1, .int .i64 0, .int .i64 3, .int .i64 1, .int .i64 1, .int .i64 1, .slice none 0 0] 31))
  clear hb
  go_wp2_with fail
  refine (start_lit _).mono ?_
  rintro e w1 ⟨rfl, s1⟩
  have HB1 := Lib.hid (HB.out.same s1)
  have HS1 := Lib.hid (HS.out.trans s1)
  clear s1 HB HS
  generalize w.heap.size = q at *
  obtain ⟨a0, a1, a2, a3, a4, a5, a6⟩ := task_cells HB1.out
  go_wp2_with fail
  refine (within_yes 0 0 255 (by omega) (by omega) _).mono ?_
  rintro e w2 ⟨rfl, s2⟩
  have HB2 := Lib.hid (HB1.out.same s2)
  have HS2 := Lib.hid (HS1.out.trans s2)
  clear s2 HB1 HS1 a0 a1 a2 a3 a4 a5 a6
  obtain ⟨a0, a1, a2, a3, a4, a5, a6⟩ := task_cells HB2.out
  go_wp2_with fail
  refine (within_yes 3 1 1048576 (by omega) (by omega) _).mono ?_
  rintro e w3 ⟨rfl, s3⟩
  have HB3 := Lib.hid (HB2.out.same s3)
  have HS3 := Lib.hid (HS2.out.trans s3)
  clear s3 HB2 HS2 a0 a1 a2 a3 a4 a5 a6
  obtain ⟨a0, a1, a2, a3, a4, a5, a6⟩ := task_cells HB3.out
  go_wp2_with fail
  refine (within_yes 1 1 3 (by omega) (by omega) _).mono ?_
  rintro e w4 ⟨rfl, s4⟩
  have HB4 := Lib.hid (HB3.out.same s4)
  have HS4 := Lib.hid (HS3.out.trans s4)
  clear s4 HB3 HS3 a0 a1 a2 a3 a4 a5 a6
  obtain ⟨a0, a1, a2, a3, a4, a5, a6⟩ := task_cells HB4.out
  go_wp2_with fail
  refine (within_yes 1 1 64 (by omega) (by omega) _).mono ?_
  rintro e w5 ⟨rfl, s5⟩
  go_wp2_with fail
  go_ret
  exact ⟨rfl, HS4.out.trans s5⟩
set_option maxRecDepth 100000 in
theorem is_lit (w : World) : Calls Try.prog 12 #[.agg #[.int .i64 1, .int .i64 0, .int .i64 3, .int .i64 1, .int .i64 1, .int .i64 1, .slice none 0 0], .int .i64 1] w fun e w' => e = .returned (.bool true) ∧ Same w w' := by
  go_enter Try.func12, Try.ntmps12
  go_wp2_with fail
  refine (plain_lit _).mono ?_
  rintro e w1 ⟨rfl, s1⟩
  go_wp2_with fail
  go_ret
  exact ⟨rfl, Same.trans ((Same.refl w).alloc (.cells #[.int .i64 1, .int .i64 0, .int .i64 3, .int .i64 1, .int .i64 1, .int .i64 1, .slice none 0 0] 31)) s1⟩
set_option maxRecDepth 100000 in
theorem below_lit (w : World) : Calls Try.prog 13 #[.agg #[.int .i64 1, .int .i64 0, .int .i64 3, .int .i64 1, .int .i64 1, .int .i64 1, .slice none 0 0], .int .i64 7] w fun e w' => e = .returned (.int .i64 2) ∧ Same w w' := by
  go_enter Try.func13, Try.ntmps13
  go_wp2_with fail
  refine (ceil_lit _).mono ?_
  rintro e w1 ⟨rfl, s1⟩
  go_wp2_with fail
  go_ret
  exact ⟨rfl, Same.trans ((Same.refl w).alloc (.cells #[.int .i64 1, .int .i64 0, .int .i64 3, .int .i64 1, .int .i64 1, .int .i64 1, .slice none 0 0] 31)) s1⟩
set_option maxRecDepth 100000 in
theorem next_lit (w : World) : Calls Try.prog 11 #[.agg #[.int .i64 1, .int .i64 0, .int .i64 3, .int .i64 1, .int .i64 1, .int .i64 1, .slice none 0 0], .int .i64 7] w fun e w' => e = .returned (.tuple #[.int .i64 7, .bool true]) ∧ Same w w' := by
  go_enter Try.func11, Try.ntmps11
  have hb := Blk.new w 31 #[.int .i64 1, .int .i64 0, .int .i64 3, .int .i64 1, .int .i64 1, .int .i64 1, .slice none 0 0]
  have HB := Lib.hid hb
  have HS := Lib.hid ((Same.refl w).alloc (.cells #[.int .i64 1, .int .i64 0, .int .i64 3, .int .i64 1, .int .i64 1, .int .i64 1, .slice none 0 0] 31))
  clear hb
  go_wp2_with fail
  refine (is_lit _).mono ?_
  rintro e w1 ⟨rfl, s1⟩
  have HB1 := Lib.hid (HB.out.same s1)
  have HS1 := Lib.hid (HS.out.trans s1)
  clear s1 HB HS
  generalize w.heap.size = q at *
  obtain ⟨a0, a1, a2, a3, a4, a5, a6⟩ := task_cells HB1.out
  have SS : Hid (∀ w', Same w1 w' → w'.cell? ⟨q, 0, none⟩ = some (.int .i64 1) ∧ w'.cell? ⟨q, 1, none⟩ = some (.int .i64 0) ∧ w'.cell? ⟨q, 2, none⟩ = some (.int .i64 3) ∧ w'.cell? ⟨q, 3, none⟩ = some (.int .i64 1) ∧ w'.cell? ⟨q, 4, none⟩ = some (.int .i64 1) ∧ w'.cell? ⟨q, 5, none⟩ = some (.int .i64 1) ∧ w'.cell? ⟨q, 6, none⟩ = some (.slice none 0 0) ∧ Same w1 w') := Lib.hid (fun w' s => ⟨s.cell a0, s.cell a1, s.cell a2, s.cell a3, s.cell a4, s.cell a5, s.cell a6, s⟩)
  go_wp2_with fail
  go_region_held3 (fun w' => w'.cell? ⟨q, 0, none⟩ = some (.int .i64 1) ∧ w'.cell? ⟨q, 1, none⟩ = some (.int .i64 0) ∧ w'.cell? ⟨q, 2, none⟩ = some (.int .i64 3) ∧ w'.cell? ⟨q, 3, none⟩ = some (.int .i64 1) ∧ w'.cell? ⟨q, 4, none⟩ = some (.int .i64 1) ∧ w'.cell? ⟨q, 5, none⟩ = some (.int .i64 1) ∧ w'.cell? ⟨q, 6, none⟩ = some (.slice none 0 0) ∧ Same w1 w')
    (first | (with_reducible assumption) | exact SS.out _ (Same.refl w1).drew | exact SS.out _ (x22.trans hs))
    (first | (go_at_call 13; (rcases ‹_ ∧ _ ∧ _ ∧ _ ∧ _ ∧ _ ∧ _ ∧ Same w1 _› with ⟨_, _, _, _, _, _, _, x22⟩); ((with_reducible refine (below_lit _).mono ?_); rintro e w' ⟨rfl, hs⟩)))
  rcases ‹_ ∧ _ ∧ _ ∧ _ ∧ _ ∧ _ ∧ _ ∧ Same w1 _› with ⟨_, _, _, _, _, _, _, x22⟩
  go_wp2_with fail
  go_ret2
  exact ⟨rfl, HS1.out.trans x22⟩
set_option maxRecDepth 100000 in
theorem at_lit (w : World) : Calls Try.prog 8 #[.agg #[.int .i64 1, .int .i64 0, .int .i64 3, .int .i64 1, .int .i64 1, .int .i64 1, .slice none 0 0], .int .i64 7] w fun e w' => e = .returned (.bool true) ∧ Same w w' := by
  go_enter Try.func8, Try.ntmps8
  go_wp2_with fail
  refine (next_lit _).mono ?_
  rintro e w1 ⟨rfl, s1⟩
  go_wp2_with fail
  go_ret
  exact ⟨rfl, Same.trans ((Same.refl w).alloc (.cells #[.int .i64 1, .int .i64 0, .int .i64 3, .int .i64 1, .int .i64 1, .int .i64 1, .slice none 0 0] 31)) s1⟩

def p0 : List Int := [0, 3, 5, 9, 10]
theorem p0_run : runTo 5 p0 5 = ([0, 5, 10], [3, 9]) := by decide +kernel
theorem p0_bd : BD p0 := by
  intro x hx
  simp [p0] at hx
  omega
set_option maxRecDepth 100000 in
theorem awake27 (w : World) : Calls Try.prog 4 #[] w fun e w' => e = .returned (.bool true) ∧ Same w w' := by
  have FI := filter_any 5 p0 (some ⟨w.heap.size, 0, none⟩) 5 5 (w.alloc (.cells #[.int .i64 0, .int .i64 3, .int .i64 5, .int .i64 9, .int .i64 10] 3)) rfl (by omega) (row_new _ _ _) p0_bd
  rw [p0_run] at FI
  have HFI := Lib.hid FI
  have HS0 := Lib.hid ((Same.refl w).alloc (.cells #[.int .i64 0, .int .i64 3, .int .i64 5, .int .i64 9, .int .i64 10] 3))
  clear FI
  go_enter Try.func4, Try.ntmps4
  go_wp2_with fail
  refine HFI.out.mono ?_
  rintro e w1 ⟨A1, c1, A2, c2, rfl, r1, r2, s1⟩
  have HS1 := Lib.hid (HS0.out.trans s1)
  have hs2 := (Same.refl w1).alloc (.cells #[.int .i64 0, .int .i64 5, .int .i64 10] 3)
  have HS2 := Lib.hid (HS1.out.trans hs2)
  have IE := ints_eq A1 (some ⟨w1.heap.size, 0, none⟩) 3 3 c1 3 [0, 5, 10] [0, 5, 10] (w1.alloc (.cells #[.int .i64 0, .int .i64 5, .int .i64 10] 3)) rfl rfl (r1.same hs2) (row_new _ _ _) (by omega) (by omega)
  rw [decide_eq_true rfl] at IE
  have HIE := Lib.hid IE
  have R2 := Lib.hid (r2.same hs2)
  clear IE s1 r1 r2 hs2 HFI
  go_wp2_with fail
  refine HIE.out.mono ?_
  rintro e w2 ⟨rfl, k2, rfl⟩
  have HS3 := Lib.hid (HS2.out.drewN k2)
  have R3 : Hid (Row ((w1.alloc (.cells #[.int .i64 0, .int .i64 5, .int .i64 10] 3)).drewN k2) A2 ([3, 9].map (Value.int .i64))) := Lib.hid R2.out
  clear HIE HS2 R2
  generalize (w1.alloc (.cells #[.int .i64 0, .int .i64 5, .int .i64 10] 3)).drewN k2 = w2 at *
  have hs4 := (Same.refl w2).alloc (.cells #[.int .i64 3, .int .i64 9] 3)
  have HS5 := Lib.hid (HS3.out.trans hs4)
  have IE := ints_eq A2 (some ⟨w2.heap.size, 0, none⟩) 2 2 c2 2 [3, 9] [3, 9] (w2.alloc (.cells #[.int .i64 3, .int .i64 9] 3)) rfl rfl (R3.out.same hs4) (row_new _ _ _) (by omega) (by omega)
  rw [decide_eq_true rfl] at IE
  have HIE := Lib.hid IE
  clear IE hs4 R3
  go_wp2_with fail
  refine HIE.out.mono ?_
  rintro e w4 ⟨rfl, k4, rfl⟩
  have HS6 := Lib.hid (HS5.out.drewN k4)
  clear HIE HS5
  go_wp2_with fail
  refine (at_lit _).mono ?_
  rintro e w5 ⟨rfl, s5⟩
  have HS7 := Lib.hid (HS6.out.trans s5)
  clear s5
  go_wp2
  go_ret
  exact ⟨rfl, HS7.out⟩

end Go.Proofs.Ytejajmdmfipplac.Rl
