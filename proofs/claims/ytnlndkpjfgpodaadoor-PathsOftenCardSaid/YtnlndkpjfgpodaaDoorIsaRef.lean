/-

  The document's own answer on which instructions are right, as the tables say it.
-/
import Derived.Test.YtnlndkpjfgpodaaDoorIsa
set_option linter.unusedSimpArgs false
set_option linter.unusedVariables false
namespace Go.Proofs.YtnlndkpjfgpodaaDoor.Is
open Go.ChangeShapes Go.WideShapes Go.ChangeAt Go.RowKit Ws

theorem right_0 (a b c n : Int) : rightB 0 a b c n = (decide (0 ≤ a ∧ a ≤ 0) && (decide (0 ≤ b ∧ b ≤ 0) && (decide (0 ≤ c ∧ c ≤ 0) && decide (0 ≤ n ∧ n ≤ 0)))) := rfl
set_option maxRecDepth 100000 in
set_option maxHeartbeats 1000000 in
theorem rright_0 (a b c n : Int) (hn : 0 ≤ n ∧ n < 4294967296) (w : World) :
    Calls Tryd.prog 38 #[ins 0 a b c n] w fun e w' => e = .returned (.bool (rightB 0 a b c n)) ∧ Same w w' := by
  unfold ins
  go_enter Tryd.func38, Tryd.ntmps38
  go_wp2_with (go_at_call 68; refine (reg_any _ _).mono ?_; rintro e w' ⟨rfl, rfl⟩)
  all_goals
    go_ret
    exact ⟨ret_bool (by rw [Bool.eq_iff_iff, right_0]; simp <;> omega), (Same.refl _).alloc _⟩
theorem right_1 (a b c n : Int) : rightB 1 a b c n = (decide (0 ≤ a ∧ a ≤ 7) && (decide (0 ≤ b ∧ b ≤ 0) && (decide (0 ≤ c ∧ c ≤ 0) && decide (0 ≤ n ∧ n ≤ 4294967295)))) := rfl
set_option maxRecDepth 100000 in
set_option maxHeartbeats 1000000 in
theorem rright_1 (a b c n : Int) (hn : 0 ≤ n ∧ n < 4294967296) (w : World) :
    Calls Tryd.prog 38 #[ins 1 a b c n] w fun e w' => e = .returned (.bool (rightB 1 a b c n)) ∧ Same w w' := by
  unfold ins
  go_enter Tryd.func38, Tryd.ntmps38
  go_wp2_with (go_at_call 68; refine (reg_any _ _).mono ?_; rintro e w' ⟨rfl, rfl⟩)
  all_goals
    go_ret
    exact ⟨ret_bool (by rw [Bool.eq_iff_iff, right_1]; simp <;> omega), (Same.refl _).alloc _⟩
theorem right_2 (a b c n : Int) : rightB 2 a b c n = (decide (0 ≤ a ∧ a ≤ 7) && (decide (0 ≤ b ∧ b ≤ 7) && (decide (0 ≤ c ∧ c ≤ 0) && decide (0 ≤ n ∧ n ≤ 0)))) := rfl
set_option maxRecDepth 100000 in
set_option maxHeartbeats 1000000 in
theorem rright_2 (a b c n : Int) (hn : 0 ≤ n ∧ n < 4294967296) (w : World) :
    Calls Tryd.prog 38 #[ins 2 a b c n] w fun e w' => e = .returned (.bool (rightB 2 a b c n)) ∧ Same w w' := by
  unfold ins
  go_enter Tryd.func38, Tryd.ntmps38
  go_wp2_with (go_at_call 68; refine (reg_any _ _).mono ?_; rintro e w' ⟨rfl, rfl⟩)
  all_goals
    go_ret
    exact ⟨ret_bool (by rw [Bool.eq_iff_iff, right_2]; simp <;> omega), (Same.refl _).alloc _⟩
theorem right_3 (a b c n : Int) : rightB 3 a b c n = (decide (0 ≤ a ∧ a ≤ 7) && (decide (0 ≤ b ∧ b ≤ 7) && (decide (0 ≤ c ∧ c ≤ 7) && decide (0 ≤ n ∧ n ≤ 0)))) := rfl
set_option maxRecDepth 100000 in
set_option maxHeartbeats 1000000 in
theorem rright_3 (a b c n : Int) (hn : 0 ≤ n ∧ n < 4294967296) (w : World) :
    Calls Tryd.prog 38 #[ins 3 a b c n] w fun e w' => e = .returned (.bool (rightB 3 a b c n)) ∧ Same w w' := by
  unfold ins
  go_enter Tryd.func38, Tryd.ntmps38
  go_wp2_with (go_at_call 68; refine (reg_any _ _).mono ?_; rintro e w' ⟨rfl, rfl⟩)
  all_goals
    go_ret
    exact ⟨ret_bool (by rw [Bool.eq_iff_iff, right_3]; simp <;> omega), (Same.refl _).alloc _⟩
theorem right_4 (a b c n : Int) : rightB 4 a b c n = (decide (0 ≤ a ∧ a ≤ 7) && (decide (0 ≤ b ∧ b ≤ 7) && (decide (0 ≤ c ∧ c ≤ 7) && decide (0 ≤ n ∧ n ≤ 0)))) := rfl
set_option maxRecDepth 100000 in
set_option maxHeartbeats 1000000 in
theorem rright_4 (a b c n : Int) (hn : 0 ≤ n ∧ n < 4294967296) (w : World) :
    Calls Tryd.prog 38 #[ins 4 a b c n] w fun e w' => e = .returned (.bool (rightB 4 a b c n)) ∧ Same w w' := by
  unfold ins
  go_enter Tryd.func38, Tryd.ntmps38
  go_wp2_with (go_at_call 68; refine (reg_any _ _).mono ?_; rintro e w' ⟨rfl, rfl⟩)
  all_goals
    go_ret
    exact ⟨ret_bool (by rw [Bool.eq_iff_iff, right_4]; simp <;> omega), (Same.refl _).alloc _⟩
theorem right_5 (a b c n : Int) : rightB 5 a b c n = (decide (0 ≤ a ∧ a ≤ 7) && (decide (0 ≤ b ∧ b ≤ 7) && (decide (0 ≤ c ∧ c ≤ 7) && decide (0 ≤ n ∧ n ≤ 0)))) := rfl
set_option maxRecDepth 100000 in
set_option maxHeartbeats 1000000 in
theorem rright_5 (a b c n : Int) (hn : 0 ≤ n ∧ n < 4294967296) (w : World) :
    Calls Tryd.prog 38 #[ins 5 a b c n] w fun e w' => e = .returned (.bool (rightB 5 a b c n)) ∧ Same w w' := by
  unfold ins
  go_enter Tryd.func38, Tryd.ntmps38
  go_wp2_with (go_at_call 68; refine (reg_any _ _).mono ?_; rintro e w' ⟨rfl, rfl⟩)
  all_goals
    go_ret
    exact ⟨ret_bool (by rw [Bool.eq_iff_iff, right_5]; simp <;> omega), (Same.refl _).alloc _⟩
theorem right_6 (a b c n : Int) : rightB 6 a b c n = (decide (0 ≤ a ∧ a ≤ 7) && (decide (0 ≤ b ∧ b ≤ 7) && (decide (0 ≤ c ∧ c ≤ 7) && decide (0 ≤ n ∧ n ≤ 0)))) := rfl
set_option maxRecDepth 100000 in
set_option maxHeartbeats 1000000 in
theorem rright_6 (a b c n : Int) (hn : 0 ≤ n ∧ n < 4294967296) (w : World) :
    Calls Tryd.prog 38 #[ins 6 a b c n] w fun e w' => e = .returned (.bool (rightB 6 a b c n)) ∧ Same w w' := by
  unfold ins
  go_enter Tryd.func38, Tryd.ntmps38
  go_wp2_with (go_at_call 68; refine (reg_any _ _).mono ?_; rintro e w' ⟨rfl, rfl⟩)
  all_goals
    go_ret
    exact ⟨ret_bool (by rw [Bool.eq_iff_iff, right_6]; simp <;> omega), (Same.refl _).alloc _⟩
theorem right_7 (a b c n : Int) : rightB 7 a b c n = (decide (0 ≤ a ∧ a ≤ 7) && (decide (0 ≤ b ∧ b ≤ 7) && (decide (0 ≤ c ∧ c ≤ 7) && decide (0 ≤ n ∧ n ≤ 0)))) := rfl
set_option maxRecDepth 100000 in
set_option maxHeartbeats 1000000 in
theorem rright_7 (a b c n : Int) (hn : 0 ≤ n ∧ n < 4294967296) (w : World) :
    Calls Tryd.prog 38 #[ins 7 a b c n] w fun e w' => e = .returned (.bool (rightB 7 a b c n)) ∧ Same w w' := by
  unfold ins
  go_enter Tryd.func38, Tryd.ntmps38
  go_wp2_with (go_at_call 68; refine (reg_any _ _).mono ?_; rintro e w' ⟨rfl, rfl⟩)
  all_goals
    go_ret
    exact ⟨ret_bool (by rw [Bool.eq_iff_iff, right_7]; simp <;> omega), (Same.refl _).alloc _⟩
theorem right_8 (a b c n : Int) : rightB 8 a b c n = (decide (0 ≤ a ∧ a ≤ 7) && (decide (0 ≤ b ∧ b ≤ 7) && (decide (0 ≤ c ∧ c ≤ 7) && decide (0 ≤ n ∧ n ≤ 0)))) := rfl
set_option maxRecDepth 100000 in
set_option maxHeartbeats 1000000 in
theorem rright_8 (a b c n : Int) (hn : 0 ≤ n ∧ n < 4294967296) (w : World) :
    Calls Tryd.prog 38 #[ins 8 a b c n] w fun e w' => e = .returned (.bool (rightB 8 a b c n)) ∧ Same w w' := by
  unfold ins
  go_enter Tryd.func38, Tryd.ntmps38
  go_wp2_with (go_at_call 68; refine (reg_any _ _).mono ?_; rintro e w' ⟨rfl, rfl⟩)
  all_goals
    go_ret
    exact ⟨ret_bool (by rw [Bool.eq_iff_iff, right_8]; simp <;> omega), (Same.refl _).alloc _⟩
theorem right_9 (a b c n : Int) : rightB 9 a b c n = (decide (0 ≤ a ∧ a ≤ 7) && (decide (0 ≤ b ∧ b ≤ 7) && (decide (0 ≤ c ∧ c ≤ 7) && decide (0 ≤ n ∧ n ≤ 0)))) := rfl
set_option maxRecDepth 100000 in
set_option maxHeartbeats 1000000 in
theorem rright_9 (a b c n : Int) (hn : 0 ≤ n ∧ n < 4294967296) (w : World) :
    Calls Tryd.prog 38 #[ins 9 a b c n] w fun e w' => e = .returned (.bool (rightB 9 a b c n)) ∧ Same w w' := by
  unfold ins
  go_enter Tryd.func38, Tryd.ntmps38
  go_wp2_with (go_at_call 68; refine (reg_any _ _).mono ?_; rintro e w' ⟨rfl, rfl⟩)
  all_goals
    go_ret
    exact ⟨ret_bool (by rw [Bool.eq_iff_iff, right_9]; simp <;> omega), (Same.refl _).alloc _⟩
theorem right_10 (a b c n : Int) : rightB 10 a b c n = (decide (0 ≤ a ∧ a ≤ 7) && (decide (0 ≤ b ∧ b ≤ 7) && (decide (0 ≤ c ∧ c ≤ 7) && decide (0 ≤ n ∧ n ≤ 0)))) := rfl
set_option maxRecDepth 100000 in
set_option maxHeartbeats 1000000 in
theorem rright_10 (a b c n : Int) (hn : 0 ≤ n ∧ n < 4294967296) (w : World) :
    Calls Tryd.prog 38 #[ins 10 a b c n] w fun e w' => e = .returned (.bool (rightB 10 a b c n)) ∧ Same w w' := by
  unfold ins
  go_enter Tryd.func38, Tryd.ntmps38
  go_wp2_with (go_at_call 68; refine (reg_any _ _).mono ?_; rintro e w' ⟨rfl, rfl⟩)
  all_goals
    go_ret
    exact ⟨ret_bool (by rw [Bool.eq_iff_iff, right_10]; simp <;> omega), (Same.refl _).alloc _⟩
theorem right_11 (a b c n : Int) : rightB 11 a b c n = (decide (0 ≤ a ∧ a ≤ 7) && (decide (0 ≤ b ∧ b ≤ 7) && (decide (0 ≤ c ∧ c ≤ 0) && decide (0 ≤ n ∧ n ≤ 4294967295)))) := rfl
set_option maxRecDepth 100000 in
set_option maxHeartbeats 1000000 in
theorem rright_11 (a b c n : Int) (hn : 0 ≤ n ∧ n < 4294967296) (w : World) :
    Calls Tryd.prog 38 #[ins 11 a b c n] w fun e w' => e = .returned (.bool (rightB 11 a b c n)) ∧ Same w w' := by
  unfold ins
  go_enter Tryd.func38, Tryd.ntmps38
  go_wp2_with (go_at_call 68; refine (reg_any _ _).mono ?_; rintro e w' ⟨rfl, rfl⟩)
  all_goals
    go_ret
    exact ⟨ret_bool (by rw [Bool.eq_iff_iff, right_11]; simp <;> omega), (Same.refl _).alloc _⟩
theorem right_12 (a b c n : Int) : rightB 12 a b c n = (decide (0 ≤ a ∧ a ≤ 7) && (decide (0 ≤ b ∧ b ≤ 7) && (decide (0 ≤ c ∧ c ≤ 0) && decide (0 ≤ n ∧ n ≤ 4294967295)))) := rfl
set_option maxRecDepth 100000 in
set_option maxHeartbeats 1000000 in
theorem rright_12 (a b c n : Int) (hn : 0 ≤ n ∧ n < 4294967296) (w : World) :
    Calls Tryd.prog 38 #[ins 12 a b c n] w fun e w' => e = .returned (.bool (rightB 12 a b c n)) ∧ Same w w' := by
  unfold ins
  go_enter Tryd.func38, Tryd.ntmps38
  go_wp2_with (go_at_call 68; refine (reg_any _ _).mono ?_; rintro e w' ⟨rfl, rfl⟩)
  all_goals
    go_ret
    exact ⟨ret_bool (by rw [Bool.eq_iff_iff, right_12]; simp <;> omega), (Same.refl _).alloc _⟩
theorem right_13 (a b c n : Int) : rightB 13 a b c n = (decide (0 ≤ a ∧ a ≤ 7) && (decide (0 ≤ b ∧ b ≤ 7) && (decide (0 ≤ c ∧ c ≤ 7) && decide (0 ≤ n ∧ n ≤ 4294967295)))) := rfl
set_option maxRecDepth 100000 in
set_option maxHeartbeats 1000000 in
theorem rright_13 (a b c n : Int) (hn : 0 ≤ n ∧ n < 4294967296) (w : World) :
    Calls Tryd.prog 38 #[ins 13 a b c n] w fun e w' => e = .returned (.bool (rightB 13 a b c n)) ∧ Same w w' := by
  unfold ins
  go_enter Tryd.func38, Tryd.ntmps38
  go_wp2_with (go_at_call 68; refine (reg_any _ _).mono ?_; rintro e w' ⟨rfl, rfl⟩)
  all_goals
    go_ret
    exact ⟨ret_bool (by rw [Bool.eq_iff_iff, right_13]; simp <;> omega), (Same.refl _).alloc _⟩
theorem right_14 (a b c n : Int) : rightB 14 a b c n = (decide (0 ≤ a ∧ a ≤ 0) && (decide (0 ≤ b ∧ b ≤ 0) && (decide (0 ≤ c ∧ c ≤ 0) && decide (0 ≤ n ∧ n ≤ 63)))) := rfl
set_option maxRecDepth 100000 in
set_option maxHeartbeats 1000000 in
theorem rright_14 (a b c n : Int) (hn : 0 ≤ n ∧ n < 4294967296) (w : World) :
    Calls Tryd.prog 38 #[ins 14 a b c n] w fun e w' => e = .returned (.bool (rightB 14 a b c n)) ∧ Same w w' := by
  unfold ins
  go_enter Tryd.func38, Tryd.ntmps38
  go_wp2_with (go_at_call 68; refine (reg_any _ _).mono ?_; rintro e w' ⟨rfl, rfl⟩)
  all_goals
    go_ret
    exact ⟨ret_bool (by rw [Bool.eq_iff_iff, right_14]; simp <;> omega), (Same.refl _).alloc _⟩
theorem right_15 (a b c n : Int) : rightB 15 a b c n = (decide (0 ≤ a ∧ a ≤ 7) && (decide (0 ≤ b ∧ b ≤ 0) && (decide (0 ≤ c ∧ c ≤ 0) && decide (0 ≤ n ∧ n ≤ 63)))) := rfl
set_option maxRecDepth 100000 in
set_option maxHeartbeats 1000000 in
theorem rright_15 (a b c n : Int) (hn : 0 ≤ n ∧ n < 4294967296) (w : World) :
    Calls Tryd.prog 38 #[ins 15 a b c n] w fun e w' => e = .returned (.bool (rightB 15 a b c n)) ∧ Same w w' := by
  unfold ins
  go_enter Tryd.func38, Tryd.ntmps38
  go_wp2_with (go_at_call 68; refine (reg_any _ _).mono ?_; rintro e w' ⟨rfl, rfl⟩)
  all_goals
    go_ret
    exact ⟨ret_bool (by rw [Bool.eq_iff_iff, right_15]; simp <;> omega), (Same.refl _).alloc _⟩
theorem right_16 (a b c n : Int) : rightB 16 a b c n = (decide (0 ≤ a ∧ a ≤ 0) && (decide (0 ≤ b ∧ b ≤ 0) && (decide (1 ≤ c ∧ c ≤ 255) && decide (0 ≤ n ∧ n ≤ 63)))) := rfl
set_option maxRecDepth 100000 in
set_option maxHeartbeats 1000000 in
theorem rright_16 (a b c n : Int) (hn : 0 ≤ n ∧ n < 4294967296) (w : World) :
    Calls Tryd.prog 38 #[ins 16 a b c n] w fun e w' => e = .returned (.bool (rightB 16 a b c n)) ∧ Same w w' := by
  unfold ins
  go_enter Tryd.func38, Tryd.ntmps38
  go_wp2_with (go_at_call 68; refine (reg_any _ _).mono ?_; rintro e w' ⟨rfl, rfl⟩)
  all_goals
    go_ret
    exact ⟨ret_bool (by rw [Bool.eq_iff_iff, right_16]; simp <;> omega), (Same.refl _).alloc _⟩
theorem right_17 (a b c n : Int) : rightB 17 a b c n = (decide (0 ≤ a ∧ a ≤ 7) && (decide (0 ≤ b ∧ b ≤ 7) && (decide (0 ≤ c ∧ c ≤ 0) && decide (0 ≤ n ∧ n ≤ 63)))) := rfl
set_option maxRecDepth 100000 in
set_option maxHeartbeats 1000000 in
theorem rright_17 (a b c n : Int) (hn : 0 ≤ n ∧ n < 4294967296) (w : World) :
    Calls Tryd.prog 38 #[ins 17 a b c n] w fun e w' => e = .returned (.bool (rightB 17 a b c n)) ∧ Same w w' := by
  unfold ins
  go_enter Tryd.func38, Tryd.ntmps38
  go_wp2_with (go_at_call 68; refine (reg_any _ _).mono ?_; rintro e w' ⟨rfl, rfl⟩)
  all_goals
    go_ret
    exact ⟨ret_bool (by rw [Bool.eq_iff_iff, right_17]; simp <;> omega), (Same.refl _).alloc _⟩
theorem right_18 (a b c n : Int) : rightB 18 a b c n = (decide (0 ≤ a ∧ a ≤ 7) && (decide (0 ≤ b ∧ b ≤ 7) && (decide (0 ≤ c ∧ c ≤ 0) && decide (0 ≤ n ∧ n ≤ 63)))) := rfl
set_option maxRecDepth 100000 in
set_option maxHeartbeats 1000000 in
theorem rright_18 (a b c n : Int) (hn : 0 ≤ n ∧ n < 4294967296) (w : World) :
    Calls Tryd.prog 38 #[ins 18 a b c n] w fun e w' => e = .returned (.bool (rightB 18 a b c n)) ∧ Same w w' := by
  unfold ins
  go_enter Tryd.func38, Tryd.ntmps38
  go_wp2_with (go_at_call 68; refine (reg_any _ _).mono ?_; rintro e w' ⟨rfl, rfl⟩)
  all_goals
    go_ret
    exact ⟨ret_bool (by rw [Bool.eq_iff_iff, right_18]; simp <;> omega), (Same.refl _).alloc _⟩
theorem right_19 (a b c n : Int) : rightB 19 a b c n = (decide (0 ≤ a ∧ a ≤ 7) && (decide (0 ≤ b ∧ b ≤ 7) && (decide (0 ≤ c ∧ c ≤ 0) && decide (0 ≤ n ∧ n ≤ 63)))) := rfl
set_option maxRecDepth 100000 in
set_option maxHeartbeats 1000000 in
theorem rright_19 (a b c n : Int) (hn : 0 ≤ n ∧ n < 4294967296) (w : World) :
    Calls Tryd.prog 38 #[ins 19 a b c n] w fun e w' => e = .returned (.bool (rightB 19 a b c n)) ∧ Same w w' := by
  unfold ins
  go_enter Tryd.func38, Tryd.ntmps38
  go_wp2_with (go_at_call 68; refine (reg_any _ _).mono ?_; rintro e w' ⟨rfl, rfl⟩)
  all_goals
    go_ret
    exact ⟨ret_bool (by rw [Bool.eq_iff_iff, right_19]; simp <;> omega), (Same.refl _).alloc _⟩
theorem right_20 (a b c n : Int) : rightB 20 a b c n = (decide (0 ≤ a ∧ a ≤ 7) && (decide (0 ≤ b ∧ b ≤ 7) && (decide (0 ≤ c ∧ c ≤ 0) && decide (0 ≤ n ∧ n ≤ 63)))) := rfl
set_option maxRecDepth 100000 in
set_option maxHeartbeats 1000000 in
theorem rright_20 (a b c n : Int) (hn : 0 ≤ n ∧ n < 4294967296) (w : World) :
    Calls Tryd.prog 38 #[ins 20 a b c n] w fun e w' => e = .returned (.bool (rightB 20 a b c n)) ∧ Same w w' := by
  unfold ins
  go_enter Tryd.func38, Tryd.ntmps38
  go_wp2_with (go_at_call 68; refine (reg_any _ _).mono ?_; rintro e w' ⟨rfl, rfl⟩)
  all_goals
    go_ret
    exact ⟨ret_bool (by rw [Bool.eq_iff_iff, right_20]; simp <;> omega), (Same.refl _).alloc _⟩
theorem right_21 (a b c n : Int) : rightB 21 a b c n = (decide (0 ≤ a ∧ a ≤ 0) && (decide (0 ≤ b ∧ b ≤ 0) && (decide (0 ≤ c ∧ c ≤ 0) && decide (0 ≤ n ∧ n ≤ 0)))) := rfl
set_option maxRecDepth 100000 in
set_option maxHeartbeats 1000000 in
theorem rright_21 (a b c n : Int) (hn : 0 ≤ n ∧ n < 4294967296) (w : World) :
    Calls Tryd.prog 38 #[ins 21 a b c n] w fun e w' => e = .returned (.bool (rightB 21 a b c n)) ∧ Same w w' := by
  unfold ins
  go_enter Tryd.func38, Tryd.ntmps38
  go_wp2_with (go_at_call 68; refine (reg_any _ _).mono ?_; rintro e w' ⟨rfl, rfl⟩)
  all_goals
    go_ret
    exact ⟨ret_bool (by rw [Bool.eq_iff_iff, right_21]; simp <;> omega), (Same.refl _).alloc _⟩

set_option maxRecDepth 100000 in
theorem rright_no (op : Int) (ho : op < 0 ∨ 21 < op) (a b c n : Int) (w : World) :
    Calls Tryd.prog 38 #[ins op a b c n] w fun e w' => e = .returned (.bool (rightB op a b c n)) ∧ Same w w' := by
  have hr : rightB op a b c n = false := by unfold rightB; rw [show decide (0 ≤ op ∧ op < 22) = false by simp; omega]; rfl
  rw [hr]
  clear hr
  unfold ins
  rcases ho with ho | ho
  all_goals
    go_enter Tryd.func38, Tryd.ntmps38
    go_wp2_with fail
    go_ret
    exact ⟨rfl, (Same.refl _).alloc _⟩

theorem rright_any (op a b c n : Int) (hn : 0 ≤ n ∧ n < 4294967296) (w : World) :
    Calls Tryd.prog 38 #[ins op a b c n] w fun e w' => e = .returned (.bool (rightB op a b c n)) ∧ Same w w' := by
  by_cases h : op < 0 ∨ 21 < op
  · exact rright_no op h a b c n w
  · rcases (by omega : op = 0 ∨ op = 1 ∨ op = 2 ∨ op = 3 ∨ op = 4 ∨ op = 5 ∨ op = 6 ∨ op = 7 ∨ op = 8 ∨ op = 9 ∨ op = 10 ∨ op = 11 ∨ op = 12 ∨ op = 13 ∨ op = 14 ∨ op = 15 ∨ op = 16 ∨ op = 17 ∨ op = 18 ∨ op = 19 ∨ op = 20 ∨ op = 21) with rfl | rfl | rfl | rfl | rfl | rfl | rfl | rfl | rfl | rfl | rfl | rfl | rfl | rfl | rfl | rfl | rfl | rfl | rfl | rfl | rfl | rfl
    · exact rright_0 a b c n hn w
    · exact rright_1 a b c n hn w
    · exact rright_2 a b c n hn w
    · exact rright_3 a b c n hn w
    · exact rright_4 a b c n hn w
    · exact rright_5 a b c n hn w
    · exact rright_6 a b c n hn w
    · exact rright_7 a b c n hn w
    · exact rright_8 a b c n hn w
    · exact rright_9 a b c n hn w
    · exact rright_10 a b c n hn w
    · exact rright_11 a b c n hn w
    · exact rright_12 a b c n hn w
    · exact rright_13 a b c n hn w
    · exact rright_14 a b c n hn w
    · exact rright_15 a b c n hn w
    · exact rright_16 a b c n hn w
    · exact rright_17 a b c n hn w
    · exact rright_18 a b c n hn w
    · exact rright_19 a b c n hn w
    · exact rright_20 a b c n hn w
    · exact rright_21 a b c n hn w

end Go.Proofs.YtnlndkpjfgpodaaDoor.Is
