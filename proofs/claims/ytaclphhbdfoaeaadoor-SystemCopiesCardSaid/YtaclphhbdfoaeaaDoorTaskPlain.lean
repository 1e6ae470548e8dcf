/-

  Whether a task's numbers may be (layer 26): of the program, and of the document.
-/
import Derived.Test.YtaclphhbdfoaeaaDoorTaskOpen
import Derived.Test.YtaclphhbdfoaeaaDoorWordsK
import Derived.WalkKit
import Derived.Deep.LoopGhost
import Derived.Deep.RegionHeld3
import Derived.BigQuiet
set_option linter.unusedVariables false
set_option linter.unusedSimpArgs false
namespace Go.Proofs.YtaclphhbdfoaeaaDoor.Tp
open Go.ChangeShapes Go.WideShapes Go.ChangeAt Go.RowKit Ws

theorem ret_bool {a b : Bool} (h : a = b) : Ending.returned (.bool a) = .returned (.bool b) := by rw [h]
theorem within_any (n a b : Int) (w : World) : Calls Tryd.prog 55 #[.int .i64 n, .int .i64 a, .int .i64 b] w fun e w' => e = .returned (.bool (decide (a ≤ n ∧ n ≤ b))) ∧ w = w' := by
  go_enter Tryd.func55, Tryd.ntmps55
  go_wp2
  all_goals
    go_ret
    refine ⟨ret_bool ?_, rfl⟩
    first
      | (rw [Bool.eq_iff_iff, decide_eq_true_eq, decide_eq_true_eq]; omega)
      | (simp <;> omega)
      | (rw [decide_eq_false (by omega)])
theorem within_yes (n a b : Int) (h : a ≤ n ∧ n ≤ b) (w : World) : Calls Tryd.prog 55 #[.int .i64 n, .int .i64 a, .int .i64 b] w fun e w' => e = .returned (.bool true) ∧ w = w' :=
  (within_any n a b w).mono fun e w' ⟨he, hw⟩ => ⟨by rw [he, decide_eq_true h], hw⟩
theorem within_no (n a b : Int) (h : ¬ (a ≤ n ∧ n ≤ b)) (w : World) : Calls Tryd.prog 55 #[.int .i64 n, .int .i64 a, .int .i64 b] w fun e w' => e = .returned (.bool false) ∧ w = w' :=
  (within_any n a b w).mono fun e w' ⟨he, hw⟩ => ⟨by rw [he, decide_eq_false h], hw⟩
def startP (k o : Int) : Prop := (k = 1 ∧ 0 ≤ o ∧ o ≤ 1048576) ∨ k = 2 ∧ o = 0
theorem startP_iff {k o : Int} : startP k o ↔ (k = 1 ∧ 0 ≤ o ∧ o ≤ 1048576) ∨ k = 2 ∧ o = 0 := Iff.rfl
instance (k o : Int) : Decidable (startP k o) := by unfold startP; infer_instance
def plainB (k p r o d ow : Int) : Bool := decide (startP k o ∧ (0 ≤ p ∧ p ≤ 255) ∧ (1 ≤ r ∧ r ≤ 1048576) ∧ (1 ≤ d ∧ d ≤ r) ∧ 1 ≤ ow ∧ ow ≤ 64)
theorem plainB_iff {k p r o d ow : Int} : plainB k p r o d ow = true ↔ startP k o ∧ (0 ≤ p ∧ p ≤ 255) ∧ (1 ≤ r ∧ r ≤ 1048576) ∧ (1 ≤ d ∧ d ≤ r) ∧ 1 ≤ ow ∧ ow ≤ 64 := by unfold plainB; rw [decide_eq_true_iff]
set_option maxRecDepth 100000 in
theorem start_any (k p r o d ow : Int) (A : Option Addr) (n c : Nat) (w : World) : Calls Tryd.prog 54 #[.agg #[.int .i64 k, .int .i64 p, .int .i64 r, .int .i64 o, .int .i64 d, .int .i64 ow, .slice A n c]] w fun e w' => e = .returned (.bool (decide (startP k o))) ∧ Same w w' := by
  by_cases hk1 : k = 1
  · subst hk1
    go_enter Tryd.func54, Tryd.ntmps54
    go_wp2_with (go_at_call 55; refine (within_any _ _ _ _).mono ?_; rintro e w' ⟨rfl, rfl⟩)
    go_ret
    exact ⟨ret_bool (by rw [Bool.eq_iff_iff, decide_eq_true_iff, startP_iff, Bool.and_eq_true, decide_eq_true_iff, decide_eq_true_iff]; omega), (Same.refl _).alloc _⟩
  by_cases hk2 : k = 2
  · subst hk2
    go_enter Tryd.func54, Tryd.ntmps54
    go_wp2_with fail
    go_ret
    exact ⟨ret_bool (by rw [Bool.eq_iff_iff, beq_iff_eq, decide_eq_true_iff, startP_iff]; omega), (Same.refl _).alloc _⟩
  have b1 : (k == 1) = false := by simpa using hk1
  have b2 : (k == 2) = false := by simpa using hk2
  have hE : decide (startP k o) = false := by rw [decide_eq_false_iff_not, startP_iff]; omega
  rw [hE]
  clear hE hk1 hk2
  go_enter Tryd.func54, Tryd.ntmps54
  go_wp2_with fail
  go_ret
  exact ⟨rfl, (Same.refl _).alloc _⟩
theorem start_yes (k p r o d ow : Int) (A : Option Addr) (n c : Nat) (h : startP k o) (w : World) : Calls Tryd.prog 54 #[.agg #[.int .i64 k, .int .i64 p, .int .i64 r, .int .i64 o, .int .i64 d, .int .i64 ow, .slice A n c]] w fun e w' => e = .returned (.bool true) ∧ Same w w' :=
  (start_any k p r o d ow A n c w).mono fun e w' ⟨he, hw⟩ => ⟨by rw [he, decide_eq_true h], hw⟩
theorem start_no (k p r o d ow : Int) (A : Option Addr) (n c : Nat) (h : ¬ startP k o) (w : World) : Calls Tryd.prog 54 #[.agg #[.int .i64 k, .int .i64 p, .int .i64 r, .int .i64 o, .int .i64 d, .int .i64 ow, .slice A n c]] w fun e w' => e = .returned (.bool false) ∧ Same w w' :=
  (start_any k p r o d ow A n c w).mono fun e w' ⟨he, hw⟩ => ⟨by rw [he, decide_eq_false h], hw⟩
set_option maxRecDepth 100000 in
theorem plain_any (k p r o d ow : Int) (A : Option Addr) (n c : Nat) (w : World) : Calls Tryd.prog 42 #[.agg #[.int .i64 k, .int .i64 p, .int .i64 r, .int .i64 o, .int .i64 d, .int .i64 ow, .slice A n c]] w fun e w' => e = .returned (.bool (plainB k p r o d ow)) ∧ Same w w' := by
  by_cases h0 : startP k o
  rotate_left
  · have hE : plainB k p r o d ow = false := decide_eq_false (fun h => h0 h.1)
    rw [hE]
    clear hE
    have S0 := (Same.refl w).alloc (.cells #[.int .i64 k, .int .i64 p, .int .i64 r, .int .i64 o, .int .i64 d, .int .i64 ow, .slice A n c] 32)
    have ST := start_no k p r o d ow A n c h0 (w.alloc (.cells #[.int .i64 k, .int .i64 p, .int .i64 r, .int .i64 o, .int .i64 d, .int .i64 ow, .slice A n c] 32))
    go_enter Tryd.func42, Tryd.ntmps42
    go_wp2_with fail
    refine ST.mono ?_
    rintro e w1 ⟨rfl, s1⟩
    have y0 : w1.cell? ⟨w.heap.size, 1, none⟩ = some (.int .i64 p) := s1.new (i := 1) rfl
    have y1 : w1.cell? ⟨w.heap.size, 2, none⟩ = some (.int .i64 r) := s1.new (i := 2) rfl
    have y2 : w1.cell? ⟨w.heap.size, 4, none⟩ = some (.int .i64 d) := s1.new (i := 4) rfl
    have y3 : w1.cell? ⟨w.heap.size, 5, none⟩ = some (.int .i64 ow) := s1.new (i := 5) rfl
    go_wp2_with (go_at_call 55; first | ((with_reducible refine (within_yes _ _ _ (by assumption) _).mono ?_); rintro e w' ⟨rfl, rfl⟩) | ((with_reducible refine (within_no _ _ _ (by assumption) _).mono ?_); rintro e w' ⟨rfl, rfl⟩))
    all_goals go_ret
    all_goals exact ⟨rfl, S0.trans s1⟩
  by_cases h1 : 0 ≤ p ∧ p ≤ 255
  rotate_left
  · have hE : plainB k p r o d ow = false := decide_eq_false (fun h => h1 h.2.1)
    rw [hE]
    clear hE
    have S0 := (Same.refl w).alloc (.cells #[.int .i64 k, .int .i64 p, .int .i64 r, .int .i64 o, .int .i64 d, .int .i64 ow, .slice A n c] 32)
    have ST := start_yes k p r o d ow A n c h0 (w.alloc (.cells #[.int .i64 k, .int .i64 p, .int .i64 r, .int .i64 o, .int .i64 d, .int .i64 ow, .slice A n c] 32))
    go_enter Tryd.func42, Tryd.ntmps42
    go_wp2_with fail
    refine ST.mono ?_
    rintro e w1 ⟨rfl, s1⟩
    have y0 : w1.cell? ⟨w.heap.size, 1, none⟩ = some (.int .i64 p) := s1.new (i := 1) rfl
    have y1 : w1.cell? ⟨w.heap.size, 2, none⟩ = some (.int .i64 r) := s1.new (i := 2) rfl
    have y2 : w1.cell? ⟨w.heap.size, 4, none⟩ = some (.int .i64 d) := s1.new (i := 4) rfl
    have y3 : w1.cell? ⟨w.heap.size, 5, none⟩ = some (.int .i64 ow) := s1.new (i := 5) rfl
    go_wp2_with (go_at_call 55; first | ((with_reducible refine (within_yes _ _ _ (by assumption) _).mono ?_); rintro e w' ⟨rfl, rfl⟩) | ((with_reducible refine (within_no _ _ _ (by assumption) _).mono ?_); rintro e w' ⟨rfl, rfl⟩))
    all_goals go_ret
    all_goals exact ⟨rfl, S0.trans s1⟩
  by_cases h2 : 1 ≤ r ∧ r ≤ 1048576
  rotate_left
  · have hE : plainB k p r o d ow = false := decide_eq_false (fun h => h2 h.2.2.1)
    rw [hE]
    clear hE
    have S0 := (Same.refl w).alloc (.cells #[.int .i64 k, .int .i64 p, .int .i64 r, .int .i64 o, .int .i64 d, .int .i64 ow, .slice A n c] 32)
    have ST := start_yes k p r o d ow A n c h0 (w.alloc (.cells #[.int .i64 k, .int .i64 p, .int .i64 r, .int .i64 o, .int .i64 d, .int .i64 ow, .slice A n c] 32))
    go_enter Tryd.func42, Tryd.ntmps42
    go_wp2_with fail
    refine ST.mono ?_
    rintro e w1 ⟨rfl, s1⟩
    have y0 : w1.cell? ⟨w.heap.size, 1, none⟩ = some (.int .i64 p) := s1.new (i := 1) rfl
    have y1 : w1.cell? ⟨w.heap.size, 2, none⟩ = some (.int .i64 r) := s1.new (i := 2) rfl
    have y2 : w1.cell? ⟨w.heap.size, 4, none⟩ = some (.int .i64 d) := s1.new (i := 4) rfl
    have y3 : w1.cell? ⟨w.heap.size, 5, none⟩ = some (.int .i64 ow) := s1.new (i := 5) rfl
    go_wp2_with (go_at_call 55; first | ((with_reducible refine (within_yes _ _ _ (by assumption) _).mono ?_); rintro e w' ⟨rfl, rfl⟩) | ((with_reducible refine (within_no _ _ _ (by assumption) _).mono ?_); rintro e w' ⟨rfl, rfl⟩))
    all_goals go_ret
    all_goals exact ⟨rfl, S0.trans s1⟩
  by_cases h3 : 1 ≤ d ∧ d ≤ r
  rotate_left
  · have hE : plainB k p r o d ow = false := decide_eq_false (fun h => h3 h.2.2.2.1)
    rw [hE]
    clear hE
    have S0 := (Same.refl w).alloc (.cells #[.int .i64 k, .int .i64 p, .int .i64 r, .int .i64 o, .int .i64 d, .int .i64 ow, .slice A n c] 32)
    have ST := start_yes k p r o d ow A n c h0 (w.alloc (.cells #[.int .i64 k, .int .i64 p, .int .i64 r, .int .i64 o, .int .i64 d, .int .i64 ow, .slice A n c] 32))
    go_enter Tryd.func42, Tryd.ntmps42
    go_wp2_with fail
    refine ST.mono ?_
    rintro e w1 ⟨rfl, s1⟩
    have y0 : w1.cell? ⟨w.heap.size, 1, none⟩ = some (.int .i64 p) := s1.new (i := 1) rfl
    have y1 : w1.cell? ⟨w.heap.size, 2, none⟩ = some (.int .i64 r) := s1.new (i := 2) rfl
    have y2 : w1.cell? ⟨w.heap.size, 4, none⟩ = some (.int .i64 d) := s1.new (i := 4) rfl
    have y3 : w1.cell? ⟨w.heap.size, 5, none⟩ = some (.int .i64 ow) := s1.new (i := 5) rfl
    go_wp2_with (go_at_call 55; first | ((with_reducible refine (within_yes _ _ _ (by assumption) _).mono ?_); rintro e w' ⟨rfl, rfl⟩) | ((with_reducible refine (within_no _ _ _ (by assumption) _).mono ?_); rintro e w' ⟨rfl, rfl⟩))
    all_goals go_ret
    all_goals exact ⟨rfl, S0.trans s1⟩
  by_cases h4 : 1 ≤ ow ∧ ow ≤ 64
  rotate_left
  · have hE : plainB k p r o d ow = false := decide_eq_false (fun h => h4 h.2.2.2.2)
    rw [hE]
    clear hE
    have S0 := (Same.refl w).alloc (.cells #[.int .i64 k, .int .i64 p, .int .i64 r, .int .i64 o, .int .i64 d, .int .i64 ow, .slice A n c] 32)
    have ST := start_yes k p r o d ow A n c h0 (w.alloc (.cells #[.int .i64 k, .int .i64 p, .int .i64 r, .int .i64 o, .int .i64 d, .int .i64 ow, .slice A n c] 32))
    go_enter Tryd.func42, Tryd.ntmps42
    go_wp2_with fail
    refine ST.mono ?_
    rintro e w1 ⟨rfl, s1⟩
    have y0 : w1.cell? ⟨w.heap.size, 1, none⟩ = some (.int .i64 p) := s1.new (i := 1) rfl
    have y1 : w1.cell? ⟨w.heap.size, 2, none⟩ = some (.int .i64 r) := s1.new (i := 2) rfl
    have y2 : w1.cell? ⟨w.heap.size, 4, none⟩ = some (.int .i64 d) := s1.new (i := 4) rfl
    have y3 : w1.cell? ⟨w.heap.size, 5, none⟩ = some (.int .i64 ow) := s1.new (i := 5) rfl
    go_wp2_with (go_at_call 55; first | ((with_reducible refine (within_yes _ _ _ (by assumption) _).mono ?_); rintro e w' ⟨rfl, rfl⟩) | ((with_reducible refine (within_no _ _ _ (by assumption) _).mono ?_); rintro e w' ⟨rfl, rfl⟩))
    all_goals go_ret
    all_goals exact ⟨rfl, S0.trans s1⟩
  have hE : plainB k p r o d ow = true := decide_eq_true ⟨h0, h1, h2, h3, h4⟩
  rw [hE]
  clear hE
  have S0 := (Same.refl w).alloc (.cells #[.int .i64 k, .int .i64 p, .int .i64 r, .int .i64 o, .int .i64 d, .int .i64 ow, .slice A n c] 32)
  have ST := start_yes k p r o d ow A n c h0 (w.alloc (.cells #[.int .i64 k, .int .i64 p, .int .i64 r, .int .i64 o, .int .i64 d, .int .i64 ow, .slice A n c] 32))
  go_enter Tryd.func42, Tryd.ntmps42
  go_wp2_with fail
  refine ST.mono ?_
  rintro e w1 ⟨rfl, s1⟩
  have y0 : w1.cell? ⟨w.heap.size, 1, none⟩ = some (.int .i64 p) := s1.new (i := 1) rfl
  have y1 : w1.cell? ⟨w.heap.size, 2, none⟩ = some (.int .i64 r) := s1.new (i := 2) rfl
  have y2 : w1.cell? ⟨w.heap.size, 4, none⟩ = some (.int .i64 d) := s1.new (i := 4) rfl
  have y3 : w1.cell? ⟨w.heap.size, 5, none⟩ = some (.int .i64 ow) := s1.new (i := 5) rfl
  go_wp2_with (go_at_call 55; first | ((with_reducible refine (within_yes _ _ _ (by assumption) _).mono ?_); rintro e w' ⟨rfl, rfl⟩) | ((with_reducible refine (within_no _ _ _ (by assumption) _).mono ?_); rintro e w' ⟨rfl, rfl⟩))
  all_goals go_ret
  all_goals exact ⟨rfl, S0.trans s1⟩
end Go.Proofs.YtaclphhbdfoaeaaDoor.Tp
