/-
  The walks of the laws on layer 1: WordSums, WordLeast, WordDivides return true whatever their numbers are.
-/
import Derived.Test.YtogaolnnkjkgdaaWordBase
import Derived.RowKit3
namespace Go.Proofs.Ytogaolnnkjkgdaa.Wd
open Go.ChangeShapes Go.WideShapes Go.ChangeAt Go.RowKit

theorem Grown.drewN {W w' : World} (h : Grown W w') (n : Nat) : Grown W (w'.drewN n) := h

theorem bd_of {a : Int} (h : (Lit.int .i64 a).wf = true) : -9223372036854775808 ≤ a ∧ a ≤ 9223372036854775807 := by
  simp only [Lit.wf, IntKind.min, IntKind.max, IntKind.signed, IntKind.bits, Bool.and_eq_true, decide_eq_true_eq, if_true] at h
  omega

theorem sums_walk (a b c : Int) (wa : (Lit.int .i64 a).wf = true) (w : World) :
    Calls Try.prog 3 #[.int .i64 a, .int .i64 b, .int .i64 c] w fun e w' => e = .returned (.bool true) ∧ Grown w w' := by
  have ba := bd_of wa
  clear wa
  go_enter Try.func3, Try.ntmps3
  go_wp2_with (first
    | (go_at_call 9; refine (wadd _ _ _).mono ?_; rintro e w' ⟨rfl, rfl⟩)
    | (go_at_call 10; refine (radd _ _ _).mono ?_; rintro e w' ⟨rfl, rfl⟩)
    | (go_at_call 11; refine (wmul _ _ _).mono ?_; rintro e w' ⟨rfl, rfl⟩)
    | (go_at_call 12; refine (rmul _ _ _).mono ?_; rintro e w' ⟨rfl, rfl⟩)
    | (go_at_call 13; refine (wclamp _ _ _ _).mono ?_; rintro e w' ⟨rfl, rfl⟩)
    | (go_at_call 14; refine (rclamp _ _ _ _).mono ?_; rintro e w' ⟨rfl, rfl⟩)
    | (go_at_call 15; refine (wceil _ _ (by omega) _).mono ?_; rintro e w' ⟨rfl, rfl⟩)
    | (go_at_call 16; refine (rceil _ _ (by omega) _).mono ?_; rintro e w' ⟨rfl, rfl⟩)
    | (go_at_call 17; refine (wawake _).mono ?_; rintro e w' ⟨rfl, n, rfl⟩))
  go_ret
  exact ⟨rfl, Grown.drewN (Grown.refl _) _⟩

theorem least_arith {x y : Int} (hx : 1 ≤ x) (hy : 1 ≤ y) :
    1 ≤ ceilv x y ∧ ceilv x y ≤ x ∧ (ceilv x y - 1) * y < x ∧ x - (ceilv x y - 1) * y ≤ y ∧ 0 ≤ (ceilv x y - 1) * y := by
  have hd := div_bd hx hy
  have e := Int.mul_ediv_add_emod (x - 1) y
  have l := Int.emod_lt_of_pos (x - 1) (b := y) (by omega)
  have n := Int.emod_nonneg (x - 1) (b := y) (by omega)
  have c : ceilv x y = (x - 1) / y + 1 := by unfold ceilv; rw [if_neg (by omega)]
  have c' : ceilv x y - 1 = (x - 1) / y := by omega
  rw [c', c, Int.mul_comm ((x - 1) / y) y]
  have p := Int.mul_nonneg (by omega : 0 ≤ y) hd.1
  refine ⟨by omega, by omega, by omega, by omega, p⟩

theorem cl_bd (a : Int) : 1 ≤ clamp a 1 1099511627776 ∧ clamp a 1 1099511627776 ≤ 1099511627776 := by unfold clamp; omega

theorem least_walk (a b : Int) (w : World) :
    Calls Try.prog 4 #[.int .i64 a, .int .i64 b] w fun e w' => e = .returned (.bool true) ∧ Grown w w' := by
  obtain ⟨x, hx⟩ : ∃ x, x = clamp a 1 1099511627776 := ⟨_, rfl⟩
  obtain ⟨y, hy⟩ : ∃ y, y = clamp b 1 1099511627776 := ⟨_, rfl⟩
  have bx := cl_bd a
  have bY := cl_bd b
  rw [← hx] at bx
  rw [← hy] at bY
  have ar := least_arith bx.1 bY.1
  obtain ⟨q, hq⟩ : ∃ q, q = ceilv x y := ⟨_, rfl⟩
  rw [← hq] at ar
  have e1 : wrap64 ((q - 1) * y) = (q - 1) * y := Go.IntWalk.wrap64_in _ (by omega)
  have e2 : wrap64 (x - (q - 1) * y) = x - (q - 1) * y := Go.IntWalk.wrap64_in _ (by omega)
  have HX := Lib.hid hx
  have HY := Lib.hid hy
  have HQ := Lib.hid hq
  clear hx hy hq
  go_enter Try.func4, Try.ntmps4
  go_wp2_with fail
  refine (rclamp _ _ _ _).mono ?_
  rintro e w' ⟨rfl, rfl⟩
  rw [← HX.out]
  go_wp2_with fail
  refine (rclamp _ _ _ _).mono ?_
  rintro e w' ⟨rfl, rfl⟩
  rw [← HY.out]
  go_wp2_with fail
  refine (wceil _ _ (by omega) _).mono ?_
  rintro e w' ⟨rfl, rfl⟩
  rw [← HQ.out]
  go_wp2_with (first
    | (go_at_call 17; refine (wawake _).mono ?_; rintro e w' ⟨rfl, n, rfl⟩))
  go_ret
  exact ⟨rfl, Grown.drewN (Grown.refl _) _⟩

/-! ### the greatest that divides both, and the least that both divide -/
theorem div_facts {a b : Int} (h1 : 1 ≤ a) (h2 : 1 ≤ b) :
    a % gcdv a b = 0 ∧ b % gcdv a b = 0 ∧ gcdv (a / gcdv a b) (b / gcdv a b) = 1 := by
  have hp : 0 < Int.gcd a b := Int.gcd_pos_iff.2 (Or.inl (by omega))
  rw [gcdv_yes h1 h2]
  have d1 := Int.gcd_dvd_left a b
  have d2 := Int.gcd_dvd_right a b
  have q1 : 1 ≤ a / (Int.gcd a b : Int) := by
    have := Int.ediv_mul_cancel d1
    have p : 0 ≤ a / (Int.gcd a b : Int) := Int.ediv_nonneg (by omega) (by omega)
    rcases Int.lt_or_le (a / (Int.gcd a b : Int)) 1 with h | h
    · have z : a / (Int.gcd a b : Int) = 0 := by omega
      rw [z] at this; omega
    · exact h
  have q2 : 1 ≤ b / (Int.gcd a b : Int) := by
    have := Int.ediv_mul_cancel d2
    have p : 0 ≤ b / (Int.gcd a b : Int) := Int.ediv_nonneg (by omega) (by omega)
    rcases Int.lt_or_le (b / (Int.gcd a b : Int)) 1 with h | h
    · have z : b / (Int.gcd a b : Int) = 0 := by omega
      rw [z] at this; omega
    · exact h
  refine ⟨Int.emod_eq_zero_of_dvd d1, Int.emod_eq_zero_of_dvd d2, ?_⟩
  rw [gcdv_yes q1 q2, Int.gcd_ediv_gcd_ediv_gcd hp]; rfl

theorem lcm_facts {a b : Int} (h1 : 1 ≤ a) (h2 : 1 ≤ b) : lcmv a b = 1099511627776 ∨ (lcmv a b % a = 0 ∧ lcmv a b % b = 0) := by
  have hp := gcdv_pos h1 h2
  have hf := div_facts h1 h2
  have d1 : gcdv a b ∣ a := Int.dvd_of_emod_eq_zero hf.1
  have d2 : gcdv a b ∣ b := Int.dvd_of_emod_eq_zero hf.2.1
  have c1 := Int.ediv_mul_cancel d1
  have c2 := Int.ediv_mul_cancel d2
  have p1 : 0 ≤ a / gcdv a b := Int.ediv_nonneg (by omega) (by omega)
  have e := lcmv_yes h1 h2
  rcases Int.lt_or_le (sm (a / gcdv a b) * sm b) 1099511627776 with h | h
  · right
    have q1 : 1 ≤ a / gcdv a b := by
      rcases Int.lt_or_le (a / gcdv a b) 1 with hz | hz
      · have z : a / gcdv a b = 0 := by omega
        rw [z] at c1; omega
      · exact hz
    have s1 : sm (a / gcdv a b) = a / gcdv a b := by
      unfold sm at *
      rcases Int.lt_or_le 1099511627776 (a / gcdv a b) with hz | hz
      · exfalso
        rw [show max 0 (min (a / gcdv a b) 1099511627776) = (1099511627776 : Int) from by omega] at h
        have : (1 : Int) ≤ max 0 (min b 1099511627776) := by omega
        omega
      · omega
    have s2 : sm b = b := by
      rcases Int.lt_or_le 1099511627776 b with hz | hz
      · exfalso
        rw [show sm b = (1099511627776 : Int) from by unfold sm; omega, s1] at h
        omega
      · unfold sm; omega
    have v : lcmv a b = a / gcdv a b * b := by
      rw [← e]; unfold mulv; rw [s1, s2] at h ⊢; omega
    rw [v]
    refine ⟨?_, Int.mul_emod_left _ _⟩
    have : a / gcdv a b * b = a * (b / gcdv a b) := by
      have x1 : a / gcdv a b * (b / gcdv a b * gcdv a b) = a / gcdv a b * b := by rw [c2]
      have x2 : (a / gcdv a b * gcdv a b) * (b / gcdv a b) = a * (b / gcdv a b) := by rw [c1]
      rw [← x1, ← x2, Int.mul_assoc, Int.mul_comm (gcdv a b)]
    rw [this]; exact Int.mul_emod_right _ _
  · left
    rw [← e]; unfold mulv; omega

theorem quiet_add {P : Program} {f : FuncId} {args : Array Value} {w : World} {a n : Nat} {v : Value}
    (h : Calls P f args (w.drewN (a + n)) fun e w' => e = .returned v ∧ ∃ m, w' = (w.drewN (a + n)).drewN m) :
    Calls P f args (w.drewN (a + n)) fun e w'' => e = .returned v ∧ ∃ m, w'' = w.drewN (a + m) :=
  h.mono fun _ _ ⟨he, m, hm⟩ => ⟨he, n + m, by rw [hm, World.drewN_drewN, Nat.add_assoc]⟩

theorem divides_no (a b : Int) (ba : -9223372036854775808 ≤ a ∧ a ≤ 9223372036854775807) (h : a < 1 ∨ b < 1) (w : World) :
    Calls Try.prog 5 #[.int .i64 a, .int .i64 b] w fun e w' => e = .returned (.bool true) ∧ Grown w w' := by
  have g0 : gcdv a b = 0 := (gcdv_no h).symm
  have l0 : lcmv a b = 0 := (lcmv_no h).symm
  by_cases h1 : a < 1
  all_goals
    go_enter Try.func5, Try.ntmps5
    go_wp2_with (first
      | (go_at_call 18; refine (wgcd _ _ _).mono ?_; rintro e w' ⟨rfl, n, rfl⟩)
      | (go_at_call 19; refine (wlcm _ _ ba.2 _).mono ?_; rintro e w' ⟨rfl, n, rfl⟩)
      | (go_at_call 20; refine (rgcd _ _ _ _ (Nat.le_refl _)).mono ?_; rintro e w' ⟨rfl, rfl⟩)
      | (go_at_call 21; refine (rlcm _ _ ba.2 _).mono ?_; rintro e w' ⟨rfl, rfl⟩)
      | (go_at_call 17; refine (wawake _).mono ?_; rintro e w' ⟨rfl, n, rfl⟩))
  all_goals
    go_ret
    exact ⟨rfl, Grown.drewN (Grown.refl _) _⟩

theorem divides_yes (a b : Int) (ba : a ≤ 9223372036854775807) (bb : b ≤ 9223372036854775807) (h1 : 1 ≤ a) (h2 : 1 ≤ b) (w : World) :
    Calls Try.prog 5 #[.int .i64 a, .int .i64 b] w fun e w' => e = .returned (.bool true) ∧ Grown w w' := by
  have hf := div_facts h1 h2
  have hl := lcm_facts h1 h2
  have hp := gcdv_pos h1 h2
  have f1 : (a % gcdv a b != 0) = false := by rw [hf.1]; rfl
  have f2 : (b % gcdv a b != 0) = false := by rw [hf.2.1]; rfl
  have f3 : (gcdv (a / gcdv a b) (b / gcdv a b) != 1) = false := by rw [hf.2.2]; rfl
  have HF := Lib.hid hf
  clear hf
  by_cases hh : lcmv a b = 1099511627776
  · have l1 : (lcmv a b == 1099511627776) = true := by rw [hh]; rfl
    clear hl hh
    go_enter Try.func5, Try.ntmps5
    go_wp2_with (first
      | (go_at_call 18; refine (wgcd _ _ _).mono ?_; rintro e w' ⟨rfl, n, rfl⟩)
      | (go_at_call 19; refine (wlcm _ _ ba _).mono ?_; rintro e w' ⟨rfl, n, rfl⟩)
      | (go_at_call 20; refine (rgcd _ _ _ _ (Nat.le_refl _)).mono ?_; rintro e w' ⟨rfl, rfl⟩)
      | (go_at_call 21; refine (rlcm _ _ ba _).mono ?_; rintro e w' ⟨rfl, rfl⟩)
      | (go_at_call 17; refine (wawake _).mono ?_; rintro e w' ⟨rfl, n, rfl⟩))
    go_quiet ((go_at_call 18; exact quiet_add (wgcd _ _ _)))
    go_wp2_with (first
      | (go_at_call 17; refine (wawake _).mono ?_; rintro e w' ⟨rfl, n, rfl⟩))
    all_goals
      go_ret
      exact ⟨rfl, Grown.drewN (Grown.refl _) _⟩
  · have l1 : (lcmv a b == 1099511627776) = false := by simpa using hh
    have hl' := hl.resolve_left hh
    have l0 : 0 ≤ lcmv a b := by
      rw [← lcmv_yes h1 h2]; unfold mulv
      have x1 := (sm_bd (a / gcdv a b)).1
      have x2 := (sm_bd b).1
      have x3 := Int.mul_nonneg x1 x2
      omega
    have l2 : (lcmv a b % a == 0) = true := by rw [hl'.1]; rfl
    have l3 : (lcmv a b % b == 0) = true := by rw [hl'.2]; rfl
    clear hl hl' hh
    go_enter Try.func5, Try.ntmps5
    go_wp2_with (first
      | (go_at_call 18; refine (wgcd _ _ _).mono ?_; rintro e w' ⟨rfl, n, rfl⟩)
      | (go_at_call 19; refine (wlcm _ _ ba _).mono ?_; rintro e w' ⟨rfl, n, rfl⟩)
      | (go_at_call 20; refine (rgcd _ _ _ _ (Nat.le_refl _)).mono ?_; rintro e w' ⟨rfl, rfl⟩)
      | (go_at_call 21; refine (rlcm _ _ ba _).mono ?_; rintro e w' ⟨rfl, rfl⟩)
      | (go_at_call 17; refine (wawake _).mono ?_; rintro e w' ⟨rfl, n, rfl⟩))
    go_quiet ((go_at_call 18; exact quiet_add (wgcd _ _ _)))
    go_wp2_with (first
      | (go_at_call 17; refine (wawake _).mono ?_; rintro e w' ⟨rfl, n, rfl⟩))
    all_goals
      go_ret
      exact ⟨rfl, Grown.drewN (Grown.refl _) _⟩

theorem divides_walk (a b : Int) (wa : (Lit.int .i64 a).wf = true) (wb : (Lit.int .i64 b).wf = true) (w : World) :
    Calls Try.prog 5 #[.int .i64 a, .int .i64 b] w fun e w' => e = .returned (.bool true) ∧ Grown w w' := by
  have ba := bd_of wa
  have bb := bd_of wb
  by_cases h : a < 1 ∨ b < 1
  · exact divides_no a b ba h w
  · exact divides_yes a b ba.2 bb.2 (by omega) (by omega) w

end Go.Proofs.Ytogaolnnkjkgdaa.Wd
