/-

  What the functions of package word, and the document's own answers on layer 1, give back, as contracts of their calls.
  No condition but those that each theorem names: whole numbers that fit an int.
-/
import Derived.Test.YtnlndkpjfgpodaaDoorRows
import Derived.WalkKit
import Derived.WalkLawsBesides
import Derived.ProofKit
import Derived.OpenShut
import Derived.Lib.Hide
import Derived.Deep.QuietTactic
import Derived.BigQuiet
set_option linter.unusedSimpArgs false
set_option linter.unusedVariables false
namespace Go.Proofs.YtnlndkpjfgpodaaDoor.Wd
open Go.ChangeShapes Go.WideShapes Go.ChangeAt Go.RowKit

theorem ret_int {k : IntKind} {a b : Int} (h : a = b) : Ending.returned (.int k a) = .returned (.int k b) := by rw [h]
theorem ret_bool {a b : Bool} (h : a = b) : Ending.returned (.bool a) = .returned (.bool b) := by rw [h]

def clamp (n lo hi : Int) : Int := max lo (min n hi)

theorem wclamp (n lo hi : Int) (w : World) :
    Calls Tryd.prog 97 #[.int .i64 n, .int .i64 lo, .int .i64 hi] w fun e w' => e = .returned (.int .i64 (clamp n lo hi)) ∧ w = w' := by
  go_enter Tryd.func97, Tryd.ntmps97
  go_wp2
  all_goals
    go_ret
    exact ⟨ret_int (by unfold clamp; split at * <;> omega), rfl⟩

theorem rclamp (n lo hi : Int) (w : World) :
    Calls Tryd.prog 45 #[.int .i64 n, .int .i64 lo, .int .i64 hi] w fun e w' => e = .returned (.int .i64 (clamp n lo hi)) ∧ w = w' := by
  go_enter Tryd.func45, Tryd.ntmps45
  go_wp2
  all_goals
    go_ret
    refine ⟨ret_int (by unfold clamp; omega), rfl⟩

def top : Int := 1099511627776
def sm (n : Int) : Int := max 0 (min n 1099511627776)
theorem sm_bd (n : Int) : 0 ≤ sm n ∧ sm n ≤ 1099511627776 := by unfold sm; omega

theorem wsummand (n : Int) (w : World) :
    Calls Tryd.prog 73 #[.int .i64 n] w fun e w' => e = .returned (.int .i64 (sm n)) ∧ w = w' := by
  go_enter Tryd.func73, Tryd.ntmps73
  go_wp2_with (go_at_call 97; refine (wclamp _ _ _ _).mono ?_; rintro e w' ⟨rfl, rfl⟩)
  go_ret
  exact ⟨rfl, rfl⟩

def addv (a b : Int) : Int := min (sm a + sm b) 1099511627776

theorem wadd (a b : Int) (w : World) :
    Calls Tryd.prog 46 #[.int .i64 a, .int .i64 b] w fun e w' => e = .returned (.int .i64 (addv a b)) ∧ w = w' := by
  have ha := sm_bd a
  have hb := sm_bd b
  go_enter Tryd.func46, Tryd.ntmps46
  go_wp2_with (go_at_call 73; refine (wsummand _ _).mono ?_; rintro e w' ⟨rfl, rfl⟩)
  all_goals
    go_ret
    exact ⟨ret_int (by unfold addv; omega), rfl⟩

theorem radd (a b : Int) (w : World) :
    Calls Tryd.prog 17 #[.int .i64 a, .int .i64 b] w fun e w' => e = .returned (.int .i64 (addv a b)) ∧ w = w' := by
  have ha := sm_bd a
  have hb := sm_bd b
  have ea : clamp a 0 1099511627776 = sm a := rfl
  have eb : clamp b 0 1099511627776 = sm b := rfl
  go_enter Tryd.func17, Tryd.ntmps17
  go_wp2_with (go_at_call 45; refine (rclamp _ _ _ _).mono ?_; rintro e w' ⟨rfl, rfl⟩)
  all_goals
    go_ret
    exact ⟨ret_int (by unfold addv clamp; omega), rfl⟩

def mulv (a b : Int) : Int := min (sm a * sm b) 1099511627776

theorem mul_gt {x y t : Int} (hy : 0 < y) (h : t / y < x) : t < x * y := by
  have := Int.lt_mul_of_ediv_lt hy h; omega
theorem mul_le {x y t : Int} (hy : 0 < y) (h : ¬ t / y < x) : x * y ≤ t := by
  have h1 : x ≤ t / y := by omega
  have := Int.mul_le_of_le_ediv hy h1; omega

theorem mulv_ge {a b : Int} (h : 1099511627776 ≤ sm a * sm b) : (1099511627776 : Int) = mulv a b := by unfold mulv; omega
theorem mulv_le {a b : Int} (h : sm a * sm b ≤ 1099511627776) : sm a * sm b = mulv a b := by unfold mulv; omega
theorem sq_bd {x y : Int} (hx : 0 ≤ x ∧ x ≤ 1099511627776) (hy : 0 ≤ y ∧ y ≤ 1099511627776) (h : x * y ≤ 1099511627776) : wrap64 (x * y) = x * y := by
  have h0 := Int.mul_nonneg hx.1 hy.1
  exact Go.IntWalk.wrap64_in _ (by omega)

theorem wmul (a b : Int) (w : World) :
    Calls Tryd.prog 64 #[.int .i64 a, .int .i64 b] w fun e w' => e = .returned (.int .i64 (mulv a b)) ∧ w = w' := by
  have ha := sm_bd a
  have hb := sm_bd b
  go_enter Tryd.func64, Tryd.ntmps64
  go_wp2_with (go_at_call 73; refine (wsummand _ _).mono ?_; rintro e w' ⟨rfl, rfl⟩)
  · go_ret
    have h1 : 0 < sm b := by assumption
    have h2 : 1099511627776 / sm b < sm a := by assumption
    exact ⟨ret_int (mulv_ge (by have := mul_gt h1 h2; omega)), rfl⟩
  · go_ret
    have h1 : 0 < sm b := by assumption
    have h2 : sm a ≤ 1099511627776 / sm b := by assumption
    have h3 := mul_le h1 (Int.not_lt.2 h2)
    exact ⟨ret_int (by rw [sq_bd ha hb h3]; exact mulv_le h3), rfl⟩
  · go_ret
    have h1 : sm b = 0 := by omega
    exact ⟨ret_int (by unfold mulv; rw [h1, Int.mul_zero, Go.IntWalk.wrap64_in _ (by omega)]; omega), rfl⟩

theorem rmul (a b : Int) (w : World) :
    Calls Tryd.prog 65 #[.int .i64 a, .int .i64 b] w fun e w' => e = .returned (.int .i64 (mulv a b)) ∧ w = w' := by
  have ha := sm_bd a
  have hb := sm_bd b
  have ea : clamp a 0 1099511627776 = sm a := rfl
  have eb : clamp b 0 1099511627776 = sm b := rfl
  go_enter Tryd.func65, Tryd.ntmps65
  go_wp2_with (go_at_call 45; refine (rclamp _ _ _ _).mono ?_; rintro e w' ⟨rfl, rfl⟩)
  · go_ret
    have h1 : 0 < sm a := by assumption
    have h2 : 1099511627775 / sm a < sm b := by assumption
    exact ⟨ret_int (mulv_ge (by have := mul_gt h1 h2; rw [Int.mul_comm]; omega)), rfl⟩
  · go_ret
    have h1 : 0 < sm a := by assumption
    have h2 : sm b ≤ 1099511627775 / sm a := by assumption
    have h3 : sm a * sm b ≤ 1099511627776 := by have := mul_le h1 (Int.not_lt.2 h2); rw [Int.mul_comm]; omega
    exact ⟨ret_int (by rw [sq_bd ha hb h3]; exact mulv_le h3), rfl⟩
  · go_ret
    have h1 : sm a = 0 := by omega
    exact ⟨ret_int (by unfold mulv; rw [h1, Int.zero_mul, Go.IntWalk.wrap64_in _ (by omega)]; omega), rfl⟩

def ceilv (a b : Int) : Int := if a < 1 ∨ b < 1 then 0 else (a - 1) / b + 1
theorem div_bd {a b : Int} (ha : 1 ≤ a) (hb : 1 ≤ b) : 0 ≤ (a - 1) / b ∧ (a - 1) / b ≤ a - 1 :=
  ⟨Int.ediv_nonneg (by omega) (by omega), Int.ediv_le_self _ (by omega)⟩
theorem ceil_up {a b : Int} (hb : 1 ≤ b) (h : 0 < a % b) : a / b = (a - 1) / b := by
  have e := Int.mul_ediv_add_emod a b
  have l := Int.emod_lt_of_pos a (b := b) (by omega)
  refine (Int.ediv_emod_unique (by omega : 0 < b) (a := a - 1) (r := a % b - 1) (q := a / b)).2 ⟨?_, by omega, by omega⟩ |>.1.symm
  omega
theorem ceil_even {a b : Int} (hb : 1 ≤ b) (h : a % b ≤ 0) : a / b = (a - 1) / b + 1 := by
  have e := Int.mul_ediv_add_emod a b
  have l := Int.emod_nonneg a (b := b) (by omega)
  have h0 : a % b = 0 := by omega
  have := (Int.ediv_emod_unique (by omega : 0 < b) (a := a - 1) (r := b - 1) (q := a / b - 1)).2 ⟨by rw [Int.mul_sub]; omega, by omega, by omega⟩ |>.1
  omega
/-- what divides both -/
def gcdv (a b : Int) : Int := if a < 1 ∨ b < 1 then 0 else (Int.gcd a b : Int)
theorem gcd_step {a b : Int} (ha : 0 ≤ a) (hb : 0 ≤ b) : Int.gcd b (a % b) = Int.gcd a b := by
  obtain ⟨m, rfl⟩ := Int.eq_ofNat_of_zero_le ha
  obtain ⟨n, rfl⟩ := Int.eq_ofNat_of_zero_le hb
  rw [← Int.natCast_emod, Int.gcd_natCast_natCast, Int.gcd_natCast_natCast, Nat.gcd_comm m n, Nat.gcd_rec n m, Nat.gcd_comm]
theorem gcd_end {a : Int} (h : 0 ≤ a) : a = (Int.gcd a 0 : Int) := by rw [Int.gcd_zero_right]; omega

theorem gcdv_no {a b : Int} (h : a < 1 ∨ b < 1) : (0 : Int) = gcdv a b := by unfold gcdv; rw [if_pos h]
theorem gcdv_yes {a b : Int} (h1 : 1 ≤ a) (h2 : 1 ≤ b) : gcdv a b = (Int.gcd a b : Int) := by unfold gcdv; rw [if_neg (by omega)]
theorem gcdv_pos {a b : Int} (h1 : 1 ≤ a) (h2 : 1 ≤ b) : 1 ≤ gcdv a b := by
  rw [gcdv_yes h1 h2]; have : 0 < Int.gcd a b := Int.gcd_pos_iff.2 (Or.inl (by omega)); omega

def lcmv (a b : Int) : Int := if a < 1 ∨ b < 1 then 0 else mulv (a / gcdv a b) b
theorem lcmv_no {a b : Int} (h : a < 1 ∨ b < 1) : (0 : Int) = lcmv a b := by unfold lcmv; rw [if_pos h]
theorem lcmv_yes {a b : Int} (h1 : 1 ≤ a) (h2 : 1 ≤ b) : mulv (a / gcdv a b) b = lcmv a b := by unfold lcmv; rw [if_neg (by omega)]

theorem tdiv_in {a g : Int} (h1 : 1 ≤ a) (h2 : 1 ≤ g) (ba : a ≤ 9223372036854775807) : wrap64 (a.tdiv g) = a / g := by
  rw [Int.tdiv_eq_ediv_of_nonneg (by omega)]
  have l1 : 0 ≤ a / g := Int.ediv_nonneg (by omega) (by omega)
  have l2 : a / g ≤ a := Int.ediv_le_self _ (by omega)
  exact Go.IntWalk.wrap64_in _ (by omega)

theorem gcd_one : gcdv 4 6 = 2 := by decide
theorem lcm_one : lcmv 4 6 = 12 := by decide
theorem add_one' : addv 2 3 = 5 := by decide
theorem mul_one' : mulv 2 3 = 6 := by decide
theorem ceil_one : ceilv 7 3 = 3 := by decide

end Go.Proofs.YtnlndkpjfgpodaaDoor.Wd
