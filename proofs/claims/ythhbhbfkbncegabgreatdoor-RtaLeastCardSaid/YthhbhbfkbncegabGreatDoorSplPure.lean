/-

 What spoils reads (layer 37), plainly: how many writes come and how many attempts fail in so many ticks, what a job takes; and that nothing is less for more ticks.
-/
import Derived.Test.YthhbhbfkbncegabGreatDoorWordBase
set_option linter.unusedSimpArgs false
set_option linter.unusedVariables false
namespace Go.Proofs.YthhbhbfkbncegabGreatDoor.Sl
open Go.Proofs.YthhbhbfkbncegabGreatDoor.Wd (addv mulv ceilv sm)

/-- the reads that a task makes of an object -/
structure SR where
 k : Int
 sl : Int
 fl : Int
 ah : Bool
 wr : Int
 pr : Int
deriving Inhabited, DecidableEq
def zeroR : SR := ⟨0, 0, 0, false, 0, 0⟩
/-- its cells -/
def rcells (x : SR) : List Value := [.int .i64 x.k, .int .i64 x.sl, .int .i64 x.fl, .bool x.ah, .int .i64 x.wr, .int .i64 x.pr]
def wrR (x : SR) (r : Int) : Int := mulv x.wr (ceilv r x.pr)
def flR (x : SR) (r : Int) : Int := if x.k = 3 ∨ x.k = 5 then wrR x r else if x.k = 4 then wrR x r / (max x.sl 2 - 1) else 0
def stepsR (n : Int) (l : List SR) (r : Int) : Int := l.foldl (fun n x => addv n (mulv (flR x r) x.fl)) n

theorem sm_mono {a b : Int} (h : a ≤ b) : sm a ≤ sm b := by unfold sm; omega
theorem sm_bd (a : Int) : 0 ≤ sm a ∧ sm a ≤ 1099511627776 := by unfold sm; omega
theorem addv_mono {a b c d : Int} (h : a ≤ b) (g : c ≤ d) : addv a c ≤ addv b d := by
 have h1 := sm_mono h
 have h2 := sm_mono g
 unfold addv
 omega
theorem mulv_mono {a b c d : Int} (h : a ≤ b) (g : c ≤ d) : mulv a c ≤ mulv b d := by
 have h1 := Int.mul_le_mul (sm_mono h) (sm_mono g) (sm_bd c).1 (sm_bd b).1
 unfold mulv
 omega
theorem mulv_bd (a b : Int) : 0 ≤ mulv a b ∧ mulv a b ≤ 1099511627776 := by
 have := Int.mul_nonneg (sm_bd a).1 (sm_bd b).1
 unfold mulv
 omega
theorem addv_bd (a b : Int) : 0 ≤ addv a b ∧ addv a b ≤ 1099511627776 := by
 have h1 := sm_bd a
 have h2 := sm_bd b
 unfold addv
 omega
theorem addv_zero {a : Int} (h : 0 ≤ a ∧ a ≤ 1099511627776) : addv a 0 = a := by unfold addv sm; omega
theorem ceilv_mono {a b p : Int} (h : a ≤ b) : ceilv a p ≤ ceilv b p := by
 unfold ceilv
 by_cases h1 : b < 1 ∨ p < 1
 ·rw [if_pos h1, if_pos (by omega)]
  exact Int.le_refl _
 ·rw [if_neg h1]
  by_cases h2 : a < 1 ∨ p < 1
  ·rw [if_pos h2]
   have := Int.ediv_nonneg (show 0 ≤ b - 1 by omega) (show 0 ≤ p by omega)
   omega
  ·rw [if_neg h2]
   have := Int.ediv_le_ediv (show 0 < p by omega) (show a - 1 ≤ b - 1 by omega)
   omega
theorem wr_bd (x : SR) (r : Int) : 0 ≤ wrR x r ∧ wrR x r ≤ 1099511627776 := mulv_bd _ _
theorem wr_mono (x : SR) {r q : Int} (h : r ≤ q) : wrR x r ≤ wrR x q := mulv_mono (Int.le_refl _) (ceilv_mono h)
theorem fl_mono (x : SR) {r q : Int} (h : r ≤ q) : flR x r ≤ flR x q := by
 have hw := wr_mono x h
 unfold flR
 split
 ·exact hw
 ·split
  ·exact Int.ediv_le_ediv (by omega) hw
  ·exact Int.le_refl _
theorem steps_mono : ∀ (l : List SR) {n m r q : Int}, n ≤ m → r ≤ q → stepsR n l r ≤ stepsR m l q
 | [], n, m, r, q, h, _ => h
 | x :: l, n, m, r, q, h, g => steps_mono l (addv_mono h (mulv_mono (fl_mono x g) (Int.le_refl _))) g
theorem steps_snoc (n : Int) (l : List SR) (x : SR) (r : Int) : stepsR n (l ++ [x]) r = addv (stepsR n l r) (mulv (flR x r) x.fl) := by
 unfold stepsR
 rw [List.foldl_append]
 rfl
end Go.Proofs.YthhbhbfkbncegabGreatDoor.Sl
