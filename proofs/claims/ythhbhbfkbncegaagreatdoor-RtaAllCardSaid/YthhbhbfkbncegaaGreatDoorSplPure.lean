/-

 What spoils reads (layer 37), plainly: how many writes come and how many attempts fail in so many ticks, what a job takes; and that nothing is less for more ticks.
-/
import Derived.Test.YthhbhbfkbncegaaGreatDoorWordBase
set_option linter.unusedSimpArgs false
set_option linter.unusedVariables false
namespace Go.Proofs.YthhbhbfkbncegaaGreatDoor.Sl
open Go.Proofs.YthhbhbfkbncegaaGreatDoor.Wd (addv mulv ceilv sm)

/-- the reads that a task makes of an object -/
structure SR where
 k : Int
 sl : Int
 fl : Int
 ah : Bool
 wr : Int
 pr : Int
deriving Inhabited, DecidableEq
def zeroR : SR := ⟨0, 0, 0, false, 0, 0⟩
/-- its cells -/
def rcells (x : SR) : List Value := [.int .i64 x.k, .int .i64 x.sl, .int .i64 x.fl, .bool x.ah, .int .i64 x.wr, .int .i64 x.pr]
def wrR (x : SR) (r : Int) : Int := mulv x.wr (ceilv r x.pr)
def flR (x : SR) (r : Int) : Int := if x.k = 3 ∨ x.k = 5 then wrR x r else if x.k = 4 then wrR x r / (max x.sl 2 - 1) else 0
def stepsR (n : Int) (l : List SR) (r : Int) : Int := l.foldl (fun n x => addv n (mulv (flR x r) x.fl)) n

theorem sm_bd (a : Int) : 0 ≤ sm a ∧ sm a ≤ 1099511627776 := by unfold sm; omega
theorem mulv_comm (a b : Int) : mulv a b = mulv b a := by unfold mulv; rw [Int.mul_comm]
theorem mulv_zero (b : Int) : mulv 0 b = 0 := by
 unfold mulv
 rw [show sm 0 = 0 from by unfold sm; omega, Int.zero_mul]
 rfl
theorem mulv_bd (a b : Int) : 0 ≤ mulv a b ∧ mulv a b ≤ 1099511627776 := by
 have := Int.mul_nonneg (sm_bd a).1 (sm_bd b).1
 unfold mulv
 omega
theorem addv_bd (a b : Int) : 0 ≤ addv a b ∧ addv a b ≤ 1099511627776 := by
 have h1 := sm_bd a
 have h2 := sm_bd b
 unfold addv
 omega
theorem addv_zero {a : Int} (h : 0 ≤ a ∧ a ≤ 1099511627776) : addv a 0 = a := by unfold addv sm; omega
theorem wr_bd (x : SR) (r : Int) : 0 ≤ wrR x r ∧ wrR x r ≤ 1099511627776 := mulv_bd _ _
theorem wr_none {x : SR} (h : x.wr = 0) (r : Int) : wrR x r = 0 := by
 unfold wrR
 rw [h, mulv_zero]
theorem fl_none {x : SR} (h : x.wr = 0) (r : Int) : flR x r = 0 := by
 unfold flR
 rw [wr_none h]
 split
 ·rfl
 ·split
  ·exact Int.zero_ediv _
  ·rfl
theorem steps_snoc (n : Int) (l : List SR) (x : SR) (r : Int) : stepsR n (l ++ [x]) r = addv (stepsR n l r) (mulv (flR x r) x.fl) := by
 unfold stepsR
 rw [List.foldl_append]
 rfl
end Go.Proofs.YthhbhbfkbncegaaGreatDoor.Sl
