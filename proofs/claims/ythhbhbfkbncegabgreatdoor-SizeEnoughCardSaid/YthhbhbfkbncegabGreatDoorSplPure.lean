/-

 What spoils reads (layer 37), plainly: how many writes come and how many attempts fail in so many ticks, what a job takes; and that nothing is less for more ticks.
-/
import Derived.Test.YthhbhbfkbncegabGreatDoorWordBase
set_option linter.unusedSimpArgs false
set_option linter.unusedVariables false
namespace Go.Proofs.YthhbhbfkbncegabGreatDoor.Sl
open Go.Proofs.YthhbhbfkbncegabGreatDoor.Wd (addv mulv ceilv sm)

/-- the reads that a task makes of an object -/
structure SR where
 k : Int
 sl : Int
 fl : Int
 ah : Bool
 wr : Int
 pr : Int
deriving Inhabited, DecidableEq
def zeroR : SR := ⟨0, 0, 0, false, 0, 0⟩
/-- its cells -/
def rcells (x : SR) : List Value := [.int .i64 x.k, .int .i64 x.sl, .int .i64 x.fl, .bool x.ah, .int .i64 x.wr, .int .i64 x.pr]
def wrR (x : SR) (r : Int) : Int := mulv x.wr (ceilv r x.pr)
def flR (x : SR) (r : Int) : Int := if x.k = 3 ∨ x.k = 5 then wrR x r else if x.k = 4 then wrR x r / (max x.sl 2 - 1) else 0
theorem sm_bd (a : Int) : 0 ≤ sm a ∧ sm a ≤ 1099511627776 := by unfold sm; omega
theorem mulv_bd (a b : Int) : 0 ≤ mulv a b ∧ mulv a b ≤ 1099511627776 := by
 have := Int.mul_nonneg (sm_bd a).1 (sm_bd b).1
 unfold mulv
 omega
theorem wr_bd (x : SR) (r : Int) : 0 ≤ wrR x r ∧ wrR x r ≤ 1099511627776 := mulv_bd _ _
theorem fl_bd (x : SR) (r : Int) : 0 ≤ flR x r ∧ flR x r ≤ 1099511627776 := by
 have hw := wr_bd x r
 unfold flR
 split
 ·exact hw
 ·split
  ·have h1 : 0 < max x.sl 2 - 1 := by omega
   have h2 := Int.ediv_nonneg hw.1 (Int.le_of_lt h1)
   have h3 : wrR x r / (max x.sl 2 - 1) ≤ wrR x r := Int.ediv_le_self _ hw.1
   omega
  ·omega
end Go.Proofs.YthhbhbfkbncegabGreatDoor.Sl
