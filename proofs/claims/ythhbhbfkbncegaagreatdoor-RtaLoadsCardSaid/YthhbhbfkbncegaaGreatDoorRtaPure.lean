/-

 Responses (layer 38), plainly: what comes in so many ticks, the search for a response, and what is true of it.
-/
import Derived.Test.YthhbhbfkbncegaaGreatDoorSplSpec
set_option linter.unusedSimpArgs false
set_option linter.unusedVariables false
namespace Go.Proofs.YthhbhbfkbncegaaGreatDoor.Rt
open Im (PT PO PS TsAt OsAt SysAt)
open Dm (demI dearI dearE)
open Go.Proofs.YthhbhbfkbncegaaGreatDoor.Wd (addv mulv ceilv sm)
open Sl (jobI)

/-- what comes in r ticks, of the first k tasks that go ahead and the task itself -/
noncomputable def loadT (s : PS) (i : Int) (costs : List Int) (r : Int) : Nat → Int
 | 0 => jobI s i r
 | k + 1 => if Ah.aheadI s.ts k i = true then addv (loadT s i costs r k) (mulv (costs.getD k 0) (ceilv r (Ah.pt s.ts k).per)) else loadT s i costs r k
noncomputable def loadI (s : PS) (i : Int) (costs : List Int) (r : Int) : Int := loadT s i costs r s.ts.length
theorem load_yes {s : PS} {i : Int} {costs : List Int} {r : Int} {k : Nat} (h : Ah.aheadI s.ts k i = true) : loadT s i costs r (k + 1) = addv (loadT s i costs r k) (mulv (costs.getD k 0) (ceilv r (Ah.pt s.ts k).per)) := if_pos h
theorem load_no {s : PS} {i : Int} {costs : List Int} {r : Int} {k : Nat} (h : Ah.aheadI s.ts k i = false) : loadT s i costs r (k + 1) = loadT s i costs r k := if_neg (by rw [h]; exact Bool.noConfusion)
theorem job_bd {A : Option Addr} {w : World} {s : PS} (ht : TsAt w A s.ts) (i r : Int) : 0 ≤ jobI s i r ∧ jobI s i r ≤ 1099511627776 := by
 unfold jobI
 split
 ·exact Sl.steps_bd _ (Sl.dear_bd ht i 0) _ _
 ·omega
theorem loadT_bd {A : Option Addr} {w : World} {s : PS} (ht : TsAt w A s.ts) (i : Int) (costs : List Int) (r : Int) : ∀ k, 0 ≤ loadT s i costs r k ∧ loadT s i costs r k ≤ 1099511627776
 | 0 => job_bd ht i r
 | k + 1 => by
  unfold loadT
  split
  ·exact Sl.addv_bd _ _
  ·exact loadT_bd ht i costs r k
/-- where no cost is told nothing is added -/
theorem load_far {A : Option Addr} {w : World} {s : PS} (ht : TsAt w A s.ts) {i : Int} {costs : List Int} {r : Int} {k : Nat} (h : costs.length ≤ k) : loadT s i costs r (k + 1) = loadT s i costs r k := by
 cases g : Ah.aheadI s.ts k i with
 | false => exact load_no g
 | true => rw [load_yes g, List.getD_eq_getElem?_getD, List.getElem?_eq_none h, Option.getD_none, Sl.mulv_zero, Sl.addv_zero (loadT_bd ht i costs r k)]
theorem job_away {s : PS} {i : Int} (h : ¬ (0 ≤ i ∧ i < s.ts.length)) (r : Int) : jobI s i r = 0 := if_neg (by rw [(Dm.dear_out (fails := 0) (by omega : i < 0 ∨ (s.ts.length : Int) ≤ i)).2]; decide)
theorem loadT_away {s : PS} {i : Int} (h : ¬ (0 ≤ i ∧ i < s.ts.length)) (costs : List Int) (r : Int) : ∀ k, loadT s i costs r k = 0
 | 0 => job_away h r
 | k + 1 => by rw [load_no (Ah.aheadI_no fun g => h g.2)]; exact loadT_away h costs r k
/-- the search: from r on, so many rounds at most -/
def respG (ld : Int → Int) (dl : Int) : Nat → Int → Int × Int
 | 0, _ => (0, 14)
 | f + 1, r => if r > dl then (0, 13) else if ld r = r then (r, 0) else respG ld dl f (ld r)
noncomputable def respI (s : PS) (i : Int) (costs : List Int) : Int × Int :=
 if 0 ≤ i ∧ i < s.ts.length then respG (loadI s i costs) (Ah.pt s.ts i.toNat).dl 10001 1 else (0, 1)
section
variable {ld : Int → Int} {dl : Int}
theorem resp_late {f : Nat} {r : Int} (h : r > dl) : respG ld dl (f + 1) r = (0, 13) := if_pos h
theorem resp_hit {f : Nat} {r : Int} (h : ¬ r > dl) (g : ld r = r) : respG ld dl (f + 1) r = (r, 0) := by
 unfold respG
 rw [if_neg h, if_pos g]
theorem resp_step {f : Nat} {r : Int} (h : ¬ r > dl) (g : ¬ ld r = r) : respG ld dl (f + 1) r = respG ld dl f (ld r) := by
 show (if r > dl then _ else if ld r = r then _ else _) = _
 rw [if_neg h, if_neg g]
end
end Go.Proofs.YthhbhbfkbncegaaGreatDoor.Rt
