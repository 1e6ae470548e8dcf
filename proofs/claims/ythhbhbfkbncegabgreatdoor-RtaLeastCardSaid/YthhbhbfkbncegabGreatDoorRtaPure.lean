/-

 Responses (layer 38), plainly: what comes in so many ticks, the search for a response, and what is true of it.
-/
import Derived.Test.YthhbhbfkbncegabGreatDoorSplSpec
set_option linter.unusedSimpArgs false
set_option linter.unusedVariables false
namespace Go.Proofs.YthhbhbfkbncegabGreatDoor.Rt
open Im (PT PO PS TsAt OsAt SysAt)
open Dm (demI dearI dearE)
open Go.Proofs.YthhbhbfkbncegabGreatDoor.Wd (addv mulv ceilv sm)
open Sl (jobI)

/-- what comes in r ticks, of the first k tasks that go ahead and the task itself -/
noncomputable def loadT (s : PS) (i : Int) (costs : List Int) (r : Int) : Nat → Int
 | 0 => jobI s i r
 | k + 1 => if Ah.aheadI s.ts k i = true then addv (loadT s i costs r k) (mulv (costs.getD k 0) (ceilv r (Ah.pt s.ts k).per)) else loadT s i costs r k
noncomputable def loadI (s : PS) (i : Int) (costs : List Int) (r : Int) : Int := loadT s i costs r s.ts.length
theorem load_yes {s : PS} {i : Int} {costs : List Int} {r : Int} {k : Nat} (h : Ah.aheadI s.ts k i = true) : loadT s i costs r (k + 1) = addv (loadT s i costs r k) (mulv (costs.getD k 0) (ceilv r (Ah.pt s.ts k).per)) := if_pos h
theorem load_no {s : PS} {i : Int} {costs : List Int} {r : Int} {k : Nat} (h : Ah.aheadI s.ts k i = false) : loadT s i costs r (k + 1) = loadT s i costs r k := if_neg (by rw [h]; exact Bool.noConfusion)
theorem job_bd {A : Option Addr} {w : World} {s : PS} (ht : TsAt w A s.ts) (i r : Int) : 0 ≤ jobI s i r ∧ jobI s i r ≤ 1099511627776 := by
 unfold jobI
 split
 ·exact Sl.steps_bd _ (Sl.dear_bd ht i 0) _ _
 ·omega
theorem loadT_bd {A : Option Addr} {w : World} {s : PS} (ht : TsAt w A s.ts) (i : Int) (costs : List Int) (r : Int) : ∀ k, 0 ≤ loadT s i costs r k ∧ loadT s i costs r k ≤ 1099511627776
 | 0 => job_bd ht i r
 | k + 1 => by
  unfold loadT
  split
  ·exact Sl.addv_bd _ _
  ·exact loadT_bd ht i costs r k
theorem job_away {s : PS} {i : Int} (h : ¬ (0 ≤ i ∧ i < s.ts.length)) (r : Int) : jobI s i r = 0 := if_neg (by rw [(Dm.dear_out (fails := 0) (by omega : i < 0 ∨ (s.ts.length : Int) ≤ i)).2]; decide)
theorem loadT_away {s : PS} {i : Int} (h : ¬ (0 ≤ i ∧ i < s.ts.length)) (costs : List Int) (r : Int) : ∀ k, loadT s i costs r k = 0
 | 0 => job_away h r
 | k + 1 => by rw [load_no (Ah.aheadI_no fun g => h g.2)]; exact loadT_away h costs r k
theorem loadT_mono {s : PS} {i : Int} {cs ds : List Int} (hc : ∀ k : Nat, sm (cs.getD k 0) ≤ sm (ds.getD k 0)) {r q : Int} (h : r ≤ q) : ∀ k, loadT s i cs r k ≤ loadT s i ds q k
 | 0 => Sl.job_mono h
 | k + 1 => by
  cases g : Ah.aheadI s.ts k i with
  | false => rw [load_no g, load_no g]; exact loadT_mono hc h k
  | true =>
   rw [load_yes g, load_yes g]
   refine Sl.addv_mono (loadT_mono hc h k) ?_
   have h1 := Int.mul_le_mul (hc k) (Sl.sm_mono (Sl.ceilv_mono (p := (Ah.pt s.ts k).per) h)) (Sl.sm_bd _).1 (Sl.sm_bd _).1
   unfold mulv
   omega
theorem loadI_mono {s : PS} {i : Int} {cs : List Int} {r q : Int} (h : r ≤ q) : loadI s i cs r ≤ loadI s i cs q := loadT_mono (fun _ => Int.le_refl _) h _
theorem job_le {s : PS} {i : Int} {costs : List Int} {r : Int} {A : Option Addr} {w : World} (ht : TsAt w A s.ts) : ∀ k, jobI s i r ≤ loadT s i costs r k
 | 0 => Int.le_refl _
 | k + 1 => by
  have h0 := job_le (i := i) (costs := costs) (r := r) ht k
  have h1 := loadT_bd ht i costs r k
  cases g : Ah.aheadI s.ts k i with
  | false => rw [load_no g]; exact h0
  | true =>
   rw [load_yes g]
   have h2 := Sl.mulv_bd (costs.getD k 0) (ceilv r (Ah.pt s.ts k).per)
   refine Int.le_trans h0 ?_
   have h3 := Sl.addv_mono (Int.le_refl (loadT s i costs r k)) h2.1
   rwa [Sl.addv_zero h1] at h3
/-- each cost one more -/
def moreL (l : List Int) : List Int := l.map fun c => addv c 1
theorem more_le (l : List Int) (k : Nat) : sm (l.getD k 0) ≤ sm ((moreL l).getD k 0) := by
 unfold moreL
 rw [List.getD_eq_getElem?_getD, List.getD_eq_getElem?_getD, List.getElem?_map]
 cases l[k]? with
 | none => exact Int.le_refl _
 | some c =>
  show sm c ≤ sm (addv c 1)
  have := Sl.sm_bd c
  unfold addv sm at *
  omega

/-- the search: from r on, so many rounds at most -/
def respG (ld : Int → Int) (dl : Int) : Nat → Int → Int × Int
 | 0, _ => (0, 14)
 | f + 1, r => if r > dl then (0, 13) else if ld r = r then (r, 0) else respG ld dl f (ld r)
noncomputable def respI (s : PS) (i : Int) (costs : List Int) : Int × Int :=
 if 0 ≤ i ∧ i < s.ts.length then respG (loadI s i costs) (Ah.pt s.ts i.toNat).dl 10001 1 else (0, 1)
section
variable {ld : Int → Int} {dl : Int}
theorem resp_late {f : Nat} {r : Int} (h : r > dl) : respG ld dl (f + 1) r = (0, 13) := if_pos h
theorem resp_hit {f : Nat} {r : Int} (h : ¬ r > dl) (g : ld r = r) : respG ld dl (f + 1) r = (r, 0) := by
 unfold respG
 rw [if_neg h, if_pos g]
theorem resp_step {f : Nat} {r : Int} (h : ¬ r > dl) (g : ¬ ld r = r) : respG ld dl (f + 1) r = respG ld dl f (ld r) := by
 show (if r > dl then _ else if ld r = r then _ else _) = _
 rw [if_neg h, if_neg g]
theorem resp_zero : ∀ (f : Nat) (r : Int), (respG ld dl f r).2 ≠ 0 → (respG ld dl f r).1 = 0
 | 0, r, _ => rfl
 | f + 1, r, h => by
  by_cases h1 : r > dl
  ·rw [resp_late h1]
  ·by_cases h2 : ld r = r
   ·rw [resp_hit h1 h2] at h; exact absurd rfl h
   ·rw [resp_step h1 h2] at h ⊢; exact resp_zero f _ h
/-- what is found: as much comes as there is time, at most the deadline, and no less time would do -/
theorem resp_least (hm : ∀ a b, a ≤ b → ld a ≤ ld b) : ∀ (f : Nat) (x : Int), (∀ n, 1 ≤ n → n < x → n < ld n) → (x ≤ ld x ∨ x ≤ 1) → (respG ld dl f x).2 = 0 →
 ld (respG ld dl f x).1 = (respG ld dl f x).1 ∧ (respG ld dl f x).1 ≤ dl ∧ ∀ n, 1 ≤ n → n < (respG ld dl f x).1 → n < ld n
 | 0, x, _, _, h => by cases h
 | f + 1, x, hi, hx, h => by
  by_cases h1 : x > dl
  ·rw [resp_late h1] at h; cases h
  ·by_cases h2 : ld x = x
   ·rw [resp_hit h1 h2]
    exact ⟨h2, by show x ≤ dl; omega, hi⟩
   ·rw [resp_step h1 h2] at h ⊢
    refine resp_least hm f (ld x) (fun n hn hl => ?_) ?_ h
    ·by_cases g : n < x
     ·exact hi n hn g
     ·have := hm x n (by omega)
      omega
    ·by_cases g : x ≤ ld x
     ·exact .inl (hm _ _ g)
     ·right; omega
theorem resp_ge (hm : ∀ a b, a ≤ b → ld a ≤ ld b) : ∀ (f : Nat) (x : Int), x ≤ ld x → (respG ld dl f x).2 = 0 → x ≤ (respG ld dl f x).1
 | 0, x, _, h => by cases h
 | f + 1, x, hx, h => by
  by_cases h1 : x > dl
  ·rw [resp_late h1] at h; cases h
  ·by_cases h2 : ld x = x
   ·rw [resp_hit h1 h2]; exact Int.le_refl _
   ·rw [resp_step h1 h2] at h ⊢
    exact Int.le_trans hx (resp_ge hm f _ (hm _ _ hx) h)
theorem resp_found (hm : ∀ a b, a ≤ b → ld a ≤ ld b) {q : Int} (hq : ld q ≤ q) (hd : q ≤ dl) : ∀ (f : Nat) (x : Int), x ≤ ld x → x ≤ q → q - x < f → (respG ld dl f x).2 = 0 ∧ (respG ld dl f x).1 ≤ q
 | 0, x, _, _, h => by omega
 | f + 1, x, hx, hxq, h => by
  have h1 : ¬ x > dl := by omega
  by_cases h2 : ld x = x
  ·rw [resp_hit h1 h2]; exact ⟨rfl, hxq⟩
  ·rw [resp_step h1 h2]
   have h3 := hm x q hxq
   exact resp_found hm hq hd f (ld x) (hm _ _ hx) (by omega) (by omega)
theorem resp_none (hm : ∀ a b, a ≤ b → ld a ≤ ld b) (h0 : ∀ a, 0 ≤ ld a) (hd : 1 ≤ dl) (h1 : ld 1 = 0) (f : Nat) : respG ld dl (f + 2) 1 = (0, 0) := by
 have h2 : ld 0 = 0 := by
  have := hm 0 1 (by omega)
  have := h0 0
  omega
 rw [resp_step (by omega) (by omega), h1, resp_hit (by omega) h2]
/-- with more that comes nothing is found that is not found with less, and nothing smaller -/
theorem resp_more {lm : Int → Int} (hm : ∀ a b, a ≤ b → ld a ≤ ld b) (hn : ∀ a b, a ≤ b → lm a ≤ lm b) (h0 : ∀ a, 0 ≤ ld a) (hl : ∀ a, ld a ≤ lm a) (hd : dl ≤ 400) (h : (respG lm dl 10001 1).2 = 0) :
 (respG ld dl 10001 1).2 = 0 ∧ (respG ld dl 10001 1).1 ≤ (respG lm dl 10001 1).1 := by
 have hdl : 1 ≤ dl := by
  by_cases g : (1 : Int) > dl
  ·rw [resp_late g] at h; cases h
  ·omega
 obtain ⟨e1, e2, _⟩ := resp_least hn 10001 1 (fun n h1 h2 => by omega) (.inr (Int.le_refl _)) h
 have hq := hl (respG lm dl 10001 1).1
 rw [e1] at hq
 by_cases h1 : (1 : Int) ≤ lm 1
 ·have h2 := resp_ge hn 10001 1 h1 h
  by_cases h3 : (1 : Int) ≤ ld 1
  ·exact resp_found hm hq e2 10001 1 h3 h2 (by omega)
  ·have h4 : ld 1 = 0 := by have := h0 1; omega
   rw [resp_none hm h0 hdl h4 9999]
   exact ⟨rfl, by show (0 : Int) ≤ _; omega⟩
 ·have h4 : ld 1 = 0 := by
   have := h0 1
   have := hl 1
   omega
  have h5 : lm 1 = 0 := by
   have := h0 1
   have := hl 1
   omega
  rw [resp_none hm h0 hdl h4 9999, resp_none hn (fun a => Int.le_trans (h0 a) (hl a)) hdl h5 9999]
  exact ⟨rfl, Int.le_refl _⟩
end
end Go.Proofs.YthhbhbfkbncegabGreatDoor.Rt
