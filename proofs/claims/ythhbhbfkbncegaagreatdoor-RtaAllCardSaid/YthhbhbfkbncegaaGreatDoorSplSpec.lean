/-

 What spoil.Of and spoil.JobOf answer of any system, plainly; and the document's words of it (layer 37).
-/
import Derived.Test.YthhbhbfkbncegaaGreatDoorDmdMost
import Derived.Test.YthhbhbfkbncegaaGreatDoorWlkSum
import Derived.Test.YthhbhbfkbncegaaGreatDoorSplPure
import Derived.Test.YthhbhbfkbncegaaGreatDoorAhead
import Derived.Test.YthhbhbfkbncegaaGreatDoorSysRole
section
set_option linter.unusedSimpArgs false
set_option linter.unusedVariables false
namespace Go.Proofs.YthhbhbfkbncegaaGreatDoor.Sl
open Go.ChangeShapes Go.WideShapes Go.ChangeAt Go.RowKit Ws
open Im (PT PO PS TsAt OsAt SysAt)
open Dm

theorem weigh_in {P : List Fp.Ins} (hok : Fw.okB P = true) (hnn : ∀ j, j < P.length → 0 ≤ (Fp.at_ P j).n) (ws : List Int) : 0 ≤ Cs.weighW Cs.btG P ws ∧ Cs.weighW Cs.btG P ws ≤ 1099511627776 := by
 have hF := Fw.okB_fine hok
 have hbc : ∀ k, k < P.length → (Fp.at_ P k).op = 16 → 0 ≤ (Fp.at_ P k).c ∧ (Fp.at_ P k).c < 1099511627776 := fun k hk h16 => by
  have := Cs.back_c (hF.right k hk) h16
  omega
 have hCl : ∀ j, j < (Fp.loopsL P).length → 0 ≤ (Fp.at_ P (Fp.lp (Fp.loopsL P) j).2.toNat).c := fun j hj => by
  have h1 := Cs.lp_in hF hnn hj
  exact (hbc _ (by omega) (Cs.lp_back hF hnn hj)).1
 have h0 := Wk.max_walk hF hnn hCl ws [] (n := 0) (fun i hi => by omega)
 have h2 : Wk.sumL ws (Wk.pcs P [] 0) = 0 := rfl
 have h1 := Cs.weigh_ok hF hnn hbc ws
 unfold Cs.Ok at h1
 omega
theorem wei_bd {P : List Fp.Ins} (hnn : ∀ j, j < P.length → 0 ≤ (Fp.at_ P j).n) (ws : List Int) : 0 ≤ Cs.weI true P ws ∧ Cs.weI true P ws ≤ 1099511627776 := by
 by_cases he : Cs.weE P ws.length = 0
 ·have hok : Fw.okB P = true := by
   unfold Fw.okB
   rw [decide_eq_true_eq]
   unfold Cs.weE at he
   split at he
   ·assumption
   ·exact he
  have := weigh_in hok hnn ws
  unfold Cs.weI
  rw [if_pos he]
  exact this
 ·rw [Cs.wei_bad he]
  omega
theorem pI_nn {w : World} {A : Option Addr} {p : PT} (h : Im.Code w A p.code) : ∀ j, j < (pI p).length → 0 ≤ (Fp.at_ (pI p) j).n := (prgI h).nn
theorem dear_bd {A : Option Addr} {s : PS} {w : World} (ht : TsAt w A s.ts) (i fails : Int) : 0 ≤ dearI s i fails ∧ dearI s i fails ≤ 1099511627776 := by
 by_cases h : i < 0 ∨ (s.ts.length : Int) ≤ i
 ·rw [(dear_out (fails := fails) h).1]
  omega
 ·obtain ⟨k, rfl⟩ : ∃ k : Nat, i = k := ⟨i.toNat, by omega⟩
  have hk : k < s.ts.length := by omega
  obtain ⟨p, hp⟩ : ∃ p, s.ts[k]? = some p := ⟨s.ts[k], List.getElem?_eq_getElem hk⟩
  rw [(dear_in (fails := fails) hp).1]
  obtain ⟨_, _, _, _, _, _, _, _, _, _, _, _, hc, _⟩ := ht.at_ hp
  exact wei_bd (pI_nn hc) _
theorem dem_bd {A : Option Addr} {s : PS} {w : World} (ht : TsAt w A s.ts) (i k x y : Int) : 0 ≤ demI s i k x y ∧ demI s i k x y ≤ 1099511627776 := by
 by_cases h : (i < 0 ∨ (s.ts.length : Int) ≤ i) ∨ (k < 0 ∨ (s.os.length : Int) ≤ k)
 ·rw [dem_out h]
  omega
 ·obtain ⟨a, rfl⟩ : ∃ a : Nat, i = a := ⟨i.toNat, by omega⟩
  obtain ⟨b, rfl⟩ : ∃ b : Nat, k = b := ⟨k.toNat, by omega⟩
  have ha : a < s.ts.length := by omega
  obtain ⟨p, hp⟩ : ∃ p, s.ts[a]? = some p := ⟨s.ts[a], List.getElem?_eq_getElem ha⟩
  rw [dem_in hp (by omega)]
  obtain ⟨_, _, _, _, _, _, _, _, _, _, _, _, hc, _⟩ := ht.at_ hp
  exact wei_bd (pI_nn hc) _
end Go.Proofs.YthhbhbfkbncegaaGreatDoor.Sl
end
section
set_option linter.unusedSimpArgs false
set_option linter.unusedVariables false
namespace Go.Proofs.YthhbhbfkbncegaaGreatDoor.Sl
open Im (PT PO PS TsAt OsAt SysAt)
open Dm (demI dearI dearE)
open Go.Proofs.YthhbhbfkbncegaaGreatDoor.Wd (addv mulv ceilv)

noncomputable def readsP (s : PS) (i k : Int) : Bool := decide (Sy.roleF s i k = 1 ∧ demI s i k 17 20 ≠ 0)
def obj (s : PS) (k : Int) : PO := s.os.getD k.toNat default
def aheadP (s : PS) (i k : Int) : Bool := Ah.aheadI s.ts (obj s k).ow i
def failO (o : PO) : Int := Bd.failI o.k o.wd o.sl o.cp o.sa o.ini.length o.rd.length 1
noncomputable def ofR (s : PS) (i k : Int) : SR :=
 if readsP s i k = true then
  if aheadP s i k = true then ⟨(obj s k).k, (obj s k).sl, failO (obj s k), true, demI s (obj s k).ow k 18 19, (Ah.pt s.ts (obj s k).ow.toNat).per⟩
  else ⟨(obj s k).k, (obj s k).sl, failO (obj s k), false, 0, 0⟩
 else zeroR
noncomputable def jobL (s : PS) (i : Int) (n : Nat) : List SR := (List.range n).map (fun (k : Nat) => ofR s i k)
noncomputable def jobI (s : PS) (i r : Int) : Int := if dearE s i 0 = 0 then stepsR (dearI s i 0) (jobL s i s.os.length) r else 0
theorem jobL_len (s : PS) (i : Int) (n : Nat) : (jobL s i n).length = n := by simp [jobL]
theorem jobL_succ (s : PS) (i : Int) (n : Nat) : jobL s i (n + 1) = jobL s i n ++ [ofR s i n] := by
 unfold jobL
 rw [List.range_succ, List.map_append]
 rfl
theorem of_no {s : PS} {i k : Int} (h : readsP s i k = false) : ofR s i k = zeroR := if_neg (by rw [h]; exact Bool.noConfusion)
theorem of_behind {s : PS} {i k : Int} (h : readsP s i k = true) (g : aheadP s i k = false) : ofR s i k = ⟨(obj s k).k, (obj s k).sl, failO (obj s k), false, 0, 0⟩ := by
 unfold ofR
 rw [if_pos h, if_neg (by rw [g]; exact Bool.noConfusion)]
theorem of_ahead {s : PS} {i k : Int} (h : readsP s i k = true) (g : aheadP s i k = true) : ofR s i k = ⟨(obj s k).k, (obj s k).sl, failO (obj s k), true, demI s (obj s k).ow k 18 19, (Ah.pt s.ts (obj s k).ow.toNat).per⟩ := by
 unfold ofR
 rw [if_pos h, if_pos g]
theorem wr_zero (r : Int) : wrR zeroR r = 0 := wr_none rfl r
theorem fl_zero (r : Int) : flR zeroR r = 0 := fl_none rfl r
/-- the document's Writes -/
theorem wr_doc (s : PS) (i k r : Int) : wrR (ofR s i k) r = if readsP s i k = true ∧ aheadP s i k = true then mulv (ceilv r (Ah.pt s.ts (obj s k).ow.toNat).per) (demI s (obj s k).ow k 18 19) else 0 := by
 cases h : readsP s i k with
 | false =>
  rw [of_no h, wr_zero, if_neg (fun g => by cases g.1)]
 | true =>
  cases g : aheadP s i k with
  | false => rw [of_behind h g, wr_none rfl, if_neg (fun g => by cases g.2)]
  | true =>
   rw [of_ahead h g, if_pos ⟨rfl, rfl⟩, mulv_comm]
   rfl
theorem of_k {s : PS} {i k : Int} (h : readsP s i k = true) : (ofR s i k).k = (obj s k).k ∧ (ofR s i k).sl = (obj s k).sl ∧ (ofR s i k).fl = failO (obj s k) := by
 cases g : aheadP s i k with
 | false => rw [of_behind h g]; exact ⟨rfl, rfl, rfl⟩
 | true => rw [of_ahead h g]; exact ⟨rfl, rfl, rfl⟩
/-- the document's Fails -/
theorem fl_doc (s : PS) (i k r : Int) : flR (ofR s i k) r = if wrR (ofR s i k) r = 0 ∨ (¬ (obj s k).k = 3 ∧ ¬ (obj s k).k = 5 ∧ ¬ (obj s k).k = 4) then 0 else if (obj s k).k = 4 ∧ 2 < (obj s k).sl then wrR (ofR s i k) r / ((obj s k).sl - 1) else wrR (ofR s i k) r := by
 cases h : readsP s i k with
 | false =>
  have e : wrR (ofR s i k) r = 0 := by rw [of_no h, wr_zero]
  rw [if_pos (.inl e), of_no h, fl_zero]
 | true =>
  obtain ⟨e1, e2, _⟩ := of_k h
  unfold flR
  rw [e1, e2]
  generalize wrR (ofR s i k) r = n
  by_cases h0 : n = 0
  ·subst h0
   have hl : (if (obj s k).k = 3 ∨ (obj s k).k = 5 then (0 : Int) else if (obj s k).k = 4 then 0 / (max (obj s k).sl 2 - 1) else 0) = 0 := by
    split
    ·rfl
    ·split
     ·exact Int.zero_ediv _
     ·rfl
   rw [hl, if_pos (.inl rfl)]
  ·by_cases h1 : (obj s k).k = 3 ∨ (obj s k).k = 5
   ·rw [if_pos h1, if_neg (by omega), if_neg (by omega)]
   ·by_cases h2 : (obj s k).k = 4
    ·rw [if_neg h1, if_pos h2, if_neg (by omega)]
     by_cases h3 : 2 < (obj s k).sl
     ·rw [if_pos ⟨h2, h3⟩, show max (obj s k).sl 2 = (obj s k).sl from by omega]
     ·rw [if_neg (fun h => h3 h.2), show max (obj s k).sl 2 - 1 = 1 from by omega, Int.ediv_one]
    ·rw [if_neg h1, if_neg h2, if_pos (by omega)]
theorem steps_bd (n : Int) (hn : 0 ≤ n ∧ n ≤ 1099511627776) (l : List SR) (r : Int) : 0 ≤ stepsR n l r ∧ stepsR n l r ≤ 1099511627776 := by
 induction l generalizing n with
 | nil => exact hn
 | cons x l ih => exact ih _ (addv_bd _ _)
/-- a round of the document's Job -/
theorem job_no {s : PS} {i : Int} {k : Nat} {r n : Int} (hn : 0 ≤ n ∧ n ≤ 1099511627776) (h : readsP s i k = false) : stepsR n (jobL s i (k + 1)) r = stepsR n (jobL s i k) r := by
 rw [jobL_succ, steps_snoc, of_no h, fl_zero, mulv_zero, addv_zero (steps_bd n hn _ _)]
theorem job_yes {s : PS} {i : Int} {k : Nat} {r n : Int} (h : readsP s i k = true) : stepsR n (jobL s i (k + 1)) r = addv (stepsR n (jobL s i k) r) (mulv (flR (ofR s i k) r) (failO (obj s k))) := by
 rw [jobL_succ, steps_snoc, (of_k h).2.2]
end Go.Proofs.YthhbhbfkbncegaaGreatDoor.Sl
end
