/-
  What any walk weighs against the dearest and the cheapest one (chapter 12): plain.
-/
import Derived.Test.YtnlndkpjfgpodaaDoorWlkLive
set_option linter.unusedSimpArgs false
set_option linter.unusedVariables false
set_option linter.unusedSectionVars false
namespace Go.Proofs.YtnlndkpjfgpodaaDoor.Wk
open Fp (Ins at_ Fine check loopsL hasB nextL lp has_iff)
open Cs (spn spn_lt spn_top spn_in lp_in lp_back lp_spn back_last last_back Ok ok_none ok_zero ok_both ok_cl clI adI bestI bothI leadI Wy Known lastIn hereI St onceS onceT onceW repW knownT weighW come0 last_known getD_set btG)

abbrev btL : Int → Int → Bool := fun a b => decide (a < b)
abbrev Vl : Type := { v : Int // Ok v }
/-- what is asked of 'better' -/
structure Bt (bt : Int → Int → Bool) : Prop where
  ok : ∀ a b, Ok a → Ok b → Ok (bestI bt a b)
  comm : ∀ a b, Ok a → Ok b → bestI bt a b = bestI bt b a
  assoc : ∀ a b c, Ok a → Ok b → Ok c → bestI bt (bestI bt a b) c = bestI bt a (bestI bt b c)
  dist : ∀ a b c, Ok a → Ok b → Ok c → bothI a (bestI bt b c) = bestI bt (bothI a b) (bothI a c)
theorem bt_max (a b : Int) (ha : Ok a) (hb : Ok b) : bestI btG a b = max a b := by
  unfold Ok at *; unfold bestI btG; simp only [decide_eq_true_eq]; split <;> omega
def minN (a b : Int) : Int := if a = -1 then b else if b = -1 then a else min a b
theorem bt_min (a b : Int) (ha : Ok a) (hb : Ok b) : bestI btL a b = minN a b := by
  unfold Ok at *; unfold bestI btL minN; simp only [decide_eq_true_eq]; repeat' split
  all_goals omega
theorem bt_gt : Bt btG := by
  refine ⟨fun a b ha hb => ?_, fun a b ha hb => ?_, fun a b c ha hb hc => ?_, fun a b c ha hb hc => ?_⟩
  · rw [bt_max a b ha hb]; unfold Ok at *; omega
  · rw [bt_max a b ha hb, bt_max b a hb ha]; omega
  · have h1 : Ok (max a b) := by unfold Ok at *; omega
    have h2 : Ok (max b c) := by unfold Ok at *; omega
    rw [bt_max a b ha hb, bt_max b c hb hc, bt_max _ _ h1 hc, bt_max _ _ ha h2]; omega
  · rw [bt_max b c hb hc, bt_max _ _ (ok_both ha hb) (ok_both ha hc)]
    unfold Ok at *
    unfold bothI adI
    repeat' split
    all_goals omega
theorem bt_lt : Bt btL := by
  refine ⟨fun a b ha hb => ?_, fun a b ha hb => ?_, fun a b c ha hb hc => ?_, fun a b c ha hb hc => ?_⟩
  · rw [bt_min a b ha hb]; unfold Ok at *; unfold minN; repeat' split
    all_goals omega
  · rw [bt_min a b ha hb, bt_min b a hb ha]; unfold minN; repeat' split
    all_goals omega
  · have h1 : Ok (minN a b) := by unfold Ok at *; unfold minN; repeat' split
                                  all_goals omega
    have h2 : Ok (minN b c) := by unfold Ok at *; unfold minN; repeat' split
                                  all_goals omega
    rw [bt_min a b ha hb, bt_min b c hb hc, bt_min _ _ h1 hc, bt_min _ _ ha h2]
    unfold minN at *
    unfold Ok at *
    repeat' split
    all_goals omega
  · rw [bt_min b c hb hc, bt_min _ _ (ok_both ha hb) (ok_both ha hc)]
    unfold Ok at *
    unfold bothI adI minN
    repeat' split
    all_goals omega
theorem both_assoc (a b c : Int) (ha : Ok a) (hb : Ok b) (hc : Ok c) : bothI (bothI a b) c = bothI a (bothI b c) := by
  unfold Ok at *; unfold bothI adI; repeat' split
  all_goals omega
theorem both_comm (a b : Int) : bothI a b = bothI b a := by
  unfold bothI adI; repeat' split
  all_goals omega
theorem both_zero (a : Int) (ha : Ok a) : bothI 0 a = a := by unfold Ok at *; unfold bothI adI; split <;> omega
theorem best_none (bt : Int → Int → Bool) (a : Int) : bestI bt a (-1) = a := by
  unfold bestI
  split
  · rfl
  · rename_i h
    rcases Classical.em (a = -1) with h1 | h1
    · exact h1.symm
    · exact absurd (.inl rfl) h
def srB (bt : Int → Int → Bool) (hb : Bt bt) : Sr Vl where
  add a b := ⟨bestI bt a.1 b.1, hb.ok _ _ a.2 b.2⟩
  mul a b := ⟨bothI a.1 b.1, ok_both a.2 b.2⟩
  zero := ⟨-1, ok_none⟩
  one := ⟨0, ok_zero⟩
  add_comm a b := Subtype.ext (hb.comm _ _ a.2 b.2)
  add_assoc a b c := Subtype.ext (hb.assoc _ _ _ a.2 b.2 c.2)
  add_zero a := Subtype.ext (best_none bt a.1)
  mul_assoc a b c := Subtype.ext (both_assoc _ _ _ a.2 b.2 c.2)
  one_mul a := Subtype.ext (both_zero _ a.2)
  mul_one a := Subtype.ext ((both_comm a.1 0).trans (both_zero _ a.2))
  zero_mul a := Subtype.ext (Cs.both_none_l a.1)
  mul_zero a := Subtype.ext (Cs.both_none_r a.1)
  dl a b c := Subtype.ext (hb.dist _ _ _ a.2 b.2 c.2)
  dr a b c := Subtype.ext (by
    show bothI (bestI bt a.1 b.1) c.1 = _
    rw [both_comm, hb.dist _ _ _ c.2 a.2 b.2, both_comm c.1, both_comm c.1])
def hW (w : List Int) (k : Nat) : Vl := ⟨clI (w.getD k 0), ok_cl _⟩
instance (v : Int) : Decidable (Ok v) := by unfold Ok; infer_instance
def ofI (v : Int) : Vl := if h : Ok v then ⟨v, h⟩ else ⟨-1, ok_none⟩
theorem ofI_val (v : Vl) : ofI v.1 = v := by unfold ofI; rw [dif_pos v.2]
def toW (x : Wy) : Wg Vl := ⟨ofI x.thru, ofI x.fin⟩
def oW (bt : Int → Int → Bool) (p : List Ins) (w : List Int) (j : Nat) : Wg Vl := toW (onceW bt p w (knownT bt p w j) (lp (loopsL p) j))
/-- the same, told in either way -/
structure Mt (x : Wy) (y : Wg Vl) : Prop where
  t : x.thru = y.thru.1
  f : x.fin = y.fin.1
theorem mt_toW {x : Wy} {y : Wg Vl} (h : Mt x y) : toW x = y := Wg.ext' (by show ofI x.thru = _; rw [h.t, ofI_val]) (by show ofI x.fin = _; rw [h.f, ofI_val])
theorem mt_pw {bt : Int → Int → Bool} (hb : Bt bt) {x : Wy} {y : Wg Vl} (h : Mt x y) (n : Nat) : Mt (repW bt x n) (pw (srB bt hb) y n) := by
  induction n with
  | zero => exact ⟨rfl, rfl⟩
  | succ n ih =>
    refine ⟨?_, ?_⟩
    · show bothI _ _ = bothI _ _
      rw [ih.t, h.t]
    · show bestI bt _ (bothI _ _) = bestI bt _ (bothI _ _)
      rw [ih.f, ih.t, h.f]
structure MS (n : Nat) (st : St) (fs : Fs Vl) : Prop where
  len : st.come.length = n + 1
  come : ∀ u, u ≤ n → st.come.getD u 0 = (fs.come u).1
  all : Mt st.all fs.all
section
variable {p : List Ins} {right : Ins → Bool} {bt : Int → Int → Bool} (hb : Bt bt)
theorem ms_lead {c : List Int} {f : Nat → Vl} {n : Nat} (hl : c.length = n + 1) (hc : ∀ u, u ≤ n → c.getD u 0 = (f u).1) {t v : Int} {V : Vl} (ht : t.toNat ≤ n) (hv : v = V.1) :
    (leadI bt c t v).length = n + 1 ∧ ∀ u, u ≤ n → (leadI bt c t v).getD u 0 = (leadF (srB bt hb) f t.toNat V u).1 := by
  unfold leadI leadF
  refine ⟨by rw [List.length_set]; exact hl, fun u hu => ?_⟩
  rw [getD_set]
  by_cases h : u = t.toNat
  · rw [if_pos ⟨h.symm, by omega⟩, if_pos h, ← h, hc u hu, hv]
    rfl
  · rw [if_neg (fun h' => h h'.1.symm), if_neg h]
    exact hc u hu
theorem ms_leads {n : Nat} {v : Int} {V : Vl} (hv : v = V.1) : ∀ (ts : List Int) (c : List Int) (f : Nat → Vl), c.length = n + 1 → (∀ u, u ≤ n → c.getD u 0 = (f u).1) → (∀ t ∈ ts, t.toNat ≤ n) →
    (ts.foldl (fun c t => leadI bt c t v) c).length = n + 1 ∧ ∀ u, u ≤ n → (ts.foldl (fun c t => leadI bt c t v) c).getD u 0 = (ts.foldl (fun c t => leadF (srB bt hb) c t.toNat V) f u).1
  | [], c, f, hl, hc, _ => ⟨hl, hc⟩
  | t :: ts, c, f, hl, hc, ht => by
    obtain ⟨h1, h2⟩ := ms_lead hb hl hc (ht t (List.mem_cons_self ..)) hv
    exact ms_leads hv ts _ _ h1 h2 fun t' h' => ht t' (List.mem_cons_of_mem _ h')
theorem last_same (w : List Int) (k : Int) (n : Nat) : (lastJ p n k = none ∧ lastIn (knownT bt p w n) k = none ∧ ∀ j, j < n → hasB (lp (loopsL p) j) k = false) ∨
    ∃ j, lastJ p n k = some j ∧ j < n ∧ hasB (lp (loopsL p) j) k = true ∧ lastIn (knownT bt p w n) k = some (lp (loopsL p) j, repW bt (onceW bt p w (knownT bt p w j) (lp (loopsL p) j)) ((at_ p (lp (loopsL p) j).2.toNat).c + 1).toNat) := by
  rcases last_known (p := p) w bt k n with ⟨hno, hl⟩ | ⟨j, hj, hbj, hlast, hl⟩
  · exact .inl ⟨lastJ_none p hno, hl, hno⟩
  · rcases lastJ_cases p n k with ⟨_, hno⟩ | ⟨i, e, hi, hbi, hli⟩
    · rw [hno j hj] at hbj; cases hbj
    · have : i = j := by
        rcases Nat.lt_trichotomy i j with h3 | h3 | h3
        · rw [hli j h3 hj] at hbj; cases hbj
        · exact h3
        · rw [hlast i h3 hi] at hbi; cases hbi
      subst this
      exact .inr ⟨i, e, hi, hbi, hl⟩
variable (hF : Fine right p) (hn : ∀ j, j < p.length → 0 ≤ (at_ p j).n)
include hF hn
theorem ms_step (w : List Int) {n : Nat} (hN : n ≤ (loopsL p).length) (hone : ∀ j, j < n → Mt (onceW bt p w (knownT bt p w j) (lp (loopsL p) j)) (oW bt p w j)) {st : St} {fs : Fs Vl} (hm : MS p.length st fs) {k : Nat} (h1 : (spn p n).1 ≤ k) (h2 : (k : Int) ≤ (spn p n).2) :
    MS p.length (onceS bt p w (knownT bt p w n) (spn p n).2 st k) (fStep (srB bt hb) p (hW w) (oW bt p w) n fs k) := by
  have hs := spn_in hF hn n hN
  have hkl : k < p.length := by omega
  have hh : hereI w st.come k = ((srB bt hb).mul (fs.come k) (hW w k)).1 := by
    show bothI _ _ = bothI _ _
    rw [hm.come k (by omega)]
    rfl
  unfold onceS fStep
  rcases last_same (bt := bt) (p := p) w k n with ⟨e1, e2, hno⟩ | ⟨j, e1, hj, hbj, e2⟩
  · rw [e1, e2]
    simp only
    split
    · refine ⟨hm.len, hm.come, ⟨hm.all.t, ?_⟩⟩
      show bestI bt _ _ = bestI bt _ _
      rw [hm.all.f, hh]
    · split
      · exact ⟨hm.len, hm.come, ⟨hh, hm.all.f⟩⟩
      · obtain ⟨h3, h4⟩ := ms_leads hb hh (nextL p k) st.come fs.come hm.len hm.come (fun t ht => by have := (hF.edge hn hkl ht).1; omega)
        exact ⟨h3, h4, hm.all⟩
  · rw [e1, e2]
    simp only
    have hr := mt_pw hb (hone j hj) ((at_ p (lp (loopsL p) j).2.toNat).c + 1).toNat
    have hal := after_loop hF hn hj hN
    split
    · obtain ⟨h3, h4⟩ := ms_lead hb (t := (lp (loopsL p) j).2 + 1) (v := bothI (st.come.getD k 0) (repW bt (onceW bt p w (knownT bt p w j) (lp (loopsL p) j)) ((at_ p (lp (loopsL p) j).2.toNat).c + 1).toNat).thru) (V := (srB bt hb).mul (fs.come k) (rp (srB bt hb) p (oW bt p w) j).thru) hm.len hm.come (by omega) (by
        show bothI _ _ = bothI _ _
        rw [hm.come k (by omega), hr.t]
        rfl)
      refine ⟨h3, h4, ⟨hm.all.t, ?_⟩⟩
      show bestI bt _ (bothI _ _) = bestI bt _ (bothI _ _)
      rw [hm.all.f, hm.come k (by omega), hr.f]
      rfl
    · exact hm
theorem ms_once (w : List Int) (n : Nat) : n ≤ (loopsL p).length → Mt (onceW bt p w (knownT bt p w n) (spn p n)) (G (srB bt hb) p (hW w) (oW bt p w) n (spn p n).1.toNat) := by
  induction n using Nat.strongRecOn with
  | ind n ih =>
    intro hN
    have hs := spn_in hF hn n hN
    have hone : ∀ j, j < n → Mt (onceW bt p w (knownT bt p w j) (lp (loopsL p) j)) (oW bt p w j) := fun j hj => by
      have h1 := ih j hj (by omega)
      rw [spn_lt (by omega : j < (loopsL p).length)] at h1
      have h2 := mt_toW h1
      unfold oW
      rw [h2]
      exact h1
    rw [← once_G hF hn hN]
    have key : ∀ i : Nat, (spn p n).1 + i ≤ (spn p n).2 + 1 → MS p.length (onceT bt p w (knownT bt p w n) (spn p n).1.toNat (spn p n).2 i) (fT (srB bt hb) p (hW w) (oW bt p w) n (spn p n).1.toNat i) := by
      intro i
      induction i with
      | zero =>
        intro _
        refine ⟨by simp [onceT, come0], fun u hu => ?_, ⟨rfl, rfl⟩⟩
        show (come0 p.length (spn p n).1.toNat).getD u 0 = _
        unfold come0 fT
        rw [getD_set]
        simp only
        by_cases h : u = (spn p n).1.toNat
        · rw [if_pos ⟨h.symm, by simp; omega⟩, if_pos h]; rfl
        · rw [if_neg (fun h' => h h'.1.symm), if_neg h, List.getD_eq_getElem?_getD, List.getElem?_replicate, if_pos (by omega)]; rfl
      | succ i ihi =>
        intro hi
        have := ihi (by omega)
        exact ms_step hb hF hn w hN hone this (by omega) (by omega)
    exact (key ((spn p n).2 + 1 - (spn p n).1).toNat (by omega)).all
theorem oW_G (w : List Int) : ∀ j, j < (loopsL p).length → oW bt p w j = G (srB bt hb) p (hW w) (oW bt p w) j (lp (loopsL p) j).1.toNat := fun j hj => by
  have h1 := ms_once hb hF hn w j (by omega)
  rw [spn_lt hj] at h1
  exact mt_toW h1
/-- what is to come from a state -/
abbrev VC (w : List Int) (s : Sp) : Int := (V (srB bt hb) p (hW w) (oW bt p w) s).1
theorem weigh_V (hC : ∀ j, j < (loopsL p).length → 0 ≤ (at_ p (lp (loopsL p) j).2.toNat).c) (w : List Int) : weighW bt p w = (V (srB bt hb) p (hW w) (oW bt p w) Sp0).1 := by
  have h1 := (ms_once hb hF hn w (loopsL p).length (Nat.le_refl _)).f
  rw [spn_top] at h1
  rw [V_start hF hn (oW_G hb hF hn w) hC]
  exact h1
omit hF hn in
theorem nzB : Nz (srB bt hb) (fun v => v.1 ≠ -1) where
  one := by show (0 : Int) ≠ -1; omega
  mul a b ha hb' := by
    show bothI a.1 b.1 ≠ -1
    have h1 := a.2
    have h2 := b.2
    unfold Ok at h1 h2
    unfold bothI adI
    split <;> omega
  left a b ha := by
    show bestI bt a.1 b.1 ≠ -1
    unfold bestI
    split
    · exact ha
    · omega
/-- from each state something comes, and it weighs no more than there may be -/
theorem V_pos (w : List Int) {s : Sp} (hg : Good p s) : 0 ≤ (V (srB bt hb) p (hW w) (oW bt p w) s).1 ∧ (V (srB bt hb) p (hW w) (oW bt p w) s).1 ≤ 1099511627776 := by
  have h1 := live_V hF hn (nzB hb) (h := hW w) (fun k _ => by
    have := ok_cl (w.getD k 0)
    show clI (w.getD k 0) ≠ -1
    unfold clI; omega) (oW_G hb hF hn w) (fun h => h rfl) hg
  have h2 := (V (srB bt hb) p (hW w) (oW bt p w) s).2
  unfold Ok at h2
  omega
end
end Go.Proofs.YtnlndkpjfgpodaaDoor.Wk
