/-

  How many ways lead through a program (chapter 11), plain: counted part by part, they are what is to come from its start (V over srC).
-/
import Derived.Test.YtnlndkpjfgpodaaDoorWlkCost
import Derived.Test.YtnlndkpjfgpodaaDoorWlkCnt
set_option linter.unusedSimpArgs false
set_option linter.unusedVariables false
set_option linter.unusedSectionVars false
namespace Go.Proofs.YtnlndkpjfgpodaaDoor.Wk
open Fp (Ins at_ Fine check loopsL hasB nextL lp has_iff)
open Cs (spn spn_lt spn_top spn_in lp_in lp_back lp_spn back_last last_back Wy Known lastIn St getD_set)
open Go.Proofs.YtnlndkpjfgpodaaDoor.Wd (addv mulv sm)
def leadC (come : List Int) (t n : Int) : List Int := come.set t.toNat (addv (come.getD t.toNat 0) n)
def onceCS (p : List Ins) (ls : Known) (last : Int) (s : St) (k : Nat) : St :=
  match lastIn ls k with
  | some l => if (k : Int) = l.1.1 then ⟨leadC s.come (l.1.2 + 1) (mulv (s.come.getD k 0) l.2.thru), ⟨s.all.thru, addv s.all.fin (mulv (s.come.getD k 0) l.2.fin)⟩⟩ else s
  | none =>
    if (at_ p k).op = 21 then ⟨s.come, ⟨s.all.thru, addv s.all.fin (s.come.getD k 0)⟩⟩
    else if (k : Int) = last then ⟨s.come, ⟨s.come.getD k 0, s.all.fin⟩⟩
    else ⟨(nextL p k).foldl (fun c t => leadC c t (s.come.getD k 0)) s.come, s.all⟩
def come1 (n : Nat) (k : Nat) : List Int := (List.replicate (n + 1) 0).set k 1
def onceCT (p : List Ins) (ls : Known) (a : Nat) (last : Int) : Nat → St
  | 0 => ⟨come1 p.length a, ⟨0, 0⟩⟩
  | n + 1 => onceCS p ls last (onceCT p ls a last n) (a + n)
def onceC (p : List Ins) (ls : Known) (s : Int × Int) : Wy := (onceCT p ls s.1.toNat s.2 (s.2 + 1 - s.1).toNat).all
def repCW (x : Wy) : Nat → Wy
  | 0 => ⟨1, 0⟩
  | n + 1 => ⟨mulv (repCW x n).thru x.thru, addv (repCW x n).fin (mulv (repCW x n).thru x.fin)⟩
def knownC (p : List Ins) : Nat → Known
  | 0 => []
  | n + 1 => knownC p n ++ [(((loopsL p).getD n (0, 0)), repCW (onceC p (knownC p n) ((loopsL p).getD n (0, 0))) ((at_ p ((loopsL p).getD n (0, 0)).2.toNat).c + 1).toNat)]
def countI (p : List Ins) : Int := (onceC p (knownC p (loopsL p).length) (0, (p.length : Int) - 1)).fin
def kC (k : Nat) : Ct := ⟨1, by decide⟩
def ofI2 (v : Int) : Ct := if h : Nw v then ⟨v, h⟩ else ⟨0, by decide⟩
theorem ofI2_val (v : Ct) : ofI2 v.1 = v := by unfold ofI2; rw [dif_pos v.2]
section
variable {p : List Ins}
theorem last_knownC (k : Int) (n : Nat) : ((∀ j, j < n → hasB (lp (loopsL p) j) k = false) ∧ lastIn (knownC p n) k = none) ∨
    ∃ j, j < n ∧ hasB (lp (loopsL p) j) k = true ∧ (∀ i, j < i → i < n → hasB (lp (loopsL p) i) k = false) ∧
      lastIn (knownC p n) k = some (lp (loopsL p) j, repCW (onceC p (knownC p j) (lp (loopsL p) j)) ((at_ p (lp (loopsL p) j).2.toNat).c + 1).toNat) := by
  induction n with
  | zero => exact .inl ⟨fun j hj => by omega, rfl⟩
  | succ n ih =>
    have e : lastIn (knownC p (n + 1)) k = if hasB (lp (loopsL p) n) k = true then some (lp (loopsL p) n, repCW (onceC p (knownC p n) (lp (loopsL p) n)) ((at_ p (lp (loopsL p) n).2.toNat).c + 1).toNat) else lastIn (knownC p n) k := by
      unfold lastIn
      rw [knownC, List.reverse_append, List.reverse_singleton, List.singleton_append, List.find?_cons]
      show (match hasB (lp (loopsL p) n) k with | true => _ | false => _) = _
      cases hasB (lp (loopsL p) n) k <;> rfl
    by_cases hb : hasB (lp (loopsL p) n) k = true
    · refine .inr ⟨n, by omega, hb, fun i h1 h2 => by omega, ?_⟩
      rw [e, if_pos hb]
    · rw [e, if_neg hb]
      have hb' : hasB (lp (loopsL p) n) k = false := by simpa using hb
      rcases ih with ⟨h1, h2⟩ | ⟨j, h1, h2, h3, h4⟩
      · refine .inl ⟨fun j hj => ?_, h2⟩
        rcases Nat.lt_or_ge j n with h | h
        · exact h1 j h
        · have : j = n := by omega
          subst this; exact hb'
      · refine .inr ⟨j, by omega, h2, fun i hi1 hi2 => ?_, h4⟩
        rcases Nat.lt_or_ge i n with h | h
        · exact h3 i hi1 h
        · have : i = n := by omega
          subst this; exact hb'
end
def toC (x : Wy) : Wg Ct := ⟨ofI2 x.thru, ofI2 x.fin⟩
def oC (p : List Ins) (j : Nat) : Wg Ct := toC (onceC p (knownC p j) (lp (loopsL p) j))
/-- the same, told in either way -/
structure MtC (x : Wy) (y : Wg Ct) : Prop where
  t : x.thru = y.thru.1
  f : x.fin = y.fin.1
theorem mtC_toC {x : Wy} {y : Wg Ct} (h : MtC x y) : toC x = y := Wg.ext' (by show ofI2 x.thru = _; rw [h.t, ofI2_val]) (by show ofI2 x.fin = _; rw [h.f, ofI2_val])
theorem mt_pwC {x : Wy} {y : Wg Ct} (h : MtC x y) (n : Nat) : MtC (repCW x n) (pw srC y n) := by
  induction n with
  | zero => exact ⟨rfl, rfl⟩
  | succ n ih =>
    refine ⟨?_, ?_⟩
    · show mulv _ _ = mulv _ _
      rw [ih.t, h.t]
    · show addv _ (mulv _ _) = addv _ (mulv _ _)
      rw [ih.f, ih.t, h.f]
structure MSC (n : Nat) (st : St) (fs : Fs Ct) : Prop where
  len : st.come.length = n + 1
  come : ∀ u, u ≤ n → st.come.getD u 0 = (fs.come u).1
  all : MtC st.all fs.all
section
variable {p : List Ins} {right : Ins → Bool}
theorem ms_leadC {c : List Int} {f : Nat → Ct} {n : Nat} (hl : c.length = n + 1) (hc : ∀ u, u ≤ n → c.getD u 0 = (f u).1) {t v : Int} {V : Ct} (ht : t.toNat ≤ n) (hv : v = V.1) :
    (leadC c t v).length = n + 1 ∧ ∀ u, u ≤ n → (leadC c t v).getD u 0 = (leadF srC f t.toNat V u).1 := by
  unfold leadC leadF
  refine ⟨by rw [List.length_set]; exact hl, fun u hu => ?_⟩
  rw [getD_set]
  by_cases h : u = t.toNat
  · rw [if_pos ⟨h.symm, by omega⟩, if_pos h, ← h, hc u hu, hv]
    rfl
  · rw [if_neg (fun h' => h h'.1.symm), if_neg h]
    exact hc u hu
theorem ms_leadsC {n : Nat} {v : Int} {V : Ct} (hv : v = V.1) : ∀ (ts : List Int) (c : List Int) (f : Nat → Ct), c.length = n + 1 → (∀ u, u ≤ n → c.getD u 0 = (f u).1) → (∀ t ∈ ts, t.toNat ≤ n) →
    (ts.foldl (fun c t => leadC c t v) c).length = n + 1 ∧ ∀ u, u ≤ n → (ts.foldl (fun c t => leadC c t v) c).getD u 0 = (ts.foldl (fun c t => leadF srC c t.toNat V) f u).1
  | [], c, f, hl, hc, _ => ⟨hl, hc⟩
  | t :: ts, c, f, hl, hc, ht => by
    obtain ⟨h1, h2⟩ := ms_leadC hl hc (ht t (List.mem_cons_self ..)) hv
    exact ms_leadsC hv ts _ _ h1 h2 fun t' h' => ht t' (List.mem_cons_of_mem _ h')
theorem last_sameC (k : Int) (n : Nat) : (lastJ p n k = none ∧ lastIn (knownC p n) k = none ∧ ∀ j, j < n → hasB (lp (loopsL p) j) k = false) ∨
    ∃ j, lastJ p n k = some j ∧ j < n ∧ hasB (lp (loopsL p) j) k = true ∧ lastIn (knownC p n) k = some (lp (loopsL p) j, repCW (onceC p (knownC p j) (lp (loopsL p) j)) ((at_ p (lp (loopsL p) j).2.toNat).c + 1).toNat) := by
  rcases last_knownC (p := p) k n with ⟨hno, hl⟩ | ⟨j, hj, hbj, hlast, hl⟩
  · exact .inl ⟨lastJ_none p hno, hl, hno⟩
  · rcases lastJ_cases p n k with ⟨_, hno⟩ | ⟨i, e, hi, hbi, hli⟩
    · rw [hno j hj] at hbj; cases hbj
    · have : i = j := by
        rcases Nat.lt_trichotomy i j with h3 | h3 | h3
        · rw [hli j h3 hj] at hbj; cases hbj
        · exact h3
        · rw [hlast i h3 hi] at hbi; cases hbi
      subst this
      exact .inr ⟨i, e, hi, hbi, hl⟩
variable (hF : Fine right p) (hn : ∀ j, j < p.length → 0 ≤ (at_ p j).n)
include hF hn
theorem ms_stepC {n : Nat} (hN : n ≤ (loopsL p).length) (hone : ∀ j, j < n → MtC (onceC p (knownC p j) (lp (loopsL p) j)) (oC p j)) {st : St} {fs : Fs Ct} (hm : MSC p.length st fs) {k : Nat} (h1 : (spn p n).1 ≤ k) (h2 : (k : Int) ≤ (spn p n).2) :
    MSC p.length (onceCS p (knownC p n) (spn p n).2 st k) (fStep srC p kC (oC p) n fs k) := by
  have hs := spn_in hF hn n hN
  have hkl : k < p.length := by omega
  have hh : st.come.getD k 0 = (srC.mul (fs.come k) (kC k)).1 := by
    rw [hm.come k (by omega)]
    exact congrArg Subtype.val (srC.mul_one (fs.come k)).symm
  unfold onceCS fStep
  rcases last_sameC (p := p) k n with ⟨e1, e2, hno⟩ | ⟨j, e1, hj, hbj, e2⟩
  · rw [e1, e2]
    simp only
    split
    · refine ⟨hm.len, hm.come, ⟨hm.all.t, ?_⟩⟩
      show addv _ _ = addv _ _
      rw [hm.all.f, hh]
    · split
      · exact ⟨hm.len, hm.come, ⟨hh, hm.all.f⟩⟩
      · obtain ⟨h3, h4⟩ := ms_leadsC hh (nextL p k) st.come fs.come hm.len hm.come (fun t ht => by have := (hF.edge hn hkl ht).1; omega)
        exact ⟨h3, h4, hm.all⟩
  · rw [e1, e2]
    simp only
    have hr := mt_pwC (hone j hj) ((at_ p (lp (loopsL p) j).2.toNat).c + 1).toNat
    have hal := after_loop hF hn hj hN
    split
    · obtain ⟨h3, h4⟩ := ms_leadC (t := (lp (loopsL p) j).2 + 1) (v := mulv (st.come.getD k 0) (repCW (onceC p (knownC p j) (lp (loopsL p) j)) ((at_ p (lp (loopsL p) j).2.toNat).c + 1).toNat).thru) (V := srC.mul (fs.come k) (rp srC p (oC p) j).thru) hm.len hm.come (by omega) (by
        show mulv _ _ = mulv _ _
        rw [hm.come k (by omega), hr.t]
        rfl)
      refine ⟨h3, h4, ⟨hm.all.t, ?_⟩⟩
      show addv _ (mulv _ _) = addv _ (mulv _ _)
      rw [hm.all.f, hm.come k (by omega), hr.f]
      rfl
    · exact hm
theorem ms_onceC (n : Nat) : n ≤ (loopsL p).length → MtC (onceC p (knownC p n) (spn p n)) (G srC p kC (oC p) n (spn p n).1.toNat) := by
  induction n using Nat.strongRecOn with
  | ind n ih =>
    intro hN
    have hs := spn_in hF hn n hN
    have hone : ∀ j, j < n → MtC (onceC p (knownC p j) (lp (loopsL p) j)) (oC p j) := fun j hj => by
      have h1 := ih j hj (by omega)
      rw [spn_lt (by omega : j < (loopsL p).length)] at h1
      have h2 := mtC_toC h1
      unfold oC
      rw [h2]
      exact h1
    rw [← once_G hF hn hN]
    have key : ∀ i : Nat, (spn p n).1 + i ≤ (spn p n).2 + 1 → MSC p.length (onceCT p (knownC p n) (spn p n).1.toNat (spn p n).2 i) (fT srC p kC (oC p) n (spn p n).1.toNat i) := by
      intro i
      induction i with
      | zero =>
        intro _
        refine ⟨by simp [onceCT, come1], fun u hu => ?_, ⟨rfl, rfl⟩⟩
        show (come1 p.length (spn p n).1.toNat).getD u 0 = _
        unfold come1 fT
        rw [getD_set]
        simp only
        by_cases h : u = (spn p n).1.toNat
        · rw [if_pos ⟨h.symm, by simp; omega⟩, if_pos h]; rfl
        · rw [if_neg (fun h' => h h'.1.symm), if_neg h, List.getD_eq_getElem?_getD, List.getElem?_replicate, if_pos (by omega)]; rfl
      | succ i ihi =>
        intro hi
        have := ihi (by omega)
        exact ms_stepC hF hn hN hone this (by omega) (by omega)
    exact (key ((spn p n).2 + 1 - (spn p n).1).toNat (by omega)).all
theorem oC_G : ∀ j, j < (loopsL p).length → oC p j = G srC p kC (oC p) j (lp (loopsL p) j).1.toNat := fun j hj => by
  have h1 := ms_onceC hF hn j (by omega)
  rw [spn_lt hj] at h1
  exact mtC_toC h1
/-- what is to come from a state -/
abbrev VCC (s : Sp) : Int := (V srC p kC (oC p) s).1
theorem weigh_VC (hC : ∀ j, j < (loopsL p).length → 0 ≤ (at_ p (lp (loopsL p) j).2.toNat).c) : countI p = (V srC p kC (oC p) Sp0).1 := by
  have h1 := (ms_onceC hF hn (loopsL p).length (Nat.le_refl _)).f
  rw [spn_top] at h1
  rw [V_start hF hn (oC_G hF hn) hC]
  exact h1
omit hF hn in
theorem nzC : Nz srC (fun v => 1 ≤ v.1) where
  one := by show (1 : Int) ≤ 1; omega
  mul a b ha hb := by
    show 1 ≤ mulv a.1 b.1
    rw [mul_is a.2 b.2]
    have h1 : 1 * 1 ≤ a.1 * b.1 := Int.mul_le_mul ha hb (by omega) (by omega)
    omega
  left a b ha := by
    show 1 ≤ addv a.1 b.1
    rw [add_is a.2 b.2]
    have := b.2.1
    omega
/-- from each state some way leads on -/
theorem cnt_pos {s : Sp} (hg : Good p s) : 1 ≤ (V srC p kC (oC p) s).1 ∧ (V srC p kC (oC p) s).1 ≤ 1099511627776 := by
  have h1 := live_V hF hn nzC (h := kC) (fun k _ => by show (1 : Int) ≤ 1; omega) (oC_G hF hn) (fun h => absurd (show (1 : Int) ≤ 0 from h) (by omega)) hg
  exact ⟨h1, (V srC p kC (oC p) s).2.2⟩
theorem kC_one (k : Nat) (x : Ct) : srC.mul (kC k) x = x := srC.one_mul x
theorem cV_done (hC : ∀ j, j < (loopsL p).length → 0 ≤ (at_ p (lp (loopsL p) j).2.toNat).c) {s : Sp} (hg : Good p s) (h21 : (at_ p s.pc).op = 21) : (V srC p kC (oC p) s).1 = 1 := by
  rw [V_done hF hn (oC_G hF hn) hC hg h21]
  rfl
theorem cV_one (hC : ∀ j, j < (loopsL p).length → 0 ≤ (at_ p (lp (loopsL p) j).2.toNat).c) {s : Sp} (hg : Good p s) (h21 : ¬ (at_ p s.pc).op = 21) (hj : ¬ Jmp p s.pc) : (V srC p kC (oC p) s).1 = (V srC p kC (oC p) (nx p s false)).1 := by
  rw [(V_step hF hn (oC_G hF hn) hC hg h21).1, if_neg hj]
  exact congrArg Subtype.val (srC.one_mul _)
theorem cV_two (hC : ∀ j, j < (loopsL p).length → 0 ≤ (at_ p (lp (loopsL p) j).2.toNat).c) {s : Sp} (hg : Good p s) (h21 : ¬ (at_ p s.pc).op = 21) (hj : Jmp p s.pc) : (V srC p kC (oC p) s).1 = min ((V srC p kC (oC p) (nx p s false)).1 + (V srC p kC (oC p) (nx p s true)).1) 1099511627776 := by
  rw [(V_step hF hn (oC_G hF hn) hC hg h21).1, if_pos hj]
  exact (congrArg Subtype.val (srC.one_mul _)).trans (add_is (V srC p kC (oC p) (nx p s false)).2 (V srC p kC (oC p) (nx p s true)).2)
omit hF hn
/-- of the count: either the steps were too few, or all walks are in it -/
structure CntT (c0 c l y : Int) : Prop where
  all : l = 0 ∨ min y 1099511627776 = min (c0 + c) 1099511627776
theorem cntT_end {c0 c y l : Int} (h : min (y + 1) 1099511627776 = min (c0 + c) 1099511627776) : CntT c0 c l (y + 1) := ⟨.inr h⟩
theorem cnt_two {c0 c y z a b : Int} (ha : 0 ≤ a) (hb : 0 ≤ b) (h : min (y + min (a + b) 1099511627776) 1099511627776 = min (c0 + c) 1099511627776) (hy : 0 ≤ y) (hz : min z 1099511627776 = min (y + b) 1099511627776) (hz0 : 0 ≤ z) : min (z + a) 1099511627776 = min (c0 + c) 1099511627776 := by omega
end
end Go.Proofs.YtnlndkpjfgpodaaDoor.Wk
