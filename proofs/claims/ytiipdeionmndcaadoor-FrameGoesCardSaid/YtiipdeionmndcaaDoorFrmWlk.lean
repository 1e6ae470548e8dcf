/-
  A frame's plain steps are a walk: within as many as the dearest one has they end (chapters 12, 13).
-/
import Derived.Test.YtiipdeionmndcaaDoorFrmRunP
import Derived.Test.YtiipdeionmndcaaDoorWlkSum
set_option linter.unusedSimpArgs false
set_option linter.unusedVariables false
set_option linter.unusedSectionVars false
namespace Go.Proofs.YtiipdeionmndcaaDoor.Fr
open Go.Proofs.YtiipdeionmndcaaDoor.Fp (Ins at_ Fine loopsL nextL lp)
open Wk (Sp nx up Sp0 srB btL hW oW V)
open Cs (weighW btG clI)

def spO (f : FS) : Sp := ⟨f.pc.toNat, fun u => f.tn.getD u 0⟩
theorem kind_not {i : Ins} (h : kindI i = 0) : ¬ i.op = 21 := fun h21 => by
  unfold kindI at h
  rw [h21] at h
  simp at h
theorem tn_up (l : List Int) {k : Nat} (hk : k < l.length) (v : Int) : (fun u => (l.set k v).getD u 0) = up (fun u => l.getD u 0) k v := by
  funext u
  rw [Cs.getD_set]
  unfold up
  by_cases h : u = k
  · rw [if_pos ⟨h.symm, by omega⟩, if_pos h]
  · rw [if_neg (fun h' => h h'.1.symm), if_neg h]
/-- a plain step goes on as the walk does -/
theorem inst_nx {p : List Ins} {s : SS} (oa ol : Int) (h1 : 0 ≤ s.f.pc) (h2 : s.f.pc < p.length) (h3 : s.f.tn.length = p.length) : spO (inst oa ol (curI p s.f) s).f = nx p (spO s.f) (decide (rgv s.f (curI p s.f).a = 0)) := by
  have hc : at_ p (spO s.f).pc = curI p s.f := rfl
  have hk : s.f.pc.toNat < s.f.tn.length := by omega
  have e1 : (s.f.pc + 1).toNat = s.f.pc.toNat + 1 := by omega
  unfold nx
  rw [hc]
  show (⟨(pcI (curI p s.f) s.f).toNat, fun u => (tnI (curI p s.f) s.f).getD u 0⟩ : Sp) = _
  have et : (spO s.f).tn (spO s.f).pc = tnv s.f := rfl
  rw [et]
  generalize curI p s.f = i
  by_cases h16 : i.op = 16
  · rw [if_pos h16]
    have p16 : pcI i s.f = if backB i s.f then i.n else s.f.pc + 1 := by unfold pcI; rw [if_neg (by omega), if_neg (by omega), if_pos h16]
    have t16 : tnI i s.f = if backB i s.f then s.f.tn.set s.f.pc.toNat (tnv s.f + 1) else s.f.tn.set s.f.pc.toNat 0 := by unfold tnI; rw [if_pos h16]
    rw [p16, t16]
    by_cases hb : tnv s.f < i.c
    · have hb' : backB i s.f = true := decide_eq_true hb
      rw [if_pos hb, if_pos hb', if_pos hb', tn_up _ hk]
      rfl
    · have hb' : ¬ backB i s.f = true := by unfold backB; simpa using hb
      rw [if_neg hb, if_neg hb', if_neg hb', tn_up _ hk, e1]
      rfl
  · rw [if_neg h16]
    have t0 : tnI i s.f = s.f.tn := by unfold tnI; rw [if_neg h16]
    rw [t0]
    unfold pcI
    by_cases h14 : i.op = 14
    · rw [if_pos h14, if_pos (.inl h14)]
      rfl
    · rw [if_neg h14]
      by_cases h15 : i.op = 15
      · rw [if_pos h15]
        by_cases hr : rgv s.f i.a = 0
        · rw [if_pos hr, if_pos (.inr ⟨h15, by simpa using hr⟩)]
          rfl
        · rw [if_neg hr, if_neg (by simp [h14, hr]), e1]
          rfl
      · rw [if_neg h15, if_neg h16, if_neg (by simp [h14, h15]), e1]
        rfl
section
variable {right : Ins → Bool} {p : List Ins} (hF : Fine right p) (hn : ∀ j, j < p.length → 0 ≤ (at_ p j).n) (hC : ∀ j, j < (loopsL p).length → 0 ≤ (at_ p (lp (loopsL p) j).2.toNat).c)
include hF hn hC
theorem ones_here {k : Nat} (hk : k < p.length) : clI ((List.replicate p.length (1 : Int)).getD k 0) = 1 := by
  rw [List.getD_eq_getElem?_getD, List.getElem?_replicate, if_pos hk]
  rfl
/-- so many places of any walk are no more than the dearest one has -/
theorem far (f : Nat → Sp) (h0 : Wk.Good p (f 0)) (n : Nat) (h : ∀ i, i < n → ¬ (at_ p (f i).pc).op = 21 ∧ ∃ j, f (i + 1) = nx p (f i) j) :
    Wk.Good p (f n) ∧ min ((n : Int) + (V (srB btG Wk.bt_gt) p (hW (List.replicate p.length 1)) (oW btG p (List.replicate p.length 1)) (f n)).1) 1099511627776 ≤ (V (srB btG Wk.bt_gt) p (hW (List.replicate p.length 1)) (oW btG p (List.replicate p.length 1)) (f 0)).1 := by
  induction n with
  | zero =>
    have := Wk.V_pos Wk.bt_gt hF hn (List.replicate p.length 1) h0
    exact ⟨h0, by omega⟩
  | succ n ih =>
    obtain ⟨hg, h1⟩ := ih fun i hi => h i (by omega)
    obtain ⟨h21, j, hj⟩ := h n (by omega)
    have h2 := Wk.VG_next hF hn hC (List.replicate p.length 1) hg h21 j
    have hgn := Wk.good_nx hF hn hC hg h21 j
    rw [← hj] at h2 hgn
    rw [ones_here hF hn hC hg.pc] at h2
    have := Wk.V_pos Wk.bt_gt hF hn (List.replicate p.length 1) hgn
    have := Wk.V_pos Wk.bt_gt hF hn (List.replicate p.length 1) hg
    exact ⟨hgn, by omega⟩
theorem steps_end (oa ol : Int) (s : SS) (h0 : s.f.pc = 0) (h1 : s.f.tn = List.replicate p.length 0) {N : Nat} (hN : weighW btG p (List.replicate p.length 1) = N) (h2 : N ≤ 20000) : (runW p oa ol N s).2.1 < N := by
  have hsz := hF.size
  rw [Wk.weigh_V Wk.bt_gt hF hn hC] at hN
  have hst := Wk.V_here hF hn hC Wk.bt_gt (List.replicate p.length 1) (Wk.good_start hF hn hC)
  rw [ones_here hF hn hC (show Sp0.pc < p.length from by show 0 < _; omega)] at hst
  -- all that are plain so far lie on a walk
  have key : ∀ k, (∀ j, j < k → kindW p (stN p oa ol j s) = 0) → (stN p oa ol k s).f.tn.length = p.length ∧ 0 ≤ (stN p oa ol k s).f.pc ∧ Wk.Good p (spO (stN p oa ol k s).f) ∧ min ((k : Int) + (V (srB btG Wk.bt_gt) p (hW (List.replicate p.length 1)) (oW btG p (List.replicate p.length 1)) (spO (stN p oa ol k s).f)).1) 1099511627776 ≤ N := by
    intro k
    induction k with
    | zero =>
      intro _
      have e : spO (stN p oa ol 0 s).f = Sp0 := by
        show spO s.f = Sp0
        unfold spO Sp0
        rw [h0, h1]
        congr 1
        funext u
        rw [List.getD_eq_getElem?_getD, List.getElem?_replicate]
        split <;> rfl
      refine ⟨by show s.f.tn.length = _; rw [h1, List.length_replicate], by show 0 ≤ s.f.pc; omega, ?_, ?_⟩
      · rw [e]; exact Wk.good_start hF hn hC
      · rw [e]
        have := Wk.V_pos Wk.bt_gt hF hn (List.replicate p.length 1) (Wk.good_start hF hn hC)
        omega
    | succ k ih =>
      intro h
      obtain ⟨a1, a2, a3, a4⟩ := ih fun j hj => h j (by omega)
      have hk := h k (by omega)
      have h21 : ¬ (at_ p (spO (stN p oa ol k s).f).pc).op = 21 := kind_not hk
      have hpl : (stN p oa ol k s).f.pc < p.length := by have := a3.pc; unfold spO at this; simp only at this; omega
      have hnx := inst_nx oa ol a2 hpl a1
      have h3 := Wk.VG_next hF hn hC (List.replicate p.length 1) a3 h21 (decide (rgv (stN p oa ol k s).f (curI p (stN p oa ol k s).f).a = 0))
      have hgn := Wk.good_nx hF hn hC a3 h21 (decide (rgv (stN p oa ol k s).f (curI p (stN p oa ol k s).f).a = 0))
      rw [← hnx] at h3 hgn
      rw [ones_here hF hn hC a3.pc] at h3
      have e : stN p oa ol (k + 1) s = inst oa ol (curI p (stN p oa ol k s).f) (stN p oa ol k s) := rfl
      rw [e]
      have hp1 := Wk.V_pos Wk.bt_gt hF hn (List.replicate p.length 1) hgn
      have hp2 := Wk.V_pos Wk.bt_gt hF hn (List.replicate p.length 1) a3
      refine ⟨?_, ?_, hgn, by omega⟩
      · show (tnI _ _).length = _
        unfold tnI
        repeat' split
        all_goals simp [a1]
      · show 0 ≤ pcI _ _
        have hn0 := hn (stN p oa ol k s).f.pc.toNat (by omega)
        unfold pcI curI
        repeat' split
        all_goals omega
  by_cases hall : ∀ j, j < N → kindW p (stN p oa ol j s) = 0
  · obtain ⟨_, _, hg, h4⟩ := key N hall
    have h5 := Wk.V_here hF hn hC Wk.bt_gt (List.replicate p.length 1) hg
    rw [ones_here hF hn hC hg.pc] at h5
    omega
  · obtain ⟨k, hk, hkz, hkf⟩ : ∃ k, k < N ∧ kindW p (stN p oa ol k s) ≠ 0 ∧ ∀ j, j < k → kindW p (stN p oa ol j s) = 0 := by
      have : ∀ n, (∀ j, j < n → kindW p (stN p oa ol j s) = 0) ∨ ∃ k, k < n ∧ kindW p (stN p oa ol k s) ≠ 0 ∧ ∀ j, j < k → kindW p (stN p oa ol j s) = 0 := by
        intro n
        induction n with
        | zero => exact .inl fun j hj => by omega
        | succ n ih =>
          rcases ih with h | ⟨k, h1, h2, h3⟩
          · by_cases hn0 : kindW p (stN p oa ol n s) = 0
            · refine .inl fun j hj => ?_
              rcases Nat.lt_or_ge j n with h4 | h4
              · exact h j h4
              · have : j = n := by omega
                subst this; exact hn0
            · exact .inr ⟨n, by omega, hn0, h⟩
          · exact .inr ⟨k, by omega, h2, h3⟩
      exact (this N).resolve_left hall
    rw [runW_stop hk hkf hkz]
    exact hk
theorem ones_pos : 1 ≤ weighW btG p (List.replicate p.length 1) := by
  have hsz := hF.size
  rw [Wk.weigh_V Wk.bt_gt hF hn hC]
  have hst := Wk.V_here hF hn hC Wk.bt_gt (List.replicate p.length 1) (Wk.good_start hF hn hC)
  rw [ones_here hF hn hC (show Sp0.pc < p.length from by show 0 < _; omega)] at hst
  exact hst
omit hC in
/-- a plain step changes the place -/
theorem pc_moves {s : SS} (h1 : 0 ≤ s.f.pc) (h2 : s.f.pc < p.length) (hk : kindW p s = 0) : pcI (curI p s.f) s.f ≠ s.f.pc := by
  have hkl : s.f.pc.toNat < p.length := by omega
  have e : ((s.f.pc.toNat : Nat) : Int) = s.f.pc := by omega
  unfold pcI curI
  split
  · next h => have := (hF.lead hkl (.inl h)).1; omega
  · split
    · next h => have := (hF.lead hkl (.inr h)).1; split <;> omega
    · split
      · next h => have := hF.back hkl h; split <;> omega
      · omega
end
/-- a plain step changes its own words alone -/
theorem ws_own (oa ol : Int) (i : Ins) (s : SS) (ho : 0 ≤ oa) (hl : 0 < ol) (k : Nat) (h : (inst oa ol i s).ws.getD k 0 ≠ s.ws.getD k 0) : oa ≤ k ∧ (k : Int) - oa < ol := by
  have hat : oa ≤ (atN oa ol i s.f : Nat) ∧ ((atN oa ol i s.f : Nat) : Int) - oa < ol := by
    unfold atN offN
    have := Nat.mod_lt ((rgv s.f i.b + i.n.toNat) % 4294967296) (show 0 < ol.toNat by omega)
    omega
  have hset : ∀ v, (s.ws.set (atN oa ol i s.f) v).getD k 0 ≠ s.ws.getD k 0 → k = atN oa ol i s.f := fun v hv => by
    rcases Classical.em (k = atN oa ol i s.f) with h1 | h1
    · exact h1
    · exfalso
      apply hv
      rw [List.getD_eq_getElem?_getD, List.getD_eq_getElem?_getD, List.getElem?_set, if_neg (fun h => h1 h.symm)]
  have h' : (wsI oa ol i s).getD k 0 ≠ s.ws.getD k 0 := h
  unfold wsI at h'
  split at h'
  · rw [hset _ h']; exact hat
  · split at h'
    · split at h'
      · rw [hset _ h']; exact hat
      · exact absurd rfl h'
    · exact absurd rfl h'
end Go.Proofs.YtiipdeionmndcaaDoor.Fr
