/-
  The equation of one step in one piece, and that something comes from each state (chapters 11, 12): plain.
-/
import Derived.Test.YtnlndkpjfgpodaaDoorWlkV
set_option linter.unusedSimpArgs false
set_option linter.unusedVariables false
set_option linter.unusedSectionVars false
namespace Go.Proofs.YtnlndkpjfgpodaaDoor.Wk
open Fp (Ins at_ Fine check loopsL hasB nextL lp has_iff)
open Cs (spn spn_lt spn_top spn_in lp_in lp_back lp_spn back_last last_back)

/-- a Zero that may lead to two places -/
def Jmp (p : List Ins) (k : Nat) : Prop := (at_ p k).op = 15 ∧ ¬ (at_ p k).n = (k : Int) + 1
instance (p : List Ins) (k : Nat) : Decidable (Jmp p k) := by unfold Jmp; infer_instance
section
variable {α : Type} {S : Sr α} {p : List Ins} {h : Nat → α} {o : Nat → Wg α} {right : Ins → Bool}
variable (hF : Fine right p) (hn : ∀ j, j < p.length → 0 ≤ (at_ p j).n)
include hF hn
theorem nx_one {s : Sp} (hk : s.pc < p.length) (hj : ¬ Jmp p s.pc) (j : Bool) : nx p s j = nx p s false := by
  unfold nx
  by_cases h16 : (at_ p s.pc).op = 16
  · rw [if_pos h16, if_pos h16]
  · rw [if_neg h16, if_neg h16]
    by_cases h14 : (at_ p s.pc).op = 14
    · rw [if_pos (.inl h14), if_pos (.inl h14)]
    · rw [if_neg (c := (at_ p s.pc).op = 14 ∨ (at_ p s.pc).op = 15 ∧ false = true) (by simp [h14])]
      by_cases h15 : (at_ p s.pc).op = 15 ∧ j = true
      · rw [if_pos (.inr h15)]
        have : (at_ p s.pc).n = (s.pc : Int) + 1 := Classical.byContradiction fun h => hj ⟨h15.1, h⟩
        rw [this]
        rfl
      · rw [if_neg (by simp only [h14, false_or]; exact h15)]
/-- the equation of one step -/
theorem V_step (ho : ∀ j, j < (loopsL p).length → o j = G S p h o j (lp (loopsL p) j).1.toNat) (hC : ∀ j, j < (loopsL p).length → 0 ≤ (at_ p (lp (loopsL p) j).2.toNat).c) {s : Sp} (hg : Good p s) (h21 : ¬ (at_ p s.pc).op = 21) :
    V S p h o s = S.mul (h s.pc) (if Jmp p s.pc then S.add (V S p h o (nx p s false)) (V S p h o (nx p s true)) else V S p h o (nx p s false)) ∧ ∀ j, Good p (nx p s j) := by
  by_cases h16 : (at_ p s.pc).op = 16
  · have hj : ¬ Jmp p s.pc := fun h => by rw [h.1] at h16; cases h16
    rw [if_neg hj]
    exact ⟨(V_back hF hn ho hC hg h16 false).1, fun j => (V_back hF hn ho hC hg h16 j).2⟩
  · obtain ⟨h1, h2⟩ := V_plain hF hn ho hC hg h21 h16
    have hgo := hF.goes hg.pc h21
    have nF : nx p s false = if (at_ p s.pc).op = 14 then ⟨(at_ p s.pc).n.toNat, s.tn⟩ else ⟨s.pc + 1, s.tn⟩ := by
      unfold nx
      rw [if_neg h16]
      by_cases h14 : (at_ p s.pc).op = 14
      · rw [if_pos (.inl h14), if_pos h14]
      · rw [if_neg (by simp [h14]), if_neg h14]
    have nT : (at_ p s.pc).op = 15 → nx p s true = ⟨(at_ p s.pc).n.toNat, s.tn⟩ := fun h15 => by
      unfold nx
      rw [if_neg h16, if_pos (.inr ⟨h15, rfl⟩)]
    have e1 : ((s.pc : Int) + 1).toNat = s.pc + 1 := by omega
    unfold nextL at h1 h2
    rw [if_neg h21] at h1 h2
    by_cases h14 : (at_ p s.pc).op = 14
    · have hj : ¬ Jmp p s.pc := fun h => by rw [h.1] at h14; cases h14
      rw [if_pos h14] at h1 h2
      rw [if_pos h14] at nF
      rw [if_neg hj, h1, nF]
      refine ⟨by simp only [List.foldr_cons, List.foldr_nil, S.add_zero], fun j => ?_⟩
      rw [nx_one hF hn hg.pc hj, nF]
      exact h2 _ (by simp)
    · rw [if_neg h14] at h1 h2 nF
      by_cases h15 : (at_ p s.pc).op = 15
      · rw [if_pos h15] at h1 h2
        have hl := hF.lead hg.pc (.inr h15)
        by_cases hj : Jmp p s.pc
        · have hlt : (s.pc : Int) + 1 < (at_ p s.pc).n := by have := hj.2; omega
          rw [if_pos hlt] at h1 h2
          rw [if_pos hj, h1, nF, nT h15]
          refine ⟨by simp only [List.foldr_cons, List.foldr_nil, S.add_zero, e1], fun j => ?_⟩
          cases j
          · rw [nF]; have := h2 ((s.pc : Int) + 1) (by simp); rw [e1] at this; exact this
          · rw [nT h15]; exact h2 _ (by simp)
        · have hnlt : ¬ (s.pc : Int) + 1 < (at_ p s.pc).n := fun h => hj ⟨h15, by omega⟩
          rw [if_neg hnlt] at h1 h2
          rw [if_neg hj, h1, nF]
          refine ⟨by simp only [List.foldr_cons, List.foldr_nil, S.add_zero, e1], fun j => ?_⟩
          rw [nx_one hF hn hg.pc hj, nF]
          have := h2 ((s.pc : Int) + 1) (by simp); rw [e1] at this; exact this
      · have hj : ¬ Jmp p s.pc := fun h => h15 h.1
        rw [if_neg h15, if_neg h16] at h1 h2
        rw [if_neg hj, h1, nF]
        refine ⟨by simp only [List.foldr_cons, List.foldr_nil, S.add_zero, e1], fun j => ?_⟩
        rw [nx_one hF hn hg.pc hj, nF]
        have := h2 ((s.pc : Int) + 1) (by simp); rw [e1] at this; exact this

/-! ### something comes -/
omit hF hn in
structure Nz (S : Sr α) (nz : α → Prop) : Prop where
  one : nz S.one
  mul : ∀ a b, nz a → nz b → nz (S.mul a b)
  left : ∀ a b, nz a → nz (S.add a b)
omit hF hn in
def Live (nz : α → Prop) (x : Wg α) : Prop := nz x.thru ∨ nz x.fin
section
variable {nz : α → Prop} (hz : Nz S nz)
include hz
omit hF hn in
theorem nz_right (a b : α) (h : nz b) : nz (S.add a b) := by rw [S.add_comm]; exact hz.left _ _ h
omit hF hn in
theorem live_mul {x y : Wg α} (hx : Live nz x) (hy : Live nz y) : Live nz (mulW S x y) := by
  rcases hx with h | h
  · rcases hy with h2 | h2
    · exact .inl (hz.mul _ _ h h2)
    · exact .inr (nz_right hz _ _ (hz.mul _ _ h h2))
  · exact .inr (hz.left _ _ h)
omit hF hn in
theorem live_pw {x : Wg α} (hx : Live nz x) (n : Nat) : Live nz (pw S x n) := by
  induction n with
  | zero => exact .inl hz.one
  | succ n ih => exact live_mul hz ih hx
omit hF hn in
theorem live_sc {a : α} (ha : nz a) {x : Wg α} (hx : Live nz x) : Live nz (sc S a x) := by
  rcases hx with h | h
  · exact .inl (hz.mul _ _ ha h)
  · exact .inr (hz.mul _ _ ha h)
omit hF hn in
theorem live_sum {l : List (Wg α)} {x : Wg α} (hx : x ∈ l) (h : Live nz x) : Live nz (sumW S l) := by
  induction l with
  | nil => cases hx
  | cons y l ih =>
    rw [sumW]
    rcases List.mem_cons.1 hx with rfl | hx
    · rcases h with h | h
      · exact .inl (hz.left _ _ h)
      · exact .inr (hz.left _ _ h)
    · rcases ih hx with h | h
      · exact .inl (nz_right hz _ _ h)
      · exact .inr (nz_right hz _ _ h)
theorem live_G (hh : ∀ k, k < p.length → nz (h k)) (ho : ∀ j, j < (loopsL p).length → o j = G S p h o j (lp (loopsL p) j).1.toNat) (n : Nat) : n ≤ (loopsL p).length → ∀ k : Nat, (spn p n).1 ≤ k → (k : Int) ≤ (spn p n).2 → (∀ j, j < n → hasB (lp (loopsL p) j) k = true → (lp (loopsL p) j).1 = k) → Live nz (G S p h o n k) := by
  induction n using Nat.strongRecOn with
  | ind n ih =>
    intro hN
    have hs := spn_in hF hn n hN
    have key : ∀ d k : Nat, (spn p n).1 ≤ k → (k : Int) + d = (spn p n).2 → (∀ j, j < n → hasB (lp (loopsL p) j) k = true → (lp (loopsL p) j).1 = k) → Live nz (G S p h o n k) := by
      intro d
      induction d using Nat.strongRecOn with
      | ind d ihd =>
        intro k h1 h2 h3
        rcases lastJ_cases p n k with ⟨_, hno⟩ | ⟨j, _, hj, hb, hl⟩
        · rw [G_plain hF hn hN h1 (by omega) hno]
          split
          · exact .inr (hh k (by omega))
          · rename_i h21
            split
            · exact .inl (hh k (by omega))
            · rename_i hne
              refine live_sc hz (hh k (by omega)) ?_
              have hlen := Fp.next_some h21
              obtain ⟨t, ht⟩ := List.exists_mem_of_length_pos hlen
              have hpe := part_edge hF hn hN (by omega) h1 (by omega) hno ht
              have hw := fun {x : Int × Int} (hx : x ∈ loopsL p) => hF.ways hn (by omega : k < p.length) ht hx
              refine live_sum hz (List.mem_map.2 ⟨t, ht, rfl⟩) (ihd ((spn p n).2 - t).toNat (by omega) t.toNat (by omega) (by omega) fun j hj hb => ?_)
              have et : ((t.toNat : Nat) : Int) = t := by omega
              rw [et] at hb ⊢
              exact ((hw (Fp.lp_mem (by omega : j < (loopsL p).length))).1 hb (hno j hj)).symm
        · have hk := h3 j hj hb
          have hxl := lp_in hF hn (j := j) (by omega)
          have hal := after_loop hF hn hj hN
          rw [G_loop hF hn hN h1 (by omega) hj hb hl hk.symm]
          refine live_mul hz (live_pw hz ?_ _) (ihd ((spn p n).2 - ((lp (loopsL p) j).2 + 1)).toNat (by omega) _ (by omega) (by omega) fun i hi hbi => ?_)
          · rw [ho j (by omega)]
            refine ih j hj (by omega) _ (by rw [spn_lt (by omega)]; omega) (by rw [spn_lt (by omega)]; omega) fun i hi hbi => ?_
            have e : (((lp (loopsL p) j).1.toNat : Nat) : Int) = (lp (loopsL p) j).1 := by omega
            rw [e] at hbi ⊢
            have := within hF hn hi (by omega : j < (loopsL p).length) hbi (has_iff.2 ⟨by omega, by omega⟩)
            have := has_iff.1 hbi
            omega
          · have e : ((((lp (loopsL p) j).2 + 1).toNat : Nat) : Int) = (lp (loopsL p) j).2 + 1 := by omega
            rw [e] at hbi ⊢
            have h5 := has_iff.1 hbi
            have h6 : hasB (lp (loopsL p) i) k = false := by
              rcases Nat.lt_trichotomy i j with h7 | h7 | h7
              · have := Fp.lp_lt h7 (by omega : j < (loopsL p).length); omega
              · subst h7; omega
              · exact hl i h7 hi
            have h7 : j < i := by
              rcases Nat.lt_trichotomy i j with h7 | h7 | h7
              · have := Fp.lp_lt h7 (by omega : j < (loopsL p).length); omega
              · subst h7; omega
              · exact h7
            have h8 := hF.nest (Fp.lp_mem (by omega : j < (loopsL p).length)) (Fp.lp_mem (by omega : i < (loopsL p).length)) (Fp.lp_lt h7 (by omega))
            unfold Fp.overB at h8
            unfold hasB at h6
            simp at h8 h6
            omega
    intro k h1 h2
    exact key ((spn p n).2 - k).toNat k h1 (by omega)
omit hz in
theorem G_top_thru : ∀ d k : Nat, (k : Int) + d + 1 = p.length → (G S p h o (loopsL p).length k).thru = S.zero := by
  have hN := Nat.le_refl (loopsL p).length
  have hs := spn_in hF hn _ hN
  have he : (spn p (loopsL p).length) = (0, (p.length : Int) - 1) := spn_top
  intro d
  induction d using Nat.strongRecOn with
  | ind d ihd =>
    intro k h2
    have h1 : (spn p (loopsL p).length).1 ≤ k := by rw [he]; simp
    have h3 : (k : Int) ≤ (spn p (loopsL p).length).2 := by rw [he]; simp only; omega
    rcases lastJ_cases p (loopsL p).length k with ⟨_, hno⟩ | ⟨j, el, hj, hb, hl⟩
    · rw [G_plain hF hn hN h1 h3 hno]
      split
      · rfl
      · rename_i h21
        split
        · rename_i hk
          have : k = p.length - 1 := by rw [he] at hk; simp only at hk; omega
          rw [this, hF.last] at h21
          exact absurd rfl h21
        · rename_i hne
          show S.mul _ (sumW S _).thru = _
          have : (sumW S ((nextL p k).map fun t => G S p h o (loopsL p).length t.toNat)).thru = S.zero := by
            have : ∀ l : List Int, (∀ t ∈ l, t ∈ nextL p k) → (sumW S (l.map fun t => G S p h o (loopsL p).length t.toNat)).thru = S.zero := by
              intro l
              induction l with
              | nil => intro _; rfl
              | cons t l ih =>
                intro hl
                have hpe := part_edge hF hn hN (by omega) h1 (by omega) hno (hl t (List.mem_cons_self ..))
                have hed := (hF.edge hn (by omega : k < p.length) (hl t (List.mem_cons_self ..))).1
                rw [List.map_cons, sumW]
                show S.add _ _ = _
                rw [ih fun t' h' => hl t' (List.mem_cons_of_mem _ h'), ihd ((p.length : Int) - 1 - t).toNat (by omega) t.toNat (by omega), S.add_zero]
            exact this _ fun _ h => h
          rw [this, S.mul_zero]
    · rw [G_eq hF hn hN h1 h3]
      unfold stepG
      rw [el]
      simp only
      split
      · show S.mul _ _ = _
        have hxl := lp_in hF hn (j := j) (by omega)
        have hal := after_loop hF hn hj hN
        rw [he] at hal
        simp only at hal
        rw [ihd ((p.length : Int) - 1 - ((lp (loopsL p) j).2 + 1)).toNat (by have := (has_iff.1 hb); omega) _ (by omega), S.mul_zero]
      · rfl
/-- from each state that may be -/
theorem live_V (hh : ∀ k, k < p.length → nz (h k)) (ho : ∀ j, j < (loopsL p).length → o j = G S p h o j (lp (loopsL p) j).1.toNat) (hz0 : ¬ nz S.zero) {s : Sp} (hg : Good p s) : nz (V S p h o s) := by
  obtain ⟨m, hm, hb, hno⟩ := innermost (p := p) s.pc
  have hbs := has_top hF hn hg.pc hm hb
  have hbi := has_iff.1 hbs
  -- all that comes behind
  have key : ∀ i m pos : Nat, m + i = (loopsL p).length → (m < (loopsL p).length → hasB (lp (loopsL p) m) s.pc = false ∨ ((lp (loopsL p) m).1 ≤ pos ∧ (pos : Int) ≤ (lp (loopsL p) m).2)) → s.pc ≤ pos → pos < p.length →
      (∀ j, m ≤ j → j < (loopsL p).length → hasB (lp (loopsL p) j) s.pc = true → (pos : Int) ≤ (lp (loopsL p) j).2) →
      (∀ j, j < (loopsL p).length → hasB (lp (loopsL p) j) pos = true → hasB (lp (loopsL p) j) s.pc = false → (lp (loopsL p) j).1 = pos) → (∀ j, j < m → hasB (lp (loopsL p) j) pos = true → (lp (loopsL p) j).1 = pos) → Live nz (vt S p h o s m i pos) := by
    intro i
    induction i with
    | zero =>
      intro m pos hmi _ h1 h2 _ _ h4
      have : m = (loopsL p).length := by omega
      subst this
      exact live_G hF hn hz hh ho _ (Nat.le_refl _) pos (by rw [spn_top]; simp) (by rw [spn_top]; simp only; omega) h4
    | succ i ih =>
      intro m pos hmi h0 h1 h2 h3 h3' h4
      have hml : m < (loopsL p).length := by omega
      rw [vt]
      split
      · rename_i hbm
        have hin := h0 hml
        rw [hbm] at hin
        have hp := hin.resolve_left (by simp)
        have hli := lp_in hF hn hml
        have hbk := has_iff.1 hbm
        refine live_mul hz (live_G hF hn hz hh ho m (by omega) pos (by rw [spn_lt hml]; exact hp.1) (by rw [spn_lt hml]; exact hp.2) h4) (live_mul hz (live_pw hz ?_ _) ?_)
        · rw [ho m hml]
          refine live_G hF hn hz hh ho m (by omega) _ (by rw [spn_lt hml]; omega) (by rw [spn_lt hml]; omega) fun i hi hbi => ?_
          have e : (((lp (loopsL p) m).1.toNat : Nat) : Int) = (lp (loopsL p) m).1 := by omega
          rw [e] at hbi ⊢
          have := within hF hn hi hml hbi (has_iff.2 ⟨by omega, by omega⟩)
          have := has_iff.1 hbi
          omega
        · have e : ((((lp (loopsL p) m).2 + 1).toNat : Nat) : Int) = (lp (loopsL p) m).2 + 1 := by omega
          have hlen : ((lp (loopsL p) m).2 + 1).toNat < p.length := by
            have := lp_spn hF hn (by omega : m < (loopsL p).length) (Nat.le_refl _)
            rw [spn_top] at this
            simp only at this
            omega
          have hbeh : ∀ j, j < (loopsL p).length → hasB (lp (loopsL p) j) ((lp (loopsL p) m).2 + 1) = true → m < j ∧ ((lp (loopsL p) j).1 = (lp (loopsL p) m).2 + 1 ∨ hasB (lp (loopsL p) j) s.pc = true) := fun j hj hbj => by
            have h5 := has_iff.1 hbj
            have h7 : m < j := by
              rcases Nat.lt_trichotomy j m with h7 | h7 | h7
              · have := Fp.lp_lt h7 hml; omega
              · subst h7; omega
              · exact h7
            refine ⟨h7, ?_⟩
            have h8 := hF.nest (Fp.lp_mem hml) (Fp.lp_mem hj) (Fp.lp_lt h7 hj)
            unfold Fp.overB at h8
            simp at h8
            rcases Int.lt_or_le (lp (loopsL p) m).2 (lp (loopsL p) j).1 with h9 | h9
            · exact .inl (by omega)
            · refine .inr (has_iff.2 ⟨?_, by omega⟩)
              rcases Int.lt_or_le (lp (loopsL p) m).1 (lp (loopsL p) j).1 with h10 | h10
              · have := h8 (by omega) h9; omega
              · omega
          refine ih (m + 1) _ (by omega) (fun hm1 => ?_) (by omega) hlen (fun j hj1 hj2 hj3 => ?_) (fun j hj hbj hno => ?_) (fun j hj hbj => ?_)
          · rw [e]
            cases h6 : hasB (lp (loopsL p) (m + 1)) s.pc
            · exact .inl rfl
            · have h7 := within hF hn (by omega : m < m + 1) hm1 hbm h6
              exact .inr ⟨by omega, by omega⟩
          · rw [e]
            have := Fp.lp_lt (by omega : m < j) hj2
            omega
          · rw [e] at hbj ⊢
            rcases (hbeh j hj hbj).2 with h | h
            · exact h
            · rw [hno] at h; cases h
          · rw [e] at hbj
            have := (hbeh j (by omega) hbj).1
            omega
      · rename_i hbm
        have hbm' : hasB (lp (loopsL p) m) s.pc = false := by simpa using hbm
        refine ih (m + 1) pos (by omega) (fun hm1 => ?_) h1 h2 (fun j hj1 => h3 j (by omega)) h3' (fun j hj hbj => ?_)
        · cases h6 : hasB (lp (loopsL p) (m + 1)) s.pc
          · exact .inl rfl
          · have h7 := has_iff.1 h6
            have h8 := h3 (m + 1) (by omega) hm1 h6
            exact .inr ⟨by omega, h8⟩
        · rcases Nat.lt_or_ge j m with h5 | h5
          · exact h4 j h5 hbj
          · have : j = m := by omega
            subst this
            exact h3' j hml hbj hbm'
  have hl : Live nz (Vt S p h o s 0 s.pc) := by
    unfold Vt
    refine key _ 0 s.pc (by omega) (fun h0 => ?_) (Nat.le_refl _) hg.pc (fun j _ _ hb => (has_iff.1 hb).2) (fun j hj h1 h2 => by rw [h1] at h2; cases h2) (fun j hj => by omega)
    cases h6 : hasB (lp (loopsL p) 0) s.pc
    · exact .inl rfl
    · exact .inr (has_iff.1 h6)
  -- gone through as a whole nobody goes
  have hth : ∀ i m pos : Nat, m + i = (loopsL p).length → pos < p.length → (vt S p h o s m i pos).thru = S.zero := by
    intro i
    induction i with
    | zero =>
      intro m pos hm hp
      have : m = (loopsL p).length := by omega
      subst this
      exact G_top_thru hF hn (p.length - 1 - pos) pos (by omega)
    | succ i ih =>
      intro m pos hm hp
      rw [vt]
      split
      · show S.mul _ (S.mul _ _) = _
        have hlen : ((lp (loopsL p) m).2 + 1).toNat < p.length := by
          have := lp_spn hF hn (by omega : m < (loopsL p).length) (Nat.le_refl _)
          rw [spn_top] at this
          simp only at this
          have := lp_in hF hn (by omega : m < (loopsL p).length)
          omega
        rw [ih _ _ (by omega) hlen, S.mul_zero, S.mul_zero]
      · exact ih _ _ (by omega) hp
  unfold V
  rcases hl with h1 | h1
  · exfalso
    unfold Vt at h1
    rw [hth _ 0 _ (by omega) hg.pc] at h1
    exact hz0 h1
  · exact h1
end
end
end Go.Proofs.YtnlndkpjfgpodaaDoor.Wk
