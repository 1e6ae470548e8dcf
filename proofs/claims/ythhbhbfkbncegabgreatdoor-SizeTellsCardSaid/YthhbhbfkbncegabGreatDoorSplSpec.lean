/-

  What spoil.Of and spoil.JobOf answer of any system, plainly; and the document's words of it (layer 37).
-/
import Derived.Test.YthhbhbfkbncegabGreatDoorWlkV
import Derived.Test.YthhbhbfkbncegabGreatDoorDmdMost
import Derived.Test.YthhbhbfkbncegabGreatDoorSplPure
import Derived.Test.YthhbhbfkbncegabGreatDoorAhead
import Derived.Test.YthhbhbfkbncegabGreatDoorSysRole
section
section
set_option linter.unusedSimpArgs false
set_option linter.unusedVariables false
set_option linter.unusedSectionVars false
namespace Go.Proofs.YthhbhbfkbncegabGreatDoor.Wk
open Fp (Ins at_ Fine check loopsL hasB nextL lp has_iff)
open Cs (spn spn_lt spn_top spn_in lp_in lp_back lp_spn back_last last_back)

/-- a Zero that may lead to two places -/
def Jmp (p : List Ins) (k : Nat) : Prop := (at_ p k).op = 15 ∧ ¬ (at_ p k).n = (k : Int) + 1
instance (p : List Ins) (k : Nat) : Decidable (Jmp p k) := by unfold Jmp; infer_instance
section
variable {α : Type} {S : Sr α} {p : List Ins} {h : Nat → α} {o : Nat → Wg α} {right : Ins → Bool}
variable (hF : Fine right p) (hn : ∀ j, j < p.length → 0 ≤ (at_ p j).n)
include hF hn
theorem nx_one {s : Sp} (hk : s.pc < p.length) (hj : ¬ Jmp p s.pc) (j : Bool) : nx p s j = nx p s false := by
  unfold nx
  by_cases h16 : (at_ p s.pc).op = 16
  · rw [if_pos h16, if_pos h16]
  · rw [if_neg h16, if_neg h16]
    by_cases h14 : (at_ p s.pc).op = 14
    · rw [if_pos (.inl h14), if_pos (.inl h14)]
    · rw [if_neg (c := (at_ p s.pc).op = 14 ∨ (at_ p s.pc).op = 15 ∧ false = true) (by simp [h14])]
      by_cases h15 : (at_ p s.pc).op = 15 ∧ j = true
      · rw [if_pos (.inr h15)]
        have : (at_ p s.pc).n = (s.pc : Int) + 1 := Classical.byContradiction fun h => hj ⟨h15.1, h⟩
        rw [this]
        rfl
      · rw [if_neg (by simp only [h14, false_or]; exact h15)]
/-- the equation of one step -/
theorem V_step (ho : ∀ j, j < (loopsL p).length → o j = G S p h o j (lp (loopsL p) j).1.toNat) (hC : ∀ j, j < (loopsL p).length → 0 ≤ (at_ p (lp (loopsL p) j).2.toNat).c) {s : Sp} (hg : Good p s) (h21 : ¬ (at_ p s.pc).op = 21) :
    V S p h o s = S.mul (h s.pc) (if Jmp p s.pc then S.add (V S p h o (nx p s false)) (V S p h o (nx p s true)) else V S p h o (nx p s false)) ∧ ∀ j, Good p (nx p s j) := by
  by_cases h16 : (at_ p s.pc).op = 16
  · have hj : ¬ Jmp p s.pc := fun h => by rw [h.1] at h16; cases h16
    rw [if_neg hj]
    exact ⟨(V_back hF hn ho hC hg h16 false).1, fun j => (V_back hF hn ho hC hg h16 j).2⟩
  · obtain ⟨h1, h2⟩ := V_plain hF hn ho hC hg h21 h16
    have hgo := hF.goes hg.pc h21
    have nF : nx p s false = if (at_ p s.pc).op = 14 then ⟨(at_ p s.pc).n.toNat, s.tn⟩ else ⟨s.pc + 1, s.tn⟩ := by
      unfold nx
      rw [if_neg h16]
      by_cases h14 : (at_ p s.pc).op = 14
      · rw [if_pos (.inl h14), if_pos h14]
      · rw [if_neg (by simp [h14]), if_neg h14]
    have nT : (at_ p s.pc).op = 15 → nx p s true = ⟨(at_ p s.pc).n.toNat, s.tn⟩ := fun h15 => by
      unfold nx
      rw [if_neg h16, if_pos (.inr ⟨h15, rfl⟩)]
    have e1 : ((s.pc : Int) + 1).toNat = s.pc + 1 := by omega
    unfold nextL at h1 h2
    rw [if_neg h21] at h1 h2
    by_cases h14 : (at_ p s.pc).op = 14
    · have hj : ¬ Jmp p s.pc := fun h => by rw [h.1] at h14; cases h14
      rw [if_pos h14] at h1 h2
      rw [if_pos h14] at nF
      rw [if_neg hj, h1, nF]
      refine ⟨by simp only [List.foldr_cons, List.foldr_nil, S.add_zero], fun j => ?_⟩
      rw [nx_one hF hn hg.pc hj, nF]
      exact h2 _ (by simp)
    · rw [if_neg h14] at h1 h2 nF
      by_cases h15 : (at_ p s.pc).op = 15
      · rw [if_pos h15] at h1 h2
        have hl := hF.lead hg.pc (.inr h15)
        by_cases hj : Jmp p s.pc
        · have hlt : (s.pc : Int) + 1 < (at_ p s.pc).n := by have := hj.2; omega
          rw [if_pos hlt] at h1 h2
          rw [if_pos hj, h1, nF, nT h15]
          refine ⟨by simp only [List.foldr_cons, List.foldr_nil, S.add_zero, e1], fun j => ?_⟩
          cases j
          · rw [nF]; have := h2 ((s.pc : Int) + 1) (by simp); rw [e1] at this; exact this
          · rw [nT h15]; exact h2 _ (by simp)
        · have hnlt : ¬ (s.pc : Int) + 1 < (at_ p s.pc).n := fun h => hj ⟨h15, by omega⟩
          rw [if_neg hnlt] at h1 h2
          rw [if_neg hj, h1, nF]
          refine ⟨by simp only [List.foldr_cons, List.foldr_nil, S.add_zero, e1], fun j => ?_⟩
          rw [nx_one hF hn hg.pc hj, nF]
          have := h2 ((s.pc : Int) + 1) (by simp); rw [e1] at this; exact this
      · have hj : ¬ Jmp p s.pc := fun h => h15 h.1
        rw [if_neg h15, if_neg h16] at h1 h2
        rw [if_neg hj, h1, nF]
        refine ⟨by simp only [List.foldr_cons, List.foldr_nil, S.add_zero, e1], fun j => ?_⟩
        rw [nx_one hF hn hg.pc hj, nF]
        have := h2 ((s.pc : Int) + 1) (by simp); rw [e1] at this; exact this

/-! ### something comes -/
omit hF hn in
structure Nz (S : Sr α) (nz : α → Prop) : Prop where
  one : nz S.one
  mul : ∀ a b, nz a → nz b → nz (S.mul a b)
  left : ∀ a b, nz a → nz (S.add a b)
omit hF hn in
def Live (nz : α → Prop) (x : Wg α) : Prop := nz x.thru ∨ nz x.fin
section
variable {nz : α → Prop} (hz : Nz S nz)
include hz
omit hF hn in
theorem nz_right (a b : α) (h : nz b) : nz (S.add a b) := by rw [S.add_comm]; exact hz.left _ _ h
omit hF hn in
theorem live_mul {x y : Wg α} (hx : Live nz x) (hy : Live nz y) : Live nz (mulW S x y) := by
  rcases hx with h | h
  · rcases hy with h2 | h2
    · exact .inl (hz.mul _ _ h h2)
    · exact .inr (nz_right hz _ _ (hz.mul _ _ h h2))
  · exact .inr (hz.left _ _ h)
omit hF hn in
theorem live_pw {x : Wg α} (hx : Live nz x) (n : Nat) : Live nz (pw S x n) := by
  induction n with
  | zero => exact .inl hz.one
  | succ n ih => exact live_mul hz ih hx
omit hF hn in
theorem live_sc {a : α} (ha : nz a) {x : Wg α} (hx : Live nz x) : Live nz (sc S a x) := by
  rcases hx with h | h
  · exact .inl (hz.mul _ _ ha h)
  · exact .inr (hz.mul _ _ ha h)
omit hF hn in
theorem live_sum {l : List (Wg α)} {x : Wg α} (hx : x ∈ l) (h : Live nz x) : Live nz (sumW S l) := by
  induction l with
  | nil => cases hx
  | cons y l ih =>
    rw [sumW]
    rcases List.mem_cons.1 hx with rfl | hx
    · rcases h with h | h
      · exact .inl (hz.left _ _ h)
      · exact .inr (hz.left _ _ h)
    · rcases ih hx with h | h
      · exact .inl (nz_right hz _ _ h)
      · exact .inr (nz_right hz _ _ h)
theorem live_G (hh : ∀ k, k < p.length → nz (h k)) (ho : ∀ j, j < (loopsL p).length → o j = G S p h o j (lp (loopsL p) j).1.toNat) (n : Nat) : n ≤ (loopsL p).length → ∀ k : Nat, (spn p n).1 ≤ k → (k : Int) ≤ (spn p n).2 → (∀ j, j < n → hasB (lp (loopsL p) j) k = true → (lp (loopsL p) j).1 = k) → Live nz (G S p h o n k) := by
  induction n using Nat.strongRecOn with
  | ind n ih =>
    intro hN
    have hs := spn_in hF hn n hN
    have key : ∀ d k : Nat, (spn p n).1 ≤ k → (k : Int) + d = (spn p n).2 → (∀ j, j < n → hasB (lp (loopsL p) j) k = true → (lp (loopsL p) j).1 = k) → Live nz (G S p h o n k) := by
      intro d
      induction d using Nat.strongRecOn with
      | ind d ihd =>
        intro k h1 h2 h3
        rcases lastJ_cases p n k with ⟨_, hno⟩ | ⟨j, _, hj, hb, hl⟩
        · rw [G_plain hF hn hN h1 (by omega) hno]
          split
          · exact .inr (hh k (by omega))
          · rename_i h21
            split
            · exact .inl (hh k (by omega))
            · rename_i hne
              refine live_sc hz (hh k (by omega)) ?_
              have hlen := Fp.next_some h21
              obtain ⟨t, ht⟩ := List.exists_mem_of_length_pos hlen
              have hpe := part_edge hF hn hN (by omega) h1 (by omega) hno ht
              have hw := fun {x : Int × Int} (hx : x ∈ loopsL p) => hF.ways hn (by omega : k < p.length) ht hx
              refine live_sum hz (List.mem_map.2 ⟨t, ht, rfl⟩) (ihd ((spn p n).2 - t).toNat (by omega) t.toNat (by omega) (by omega) fun j hj hb => ?_)
              have et : ((t.toNat : Nat) : Int) = t := by omega
              rw [et] at hb ⊢
              exact ((hw (Fp.lp_mem (by omega : j < (loopsL p).length))).1 hb (hno j hj)).symm
        · have hk := h3 j hj hb
          have hxl := lp_in hF hn (j := j) (by omega)
          have hal := after_loop hF hn hj hN
          rw [G_loop hF hn hN h1 (by omega) hj hb hl hk.symm]
          refine live_mul hz (live_pw hz ?_ _) (ihd ((spn p n).2 - ((lp (loopsL p) j).2 + 1)).toNat (by omega) _ (by omega) (by omega) fun i hi hbi => ?_)
          · rw [ho j (by omega)]
            refine ih j hj (by omega) _ (by rw [spn_lt (by omega)]; omega) (by rw [spn_lt (by omega)]; omega) fun i hi hbi => ?_
            have e : (((lp (loopsL p) j).1.toNat : Nat) : Int) = (lp (loopsL p) j).1 := by omega
            rw [e] at hbi ⊢
            have := within hF hn hi (by omega : j < (loopsL p).length) hbi (has_iff.2 ⟨by omega, by omega⟩)
            have := has_iff.1 hbi
            omega
          · have e : ((((lp (loopsL p) j).2 + 1).toNat : Nat) : Int) = (lp (loopsL p) j).2 + 1 := by omega
            rw [e] at hbi ⊢
            have h5 := has_iff.1 hbi
            have h6 : hasB (lp (loopsL p) i) k = false := by
              rcases Nat.lt_trichotomy i j with h7 | h7 | h7
              · have := Fp.lp_lt h7 (by omega : j < (loopsL p).length); omega
              · subst h7; omega
              · exact hl i h7 hi
            have h7 : j < i := by
              rcases Nat.lt_trichotomy i j with h7 | h7 | h7
              · have := Fp.lp_lt h7 (by omega : j < (loopsL p).length); omega
              · subst h7; omega
              · exact h7
            have h8 := hF.nest (Fp.lp_mem (by omega : j < (loopsL p).length)) (Fp.lp_mem (by omega : i < (loopsL p).length)) (Fp.lp_lt h7 (by omega))
            unfold Fp.overB at h8
            unfold hasB at h6
            simp at h8 h6
            omega
    intro k h1 h2
    exact key ((spn p n).2 - k).toNat k h1 (by omega)
omit hz in
theorem G_top_thru : ∀ d k : Nat, (k : Int) + d + 1 = p.length → (G S p h o (loopsL p).length k).thru = S.zero := by
  have hN := Nat.le_refl (loopsL p).length
  have hs := spn_in hF hn _ hN
  have he : (spn p (loopsL p).length) = (0, (p.length : Int) - 1) := spn_top
  intro d
  induction d using Nat.strongRecOn with
  | ind d ihd =>
    intro k h2
    have h1 : (spn p (loopsL p).length).1 ≤ k := by rw [he]; simp
    have h3 : (k : Int) ≤ (spn p (loopsL p).length).2 := by rw [he]; simp only; omega
    rcases lastJ_cases p (loopsL p).length k with ⟨_, hno⟩ | ⟨j, el, hj, hb, hl⟩
    · rw [G_plain hF hn hN h1 h3 hno]
      split
      · rfl
      · rename_i h21
        split
        · rename_i hk
          have : k = p.length - 1 := by rw [he] at hk; simp only at hk; omega
          rw [this, hF.last] at h21
          exact absurd rfl h21
        · rename_i hne
          show S.mul _ (sumW S _).thru = _
          have : (sumW S ((nextL p k).map fun t => G S p h o (loopsL p).length t.toNat)).thru = S.zero := by
            have : ∀ l : List Int, (∀ t ∈ l, t ∈ nextL p k) → (sumW S (l.map fun t => G S p h o (loopsL p).length t.toNat)).thru = S.zero := by
              intro l
              induction l with
              | nil => intro _; rfl
              | cons t l ih =>
                intro hl
                have hpe := part_edge hF hn hN (by omega) h1 (by omega) hno (hl t (List.mem_cons_self ..))
                have hed := (hF.edge hn (by omega : k < p.length) (hl t (List.mem_cons_self ..))).1
                rw [List.map_cons, sumW]
                show S.add _ _ = _
                rw [ih fun t' h' => hl t' (List.mem_cons_of_mem _ h'), ihd ((p.length : Int) - 1 - t).toNat (by omega) t.toNat (by omega), S.add_zero]
            exact this _ fun _ h => h
          rw [this, S.mul_zero]
    · rw [G_eq hF hn hN h1 h3]
      unfold stepG
      rw [el]
      simp only
      split
      · show S.mul _ _ = _
        have hxl := lp_in hF hn (j := j) (by omega)
        have hal := after_loop hF hn hj hN
        rw [he] at hal
        simp only at hal
        rw [ihd ((p.length : Int) - 1 - ((lp (loopsL p) j).2 + 1)).toNat (by have := (has_iff.1 hb); omega) _ (by omega), S.mul_zero]
      · rfl
/-- from each state that may be -/
theorem live_V (hh : ∀ k, k < p.length → nz (h k)) (ho : ∀ j, j < (loopsL p).length → o j = G S p h o j (lp (loopsL p) j).1.toNat) (hz0 : ¬ nz S.zero) {s : Sp} (hg : Good p s) : nz (V S p h o s) := by
  obtain ⟨m, hm, hb, hno⟩ := innermost (p := p) s.pc
  have hbs := has_top hF hn hg.pc hm hb
  have hbi := has_iff.1 hbs
  -- all that comes behind
  have key : ∀ i m pos : Nat, m + i = (loopsL p).length → (m < (loopsL p).length → hasB (lp (loopsL p) m) s.pc = false ∨ ((lp (loopsL p) m).1 ≤ pos ∧ (pos : Int) ≤ (lp (loopsL p) m).2)) → s.pc ≤ pos → pos < p.length →
      (∀ j, m ≤ j → j < (loopsL p).length → hasB (lp (loopsL p) j) s.pc = true → (pos : Int) ≤ (lp (loopsL p) j).2) →
      (∀ j, j < (loopsL p).length → hasB (lp (loopsL p) j) pos = true → hasB (lp (loopsL p) j) s.pc = false → (lp (loopsL p) j).1 = pos) → (∀ j, j < m → hasB (lp (loopsL p) j) pos = true → (lp (loopsL p) j).1 = pos) → Live nz (vt S p h o s m i pos) := by
    intro i
    induction i with
    | zero =>
      intro m pos hmi _ h1 h2 _ _ h4
      have : m = (loopsL p).length := by omega
      subst this
      exact live_G hF hn hz hh ho _ (Nat.le_refl _) pos (by rw [spn_top]; simp) (by rw [spn_top]; simp only; omega) h4
    | succ i ih =>
      intro m pos hmi h0 h1 h2 h3 h3' h4
      have hml : m < (loopsL p).length := by omega
      rw [vt]
      split
      · rename_i hbm
        have hin := h0 hml
        rw [hbm] at hin
        have hp := hin.resolve_left (by simp)
        have hli := lp_in hF hn hml
        have hbk := has_iff.1 hbm
        refine live_mul hz (live_G hF hn hz hh ho m (by omega) pos (by rw [spn_lt hml]; exact hp.1) (by rw [spn_lt hml]; exact hp.2) h4) (live_mul hz (live_pw hz ?_ _) ?_)
        · rw [ho m hml]
          refine live_G hF hn hz hh ho m (by omega) _ (by rw [spn_lt hml]; omega) (by rw [spn_lt hml]; omega) fun i hi hbi => ?_
          have e : (((lp (loopsL p) m).1.toNat : Nat) : Int) = (lp (loopsL p) m).1 := by omega
          rw [e] at hbi ⊢
          have := within hF hn hi hml hbi (has_iff.2 ⟨by omega, by omega⟩)
          have := has_iff.1 hbi
          omega
        · have e : ((((lp (loopsL p) m).2 + 1).toNat : Nat) : Int) = (lp (loopsL p) m).2 + 1 := by omega
          have hlen : ((lp (loopsL p) m).2 + 1).toNat < p.length := by
            have := lp_spn hF hn (by omega : m < (loopsL p).length) (Nat.le_refl _)
            rw [spn_top] at this
            simp only at this
            omega
          have hbeh : ∀ j, j < (loopsL p).length → hasB (lp (loopsL p) j) ((lp (loopsL p) m).2 + 1) = true → m < j ∧ ((lp (loopsL p) j).1 = (lp (loopsL p) m).2 + 1 ∨ hasB (lp (loopsL p) j) s.pc = true) := fun j hj hbj => by
            have h5 := has_iff.1 hbj
            have h7 : m < j := by
              rcases Nat.lt_trichotomy j m with h7 | h7 | h7
              · have := Fp.lp_lt h7 hml; omega
              · subst h7; omega
              · exact h7
            refine ⟨h7, ?_⟩
            have h8 := hF.nest (Fp.lp_mem hml) (Fp.lp_mem hj) (Fp.lp_lt h7 hj)
            unfold Fp.overB at h8
            simp at h8
            rcases Int.lt_or_le (lp (loopsL p) m).2 (lp (loopsL p) j).1 with h9 | h9
            · exact .inl (by omega)
            · refine .inr (has_iff.2 ⟨?_, by omega⟩)
              rcases Int.lt_or_le (lp (loopsL p) m).1 (lp (loopsL p) j).1 with h10 | h10
              · have := h8 (by omega) h9; omega
              · omega
          refine ih (m + 1) _ (by omega) (fun hm1 => ?_) (by omega) hlen (fun j hj1 hj2 hj3 => ?_) (fun j hj hbj hno => ?_) (fun j hj hbj => ?_)
          · rw [e]
            cases h6 : hasB (lp (loopsL p) (m + 1)) s.pc
            · exact .inl rfl
            · have h7 := within hF hn (by omega : m < m + 1) hm1 hbm h6
              exact .inr ⟨by omega, by omega⟩
          · rw [e]
            have := Fp.lp_lt (by omega : m < j) hj2
            omega
          · rw [e] at hbj ⊢
            rcases (hbeh j hj hbj).2 with h | h
            · exact h
            · rw [hno] at h; cases h
          · rw [e] at hbj
            have := (hbeh j (by omega) hbj).1
            omega
      · rename_i hbm
        have hbm' : hasB (lp (loopsL p) m) s.pc = false := by simpa using hbm
        refine ih (m + 1) pos (by omega) (fun hm1 => ?_) h1 h2 (fun j hj1 => h3 j (by omega)) h3' (fun j hj hbj => ?_)
        · cases h6 : hasB (lp (loopsL p) (m + 1)) s.pc
          · exact .inl rfl
          · have h7 := has_iff.1 h6
            have h8 := h3 (m + 1) (by omega) hm1 h6
            exact .inr ⟨by omega, h8⟩
        · rcases Nat.lt_or_ge j m with h5 | h5
          · exact h4 j h5 hbj
          · have : j = m := by omega
            subst this
            exact h3' j hml hbj hbm'
  have hl : Live nz (Vt S p h o s 0 s.pc) := by
    unfold Vt
    refine key _ 0 s.pc (by omega) (fun h0 => ?_) (Nat.le_refl _) hg.pc (fun j _ _ hb => (has_iff.1 hb).2) (fun j hj h1 h2 => by rw [h1] at h2; cases h2) (fun j hj => by omega)
    cases h6 : hasB (lp (loopsL p) 0) s.pc
    · exact .inl rfl
    · exact .inr (has_iff.1 h6)
  -- gone through as a whole nobody goes
  have hth : ∀ i m pos : Nat, m + i = (loopsL p).length → pos < p.length → (vt S p h o s m i pos).thru = S.zero := by
    intro i
    induction i with
    | zero =>
      intro m pos hm hp
      have : m = (loopsL p).length := by omega
      subst this
      exact G_top_thru hF hn (p.length - 1 - pos) pos (by omega)
    | succ i ih =>
      intro m pos hm hp
      rw [vt]
      split
      · show S.mul _ (S.mul _ _) = _
        have hlen : ((lp (loopsL p) m).2 + 1).toNat < p.length := by
          have := lp_spn hF hn (by omega : m < (loopsL p).length) (Nat.le_refl _)
          rw [spn_top] at this
          simp only at this
          have := lp_in hF hn (by omega : m < (loopsL p).length)
          omega
        rw [ih _ _ (by omega) hlen, S.mul_zero, S.mul_zero]
      · exact ih _ _ (by omega) hp
  unfold V
  rcases hl with h1 | h1
  · exfalso
    unfold Vt at h1
    rw [hth _ 0 _ (by omega) hg.pc] at h1
    exact hz0 h1
  · exact h1
end
end
end Go.Proofs.YthhbhbfkbncegabGreatDoor.Wk
end
section
set_option linter.unusedSimpArgs false
set_option linter.unusedVariables false
set_option linter.unusedSectionVars false
namespace Go.Proofs.YthhbhbfkbncegabGreatDoor.Wk
open Fp (Ins at_ Fine check loopsL hasB nextL lp has_iff)
open Cs (spn spn_lt spn_top spn_in lp_in lp_back lp_spn back_last last_back Ok ok_none ok_zero ok_both ok_cl clI adI bestI bothI leadI Wy Known lastIn hereI St onceS onceT onceW repW knownT weighW come0 last_known getD_set btG)

abbrev btL : Int → Int → Bool := fun a b => decide (a < b)
abbrev Vl : Type := { v : Int // Ok v }
/-- what is asked of 'better' -/
structure Bt (bt : Int → Int → Bool) : Prop where
  ok : ∀ a b, Ok a → Ok b → Ok (bestI bt a b)
  comm : ∀ a b, Ok a → Ok b → bestI bt a b = bestI bt b a
  assoc : ∀ a b c, Ok a → Ok b → Ok c → bestI bt (bestI bt a b) c = bestI bt a (bestI bt b c)
  dist : ∀ a b c, Ok a → Ok b → Ok c → bothI a (bestI bt b c) = bestI bt (bothI a b) (bothI a c)
theorem bt_max (a b : Int) (ha : Ok a) (hb : Ok b) : bestI btG a b = max a b := by
  unfold Ok at *; unfold bestI btG; simp only [decide_eq_true_eq]; split <;> omega
def minN (a b : Int) : Int := if a = -1 then b else if b = -1 then a else min a b
theorem bt_min (a b : Int) (ha : Ok a) (hb : Ok b) : bestI btL a b = minN a b := by
  unfold Ok at *; unfold bestI btL minN; simp only [decide_eq_true_eq]; repeat' split
  all_goals omega
theorem bt_gt : Bt btG := by
  refine ⟨fun a b ha hb => ?_, fun a b ha hb => ?_, fun a b c ha hb hc => ?_, fun a b c ha hb hc => ?_⟩
  · rw [bt_max a b ha hb]; unfold Ok at *; omega
  · rw [bt_max a b ha hb, bt_max b a hb ha]; omega
  · have h1 : Ok (max a b) := by unfold Ok at *; omega
    have h2 : Ok (max b c) := by unfold Ok at *; omega
    rw [bt_max a b ha hb, bt_max b c hb hc, bt_max _ _ h1 hc, bt_max _ _ ha h2]; omega
  · rw [bt_max b c hb hc, bt_max _ _ (ok_both ha hb) (ok_both ha hc)]
    unfold Ok at *
    unfold bothI adI
    repeat' split
    all_goals omega
theorem bt_lt : Bt btL := by
  refine ⟨fun a b ha hb => ?_, fun a b ha hb => ?_, fun a b c ha hb hc => ?_, fun a b c ha hb hc => ?_⟩
  · rw [bt_min a b ha hb]; unfold Ok at *; unfold minN; repeat' split
    all_goals omega
  · rw [bt_min a b ha hb, bt_min b a hb ha]; unfold minN; repeat' split
    all_goals omega
  · have h1 : Ok (minN a b) := by unfold Ok at *; unfold minN; repeat' split
                                  all_goals omega
    have h2 : Ok (minN b c) := by unfold Ok at *; unfold minN; repeat' split
                                  all_goals omega
    rw [bt_min a b ha hb, bt_min b c hb hc, bt_min _ _ h1 hc, bt_min _ _ ha h2]
    unfold minN at *
    unfold Ok at *
    repeat' split
    all_goals omega
  · rw [bt_min b c hb hc, bt_min _ _ (ok_both ha hb) (ok_both ha hc)]
    unfold Ok at *
    unfold bothI adI minN
    repeat' split
    all_goals omega
theorem both_assoc (a b c : Int) (ha : Ok a) (hb : Ok b) (hc : Ok c) : bothI (bothI a b) c = bothI a (bothI b c) := by
  unfold Ok at *; unfold bothI adI; repeat' split
  all_goals omega
theorem both_comm (a b : Int) : bothI a b = bothI b a := by
  unfold bothI adI; repeat' split
  all_goals omega
theorem both_zero (a : Int) (ha : Ok a) : bothI 0 a = a := by unfold Ok at *; unfold bothI adI; split <;> omega
theorem best_none (bt : Int → Int → Bool) (a : Int) : bestI bt a (-1) = a := by
  unfold bestI
  split
  · rfl
  · rename_i h
    rcases Classical.em (a = -1) with h1 | h1
    · exact h1.symm
    · exact absurd (.inl rfl) h
def srB (bt : Int → Int → Bool) (hb : Bt bt) : Sr Vl where
  add a b := ⟨bestI bt a.1 b.1, hb.ok _ _ a.2 b.2⟩
  mul a b := ⟨bothI a.1 b.1, ok_both a.2 b.2⟩
  zero := ⟨-1, ok_none⟩
  one := ⟨0, ok_zero⟩
  add_comm a b := Subtype.ext (hb.comm _ _ a.2 b.2)
  add_assoc a b c := Subtype.ext (hb.assoc _ _ _ a.2 b.2 c.2)
  add_zero a := Subtype.ext (best_none bt a.1)
  mul_assoc a b c := Subtype.ext (both_assoc _ _ _ a.2 b.2 c.2)
  one_mul a := Subtype.ext (both_zero _ a.2)
  mul_one a := Subtype.ext ((both_comm a.1 0).trans (both_zero _ a.2))
  zero_mul a := Subtype.ext (Cs.both_none_l a.1)
  mul_zero a := Subtype.ext (Cs.both_none_r a.1)
  dl a b c := Subtype.ext (hb.dist _ _ _ a.2 b.2 c.2)
  dr a b c := Subtype.ext (by
    show bothI (bestI bt a.1 b.1) c.1 = _
    rw [both_comm, hb.dist _ _ _ c.2 a.2 b.2, both_comm c.1, both_comm c.1])
def hW (w : List Int) (k : Nat) : Vl := ⟨clI (w.getD k 0), ok_cl _⟩
instance (v : Int) : Decidable (Ok v) := by unfold Ok; infer_instance
def ofI (v : Int) : Vl := if h : Ok v then ⟨v, h⟩ else ⟨-1, ok_none⟩
theorem ofI_val (v : Vl) : ofI v.1 = v := by unfold ofI; rw [dif_pos v.2]
def toW (x : Wy) : Wg Vl := ⟨ofI x.thru, ofI x.fin⟩
def oW (bt : Int → Int → Bool) (p : List Ins) (w : List Int) (j : Nat) : Wg Vl := toW (onceW bt p w (knownT bt p w j) (lp (loopsL p) j))
/-- the same, told in either way -/
structure Mt (x : Wy) (y : Wg Vl) : Prop where
  t : x.thru = y.thru.1
  f : x.fin = y.fin.1
theorem mt_toW {x : Wy} {y : Wg Vl} (h : Mt x y) : toW x = y := Wg.ext' (by show ofI x.thru = _; rw [h.t, ofI_val]) (by show ofI x.fin = _; rw [h.f, ofI_val])
theorem mt_pw {bt : Int → Int → Bool} (hb : Bt bt) {x : Wy} {y : Wg Vl} (h : Mt x y) (n : Nat) : Mt (repW bt x n) (pw (srB bt hb) y n) := by
  induction n with
  | zero => exact ⟨rfl, rfl⟩
  | succ n ih =>
    refine ⟨?_, ?_⟩
    · show bothI _ _ = bothI _ _
      rw [ih.t, h.t]
    · show bestI bt _ (bothI _ _) = bestI bt _ (bothI _ _)
      rw [ih.f, ih.t, h.f]
structure MS (n : Nat) (st : St) (fs : Fs Vl) : Prop where
  len : st.come.length = n + 1
  come : ∀ u, u ≤ n → st.come.getD u 0 = (fs.come u).1
  all : Mt st.all fs.all
section
variable {p : List Ins} {right : Ins → Bool} {bt : Int → Int → Bool} (hb : Bt bt)
theorem ms_lead {c : List Int} {f : Nat → Vl} {n : Nat} (hl : c.length = n + 1) (hc : ∀ u, u ≤ n → c.getD u 0 = (f u).1) {t v : Int} {V : Vl} (ht : t.toNat ≤ n) (hv : v = V.1) :
    (leadI bt c t v).length = n + 1 ∧ ∀ u, u ≤ n → (leadI bt c t v).getD u 0 = (leadF (srB bt hb) f t.toNat V u).1 := by
  unfold leadI leadF
  refine ⟨by rw [List.length_set]; exact hl, fun u hu => ?_⟩
  rw [getD_set]
  by_cases h : u = t.toNat
  · rw [if_pos ⟨h.symm, by omega⟩, if_pos h, ← h, hc u hu, hv]
    rfl
  · rw [if_neg (fun h' => h h'.1.symm), if_neg h]
    exact hc u hu
theorem ms_leads {n : Nat} {v : Int} {V : Vl} (hv : v = V.1) : ∀ (ts : List Int) (c : List Int) (f : Nat → Vl), c.length = n + 1 → (∀ u, u ≤ n → c.getD u 0 = (f u).1) → (∀ t ∈ ts, t.toNat ≤ n) →
    (ts.foldl (fun c t => leadI bt c t v) c).length = n + 1 ∧ ∀ u, u ≤ n → (ts.foldl (fun c t => leadI bt c t v) c).getD u 0 = (ts.foldl (fun c t => leadF (srB bt hb) c t.toNat V) f u).1
  | [], c, f, hl, hc, _ => ⟨hl, hc⟩
  | t :: ts, c, f, hl, hc, ht => by
    obtain ⟨h1, h2⟩ := ms_lead hb hl hc (ht t (List.mem_cons_self ..)) hv
    exact ms_leads hv ts _ _ h1 h2 fun t' h' => ht t' (List.mem_cons_of_mem _ h')
theorem last_same (w : List Int) (k : Int) (n : Nat) : (lastJ p n k = none ∧ lastIn (knownT bt p w n) k = none ∧ ∀ j, j < n → hasB (lp (loopsL p) j) k = false) ∨
    ∃ j, lastJ p n k = some j ∧ j < n ∧ hasB (lp (loopsL p) j) k = true ∧ lastIn (knownT bt p w n) k = some (lp (loopsL p) j, repW bt (onceW bt p w (knownT bt p w j) (lp (loopsL p) j)) ((at_ p (lp (loopsL p) j).2.toNat).c + 1).toNat) := by
  rcases last_known (p := p) w bt k n with ⟨hno, hl⟩ | ⟨j, hj, hbj, hlast, hl⟩
  · exact .inl ⟨lastJ_none p hno, hl, hno⟩
  · rcases lastJ_cases p n k with ⟨_, hno⟩ | ⟨i, e, hi, hbi, hli⟩
    · rw [hno j hj] at hbj; cases hbj
    · have : i = j := by
        rcases Nat.lt_trichotomy i j with h3 | h3 | h3
        · rw [hli j h3 hj] at hbj; cases hbj
        · exact h3
        · rw [hlast i h3 hi] at hbi; cases hbi
      subst this
      exact .inr ⟨i, e, hi, hbi, hl⟩
variable (hF : Fine right p) (hn : ∀ j, j < p.length → 0 ≤ (at_ p j).n)
include hF hn
theorem ms_step (w : List Int) {n : Nat} (hN : n ≤ (loopsL p).length) (hone : ∀ j, j < n → Mt (onceW bt p w (knownT bt p w j) (lp (loopsL p) j)) (oW bt p w j)) {st : St} {fs : Fs Vl} (hm : MS p.length st fs) {k : Nat} (h1 : (spn p n).1 ≤ k) (h2 : (k : Int) ≤ (spn p n).2) :
    MS p.length (onceS bt p w (knownT bt p w n) (spn p n).2 st k) (fStep (srB bt hb) p (hW w) (oW bt p w) n fs k) := by
  have hs := spn_in hF hn n hN
  have hkl : k < p.length := by omega
  have hh : hereI w st.come k = ((srB bt hb).mul (fs.come k) (hW w k)).1 := by
    show bothI _ _ = bothI _ _
    rw [hm.come k (by omega)]
    rfl
  unfold onceS fStep
  rcases last_same (bt := bt) (p := p) w k n with ⟨e1, e2, hno⟩ | ⟨j, e1, hj, hbj, e2⟩
  · rw [e1, e2]
    simp only
    split
    · refine ⟨hm.len, hm.come, ⟨hm.all.t, ?_⟩⟩
      show bestI bt _ _ = bestI bt _ _
      rw [hm.all.f, hh]
    · split
      · exact ⟨hm.len, hm.come, ⟨hh, hm.all.f⟩⟩
      · obtain ⟨h3, h4⟩ := ms_leads hb hh (nextL p k) st.come fs.come hm.len hm.come (fun t ht => by have := (hF.edge hn hkl ht).1; omega)
        exact ⟨h3, h4, hm.all⟩
  · rw [e1, e2]
    simp only
    have hr := mt_pw hb (hone j hj) ((at_ p (lp (loopsL p) j).2.toNat).c + 1).toNat
    have hal := after_loop hF hn hj hN
    split
    · obtain ⟨h3, h4⟩ := ms_lead hb (t := (lp (loopsL p) j).2 + 1) (v := bothI (st.come.getD k 0) (repW bt (onceW bt p w (knownT bt p w j) (lp (loopsL p) j)) ((at_ p (lp (loopsL p) j).2.toNat).c + 1).toNat).thru) (V := (srB bt hb).mul (fs.come k) (rp (srB bt hb) p (oW bt p w) j).thru) hm.len hm.come (by omega) (by
        show bothI _ _ = bothI _ _
        rw [hm.come k (by omega), hr.t]
        rfl)
      refine ⟨h3, h4, ⟨hm.all.t, ?_⟩⟩
      show bestI bt _ (bothI _ _) = bestI bt _ (bothI _ _)
      rw [hm.all.f, hm.come k (by omega), hr.f]
      rfl
    · exact hm
theorem ms_once (w : List Int) (n : Nat) : n ≤ (loopsL p).length → Mt (onceW bt p w (knownT bt p w n) (spn p n)) (G (srB bt hb) p (hW w) (oW bt p w) n (spn p n).1.toNat) := by
  induction n using Nat.strongRecOn with
  | ind n ih =>
    intro hN
    have hs := spn_in hF hn n hN
    have hone : ∀ j, j < n → Mt (onceW bt p w (knownT bt p w j) (lp (loopsL p) j)) (oW bt p w j) := fun j hj => by
      have h1 := ih j hj (by omega)
      rw [spn_lt (by omega : j < (loopsL p).length)] at h1
      have h2 := mt_toW h1
      unfold oW
      rw [h2]
      exact h1
    rw [← once_G hF hn hN]
    have key : ∀ i : Nat, (spn p n).1 + i ≤ (spn p n).2 + 1 → MS p.length (onceT bt p w (knownT bt p w n) (spn p n).1.toNat (spn p n).2 i) (fT (srB bt hb) p (hW w) (oW bt p w) n (spn p n).1.toNat i) := by
      intro i
      induction i with
      | zero =>
        intro _
        refine ⟨by simp [onceT, come0], fun u hu => ?_, ⟨rfl, rfl⟩⟩
        show (come0 p.length (spn p n).1.toNat).getD u 0 = _
        unfold come0 fT
        rw [getD_set]
        simp only
        by_cases h : u = (spn p n).1.toNat
        · rw [if_pos ⟨h.symm, by simp; omega⟩, if_pos h]; rfl
        · rw [if_neg (fun h' => h h'.1.symm), if_neg h, List.getD_eq_getElem?_getD, List.getElem?_replicate, if_pos (by omega)]; rfl
      | succ i ihi =>
        intro hi
        have := ihi (by omega)
        exact ms_step hb hF hn w hN hone this (by omega) (by omega)
    exact (key ((spn p n).2 + 1 - (spn p n).1).toNat (by omega)).all
theorem oW_G (w : List Int) : ∀ j, j < (loopsL p).length → oW bt p w j = G (srB bt hb) p (hW w) (oW bt p w) j (lp (loopsL p) j).1.toNat := fun j hj => by
  have h1 := ms_once hb hF hn w j (by omega)
  rw [spn_lt hj] at h1
  exact mt_toW h1
/-- what is to come from a state -/
abbrev VC (w : List Int) (s : Sp) : Int := (V (srB bt hb) p (hW w) (oW bt p w) s).1
theorem weigh_V (hC : ∀ j, j < (loopsL p).length → 0 ≤ (at_ p (lp (loopsL p) j).2.toNat).c) (w : List Int) : weighW bt p w = (V (srB bt hb) p (hW w) (oW bt p w) Sp0).1 := by
  have h1 := (ms_once hb hF hn w (loopsL p).length (Nat.le_refl _)).f
  rw [spn_top] at h1
  rw [V_start hF hn (oW_G hb hF hn w) hC]
  exact h1
omit hF hn in
theorem nzB : Nz (srB bt hb) (fun v => v.1 ≠ -1) where
  one := by show (0 : Int) ≠ -1; omega
  mul a b ha hb' := by
    show bothI a.1 b.1 ≠ -1
    have h1 := a.2
    have h2 := b.2
    unfold Ok at h1 h2
    unfold bothI adI
    split <;> omega
  left a b ha := by
    show bestI bt a.1 b.1 ≠ -1
    unfold bestI
    split
    · exact ha
    · omega
/-- from each state something comes, and it weighs no more than there may be -/
theorem V_pos (w : List Int) {s : Sp} (hg : Good p s) : 0 ≤ (V (srB bt hb) p (hW w) (oW bt p w) s).1 ∧ (V (srB bt hb) p (hW w) (oW bt p w) s).1 ≤ 1099511627776 := by
  have h1 := live_V hF hn (nzB hb) (h := hW w) (fun k _ => by
    have := ok_cl (w.getD k 0)
    show clI (w.getD k 0) ≠ -1
    unfold clI; omega) (oW_G hb hF hn w) (fun h => h rfl) hg
  have h2 := (V (srB bt hb) p (hW w) (oW bt p w) s).2
  unfold Ok at h2
  omega
end
end Go.Proofs.YthhbhbfkbncegabGreatDoor.Wk
end
end
section
section
section
set_option linter.unusedSimpArgs false
set_option linter.unusedVariables false
set_option linter.unusedSectionVars false
namespace Go.Proofs.YthhbhbfkbncegabGreatDoor.Wk
open Fp (Ins at_ Fine check loopsL hasB nextL lp has_iff)

/-- the next state, and how many choices were made -/
def wkN (p : List Ins) (ch : List Bool) (x : Sp × Nat) : Sp × Nat := if (at_ p x.1.pc).op = 15 then (nx p x.1 (ch.getD x.2 false), x.2 + 1) else (nx p x.1 false, x.2)
def wk (p : List Ins) (ch : List Bool) : Nat → Sp × Nat
  | 0 => (Sp0, 0)
  | i + 1 => wkN p ch (wk p ch i)
def pcs (p : List Ins) (ch : List Bool) (n : Nat) : List Int := (List.range n).map fun i => ((wk p ch i).1.pc : Int)
theorem pcs_len (p : List Ins) (ch : List Bool) (n : Nat) : (pcs p ch n).length = n := by simp [pcs]
theorem pcs_succ (p : List Ins) (ch : List Bool) (n : Nat) : pcs p ch (n + 1) = pcs p ch n ++ [((wk p ch n).1.pc : Int)] := by
  unfold pcs
  rw [List.range_succ, List.map_append]
  rfl
theorem pcs_at (p : List Ins) (ch : List Bool) {n i : Nat} (h : i < n) : (pcs p ch n)[i]? = some ((wk p ch i).1.pc : Int) := by
  unfold pcs
  rw [List.getElem?_map, List.getElem?_range h]
  rfl
theorem wk_num (p : List Ins) (ch : List Bool) (i : Nat) : (wk p ch i).2 ≤ i := by
  induction i with
  | zero => exact Nat.le_refl _
  | succ i ih =>
    rw [wk, wkN]
    split <;> simp only <;> omega
/-- nobody of the first ones is a Done -/
def NoD (p : List Ins) (ch : List Bool) (n : Nat) : Prop := ∀ i, i < n → ¬ (at_ p (wk p ch i).1.pc).op = 21
theorem NoD.succ {p : List Ins} {ch : List Bool} {n : Nat} (h : NoD p ch n) (h1 : ¬ (at_ p (wk p ch n).1.pc).op = 21) : NoD p ch (n + 1) := fun i hi => by
  rcases Nat.lt_or_ge i n with h2 | h2
  · exact h i h2
  · have : i = n := by omega
    subst this; exact h1
section
variable {p : List Ins} {right : Ins → Bool} (hF : Fine right p) (hn : ∀ j, j < p.length → 0 ≤ (at_ p j).n)
include hF hn
theorem good_nx (hC : ∀ j, j < (loopsL p).length → 0 ≤ (at_ p (lp (loopsL p) j).2.toNat).c) {s : Sp} (hg : Good p s) (h21 : ¬ (at_ p s.pc).op = 21) (j : Bool) : Good p (nx p s j) :=
  (V_step hF hn (S := srB _ bt_gt) (h := hW []) (oW_G bt_gt hF hn []) hC hg h21).2 j
theorem good_wk (hC : ∀ j, j < (loopsL p).length → 0 ≤ (at_ p (lp (loopsL p) j).2.toNat).c) (ch : List Bool) {n : Nat} (h : NoD p ch n) : Good p (wk p ch n).1 := by
  induction n with
  | zero => exact good_start hF hn hC
  | succ n ih =>
    have hg := ih fun i hi => h i (by omega)
    rw [wk, wkN]
    split
    · exact good_nx hF hn hC hg (h n (by omega)) _
    · exact good_nx hF hn hC hg (h n (by omega)) _
omit hn in
theorem good_back (hC : ∀ k, k < p.length → (at_ p k).op = 16 → 0 ≤ (at_ p k).c ∧ (at_ p k).c < 1099511627776) {s : Sp} (hg : Good p s) (h16 : (at_ p s.pc).op = 16) : 0 ≤ s.tn s.pc ∧ s.tn s.pc < 1099511627776 := by
  obtain ⟨j, hj, he⟩ := Cs.mem_lp (Fp.loopsTo_has hg.pc h16)
  have h1 := hg.lo j hj
  have h2 : (lp (loopsL p) j).2.toNat = s.pc := by rw [← he]; simp
  rw [h2] at h1
  have := hC s.pc hg.pc h16
  omega
end
end Go.Proofs.YthhbhbfkbncegabGreatDoor.Wk
end
section
set_option linter.unusedSimpArgs false
set_option linter.unusedVariables false
set_option linter.unusedSectionVars false
namespace Go.Proofs.YthhbhbfkbncegabGreatDoor.Wk
open Fp (Ins at_ Fine check loopsL hasB nextL lp has_iff)
open Cs (Ok clI adI bestI bothI weighW btG ok_cl)

/-- what places weigh, one behind the other -/
def sumL (w : List Int) (l : List Int) : Int := l.foldl (fun s k => adI s (w.getD k.toNat 0)) 0
theorem sumL_snoc (w l : List Int) (k : Int) : sumL w (l ++ [k]) = adI (sumL w l) (w.getD k.toNat 0) := by unfold sumL; rw [List.foldl_append]; rfl
theorem sumL_in (w l : List Int) : 0 ≤ sumL w l ∧ sumL w l ≤ 1099511627776 := by
  unfold sumL
  have : ∀ (l : List Int) (s : Int), 0 ≤ s ∧ s ≤ 1099511627776 → 0 ≤ l.foldl (fun s k => adI s (w.getD k.toNat 0)) s ∧ l.foldl (fun s k => adI s (w.getD k.toNat 0)) s ≤ 1099511627776 := by
    intro l
    induction l with
    | nil => intro s h; exact h
    | cons k l ih => intro s h; exact ih _ (by show 0 ≤ adI s _ ∧ adI s _ ≤ _; unfold adI; omega)
  exact this l 0 (by omega)
theorem sum_next (p : List Ins) (w : List Int) (ch : List Bool) (n : Nat) : sumL w (pcs p ch (n + 1)) = adI (sumL w (pcs p ch n)) (w.getD (wk p ch n).1.pc 0) := by
  rw [pcs_succ, sumL_snoc]
  rfl
section
variable {p : List Ins} {right : Ins → Bool} (hF : Fine right p) (hn : ∀ j, j < p.length → 0 ≤ (at_ p j).n) (hC : ∀ j, j < (loopsL p).length → 0 ≤ (at_ p (lp (loopsL p) j).2.toNat).c)
include hF hn hC
/-- one step: what is to come is what lies here and the best of what comes behind -/
theorem VB_step {bt : Int → Int → Bool} (hb : Bt bt) (w : List Int) {s : Sp} (hg : Good p s) (h21 : ¬ (at_ p s.pc).op = 21) :
    (V (srB bt hb) p (hW w) (oW bt p w) s).1 = bothI (clI (w.getD s.pc 0)) (if Jmp p s.pc then bestI bt (V (srB bt hb) p (hW w) (oW bt p w) (nx p s false)).1 (V (srB bt hb) p (hW w) (oW bt p w) (nx p s true)).1 else (V (srB bt hb) p (hW w) (oW bt p w) (nx p s false)).1) := by
  rw [(V_step hF hn (oW_G hb hF hn w) hC hg h21).1]
  show bothI _ _ = bothI _ _
  congr 1
  split <;> rfl
theorem VB_done {bt : Int → Int → Bool} (hb : Bt bt) (w : List Int) {s : Sp} (hg : Good p s) (h21 : (at_ p s.pc).op = 21) : (V (srB bt hb) p (hW w) (oW bt p w) s).1 = clI (w.getD s.pc 0) := by
  rw [V_done hF hn (oW_G hb hF hn w) hC hg h21]
  rfl
theorem VG_next (w : List Int) {s : Sp} (hg : Good p s) (h21 : ¬ (at_ p s.pc).op = 21) (j : Bool) :
    min (clI (w.getD s.pc 0) + (V (srB btG bt_gt) p (hW w) (oW btG p w) (nx p s j)).1) 1099511627776 ≤ (V (srB btG bt_gt) p (hW w) (oW btG p w) s).1 := by
  rw [VB_step hF hn hC bt_gt w hg h21]
  have h0 := V_pos bt_gt hF hn w (good_nx hF hn hC hg h21 false)
  have h1 := V_pos bt_gt hF hn w (good_nx hF hn hC hg h21 true)
  by_cases hj : Jmp p s.pc
  · rw [if_pos hj, bt_max _ _ (.inr h0) (.inr h1)]
    cases j <;> (unfold bothI adI clI; split <;> omega)
  · rw [if_neg hj]
    rw [nx_one hF hn hg.pc hj j]
    unfold bothI adI clI
    split <;> omega
theorem VL_next (w : List Int) {s : Sp} (hg : Good p s) (h21 : ¬ (at_ p s.pc).op = 21) (j : Bool) :
    (V (srB btL bt_lt) p (hW w) (oW btL p w) s).1 ≤ min (clI (w.getD s.pc 0) + (V (srB btL bt_lt) p (hW w) (oW btL p w) (nx p s j)).1) 1099511627776 := by
  rw [VB_step hF hn hC bt_lt w hg h21]
  have h0 := V_pos bt_lt hF hn w (good_nx hF hn hC hg h21 false)
  have h1 := V_pos bt_lt hF hn w (good_nx hF hn hC hg h21 true)
  by_cases hj : Jmp p s.pc
  · rw [if_pos hj, bt_min _ _ (.inr h0) (.inr h1)]
    cases j <;> (unfold minN bothI adI clI; repeat' split) <;> omega
  · rw [if_neg hj]
    rw [nx_one hF hn hg.pc hj j]
    unfold bothI adI clI
    split <;> omega
theorem V_here {bt : Int → Int → Bool} (hb : Bt bt) (w : List Int) {s : Sp} (hg : Good p s) : clI (w.getD s.pc 0) ≤ (V (srB bt hb) p (hW w) (oW bt p w) s).1 := by
  by_cases h21 : (at_ p s.pc).op = 21
  · rw [VB_done hF hn hC hb w hg h21]; exact Int.le_refl _
  · have h0 := V_pos hb hF hn w hg
    rw [VB_step hF hn hC hb w hg h21] at h0 ⊢
    generalize (if Jmp p s.pc then _ else _) = x at *
    unfold bothI adI clI at *
    split <;> rename_i h
    · rw [if_pos h] at h0; omega
    · rw [if_neg h] at h0; omega
theorem max_pre (w : List Int) (ch : List Bool) {n : Nat} (h : NoD p ch n) : min (sumL w (pcs p ch n) + (V (srB btG bt_gt) p (hW w) (oW btG p w) (wk p ch n).1).1) 1099511627776 ≤ weighW btG p w := by
  rw [weigh_V bt_gt hF hn hC w]
  induction n with
  | zero =>
    have h0 := V_pos bt_gt hF hn w (good_start hF hn hC)
    show min (sumL w [] + _) _ ≤ _
    show min (0 + (V (srB btG bt_gt) p (hW w) (oW btG p w) Sp0).1) _ ≤ _
    omega
  | succ n ih =>
    have hN : NoD p ch n := fun i hi => h i (by omega)
    have h1 := ih hN
    have hg := good_wk hF hn hC ch hN
    have h2 : ∃ j, (wk p ch (n + 1)).1 = nx p (wk p ch n).1 j := by
      rw [wk, wkN]
      split
      · exact ⟨_, rfl⟩
      · exact ⟨_, rfl⟩
    obtain ⟨j, h2⟩ := h2
    have h3 := VG_next hF hn hC w hg (h n (by omega)) j
    rw [← h2] at h3
    rw [sum_next]
    have h4 := sumL_in w (pcs p ch n)
    have h5 := V_pos bt_gt hF hn w (good_wk hF hn hC ch h)
    unfold adI
    unfold clI at h3
    omega
theorem min_pre (w : List Int) (ch : List Bool) {n : Nat} (h : NoD p ch n) : weighW btL p w ≤ min (sumL w (pcs p ch n) + (V (srB btL bt_lt) p (hW w) (oW btL p w) (wk p ch n).1).1) 1099511627776 := by
  rw [weigh_V bt_lt hF hn hC w]
  induction n with
  | zero =>
    have h0 := V_pos bt_lt hF hn w (good_start hF hn hC)
    show _ ≤ min (0 + (V (srB btL bt_lt) p (hW w) (oW btL p w) Sp0).1) _
    omega
  | succ n ih =>
    have hN : NoD p ch n := fun i hi => h i (by omega)
    have h1 := ih hN
    have hg := good_wk hF hn hC ch hN
    have h2 : ∃ j, (wk p ch (n + 1)).1 = nx p (wk p ch n).1 j := by
      rw [wk, wkN]
      split
      · exact ⟨_, rfl⟩
      · exact ⟨_, rfl⟩
    obtain ⟨j, h2⟩ := h2
    have h3 := VL_next hF hn hC w hg (h n (by omega)) j
    rw [← h2] at h3
    rw [sum_next]
    have h4 := sumL_in w (pcs p ch n)
    have h5 := V_pos bt_lt hF hn w (good_wk hF hn hC ch h)
    unfold adI
    unfold clI at h3
    omega
/-- no walk, nor any beginning of one, weighs more than the dearest -/
theorem max_walk (w : List Int) (ch : List Bool) {n : Nat} (h : NoD p ch (n - 1)) : sumL w (pcs p ch n) ≤ weighW btG p w := by
  cases n with
  | zero =>
    have h1 := max_pre hF hn hC w ch (n := 0) (fun i hi => by omega)
    have h0 := V_pos bt_gt hF hn w (good_wk hF hn hC ch (n := 0) (fun i hi => by omega))
    have h2 := sumL_in w (pcs p ch 0)
    omega
  | succ n =>
    have hN : NoD p ch n := h
    have h1 := max_pre hF hn hC w ch hN
    have h3 := V_here hF hn hC bt_gt w (good_wk hF hn hC ch hN)
    rw [sum_next]
    have h4 := sumL_in w (pcs p ch n)
    unfold adI
    unfold clI at h3
    omega
/-- no walk weighs less than the cheapest -/
theorem min_walk (w : List Int) (ch : List Bool) {n : Nat} (h1 : 1 ≤ n) (h : NoD p ch (n - 1)) (hd : (at_ p (wk p ch (n - 1)).1.pc).op = 21) : weighW btL p w ≤ sumL w (pcs p ch n) := by
  cases n with
  | zero => omega
  | succ n =>
    have hN : NoD p ch n := h
    have h1 := min_pre hF hn hC w ch hN
    have h3 := VB_done hF hn hC bt_lt w (good_wk hF hn hC ch hN) hd
    rw [sum_next]
    have h4 := sumL_in w (pcs p ch n)
    unfold adI
    rw [h3] at h1
    unfold clI at h1
    omega
end
end Go.Proofs.YthhbhbfkbncegabGreatDoor.Wk
end
end
section
section
set_option linter.unusedSimpArgs false
set_option linter.unusedVariables false
namespace Go.Proofs.YthhbhbfkbncegabGreatDoor.Sl
open Go.ChangeShapes Go.WideShapes Go.ChangeAt Go.RowKit Ws
open Im (PT PO PS TsAt OsAt SysAt)
open Dm

theorem weigh_in {P : List Fp.Ins} (hok : Fw.okB P = true) (hnn : ∀ j, j < P.length → 0 ≤ (Fp.at_ P j).n) (ws : List Int) : 0 ≤ Cs.weighW Cs.btG P ws ∧ Cs.weighW Cs.btG P ws ≤ 1099511627776 := by
  have hF := Fw.okB_fine hok
  have hbc : ∀ k, k < P.length → (Fp.at_ P k).op = 16 → 0 ≤ (Fp.at_ P k).c ∧ (Fp.at_ P k).c < 1099511627776 := fun k hk h16 => by
    have := Cs.back_c (hF.right k hk) h16
    omega
  have hCl : ∀ j, j < (Fp.loopsL P).length → 0 ≤ (Fp.at_ P (Fp.lp (Fp.loopsL P) j).2.toNat).c := fun j hj => by
    have h1 := Cs.lp_in hF hnn hj
    exact (hbc _ (by omega) (Cs.lp_back hF hnn hj)).1
  have h0 := Wk.max_walk hF hnn hCl ws [] (n := 0) (fun i hi => by omega)
  have h2 : Wk.sumL ws (Wk.pcs P [] 0) = 0 := rfl
  have h1 := Cs.weigh_ok hF hnn hbc ws
  unfold Cs.Ok at h1
  omega
theorem wei_bd {P : List Fp.Ins} (hnn : ∀ j, j < P.length → 0 ≤ (Fp.at_ P j).n) (ws : List Int) : 0 ≤ Cs.weI true P ws ∧ Cs.weI true P ws ≤ 1099511627776 := by
  by_cases he : Cs.weE P ws.length = 0
  · have hok : Fw.okB P = true := by
      unfold Fw.okB
      rw [decide_eq_true_eq]
      unfold Cs.weE at he
      split at he
      · assumption
      · exact he
    have := weigh_in hok hnn ws
    unfold Cs.weI
    rw [if_pos he]
    exact this
  · rw [Cs.wei_bad he]
    omega
theorem pI_nn {w : World} {A : Option Addr} {p : PT} (h : Im.Code w A p.code) : ∀ j, j < (pI p).length → 0 ≤ (Fp.at_ (pI p) j).n := (prgI h).nn
theorem dear_bd {A : Option Addr} {s : PS} {w : World} (ht : TsAt w A s.ts) (i fails : Int) : 0 ≤ dearI s i fails ∧ dearI s i fails ≤ 1099511627776 := by
  by_cases h : i < 0 ∨ (s.ts.length : Int) ≤ i
  · rw [(dear_out (fails := fails) h).1]
    omega
  · obtain ⟨k, rfl⟩ : ∃ k : Nat, i = k := ⟨i.toNat, by omega⟩
    have hk : k < s.ts.length := by omega
    obtain ⟨p, hp⟩ : ∃ p, s.ts[k]? = some p := ⟨s.ts[k], List.getElem?_eq_getElem hk⟩
    rw [(dear_in (fails := fails) hp).1]
    obtain ⟨_, _, _, _, _, _, _, _, _, _, _, _, hc, _⟩ := ht.at_ hp
    exact wei_bd (pI_nn hc) _
theorem dem_bd {A : Option Addr} {s : PS} {w : World} (ht : TsAt w A s.ts) (i k x y : Int) : 0 ≤ demI s i k x y ∧ demI s i k x y ≤ 1099511627776 := by
  by_cases h : (i < 0 ∨ (s.ts.length : Int) ≤ i) ∨ (k < 0 ∨ (s.os.length : Int) ≤ k)
  · rw [dem_out h]
    omega
  · obtain ⟨a, rfl⟩ : ∃ a : Nat, i = a := ⟨i.toNat, by omega⟩
    obtain ⟨b, rfl⟩ : ∃ b : Nat, k = b := ⟨k.toNat, by omega⟩
    have ha : a < s.ts.length := by omega
    obtain ⟨p, hp⟩ : ∃ p, s.ts[a]? = some p := ⟨s.ts[a], List.getElem?_eq_getElem ha⟩
    rw [dem_in hp (by omega)]
    obtain ⟨_, _, _, _, _, _, _, _, _, _, _, _, hc, _⟩ := ht.at_ hp
    exact wei_bd (pI_nn hc) _
end Go.Proofs.YthhbhbfkbncegabGreatDoor.Sl
end
section
set_option linter.unusedSimpArgs false
set_option linter.unusedVariables false
namespace Go.Proofs.YthhbhbfkbncegabGreatDoor.Sl
open Im (PT PO PS TsAt OsAt SysAt)
open Dm (demI dearI dearE)
open Go.Proofs.YthhbhbfkbncegabGreatDoor.Wd (addv mulv ceilv)

noncomputable def readsP (s : PS) (i k : Int) : Bool := decide (Sy.roleF s i k = 1 ∧ demI s i k 17 20 ≠ 0)
def obj (s : PS) (k : Int) : PO := s.os.getD k.toNat default
def aheadP (s : PS) (i k : Int) : Bool := Ah.aheadI s.ts (obj s k).ow i
def failO (o : PO) : Int := Bd.failI o.k o.wd o.sl o.cp o.sa o.ini.length o.rd.length 1
noncomputable def ofR (s : PS) (i k : Int) : SR :=
  if readsP s i k = true then
    if aheadP s i k = true then ⟨(obj s k).k, (obj s k).sl, failO (obj s k), true, demI s (obj s k).ow k 18 19, (Ah.pt s.ts (obj s k).ow.toNat).per⟩
    else ⟨(obj s k).k, (obj s k).sl, failO (obj s k), false, 0, 0⟩
  else zeroR
noncomputable def jobL (s : PS) (i : Int) (n : Nat) : List SR := (List.range n).map (fun (k : Nat) => ofR s i k)
noncomputable def jobI (s : PS) (i r : Int) : Int := if dearE s i 0 = 0 then stepsR (dearI s i 0) (jobL s i s.os.length) r else 0
theorem jobL_len (s : PS) (i : Int) (n : Nat) : (jobL s i n).length = n := by simp [jobL]
theorem jobL_succ (s : PS) (i : Int) (n : Nat) : jobL s i (n + 1) = jobL s i n ++ [ofR s i n] := by
  unfold jobL
  rw [List.range_succ, List.map_append]
  rfl
theorem of_no {s : PS} {i k : Int} (h : readsP s i k = false) : ofR s i k = zeroR := if_neg (by rw [h]; exact Bool.noConfusion)
theorem of_behind {s : PS} {i k : Int} (h : readsP s i k = true) (g : aheadP s i k = false) : ofR s i k = ⟨(obj s k).k, (obj s k).sl, failO (obj s k), false, 0, 0⟩ := by
  unfold ofR
  rw [if_pos h, if_neg (by rw [g]; exact Bool.noConfusion)]
theorem of_ahead {s : PS} {i k : Int} (h : readsP s i k = true) (g : aheadP s i k = true) : ofR s i k = ⟨(obj s k).k, (obj s k).sl, failO (obj s k), true, demI s (obj s k).ow k 18 19, (Ah.pt s.ts (obj s k).ow.toNat).per⟩ := by
  unfold ofR
  rw [if_pos h, if_pos g]
theorem wr_zero (r : Int) : wrR zeroR r = 0 := wr_none rfl r
theorem fl_zero (r : Int) : flR zeroR r = 0 := fl_none rfl r
/-- the document's Writes -/
theorem wr_doc (s : PS) (i k r : Int) : wrR (ofR s i k) r = if readsP s i k = true ∧ aheadP s i k = true then mulv (ceilv r (Ah.pt s.ts (obj s k).ow.toNat).per) (demI s (obj s k).ow k 18 19) else 0 := by
  cases h : readsP s i k with
  | false =>
    rw [of_no h, wr_zero, if_neg (fun g => by cases g.1)]
  | true =>
    cases g : aheadP s i k with
    | false => rw [of_behind h g, wr_none rfl, if_neg (fun g => by cases g.2)]
    | true =>
      rw [of_ahead h g, if_pos ⟨rfl, rfl⟩, mulv_comm]
      rfl
theorem of_k {s : PS} {i k : Int} (h : readsP s i k = true) : (ofR s i k).k = (obj s k).k ∧ (ofR s i k).sl = (obj s k).sl ∧ (ofR s i k).fl = failO (obj s k) := by
  cases g : aheadP s i k with
  | false => rw [of_behind h g]; exact ⟨rfl, rfl, rfl⟩
  | true => rw [of_ahead h g]; exact ⟨rfl, rfl, rfl⟩
/-- the document's Fails -/
theorem fl_doc (s : PS) (i k r : Int) : flR (ofR s i k) r = if wrR (ofR s i k) r = 0 ∨ (¬ (obj s k).k = 3 ∧ ¬ (obj s k).k = 5 ∧ ¬ (obj s k).k = 4) then 0 else if (obj s k).k = 4 ∧ 2 < (obj s k).sl then wrR (ofR s i k) r / ((obj s k).sl - 1) else wrR (ofR s i k) r := by
  cases h : readsP s i k with
  | false =>
    have e : wrR (ofR s i k) r = 0 := by rw [of_no h, wr_zero]
    rw [if_pos (.inl e), of_no h, fl_zero]
  | true =>
    obtain ⟨e1, e2, _⟩ := of_k h
    unfold flR
    rw [e1, e2]
    generalize wrR (ofR s i k) r = n
    by_cases h0 : n = 0
    · subst h0
      have hl : (if (obj s k).k = 3 ∨ (obj s k).k = 5 then (0 : Int) else if (obj s k).k = 4 then 0 / (max (obj s k).sl 2 - 1) else 0) = 0 := by
        split
        · rfl
        · split
          · exact Int.zero_ediv _
          · rfl
      rw [hl, if_pos (.inl rfl)]
    · by_cases h1 : (obj s k).k = 3 ∨ (obj s k).k = 5
      · rw [if_pos h1, if_neg (by omega), if_neg (by omega)]
      · by_cases h2 : (obj s k).k = 4
        · rw [if_neg h1, if_pos h2, if_neg (by omega)]
          by_cases h3 : 2 < (obj s k).sl
          · rw [if_pos ⟨h2, h3⟩, show max (obj s k).sl 2 = (obj s k).sl from by omega]
          · rw [if_neg (fun h => h3 h.2), show max (obj s k).sl 2 - 1 = 1 from by omega, Int.ediv_one]
        · rw [if_neg h1, if_neg h2, if_pos (by omega)]
theorem steps_bd (n : Int) (hn : 0 ≤ n ∧ n ≤ 1099511627776) (l : List SR) (r : Int) : 0 ≤ stepsR n l r ∧ stepsR n l r ≤ 1099511627776 := by
  induction l generalizing n with
  | nil => exact hn
  | cons x l ih => exact ih _ (addv_bd _ _)
/-- a round of the document's Job -/
theorem job_no {s : PS} {i : Int} {k : Nat} {r n : Int} (hn : 0 ≤ n ∧ n ≤ 1099511627776) (h : readsP s i k = false) : stepsR n (jobL s i (k + 1)) r = stepsR n (jobL s i k) r := by
  rw [jobL_succ, steps_snoc, of_no h, fl_zero, mulv_zero, addv_zero (steps_bd n hn _ _)]
theorem job_yes {s : PS} {i : Int} {k : Nat} {r n : Int} (h : readsP s i k = true) : stepsR n (jobL s i (k + 1)) r = addv (stepsR n (jobL s i k) r) (mulv (flR (ofR s i k) r) (failO (obj s k))) := by
  rw [jobL_succ, steps_snoc, (of_k h).2.2]
/-- for more ticks nothing is less -/
theorem job_mono {s : PS} {i r q : Int} (h : r ≤ q) : jobI s i r ≤ jobI s i q := by
  unfold jobI
  split
  · exact steps_mono _ (Int.le_refl _) h
  · exact Int.le_refl _
/-- of whom nobody goes ahead -/
theorem first_of {s : PS} {i : Int} (h : ∀ x, Ah.aheadI s.ts x i = false) (k : Int) : (ofR s i k).wr = 0 := by
  cases g : readsP s i k with
  | false => rw [of_no g]; rfl
  | true => rw [of_behind g (h _)]
theorem job_first {A : Option Addr} {w : World} {s : PS} {i : Int} (ht : TsAt w A s.ts) (h : ∀ x, Ah.aheadI s.ts x i = false) (he : dearE s i 0 = 0) (r : Int) : jobI s i r = dearI s i 0 := by
  unfold jobI
  rw [if_pos he]
  refine steps_none _ (fun x hx => ?_) (dear_bd ht i 0)
  unfold jobL at hx
  obtain ⟨k, _, rfl⟩ := List.mem_map.1 hx
  exact fl_none (first_of h _) r
theorem first_all {s : PS} {i : Int} (h : ∀ j : Nat, j < s.ts.length → Ah.aheadI s.ts j i = false) : ∀ x, Ah.aheadI s.ts x i = false := fun x => by
  by_cases g : Ah.inI s.ts.length x ∧ Ah.inI s.ts.length i
  · obtain ⟨a, rfl⟩ := Int.eq_ofNat_of_zero_le g.1.1
    have h2 := g.1.2
    exact h a (by omega)
  · exact Ah.aheadI_no g
end Go.Proofs.YthhbhbfkbncegabGreatDoor.Sl
end
end
end
