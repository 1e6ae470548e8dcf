/-
  The states of a walk, and what is to come from each: it meets the equation of one step (chapters 11, 12): plain.
-/
import Derived.Test.YtnlndkpjfgpodaaDoorWlk
set_option linter.unusedSimpArgs false
set_option linter.unusedVariables false
set_option linter.unusedSectionVars false
namespace Go.Proofs.YtnlndkpjfgpodaaDoor.Wk
open Fp (Ins at_ Fine check loopsL hasB nextL lp has_iff)
open Cs (spn spn_lt spn_top spn_in lp_in lp_back lp_spn back_last last_back)

/-- where one is on a walk: the place, and how often each Back went back -/
structure Sp where
  pc : Nat
  tn : Nat → Int
def up (f : Nat → Int) (k : Nat) (v : Int) : Nat → Int := fun u => if u = k then v else f u
theorem up_at (f : Nat → Int) (k : Nat) (v : Int) : up f k v k = v := if_pos rfl
theorem up_off (f : Nat → Int) {k u : Nat} (v : Int) (h : u ≠ k) : up f k v u = f u := if_neg h
def nx (p : List Ins) (s : Sp) (jump : Bool) : Sp :=
  if (at_ p s.pc).op = 16 then (if s.tn s.pc < (at_ p s.pc).c then ⟨(at_ p s.pc).n.toNat, up s.tn s.pc (s.tn s.pc + 1)⟩ else ⟨s.pc + 1, up s.tn s.pc 0⟩)
  else if (at_ p s.pc).op = 14 ∨ ((at_ p s.pc).op = 15 ∧ jump = true) then ⟨(at_ p s.pc).n.toNat, s.tn⟩ else ⟨s.pc + 1, s.tn⟩
def Sp0 : Sp := ⟨0, fun _ => 0⟩
section
variable {α : Type} (S : Sr α) (p : List Ins) (h : Nat → α) (o : Nat → Wg α)
/-- how often the Back of the loop j may go back yet -/
def lft (s : Sp) (j : Nat) : Nat := ((at_ p (lp (loopsL p) j).2.toNat).c - s.tn (lp (loopsL p) j).2.toNat).toNat
def vt (s : Sp) : Nat → Nat → Nat → Wg α
  | m, 0, pos => G S p h o m pos
  | m, i + 1, pos => if hasB (lp (loopsL p) m) s.pc = true then mulW S (G S p h o m pos) (mulW S (pw S (o m) (lft p s m)) (vt s (m + 1) i ((lp (loopsL p) m).2 + 1).toNat)) else vt s (m + 1) i pos
def Vt (s : Sp) (m pos : Nat) : Wg α := vt S p h o s m ((loopsL p).length - m) pos
def V (s : Sp) : α := (Vt S p h o s 0 s.pc).fin
def rst (s : Sp) (m : Nat) : Wg α := if m < (loopsL p).length then mulW S (pw S (o m) (lft p s m)) (Vt S p h o s (m + 1) ((lp (loopsL p) m).2 + 1).toNat) else oneW S
theorem Vt_top (s : Sp) (pos : Nat) : Vt S p h o s (loopsL p).length pos = G S p h o (loopsL p).length pos := by
  unfold Vt
  rw [Nat.sub_self]
  rfl
theorem Vt_in (s : Sp) {m : Nat} (hm : m < (loopsL p).length) (hb : hasB (lp (loopsL p) m) s.pc = true) (pos : Nat) : Vt S p h o s m pos = mulW S (G S p h o m pos) (rst S p h o s m) := by
  unfold Vt rst
  have e : (loopsL p).length - m = ((loopsL p).length - (m + 1)) + 1 := by omega
  rw [e, vt, if_pos hb, if_pos hm]
  rfl
theorem Vt_out (s : Sp) {m : Nat} (hm : m < (loopsL p).length) (hb : hasB (lp (loopsL p) m) s.pc = false) (pos : Nat) : Vt S p h o s m pos = Vt S p h o s (m + 1) pos := by
  unfold Vt
  have e : (loopsL p).length - m = ((loopsL p).length - (m + 1)) + 1 := by omega
  rw [e, vt, hb, if_neg Bool.false_ne_true]
theorem Vt_part (s : Sp) {m : Nat} (hm : m ≤ (loopsL p).length) (hb : hasB (spn p m) s.pc = true) (pos : Nat) : Vt S p h o s m pos = mulW S (G S p h o m pos) (rst S p h o s m) := by
  rcases Nat.lt_or_ge m (loopsL p).length with h1 | h1
  · rw [spn_lt h1] at hb
    exact Vt_in S p h o s h1 hb pos
  · have : m = (loopsL p).length := by omega
    subst this
    rw [Vt_top]
    unfold rst
    rw [if_neg (by omega), mulW_one]
theorem Vt_skip (s : Sp) {a b : Nat} (hab : a ≤ b) (hb : b ≤ (loopsL p).length) (hno : ∀ j, a ≤ j → j < b → hasB (lp (loopsL p) j) s.pc = false) (pos : Nat) : Vt S p h o s a pos = Vt S p h o s b pos := by
  induction b with
  | zero => have : a = 0 := by omega
            subst this; rfl
  | succ b ih =>
    rcases Nat.lt_or_ge b a with h1 | h1
    · have : a = b + 1 := by omega
      subst this; rfl
    · rw [ih h1 (by omega) fun j h2 h3 => hno j h2 (by omega)]
      exact Vt_out S p h o s (by omega) (hno b h1 (by omega)) pos
end
/-- a state that may be -/
structure Good (p : List Ins) (s : Sp) : Prop where
  pc : s.pc < p.length
  out : ∀ j, j < (loopsL p).length → hasB (lp (loopsL p) j) s.pc = false → s.tn (lp (loopsL p) j).2.toNat = 0
  lo : ∀ j, j < (loopsL p).length → 0 ≤ s.tn (lp (loopsL p) j).2.toNat ∧ s.tn (lp (loopsL p) j).2.toNat ≤ (at_ p (lp (loopsL p) j).2.toNat).c
section
variable {α : Type} {S : Sr α} {p : List Ins} {h : Nat → α} {o : Nat → Wg α} {right : Ins → Bool}
variable (hF : Fine right p) (hn : ∀ j, j < p.length → 0 ≤ (at_ p j).n)
include hF hn
omit hF hn in
/-- one of the parts is the innermost one that has a place -/
theorem innermost (k : Int) : ∃ m, m ≤ (loopsL p).length ∧ (m < (loopsL p).length → hasB (lp (loopsL p) m) k = true) ∧ ∀ j, j < m → hasB (lp (loopsL p) j) k = false := by
  have : ∀ n, (∃ m, m < n ∧ hasB (lp (loopsL p) m) k = true ∧ ∀ j, j < m → hasB (lp (loopsL p) j) k = false) ∨ ∀ j, j < n → hasB (lp (loopsL p) j) k = false := by
    intro n
    induction n with
    | zero => exact .inr fun j hj => by omega
    | succ n ih =>
      rcases ih with ⟨m, h1, h2, h3⟩ | h1
      · exact .inl ⟨m, by omega, h2, h3⟩
      · cases hb : hasB (lp (loopsL p) n) k
        · refine .inr fun j hj => ?_
          rcases Nat.lt_or_ge j n with h | h
          · exact h1 j h
          · have : j = n := by omega
            subst this; exact hb
        · exact .inl ⟨n, by omega, hb, h1⟩
  rcases this (loopsL p).length with ⟨m, h1, h2, h3⟩ | h1
  · exact ⟨m, by omega, fun _ => h2, h3⟩
  · exact ⟨_, Nat.le_refl _, fun h => by omega, h1⟩
theorem has_top {k : Nat} (hk : k < p.length) {m : Nat} (hm : m ≤ (loopsL p).length) (hb : m < (loopsL p).length → hasB (lp (loopsL p) m) k = true) : hasB (spn p m) k = true := by
  by_cases h1 : m < (loopsL p).length
  · rw [spn_lt h1]; exact hb h1
  · unfold spn
    rw [if_neg h1]
    exact has_iff.2 ⟨by simp only; omega, by simp only; omega⟩
/-- two loops that share a place lie one in the other -/
theorem within {j m : Nat} (hj : j < m) (hm : m < (loopsL p).length) {k : Int} (h1 : hasB (lp (loopsL p) j) k = true) (h2 : hasB (lp (loopsL p) m) k = true) : (lp (loopsL p) m).1 ≤ (lp (loopsL p) j).1 ∧ (lp (loopsL p) j).2 < (lp (loopsL p) m).2 := by
  have h3 := Fp.lp_lt hj hm
  have h4 := hF.nest (Fp.lp_mem (by omega : j < (loopsL p).length)) (Fp.lp_mem hm) h3
  have h5 := has_iff.1 h1
  have h6 := has_iff.1 h2
  unfold Fp.overB at h4
  simp at h4
  omega
theorem vt_enter (ho : ∀ j, j < (loopsL p).length → o j = G S p h o j (lp (loopsL p) j).1.toNat) (s : Sp) (hC : ∀ j, j < (loopsL p).length → 0 ≤ (at_ p (lp (loopsL p) j).2.toNat).c) (m : Nat) : m ≤ (loopsL p).length → hasB (spn p m) s.pc = true →
    (∀ j, j < m → hasB (lp (loopsL p) j) s.pc = true → (lp (loopsL p) j).1 = s.pc ∧ s.tn (lp (loopsL p) j).2.toNat = 0) → Vt S p h o s 0 s.pc = Vt S p h o s m s.pc := by
  induction m using Nat.strongRecOn with
  | ind m ih =>
    intro hm hb hin
    have hbs := has_iff.1 hb
    rcases lastJ_cases p m s.pc with ⟨_, hno⟩ | ⟨j, _, hj, hbj, hl⟩
    · exact Vt_skip S p h o s (Nat.zero_le _) hm (fun j _ hj => hno j hj) _
    · have hjl : j < (loopsL p).length := by omega
      obtain ⟨h1, h2⟩ := hin j hj hbj
      have hli := lp_in hF hn hjl
      rw [ih j hj (by omega) (by rw [spn_lt hjl]; exact hbj) (fun i hi => hin i (by omega)), Vt_in S p h o s hjl hbj]
      have e1 : G S p h o j s.pc = o j := by rw [ho j hjl, h1]; rfl
      have e2 : lft p s j = (at_ p (lp (loopsL p) j).2.toNat).c.toNat := by unfold lft; rw [h2, Int.sub_zero]
      have e3 : (at_ p (lp (loopsL p) j).2.toNat).c.toNat + 1 = ((at_ p (lp (loopsL p) j).2.toNat).c + 1).toNat := by have := hC j hjl; omega
      unfold rst
      rw [if_pos hjl, e1, e2, ← mulW_assoc, ← pw_succ, e3, Vt_skip S p h o s (by omega : j + 1 ≤ m) hm (fun i h3 h4 => hl i (by omega) h4), Vt_part S p h o s hm hb, Vt_part S p h o s hm hb, ← mulW_assoc]
      congr 1
      exact (G_loop hF hn hm hbs.1 hbs.2 hj hbj hl h1.symm).symm
theorem vt_congr {s s' : Sp} {m : Nat} (hmem : ∀ j, m ≤ j → j < (loopsL p).length → hasB (lp (loopsL p) j) s.pc = hasB (lp (loopsL p) j) s'.pc)
    (htn : ∀ j, m ≤ j → j < (loopsL p).length → hasB (lp (loopsL p) j) s'.pc = true → s.tn (lp (loopsL p) j).2.toNat = s'.tn (lp (loopsL p) j).2.toNat) (pos : Nat) : Vt S p h o s m pos = Vt S p h o s' m pos := by
  have : ∀ i m pos, m + i = (loopsL p).length → (∀ j, m ≤ j → j < (loopsL p).length → hasB (lp (loopsL p) j) s.pc = hasB (lp (loopsL p) j) s'.pc) →
      (∀ j, m ≤ j → j < (loopsL p).length → hasB (lp (loopsL p) j) s'.pc = true → s.tn (lp (loopsL p) j).2.toNat = s'.tn (lp (loopsL p) j).2.toNat) → vt S p h o s m i pos = vt S p h o s' m i pos := by
    intro i
    induction i with
    | zero => intro m pos _ _ _; rfl
    | succ i ih =>
      intro m pos hm h1 h2
      rw [vt, vt, h1 m (Nat.le_refl _) (by omega)]
      split
      · rename_i hb
        have e : lft p s m = lft p s' m := by unfold lft; rw [h2 m (Nat.le_refl _) (by omega) hb]
        rw [e, ih (m + 1) _ (by omega) (fun j h3 h4 => h1 j (by omega) h4) (fun j h3 h4 => h2 j (by omega) h4)]
      · exact ih (m + 1) _ (by omega) (fun j h3 h4 => h1 j (by omega) h4) (fun j h3 h4 => h2 j (by omega) h4)
  unfold Vt
  rcases Nat.lt_or_ge (loopsL p).length m with h3 | h3
  · have e : (loopsL p).length - m = 0 := by omega
    rw [e]; rfl
  · exact this _ _ _ (by omega) hmem htn
theorem rst_congr {s s' : Sp} {m : Nat} (hmem : ∀ j, m < j → j < (loopsL p).length → hasB (lp (loopsL p) j) s.pc = hasB (lp (loopsL p) j) s'.pc)
    (htn : ∀ j, m ≤ j → j < (loopsL p).length → (j = m ∨ hasB (lp (loopsL p) j) s'.pc = true) → s.tn (lp (loopsL p) j).2.toNat = s'.tn (lp (loopsL p) j).2.toNat) : rst S p h o s m = rst S p h o s' m := by
  unfold rst
  split
  · rename_i hm
    have e : lft p s m = lft p s' m := by unfold lft; rw [htn m (Nat.le_refl _) hm (.inl rfl)]
    rw [e, vt_congr hF hn (fun j h1 h2 => hmem j (by omega) h2) (fun j h1 h2 h3 => htn j (by omega) h2 (.inr h3))]
  · rfl
/-- where one comes to within the innermost part of a place, not by its Back -/
theorem step_in {s : Sp} (hg : Good p s) {m : Nat} (hm : m ≤ (loopsL p).length) (hb : m < (loopsL p).length → hasB (lp (loopsL p) m) s.pc = true) (hno : ∀ j, j < m → hasB (lp (loopsL p) j) s.pc = false) (hlt : (s.pc : Int) < (spn p m).2) {t : Int} (ht : t ∈ nextL p s.pc) :
    Good p ⟨t.toNat, s.tn⟩ ∧ hasB (spn p m) t.toNat = true ∧ (∀ j, j < m → hasB (lp (loopsL p) j) t.toNat = true → (lp (loopsL p) j).1 = t.toNat ∧ s.tn (lp (loopsL p) j).2.toNat = 0) ∧
      ∀ j, m < j → j < (loopsL p).length → hasB (lp (loopsL p) j) s.pc = hasB (lp (loopsL p) j) t.toNat := by
  have hbs := has_top hF hn hg.pc hm hb
  have hbi := has_iff.1 hbs
  have hk := hg.pc
  have hpe := part_edge hF hn hm hk hbi.1 hlt hno ht
  have hed := (hF.edge hn hk ht).1
  have hw := fun {x : Int × Int} (hx : x ∈ loopsL p) => hF.ways hn hk ht hx
  have et : ((t.toNat : Nat) : Int) = t := by omega
  have hup : ∀ j, m < j → j < (loopsL p).length → hasB (lp (loopsL p) j) s.pc = hasB (lp (loopsL p) j) t.toNat := by
    intro j hmj hj
    rw [et]
    have hml : m < (loopsL p).length := by omega
    have hlj := Fp.lp_lt hmj hj
    rw [spn_lt hml] at hbi hpe hlt
    cases h1 : hasB (lp (loopsL p) j) s.pc <;> cases h2 : hasB (lp (loopsL p) j) t
    · rfl
    · have h3 := (hw (Fp.lp_mem hj)).1 h2 h1
      have h4 := hF.nest (Fp.lp_mem hml) (Fp.lp_mem hj) hlj
      unfold Fp.overB at h4
      simp at h4
      omega
    · have h3 := (hw (Fp.lp_mem hj)).2 h1 h2
      omega
    · rfl
  refine ⟨⟨by show t.toNat < _; omega, fun j hj ho => ?_, hg.lo⟩, ?_, fun j hj h1 => ?_, hup⟩
  · show s.tn _ = 0
    have ho' : hasB (lp (loopsL p) j) t = false := by rw [← et]; exact ho
    cases h1 : hasB (lp (loopsL p) j) s.pc
    · exact hg.out j hj h1
    · have h3 := (hw (Fp.lp_mem hj)).2 h1 ho'
      rcases Nat.lt_trichotomy j m with h4 | h4 | h4
      · rw [hno j h4] at h1; cases h1
      · subst h4
        rw [spn_lt hj] at hlt
        omega
      · rw [hup j h4 hj, et, ho'] at h1; cases h1
  · rw [et]
    exact has_iff.2 ⟨by omega, hpe.2⟩
  · rw [et] at h1
    have h2 := hno j hj
    refine ⟨?_, hg.out j (by omega) h2⟩
    rw [et]
    exact ((hw (Fp.lp_mem (by omega : j < (loopsL p).length))).1 h1 h2).symm
theorem V_in (ho : ∀ j, j < (loopsL p).length → o j = G S p h o j (lp (loopsL p) j).1.toNat) (hC : ∀ j, j < (loopsL p).length → 0 ≤ (at_ p (lp (loopsL p) j).2.toNat).c) {s : Sp} {m : Nat} (hm : m ≤ (loopsL p).length) (hbs : hasB (spn p m) s.pc = true)
    (hin : ∀ j, j < m → hasB (lp (loopsL p) j) s.pc = true → (lp (loopsL p) j).1 = s.pc ∧ s.tn (lp (loopsL p) j).2.toNat = 0) : V S p h o s = (mulW S (G S p h o m s.pc) (rst S p h o s m)).fin := by
  unfold V
  rw [vt_enter hF hn ho s hC m hm hbs hin, Vt_part S p h o s hm hbs]
theorem V_start (ho : ∀ j, j < (loopsL p).length → o j = G S p h o j (lp (loopsL p) j).1.toNat) (hC : ∀ j, j < (loopsL p).length → 0 ≤ (at_ p (lp (loopsL p) j).2.toNat).c) : V S p h o Sp0 = (G S p h o (loopsL p).length 0).fin := by
  have hs := hF.size
  rw [V_in hF hn ho hC (Nat.le_refl _) (has_top hF hn (k := 0) (by omega) (Nat.le_refl _) (fun h => by omega)) (fun j hj hb => ⟨?_, rfl⟩)]
  · unfold rst
    rw [if_neg (by omega), mulW_one]
    rfl
  · have h1 := lp_in hF hn hj
    have h2 := (has_iff.1 hb).1
    have e : ((Sp0.pc : Nat) : Int) = 0 := rfl
    omega
theorem good_start (hC : ∀ j, j < (loopsL p).length → 0 ≤ (at_ p (lp (loopsL p) j).2.toNat).c) : Good p Sp0 := ⟨by have := hF.size; show 0 < _; omega, fun _ _ _ => rfl, fun j hj => ⟨Int.le_refl _, hC j hj⟩⟩
/-- at a Done -/
theorem V_done (ho : ∀ j, j < (loopsL p).length → o j = G S p h o j (lp (loopsL p) j).1.toNat) (hC : ∀ j, j < (loopsL p).length → 0 ≤ (at_ p (lp (loopsL p) j).2.toNat).c) {s : Sp} (hg : Good p s) (h21 : (at_ p s.pc).op = 21) : V S p h o s = h s.pc := by
  obtain ⟨m, hm, hb, hno⟩ := innermost (p := p) s.pc
  have hbs := has_top hF hn hg.pc hm hb
  rw [V_in hF hn ho hC hm hbs (fun j hj h1 => by rw [hno j hj] at h1; cases h1), G_plain hF hn hm (has_iff.1 hbs).1 (has_iff.1 hbs).2 hno, if_pos h21]
  simp only [mulW, S.zero_mul, S.add_zero]
/-- at a plain place -/
theorem V_plain (ho : ∀ j, j < (loopsL p).length → o j = G S p h o j (lp (loopsL p) j).1.toNat) (hC : ∀ j, j < (loopsL p).length → 0 ≤ (at_ p (lp (loopsL p) j).2.toNat).c) {s : Sp} (hg : Good p s) (h21 : ¬ (at_ p s.pc).op = 21) (h16 : ¬ (at_ p s.pc).op = 16) :
    V S p h o s = S.mul (h s.pc) ((nextL p s.pc).foldr (fun t a => S.add (V S p h o ⟨t.toNat, s.tn⟩) a) S.zero) ∧ ∀ t ∈ nextL p s.pc, Good p ⟨t.toNat, s.tn⟩ := by
  obtain ⟨m, hm, hb, hno⟩ := innermost (p := p) s.pc
  have hbs := has_top hF hn hg.pc hm hb
  have hlt : (s.pc : Int) < (spn p m).2 := by
    rcases Int.lt_or_le s.pc (spn p m).2 with h1 | h1
    · exact h1
    · have h2 := (has_iff.1 hbs).2
      have h3 : (spn p m).2.toNat = s.pc := by omega
      have h4 := last_back hF hn hm (by rw [h3]; exact h21)
      rw [h3] at h4
      exact absurd h4 h16
  refine ⟨?_, fun t ht => (step_in hF hn hg hm hb hno hlt ht).1⟩
  rw [V_in hF hn ho hC hm hbs (fun j hj h1 => by rw [hno j hj] at h1; cases h1), G_plain hF hn hm (has_iff.1 hbs).1 (has_iff.1 hbs).2 hno, if_neg h21, if_neg (by omega), sc_mulW]
  show S.mul (h s.pc) _ = _
  congr 1
  have key : ∀ l : List Int, (∀ t ∈ l, t ∈ nextL p s.pc) → (mulW S (sumW S (l.map fun t => G S p h o m t.toNat)) (rst S p h o s m)).fin = l.foldr (fun t a => S.add (V S p h o ⟨t.toNat, s.tn⟩) a) S.zero := by
    intro l
    induction l with
    | nil => intro _; show S.add S.zero (S.mul S.zero _) = S.zero; rw [S.zero_mul, S.add_zero]
    | cons t l ih =>
      intro hl
      obtain ⟨_, h2, h3, h4⟩ := step_in hF hn hg hm hb hno hlt (hl t (List.mem_cons_self ..))
      rw [List.map_cons, sumW, add_mulW, ih fun t' h' => hl t' (List.mem_cons_of_mem _ h'), List.foldr_cons]
      congr 1
      rw [V_in hF hn ho hC hm (s := ⟨t.toNat, s.tn⟩) h2 h3]
      rw [rst_congr hF hn (s := s) (s' := ⟨t.toNat, s.tn⟩) h4 (fun _ _ _ _ => rfl)]
  exact key _ fun _ h => h
theorem back_part {s : Sp} (hg : Good p s) (h16 : (at_ p s.pc).op = 16) : ∃ m, m < (loopsL p).length ∧ lp (loopsL p) m = ((at_ p s.pc).n, (s.pc : Int)) := by
  obtain ⟨j, hj, he⟩ := Cs.mem_lp (Fp.loopsTo_has hg.pc h16)
  exact ⟨j, hj, he.symm⟩
/-- at a Back -/
theorem V_back (ho : ∀ j, j < (loopsL p).length → o j = G S p h o j (lp (loopsL p) j).1.toNat) (hC : ∀ j, j < (loopsL p).length → 0 ≤ (at_ p (lp (loopsL p) j).2.toNat).c) {s : Sp} (hg : Good p s) (h16 : (at_ p s.pc).op = 16) (jump : Bool) :
    V S p h o s = S.mul (h s.pc) (V S p h o (nx p s jump)) ∧ Good p (nx p s jump) := by
  obtain ⟨m, hm, he⟩ := back_part hF hn hg h16
  have hli := lp_in hF hn hm
  have e1 : (lp (loopsL p) m).1 = (at_ p s.pc).n := by rw [he]
  have e2 : (lp (loopsL p) m).2 = (s.pc : Int) := by rw [he]
  have e3 : (lp (loopsL p) m).2.toNat = s.pc := by omega
  have hno : ∀ j, j < m → hasB (lp (loopsL p) j) s.pc = false := fun j hj => by
    have := Fp.lp_lt hj hm
    unfold hasB; simp; omega
  have hbs : hasB (spn p m) s.pc = true := by rw [spn_lt hm]; exact has_iff.2 ⟨by omega, by omega⟩
  have hbi := has_iff.1 hbs
  have hs2 : (spn p m).2 = (s.pc : Int) := by rw [spn_lt hm]; exact e2
  have hlo := hg.lo m hm
  rw [e3] at hlo
  have h21 : ¬ (at_ p s.pc).op = 21 := by rw [h16]; omega
  have hapart : ∀ j, j < (loopsL p).length → j ≠ m → (lp (loopsL p) j).2.toNat ≠ s.pc := fun j hj hjm => by
    have := lp_in hF hn hj
    rcases Nat.lt_or_ge j m with h1 | h1
    · have := Fp.lp_lt h1 hm; omega
    · have := Fp.lp_lt (by omega : m < j) hj; omega
  have hV : V S p h o s = S.mul (h s.pc) (rst S p h o s m).fin := by
    rw [V_in hF hn ho hC (by omega) hbs (fun j hj h1 => by rw [hno j hj] at h1; cases h1), G_plain hF hn (by omega) hbi.1 hbi.2 hno, if_neg h21, if_pos hs2.symm]
    simp only [mulW]
    rw [zero_add]
  rw [hV]
  have hr : rst S p h o s m = mulW S (pw S (o m) (lft p s m)) (Vt S p h o s (m + 1) ((lp (loopsL p) m).2 + 1).toNat) := if_pos hm
  have hlf : lft p s m = ((at_ p s.pc).c - s.tn s.pc).toNat := by unfold lft; rw [e3]
  -- a loop behind that has this Back has it all
  have hmem : ∀ j, m < j → j < (loopsL p).length → hasB (lp (loopsL p) j) s.pc = hasB (lp (loopsL p) j) ((at_ p s.pc).n.toNat : Nat) := by
    intro j h1 h2
    have h3 := hF.nest (Fp.lp_mem hm) (Fp.lp_mem h2) (Fp.lp_lt h1 h2)
    have h4 := Fp.lp_lt h1 h2
    unfold Fp.overB at h3
    simp at h3
    have en : (((at_ p s.pc).n.toNat : Nat) : Int) = (at_ p s.pc).n := by omega
    rw [en]
    unfold hasB
    rw [decide_eq_decide]
    omega
  by_cases ht : s.tn s.pc < (at_ p s.pc).c
  · have hnx : nx p s jump = ⟨(at_ p s.pc).n.toNat, up s.tn s.pc (s.tn s.pc + 1)⟩ := by unfold nx; rw [if_pos h16, if_pos ht]
    rw [hnx]
    have en : (((at_ p s.pc).n.toNat : Nat) : Int) = (at_ p s.pc).n := by omega
    have hb' : hasB (spn p m) ((at_ p s.pc).n.toNat : Nat) = true := by rw [spn_lt hm, en]; exact has_iff.2 ⟨by omega, by omega⟩
    have hin : ∀ j, j < m → hasB (lp (loopsL p) j) ((at_ p s.pc).n.toNat : Nat) = true → (lp (loopsL p) j).1 = ((at_ p s.pc).n.toNat : Nat) ∧ up s.tn s.pc (s.tn s.pc + 1) (lp (loopsL p) j).2.toNat = 0 := by
      intro j hj h1
      have h2 := within hF hn hj hm h1 (by rw [spn_lt hm] at hb'; exact hb')
      have h3 := has_iff.1 h1
      refine ⟨by omega, ?_⟩
      rw [up_off _ _ (hapart j (by omega) (by omega))]
      exact hg.out j (by omega) (hno j hj)
    refine ⟨?_, ⟨by have := hg.pc; show (at_ p s.pc).n.toNat < _; omega, fun j hj h1 => ?_, fun j hj => ?_⟩⟩
    · congr 1
      rw [V_in hF hn ho hC (s := ⟨(at_ p s.pc).n.toNat, up s.tn s.pc (s.tn s.pc + 1)⟩) (m := m) (by omega) hb' hin, hr]
      have e4 : G S p h o m (at_ p s.pc).n.toNat = o m := by rw [ho m hm, e1]
      have e5 : rst S p h o ⟨(at_ p s.pc).n.toNat, up s.tn s.pc (s.tn s.pc + 1)⟩ m = mulW S (pw S (o m) (lft p ⟨(at_ p s.pc).n.toNat, up s.tn s.pc (s.tn s.pc + 1)⟩ m)) (Vt S p h o ⟨(at_ p s.pc).n.toNat, up s.tn s.pc (s.tn s.pc + 1)⟩ (m + 1) ((lp (loopsL p) m).2 + 1).toNat) := if_pos hm
      have e6 : lft p s m = lft p ⟨(at_ p s.pc).n.toNat, up s.tn s.pc (s.tn s.pc + 1)⟩ m + 1 := by
        rw [hlf]
        unfold lft
        simp only
        rw [e3, up_at]
        omega
      rw [e4, e5, ← mulW_assoc, ← pw_succ, ← e6]
      congr 2
      exact vt_congr hF hn (fun j h1 h2 => hmem j (by omega) h2) (fun j h1 h2 _ => (up_off _ _ (hapart j h2 (by omega))).symm) _
    · show up s.tn s.pc (s.tn s.pc + 1) (lp (loopsL p) j).2.toNat = 0
      have h1' : hasB (lp (loopsL p) j) ((at_ p s.pc).n.toNat : Nat) = false := h1
      rcases Nat.lt_trichotomy j m with h2 | h2 | h2
      · rw [up_off _ _ (hapart j hj (by omega))]
        exact hg.out j hj (hno j h2)
      · subst h2
        rw [spn_lt hj, h1'] at hb'
        cases hb'
      · rw [up_off _ _ (hapart j hj (by omega))]
        exact hg.out j hj (by rw [hmem j h2 hj]; exact h1')
    · show 0 ≤ up s.tn s.pc (s.tn s.pc + 1) (lp (loopsL p) j).2.toNat ∧ up s.tn s.pc (s.tn s.pc + 1) (lp (loopsL p) j).2.toNat ≤ _
      by_cases h2 : j = m
      · subst h2
        rw [e3, up_at]
        omega
      · rw [up_off _ _ (hapart j hj h2)]
        exact hg.lo j hj
  · have hnx : nx p s jump = ⟨s.pc + 1, up s.tn s.pc 0⟩ := by unfold nx; rw [if_pos h16, if_neg ht]
    rw [hnx]
    have hgo := hF.goes hg.pc h21
    -- the next part around
    have hex : ∃ m', m < m' ∧ m' ≤ (loopsL p).length ∧ (m' < (loopsL p).length → hasB (lp (loopsL p) m') s.pc = true) ∧ ∀ j, m < j → j < m' → hasB (lp (loopsL p) j) s.pc = false := by
      have : ∀ n, m + 1 + n ≤ (loopsL p).length → (∃ m', m < m' ∧ m' < m + 1 + n ∧ hasB (lp (loopsL p) m') s.pc = true ∧ ∀ j, m < j → j < m' → hasB (lp (loopsL p) j) s.pc = false) ∨ ∀ j, m < j → j < m + 1 + n → hasB (lp (loopsL p) j) s.pc = false := by
        intro n
        induction n with
        | zero => intro _; exact .inr fun j h1 h2 => by omega
        | succ n ih =>
          intro hle
          rcases ih (by omega) with ⟨m', h1, h2, h3⟩ | h1
          · exact .inl ⟨m', h1, by omega, h3⟩
          · cases hb : hasB (lp (loopsL p) (m + 1 + n)) s.pc
            · refine .inr fun j h2 h3 => ?_
              rcases Nat.lt_or_ge j (m + 1 + n) with h4 | h4
              · exact h1 j h2 h4
              · have : j = m + 1 + n := by omega
                subst this; exact hb
            · exact .inl ⟨m + 1 + n, by omega, by omega, hb, h1⟩
      have e : m + 1 + ((loopsL p).length - (m + 1)) = (loopsL p).length := by omega
      have h1 := this ((loopsL p).length - (m + 1)) (by omega)
      rw [e] at h1
      rcases h1 with ⟨m', h2, h3, h4, h5⟩ | h1
      · exact ⟨m', h2, by omega, fun _ => h4, h5⟩
      · exact ⟨_, hm, Nat.le_refl _, fun h => by omega, h1⟩
    obtain ⟨m', hmm, hm', hb', hno'⟩ := hex
    have hbm' := has_top hF hn hg.pc hm' hb'
    have hls := lp_spn hF hn hmm hm'
    have hbm := has_iff.1 hbm'
    have hbt : hasB (spn p m') ((s.pc + 1 : Nat) : Int) = true := has_iff.2 ⟨by omega, by omega⟩
    have hin : ∀ j, j < m' → hasB (lp (loopsL p) j) ((s.pc + 1 : Nat) : Int) = true → (lp (loopsL p) j).1 = ((s.pc + 1 : Nat) : Int) ∧ hasB (lp (loopsL p) j) s.pc = false := by
      intro j hj h1
      have h2 := has_iff.1 h1
      have h3 : hasB (lp (loopsL p) j) s.pc = false := by
        rcases Nat.lt_or_ge m j with h4 | h4
        · exact hno' j h4 hj
        · have : j < m ∨ j = m := by omega
          rcases this with h5 | h5
          · exact hno j h5
          · subst h5; omega
      refine ⟨?_, h3⟩
      unfold hasB at h3
      simp at h3
      omega
    have hup : ∀ j, m' < j → j < (loopsL p).length → hasB (lp (loopsL p) j) s.pc = hasB (lp (loopsL p) j) ((s.pc + 1 : Nat) : Int) := by
      intro j h1 h2
      have h3 := hF.nest (Fp.lp_mem (by omega : m' < (loopsL p).length)) (Fp.lp_mem h2) (Fp.lp_lt h1 h2)
      have h4 := Fp.lp_lt h1 h2
      rw [spn_lt (by omega : m' < (loopsL p).length)] at hbm hls
      unfold Fp.overB at h3
      simp at h3
      unfold hasB
      rw [decide_eq_decide]
      omega
    have htn0 : ∀ j, j < (loopsL p).length → hasB (lp (loopsL p) j) s.pc = false → up s.tn s.pc 0 (lp (loopsL p) j).2.toNat = 0 := fun j hj h1 => by
      by_cases h2 : j = m
      · subst h2; rw [e3, up_at]
      · rw [up_off _ _ (hapart j hj h2)]
        exact hg.out j hj h1
    refine ⟨?_, ⟨by show s.pc + 1 < _; exact hgo, fun j hj h1 => ?_, fun j hj => ?_⟩⟩
    · congr 1
      rw [V_in hF hn ho hC (s := ⟨s.pc + 1, up s.tn s.pc 0⟩) (m := m') hm' hbt (fun j hj h1 => ⟨(hin j hj h1).1, htn0 j (by omega) (hin j hj h1).2⟩), hr]
      have e4 : lft p s m = 0 := by rw [hlf]; omega
      rw [e4]
      show (mulW S (oneW S) _).fin = _
      rw [one_mulW, Vt_skip S p h o s (by omega : m + 1 ≤ m') hm' (fun j h1 h2 => hno' j (by omega) h2), Vt_part S p h o s hm' hbm']
      have e5 : ((lp (loopsL p) m).2 + 1).toNat = s.pc + 1 := by omega
      rw [e5]
      congr 2
      exact rst_congr hF hn hup (fun j h1 h2 _ => (up_off _ _ (hapart j h2 (by omega))).symm)
    · have h1' : hasB (lp (loopsL p) j) ((s.pc + 1 : Nat) : Int) = false := h1
      show up s.tn s.pc 0 (lp (loopsL p) j).2.toNat = 0
      cases h2 : hasB (lp (loopsL p) j) s.pc
      · exact htn0 j hj h2
      · have : j = m := by
          rcases Nat.lt_trichotomy j m with h3 | h3 | h3
          · rw [hno j h3] at h2; cases h2
          · exact h3
          · have h4 := Fp.lp_lt h3 hj
            unfold hasB at h1' h2
            simp at h1' h2
            omega
        subst this
        rw [e3, up_at]
    · show 0 ≤ up s.tn s.pc 0 (lp (loopsL p) j).2.toNat ∧ up s.tn s.pc 0 (lp (loopsL p) j).2.toNat ≤ _
      by_cases h2 : j = m
      · subst h2
        rw [e3, up_at]
        omega
      · rw [up_off _ _ (hapart j hj h2)]
        exact hg.lo j hj
end
end Go.Proofs.YtnlndkpjfgpodaaDoor.Wk
