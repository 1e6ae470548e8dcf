/-

  Each walk ends: the steps that may be made yet, at most, fall by one with each step (V over max and plus, without a top); plain.
-/
import Derived.Test.YtnlndkpjfgpodaaDoorWlkSum
set_option linter.unusedSimpArgs false
set_option linter.unusedVariables false
set_option linter.unusedSectionVars false
namespace Go.Proofs.YtnlndkpjfgpodaaDoor.Wk
open Fp (Ins at_ Fine check loopsL hasB nextL lp has_iff)
section
variable {α : Type} (S : Sr α) (p : List Ins) (h : Nat → α)
theorem bk_same {o o' : Nat → Wg α} {n : Nat} (ho : ∀ j, j < n → o j = o' j) : ∀ f k, bk S p h o n f k = bk S p h o' n f k
  | 0, _ => rfl
  | f + 1, k => by
    have e : bk S p h o n f = bk S p h o' n f := funext (bk_same ho f)
    show stepG S p h o n (bk S p h o n f) k = stepG S p h o' n (bk S p h o' n f) k
    rw [e]
    unfold stepG
    rcases lastJ_cases p n k with ⟨e1, _⟩ | ⟨j, e1, hj, _⟩
    · rw [e1]
    · rw [e1]
      simp only
      unfold rp
      rw [ho j hj]
/-- the loops' own, one after the other -/
def oL : Nat → Nat → Wg α
  | 0 => fun _ => zeroW S
  | n + 1 => fun j => if j = n then G S p h (oL n) n (lp (loopsL p) n).1.toNat else oL n j
def oM (j : Nat) : Wg α := oL S p h (j + 1) j
theorem oM_is (j : Nat) : oM S p h j = G S p h (oL S p h j) j (lp (loopsL p) j).1.toNat := if_pos rfl
theorem oL_lt : ∀ (n i : Nat), i < n → oL S p h n i = oM S p h i
  | 0, i, hi => by omega
  | n + 1, i, hi => by
    by_cases e : i = n
    · subst e; rfl
    · show (if i = n then _ else oL S p h n i) = _
      rw [if_neg e]
      exact oL_lt n i (by omega)
theorem oM_eq (j : Nat) : oM S p h j = G S p h (oM S p h) j (lp (loopsL p) j).1.toNat := by
  rw [oM_is]
  exact bk_same S p h (fun i hi => oL_lt S p h j i hi) _ _
end
abbrev Mx : Type := { v : Int // -1 ≤ v }
def both1 (a b : Int) : Int := if a = -1 ∨ b = -1 then -1 else a + b
theorem both1_ok {a b : Int} (ha : -1 ≤ a) (hb : -1 ≤ b) : -1 ≤ both1 a b := by unfold both1; split <;> omega
def srM : Sr Mx where
  add a b := ⟨max a.1 b.1, by have := a.2; omega⟩
  mul a b := ⟨both1 a.1 b.1, both1_ok a.2 b.2⟩
  zero := ⟨-1, by decide⟩
  one := ⟨0, by decide⟩
  add_comm a b := Subtype.ext (by show max a.1 b.1 = max b.1 a.1; omega)
  add_assoc a b c := Subtype.ext (by show max (max a.1 b.1) c.1 = max a.1 (max b.1 c.1); omega)
  add_zero a := Subtype.ext (by show max a.1 (-1) = a.1; have := a.2; omega)
  mul_assoc a b c := Subtype.ext (by
    show both1 (both1 a.1 b.1) c.1 = both1 a.1 (both1 b.1 c.1)
    have h1 := a.2
    have h2 := b.2
    have h3 := c.2
    unfold both1
    repeat' split
    all_goals omega)
  one_mul a := Subtype.ext (by show both1 0 a.1 = a.1; unfold both1; split <;> omega)
  mul_one a := Subtype.ext (by show both1 a.1 0 = a.1; unfold both1; split <;> omega)
  zero_mul a := Subtype.ext (by show both1 (-1) a.1 = -1; unfold both1; rw [if_pos (.inl rfl)])
  mul_zero a := Subtype.ext (by show both1 a.1 (-1) = -1; unfold both1; rw [if_pos (.inr rfl)])
  dl a b c := Subtype.ext (by
    show both1 a.1 (max b.1 c.1) = max (both1 a.1 b.1) (both1 a.1 c.1)
    have h1 := a.2
    have h2 := b.2
    have h3 := c.2
    unfold both1
    repeat' split
    all_goals omega)
  dr a b c := Subtype.ext (by
    show both1 (max a.1 b.1) c.1 = max (both1 a.1 c.1) (both1 b.1 c.1)
    have h1 := a.2
    have h2 := b.2
    have h3 := c.2
    unfold both1
    repeat' split
    all_goals omega)
def kM (k : Nat) : Mx := ⟨1, by decide⟩
theorem nzM : Nz srM (fun v => 0 ≤ v.1) where
  one := by show (0 : Int) ≤ 0; omega
  mul a b ha hb := by show 0 ≤ both1 a.1 b.1; unfold both1; split <;> omega
  left a b ha := by show 0 ≤ max a.1 b.1; omega
section
variable {p : List Ins} {right : Ins → Bool} (hF : Fine right p) (hn : ∀ j, j < p.length → 0 ≤ (at_ p j).n) (hC : ∀ j, j < (loopsL p).length → 0 ≤ (at_ p (lp (loopsL p) j).2.toNat).c)
include hF hn hC
/-- the steps that may be made yet -/
def toGo (p : List Ins) (s : Sp) : Int := (V srM p kM (oM srM p kM) s).1
theorem toGo_pos {s : Sp} (hg : Good p s) : 0 ≤ toGo p s := live_V hF hn nzM (h := kM) (fun k _ => by show (0 : Int) ≤ 1; omega) (fun j _ => oM_eq srM p kM j) (fun h => absurd (show (0 : Int) ≤ -1 from h) (by omega)) hg
theorem toGo_next {s : Sp} (hg : Good p s) (h21 : ¬ (at_ p s.pc).op = 21) (hj : ¬ Jmp p s.pc) : toGo p s = 1 + toGo p (nx p s false) := by
  have h1 := (V_step hF hn (S := srM) (h := kM) (fun j _ => oM_eq srM p kM j) hC hg h21)
  have h2 := toGo_pos hF hn hC (h1.2 false)
  unfold toGo at h2 ⊢
  rw [h1.1, if_neg hj]
  show both1 1 _ = _
  unfold both1
  rw [if_neg (by omega)]
theorem toGo_two {s : Sp} (hg : Good p s) (h21 : ¬ (at_ p s.pc).op = 21) (hj : Jmp p s.pc) : toGo p s = 1 + max (toGo p (nx p s false)) (toGo p (nx p s true)) := by
  have h1 := (V_step hF hn (S := srM) (h := kM) (fun j _ => oM_eq srM p kM j) hC hg h21)
  have h2 := toGo_pos hF hn hC (h1.2 false)
  have h3 := toGo_pos hF hn hC (h1.2 true)
  unfold toGo at h2 h3 ⊢
  rw [h1.1, if_pos hj]
  show both1 1 (max _ _) = _
  unfold both1
  rw [if_neg (by omega)]
theorem toGo_fall {s : Sp} (hg : Good p s) (h21 : ¬ (at_ p s.pc).op = 21) (j : Bool) : toGo p (nx p s j) < toGo p s := by
  by_cases hj : Jmp p s.pc
  · rw [toGo_two hF hn hC hg h21 hj]
    cases j <;> omega
  · rw [toGo_next hF hn hC hg h21 hj, nx_one hF hn hg.pc hj j]
    omega
theorem fall_wk (ch : List Bool) {n : Nat} (h : NoD p ch n) (h21 : ¬ (at_ p (wk p ch n).1.pc).op = 21) : toGo p (wk p ch (n + 1)).1 < toGo p (wk p ch n).1 := by
  have hg := good_wk hF hn hC ch h
  rw [wk, wkN]
  split
  · exact toGo_fall hF hn hC hg h21 _
  · exact toGo_fall hF hn hC hg h21 _
/-- each walk comes to a Done -/
theorem wk_ends (ch : List Bool) : ∃ n, NoD p ch n ∧ (at_ p (wk p ch n).1.pc).op = 21 := by
  have key : ∀ (M : Nat) (i : Nat), NoD p ch i → toGo p (wk p ch i).1 < M → ∃ n, NoD p ch n ∧ (at_ p (wk p ch n).1.pc).op = 21 := by
    intro M
    induction M with
    | zero =>
      intro i hi h
      have := toGo_pos hF hn hC (good_wk hF hn hC ch hi)
      omega
    | succ M ih =>
      intro i hi h
      by_cases h21 : (at_ p (wk p ch i).1.pc).op = 21
      · exact ⟨i, hi, h21⟩
      · have hf := fall_wk hF hn hC ch hi h21
        exact ih (i + 1) (hi.succ h21) (by omega)
  exact key ((toGo p (wk p ch 0).1).toNat + 1) 0 (fun i hi => by omega) (by have := toGo_pos hF hn hC (good_wk hF hn hC ch (n := 0) (fun i hi => by omega)); omega)
end
end Go.Proofs.YtnlndkpjfgpodaaDoor.Wk
