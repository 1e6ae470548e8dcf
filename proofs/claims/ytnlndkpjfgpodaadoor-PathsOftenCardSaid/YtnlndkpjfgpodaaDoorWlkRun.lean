/-
  The walk of given choices (chapter 11): plain.
-/
import Derived.Test.YtnlndkpjfgpodaaDoorWlkCost
set_option linter.unusedSimpArgs false
set_option linter.unusedVariables false
set_option linter.unusedSectionVars false
namespace Go.Proofs.YtnlndkpjfgpodaaDoor.Wk
open Fp (Ins at_ Fine check loopsL hasB nextL lp has_iff)

/-- the next state, and how many choices were made -/
def wkN (p : List Ins) (ch : List Bool) (x : Sp × Nat) : Sp × Nat := if (at_ p x.1.pc).op = 15 then (nx p x.1 (ch.getD x.2 false), x.2 + 1) else (nx p x.1 false, x.2)
def wk (p : List Ins) (ch : List Bool) : Nat → Sp × Nat
  | 0 => (Sp0, 0)
  | i + 1 => wkN p ch (wk p ch i)
def pcs (p : List Ins) (ch : List Bool) (n : Nat) : List Int := (List.range n).map fun i => ((wk p ch i).1.pc : Int)
theorem pcs_len (p : List Ins) (ch : List Bool) (n : Nat) : (pcs p ch n).length = n := by simp [pcs]
theorem pcs_succ (p : List Ins) (ch : List Bool) (n : Nat) : pcs p ch (n + 1) = pcs p ch n ++ [((wk p ch n).1.pc : Int)] := by
  unfold pcs
  rw [List.range_succ, List.map_append]
  rfl
theorem pcs_at (p : List Ins) (ch : List Bool) {n i : Nat} (h : i < n) : (pcs p ch n)[i]? = some ((wk p ch i).1.pc : Int) := by
  unfold pcs
  rw [List.getElem?_map, List.getElem?_range h]
  rfl
theorem wk_num (p : List Ins) (ch : List Bool) (i : Nat) : (wk p ch i).2 ≤ i := by
  induction i with
  | zero => exact Nat.le_refl _
  | succ i ih =>
    rw [wk, wkN]
    split <;> simp only <;> omega
/-- nobody of the first ones is a Done -/
def NoD (p : List Ins) (ch : List Bool) (n : Nat) : Prop := ∀ i, i < n → ¬ (at_ p (wk p ch i).1.pc).op = 21
theorem NoD.succ {p : List Ins} {ch : List Bool} {n : Nat} (h : NoD p ch n) (h1 : ¬ (at_ p (wk p ch n).1.pc).op = 21) : NoD p ch (n + 1) := fun i hi => by
  rcases Nat.lt_or_ge i n with h2 | h2
  · exact h i h2
  · have : i = n := by omega
    subst this; exact h1
section
variable {p : List Ins} {right : Ins → Bool} (hF : Fine right p) (hn : ∀ j, j < p.length → 0 ≤ (at_ p j).n)
include hF hn
theorem good_nx (hC : ∀ j, j < (loopsL p).length → 0 ≤ (at_ p (lp (loopsL p) j).2.toNat).c) {s : Sp} (hg : Good p s) (h21 : ¬ (at_ p s.pc).op = 21) (j : Bool) : Good p (nx p s j) :=
  (V_step hF hn (S := srB _ bt_gt) (h := hW []) (oW_G bt_gt hF hn []) hC hg h21).2 j
theorem good_wk (hC : ∀ j, j < (loopsL p).length → 0 ≤ (at_ p (lp (loopsL p) j).2.toNat).c) (ch : List Bool) {n : Nat} (h : NoD p ch n) : Good p (wk p ch n).1 := by
  induction n with
  | zero => exact good_start hF hn hC
  | succ n ih =>
    have hg := ih fun i hi => h i (by omega)
    rw [wk, wkN]
    split
    · exact good_nx hF hn hC hg (h n (by omega)) _
    · exact good_nx hF hn hC hg (h n (by omega)) _
omit hn in
theorem good_back (hC : ∀ k, k < p.length → (at_ p k).op = 16 → 0 ≤ (at_ p k).c ∧ (at_ p k).c < 1099511627776) {s : Sp} (hg : Good p s) (h16 : (at_ p s.pc).op = 16) : 0 ≤ s.tn s.pc ∧ s.tn s.pc < 1099511627776 := by
  obtain ⟨j, hj, he⟩ := Cs.mem_lp (Fp.loopsTo_has hg.pc h16)
  have h1 := hg.lo j hj
  have h2 : (lp (loopsL p) j).2.toNat = s.pc := by rw [← he]; simp
  rw [h2] at h1
  have := hC s.pc hg.pc h16
  omega
end
end Go.Proofs.YtnlndkpjfgpodaaDoor.Wk
