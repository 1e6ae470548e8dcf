/-
  What a walk of given choices weighs, against what the best walks weigh (chapter 12): plain.
-/
import Derived.Test.YtnlndkpjfgpodaaDoorWlkRun
set_option linter.unusedSimpArgs false
set_option linter.unusedVariables false
set_option linter.unusedSectionVars false
namespace Go.Proofs.YtnlndkpjfgpodaaDoor.Wk
open Fp (Ins at_ Fine check loopsL hasB nextL lp has_iff)
open Cs (Ok clI adI bestI bothI weighW btG ok_cl)

/-- what places weigh, one behind the other -/
def sumL (w : List Int) (l : List Int) : Int := l.foldl (fun s k => adI s (w.getD k.toNat 0)) 0
theorem sumL_snoc (w l : List Int) (k : Int) : sumL w (l ++ [k]) = adI (sumL w l) (w.getD k.toNat 0) := by unfold sumL; rw [List.foldl_append]; rfl
theorem sumL_in (w l : List Int) : 0 ≤ sumL w l ∧ sumL w l ≤ 1099511627776 := by
  unfold sumL
  have : ∀ (l : List Int) (s : Int), 0 ≤ s ∧ s ≤ 1099511627776 → 0 ≤ l.foldl (fun s k => adI s (w.getD k.toNat 0)) s ∧ l.foldl (fun s k => adI s (w.getD k.toNat 0)) s ≤ 1099511627776 := by
    intro l
    induction l with
    | nil => intro s h; exact h
    | cons k l ih => intro s h; exact ih _ (by show 0 ≤ adI s _ ∧ adI s _ ≤ _; unfold adI; omega)
  exact this l 0 (by omega)
theorem sum_next (p : List Ins) (w : List Int) (ch : List Bool) (n : Nat) : sumL w (pcs p ch (n + 1)) = adI (sumL w (pcs p ch n)) (w.getD (wk p ch n).1.pc 0) := by
  rw [pcs_succ, sumL_snoc]
  rfl
section
variable {p : List Ins} {right : Ins → Bool} (hF : Fine right p) (hn : ∀ j, j < p.length → 0 ≤ (at_ p j).n) (hC : ∀ j, j < (loopsL p).length → 0 ≤ (at_ p (lp (loopsL p) j).2.toNat).c)
include hF hn hC
/-- one step: what is to come is what lies here and the best of what comes behind -/
theorem VB_step {bt : Int → Int → Bool} (hb : Bt bt) (w : List Int) {s : Sp} (hg : Good p s) (h21 : ¬ (at_ p s.pc).op = 21) :
    (V (srB bt hb) p (hW w) (oW bt p w) s).1 = bothI (clI (w.getD s.pc 0)) (if Jmp p s.pc then bestI bt (V (srB bt hb) p (hW w) (oW bt p w) (nx p s false)).1 (V (srB bt hb) p (hW w) (oW bt p w) (nx p s true)).1 else (V (srB bt hb) p (hW w) (oW bt p w) (nx p s false)).1) := by
  rw [(V_step hF hn (oW_G hb hF hn w) hC hg h21).1]
  show bothI _ _ = bothI _ _
  congr 1
  split <;> rfl
theorem VB_done {bt : Int → Int → Bool} (hb : Bt bt) (w : List Int) {s : Sp} (hg : Good p s) (h21 : (at_ p s.pc).op = 21) : (V (srB bt hb) p (hW w) (oW bt p w) s).1 = clI (w.getD s.pc 0) := by
  rw [V_done hF hn (oW_G hb hF hn w) hC hg h21]
  rfl
theorem VG_next (w : List Int) {s : Sp} (hg : Good p s) (h21 : ¬ (at_ p s.pc).op = 21) (j : Bool) :
    min (clI (w.getD s.pc 0) + (V (srB btG bt_gt) p (hW w) (oW btG p w) (nx p s j)).1) 1099511627776 ≤ (V (srB btG bt_gt) p (hW w) (oW btG p w) s).1 := by
  rw [VB_step hF hn hC bt_gt w hg h21]
  have h0 := V_pos bt_gt hF hn w (good_nx hF hn hC hg h21 false)
  have h1 := V_pos bt_gt hF hn w (good_nx hF hn hC hg h21 true)
  by_cases hj : Jmp p s.pc
  · rw [if_pos hj, bt_max _ _ (.inr h0) (.inr h1)]
    cases j <;> (unfold bothI adI clI; split <;> omega)
  · rw [if_neg hj]
    rw [nx_one hF hn hg.pc hj j]
    unfold bothI adI clI
    split <;> omega
theorem VL_next (w : List Int) {s : Sp} (hg : Good p s) (h21 : ¬ (at_ p s.pc).op = 21) (j : Bool) :
    (V (srB btL bt_lt) p (hW w) (oW btL p w) s).1 ≤ min (clI (w.getD s.pc 0) + (V (srB btL bt_lt) p (hW w) (oW btL p w) (nx p s j)).1) 1099511627776 := by
  rw [VB_step hF hn hC bt_lt w hg h21]
  have h0 := V_pos bt_lt hF hn w (good_nx hF hn hC hg h21 false)
  have h1 := V_pos bt_lt hF hn w (good_nx hF hn hC hg h21 true)
  by_cases hj : Jmp p s.pc
  · rw [if_pos hj, bt_min _ _ (.inr h0) (.inr h1)]
    cases j <;> (unfold minN bothI adI clI; repeat' split) <;> omega
  · rw [if_neg hj]
    rw [nx_one hF hn hg.pc hj j]
    unfold bothI adI clI
    split <;> omega
theorem V_here {bt : Int → Int → Bool} (hb : Bt bt) (w : List Int) {s : Sp} (hg : Good p s) : clI (w.getD s.pc 0) ≤ (V (srB bt hb) p (hW w) (oW bt p w) s).1 := by
  by_cases h21 : (at_ p s.pc).op = 21
  · rw [VB_done hF hn hC hb w hg h21]; exact Int.le_refl _
  · have h0 := V_pos hb hF hn w hg
    rw [VB_step hF hn hC hb w hg h21] at h0 ⊢
    generalize (if Jmp p s.pc then _ else _) = x at *
    unfold bothI adI clI at *
    split <;> rename_i h
    · rw [if_pos h] at h0; omega
    · rw [if_neg h] at h0; omega
theorem max_pre (w : List Int) (ch : List Bool) {n : Nat} (h : NoD p ch n) : min (sumL w (pcs p ch n) + (V (srB btG bt_gt) p (hW w) (oW btG p w) (wk p ch n).1).1) 1099511627776 ≤ weighW btG p w := by
  rw [weigh_V bt_gt hF hn hC w]
  induction n with
  | zero =>
    have h0 := V_pos bt_gt hF hn w (good_start hF hn hC)
    show min (sumL w [] + _) _ ≤ _
    show min (0 + (V (srB btG bt_gt) p (hW w) (oW btG p w) Sp0).1) _ ≤ _
    omega
  | succ n ih =>
    have hN : NoD p ch n := fun i hi => h i (by omega)
    have h1 := ih hN
    have hg := good_wk hF hn hC ch hN
    have h2 : ∃ j, (wk p ch (n + 1)).1 = nx p (wk p ch n).1 j := by
      rw [wk, wkN]
      split
      · exact ⟨_, rfl⟩
      · exact ⟨_, rfl⟩
    obtain ⟨j, h2⟩ := h2
    have h3 := VG_next hF hn hC w hg (h n (by omega)) j
    rw [← h2] at h3
    rw [sum_next]
    have h4 := sumL_in w (pcs p ch n)
    have h5 := V_pos bt_gt hF hn w (good_wk hF hn hC ch h)
    unfold adI
    unfold clI at h3
    omega
theorem min_pre (w : List Int) (ch : List Bool) {n : Nat} (h : NoD p ch n) : weighW btL p w ≤ min (sumL w (pcs p ch n) + (V (srB btL bt_lt) p (hW w) (oW btL p w) (wk p ch n).1).1) 1099511627776 := by
  rw [weigh_V bt_lt hF hn hC w]
  induction n with
  | zero =>
    have h0 := V_pos bt_lt hF hn w (good_start hF hn hC)
    show _ ≤ min (0 + (V (srB btL bt_lt) p (hW w) (oW btL p w) Sp0).1) _
    omega
  | succ n ih =>
    have hN : NoD p ch n := fun i hi => h i (by omega)
    have h1 := ih hN
    have hg := good_wk hF hn hC ch hN
    have h2 : ∃ j, (wk p ch (n + 1)).1 = nx p (wk p ch n).1 j := by
      rw [wk, wkN]
      split
      · exact ⟨_, rfl⟩
      · exact ⟨_, rfl⟩
    obtain ⟨j, h2⟩ := h2
    have h3 := VL_next hF hn hC w hg (h n (by omega)) j
    rw [← h2] at h3
    rw [sum_next]
    have h4 := sumL_in w (pcs p ch n)
    have h5 := V_pos bt_lt hF hn w (good_wk hF hn hC ch h)
    unfold adI
    unfold clI at h3
    omega
/-- no walk, nor any beginning of one, weighs more than the dearest -/
theorem max_walk (w : List Int) (ch : List Bool) {n : Nat} (h : NoD p ch (n - 1)) : sumL w (pcs p ch n) ≤ weighW btG p w := by
  cases n with
  | zero =>
    have h1 := max_pre hF hn hC w ch (n := 0) (fun i hi => by omega)
    have h0 := V_pos bt_gt hF hn w (good_wk hF hn hC ch (n := 0) (fun i hi => by omega))
    have h2 := sumL_in w (pcs p ch 0)
    omega
  | succ n =>
    have hN : NoD p ch n := h
    have h1 := max_pre hF hn hC w ch hN
    have h3 := V_here hF hn hC bt_gt w (good_wk hF hn hC ch hN)
    rw [sum_next]
    have h4 := sumL_in w (pcs p ch n)
    unfold adI
    unfold clI at h3
    omega
/-- no walk weighs less than the cheapest -/
theorem min_walk (w : List Int) (ch : List Bool) {n : Nat} (h1 : 1 ≤ n) (h : NoD p ch (n - 1)) (hd : (at_ p (wk p ch (n - 1)).1.pc).op = 21) : weighW btL p w ≤ sumL w (pcs p ch n) := by
  cases n with
  | zero => omega
  | succ n =>
    have hN : NoD p ch n := h
    have h1 := min_pre hF hn hC w ch hN
    have h3 := VB_done hF hn hC bt_lt w (good_wk hF hn hC ch hN) hd
    rw [sum_next]
    have h4 := sumL_in w (pcs p ch n)
    unfold adI
    rw [h3] at h1
    unfold clI at h1
    omega
end
end Go.Proofs.YtnlndkpjfgpodaaDoor.Wk
