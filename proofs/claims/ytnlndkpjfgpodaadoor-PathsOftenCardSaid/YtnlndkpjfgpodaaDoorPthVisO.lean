/-

  No walk comes to a place more often than Often tells (chapter 11).
-/
import Derived.Test.YtnlndkpjfgpodaaDoorWlkEnd
import Derived.Test.YtnlndkpjfgpodaaDoorPthOften
import Derived.Test.YtnlndkpjfgpodaaDoorWlkCnt
section
set_option linter.unusedSimpArgs false
set_option linter.unusedVariables false
set_option linter.unusedSectionVars false
namespace Go.Proofs.YtnlndkpjfgpodaaDoor.Wk
open Fp (Ins at_ Fine check loopsL hasB nextL lp has_iff)
open Cs (spn spn_lt spn_top spn_in lp_in lp_back lp_spn back_last last_back)

/-- how often one may come to x, by the first loops -/
def piN (p : List Ins) (x : Int) : Nat → Int
  | 0 => 1
  | n + 1 => if hasB (lp (loopsL p) n) x = true then piN p x n * ((at_ p (lp (loopsL p) n).2.toNat).c + 1) else piN p x n
def kX (x : Nat) (k : Nat) : Mx := ⟨if k = x then 1 else 0, by split <;> decide⟩
def bX (p : List Ins) (x : Int) (n : Nat) (k : Int) : Int := if k ≤ x ∧ x ≤ (spn p n).2 then piN p x n else 0
/-- neither what goes through nor what ends weighs more -/
structure Bd (w : Wg Mx) (b : Int) : Prop where
  t : w.thru.1 ≤ b
  f : w.fin.1 ≤ b
theorem Bd.up {w : Wg Mx} {a b : Int} (h : Bd w a) (hab : a ≤ b) : Bd w b := ⟨by have := h.t; omega, by have := h.f; omega⟩
theorem both1_le {a b u v : Int} (h1 : u ≤ a) (h2 : v ≤ b) (h : 0 ≤ a + b) : both1 u v ≤ a + b := by unfold both1; split <;> omega
theorem bd_mul {x y : Wg Mx} {a b : Int} (hx : Bd x a) (hy : Bd y b) (ha : 0 ≤ a) (hb : 0 ≤ b) : Bd (mulW srM x y) (a + b) := by
  refine ⟨both1_le hx.t hy.t (by omega), ?_⟩
  show max x.fin.1 (both1 x.thru.1 y.fin.1) ≤ a + b
  have h1 := both1_le hx.t hy.f (by omega)
  have h2 := hx.f
  omega
theorem bd_pw {x : Wg Mx} {a : Int} (hx : Bd x a) (ha : 0 ≤ a) (n : Nat) : Bd (pw srM x n) ((n : Int) * a) := by
  induction n with
  | zero => exact ⟨by show (0 : Int) ≤ _; omega, by show (-1 : Int) ≤ _; omega⟩
  | succ n ih =>
    have e : ((n + 1 : Nat) : Int) * a = (n : Int) * a + a := by push_cast; rw [Int.add_mul, Int.one_mul]
    rw [e]
    exact bd_mul ih hx (Int.mul_nonneg (by omega) ha) ha
theorem bd_zero {b : Int} (hb : 0 ≤ b) : Bd (zeroW srM) b := ⟨by show (-1 : Int) ≤ b; omega, by show (-1 : Int) ≤ b; omega⟩
theorem bd_add {x y : Wg Mx} {b : Int} (hx : Bd x b) (hy : Bd y b) : Bd (addW srM x y) b := by
  refine ⟨?_, ?_⟩
  · show max x.thru.1 y.thru.1 ≤ b
    have := hx.t; have := hy.t; omega
  · show max x.fin.1 y.fin.1 ≤ b
    have := hx.f; have := hy.f; omega
theorem bd_sum {b : Int} (hb : 0 ≤ b) : ∀ l : List (Wg Mx), (∀ y ∈ l, Bd y b) → Bd (sumW srM l) b
  | [], _ => bd_zero hb
  | y :: l, h => bd_add (h y (List.mem_cons_self ..)) (bd_sum hb l fun z hz => h z (List.mem_cons_of_mem _ hz))
theorem bd_sc {k : Mx} {x : Wg Mx} {b : Int} (hk : 0 ≤ k.1) (hx : Bd x b) (hb : 0 ≤ b) : Bd (sc srM k x) (k.1 + b) :=
  ⟨both1_le (Int.le_refl _) hx.t (by omega), both1_le (Int.le_refl _) hx.f (by omega)⟩
theorem kX_nn (x k : Nat) : 0 ≤ (kX x k).1 := by show 0 ≤ (if k = x then (1 : Int) else 0); split <;> omega
theorem kX_at (x : Nat) : (kX x x).1 = 1 := if_pos rfl
theorem kX_off {x k : Nat} (h : k ≠ x) : (kX x k).1 = 0 := if_neg h
section
variable {p : List Ins} {right : Ins → Bool} (hF : Fine right p) (hn : ∀ j, j < p.length → 0 ≤ (at_ p j).n) (hC : ∀ j, j < (loopsL p).length → 0 ≤ (at_ p (lp (loopsL p) j).2.toNat).c)
include hF hn hC
omit hF hn in
theorem pi_pos (x : Int) : ∀ n, n ≤ (loopsL p).length → 1 ≤ piN p x n := by
  intro n
  induction n with
  | zero => intro _; show (1 : Int) ≤ 1; omega
  | succ n ih =>
    intro h
    have h1 := ih (by omega)
    have h2 := hC n (by omega)
    show 1 ≤ (if hasB (lp (loopsL p) n) x = true then piN p x n * ((at_ p (lp (loopsL p) n).2.toNat).c + 1) else piN p x n)
    split
    · have : 1 * 1 ≤ piN p x n * ((at_ p (lp (loopsL p) n).2.toNat).c + 1) := Int.mul_le_mul h1 (by omega) (by omega) (by omega)
      omega
    · exact h1
omit hF hn in
theorem pi_succ (x : Int) {n : Nat} (h : n < (loopsL p).length) : piN p x n ≤ piN p x (n + 1) := by
  have h1 := pi_pos hC x n (by omega)
  have h2 := hC n h
  show piN p x n ≤ (if hasB (lp (loopsL p) n) x = true then piN p x n * ((at_ p (lp (loopsL p) n).2.toNat).c + 1) else piN p x n)
  split
  · have : piN p x n * 1 ≤ piN p x n * ((at_ p (lp (loopsL p) n).2.toNat).c + 1) := Int.mul_le_mul (Int.le_refl _) (by omega) (by omega) (by omega)
    omega
  · exact Int.le_refl _
omit hF hn in
theorem pi_mono (x : Int) {m n : Nat} (hmn : m ≤ n) (h : n ≤ (loopsL p).length) : piN p x m ≤ piN p x n := by
  induction n with
  | zero => have : m = 0 := by omega
            subst this; exact Int.le_refl _
  | succ n ih =>
    rcases Nat.lt_or_ge n m with h1 | h1
    · have : m = n + 1 := by omega
      subst this; exact Int.le_refl _
    · have := ih h1 (by omega)
      have := pi_succ hC x (n := n) (by omega)
      omega
omit hF hn in
theorem bX_nn (x : Int) {n : Nat} (h : n ≤ (loopsL p).length) (k : Int) : 0 ≤ bX p x n k := by
  have := pi_pos hC x n h
  unfold bX
  split <;> omega
omit hF hn in
theorem bX_le (x : Int) {n : Nat} (h : n ≤ (loopsL p).length) {k t : Int} (hkt : k ≤ t) : bX p x n t ≤ bX p x n k := by
  have := pi_pos hC x n h
  unfold bX
  repeat' split
  all_goals omega
/-- what comes to x in a part, from a place on -/
theorem bd_G (x : Nat) (n : Nat) : n ≤ (loopsL p).length → ∀ d k : Nat, (spn p n).2 + 1 - k ≤ d → (spn p n).1 ≤ k → (k : Int) ≤ (spn p n).2 → Bd (G srM p (kX x) (oM srM p (kX x)) n k) (bX p x n k) := by
  induction n using Nat.strongRecOn with
  | ind n ihn =>
    intro hN d
    induction d with
    | zero => intro k h0 h1 h2; omega
    | succ d ihd =>
      intro k h0 h1 h2
      have hs := spn_in hF hn n hN
      have hkl : k < p.length := by omega
      rcases lastJ_cases p n k with ⟨_, hno⟩ | ⟨j, e, hj, hb, hl⟩
      · rw [G_plain hF hn hN h1 h2 hno]
        have hk0 := kX_nn x k
        have hb0 := bX_nn hC x hN k
        have hbk : (kX x k).1 ≤ bX p x n k := by
          by_cases hkx : k = x
          · subst hkx
            rw [kX_at]
            have := pi_pos hC k n hN
            unfold bX
            rw [if_pos ⟨Int.le_refl _, h2⟩]
            omega
          · rw [kX_off hkx]; exact hb0
        split
        · exact ⟨by show (-1 : Int) ≤ _; omega, hbk⟩
        · split
          · exact ⟨hbk, by show (-1 : Int) ≤ _; omega⟩
          · rename_i h21 hlast
            have hgo : ∀ t ∈ nextL p k, (k : Int) < t ∧ t ≤ (spn p n).2 := fun t ht => part_edge hF hn hN hkl h1 (by omega) hno ht
            by_cases hkx : k = x
            · have hz : Bd (sumW srM ((nextL p k).map fun t => G srM p (kX x) (oM srM p (kX x)) n t.toNat)) 0 := by
                refine bd_sum (Int.le_refl _) _ fun y hy => ?_
                obtain ⟨t, ht, rfl⟩ := List.mem_map.1 hy
                have hg := hgo t ht
                refine (ihd t.toNat (by omega) (by omega) (by omega)).up ?_
                unfold bX
                rw [if_neg (by omega)]
                exact Int.le_refl _
              exact (bd_sc hk0 hz (Int.le_refl _)).up (by omega)
            · have hz : Bd (sumW srM ((nextL p k).map fun t => G srM p (kX x) (oM srM p (kX x)) n t.toNat)) (bX p x n k) := by
                refine bd_sum hb0 _ fun y hy => ?_
                obtain ⟨t, ht, rfl⟩ := List.mem_map.1 hy
                have hg := hgo t ht
                exact (ihd t.toNat (by omega) (by omega) (by omega)).up (bX_le hC x hN (by omega))
              exact (bd_sc hk0 hz hb0).up (by rw [kX_off hkx]; omega)
      · by_cases hk : (k : Int) = (lp (loopsL p) j).1
        · rw [G_loop hF hn hN h1 h2 hj hb hl hk]
          have hjl : j < (loopsL p).length := by omega
          have hli := lp_in hF hn hjl
          have hal := after_loop hF hn hj hN
          have hcj := hC j hjl
          have ho : Bd (oM srM p (kX x) j) (bX p x j (lp (loopsL p) j).1) := by
            rw [oM_eq]
            have := ihn j hj (by omega) ((spn p j).2 + 1 - (lp (loopsL p) j).1).toNat (lp (loopsL p) j).1.toNat (by rw [spn_lt hjl]; omega) (by rw [spn_lt hjl]; omega) (by rw [spn_lt hjl]; omega)
            have e2 : (((lp (loopsL p) j).1.toNat : Nat) : Int) = (lp (loopsL p) j).1 := by omega
            rw [e2] at this
            exact this
          have hg := ihd ((lp (loopsL p) j).2 + 1).toNat (by omega) (by omega) (by omega)
          have hrp : Bd (rp srM p (oM srM p (kX x)) j) (((at_ p (lp (loopsL p) j).2.toNat).c + 1) * bX p x j (lp (loopsL p) j).1) := by
            have := bd_pw ho (bX_nn hC x (by omega) _) ((at_ p (lp (loopsL p) j).2.toNat).c + 1).toNat
            have e2 : ((((at_ p (lp (loopsL p) j).2.toNat).c + 1).toNat : Nat) : Int) = (at_ p (lp (loopsL p) j).2.toNat).c + 1 := by omega
            rw [e2] at this
            exact this
          have hbj := bX_nn hC x (n := j) (by omega) (lp (loopsL p) j).1
          refine (bd_mul hrp hg (Int.mul_nonneg (by omega) hbj) (bX_nn hC x hN _)).up ?_
          have e3 : ((((lp (loopsL p) j).2 + 1).toNat : Nat) : Int) = (lp (loopsL p) j).2 + 1 := by omega
          rw [e3, hk]
          have hpn := pi_pos hC x n hN
          by_cases hx : (lp (loopsL p) j).1 ≤ (x : Int) ∧ (x : Int) ≤ (lp (loopsL p) j).2
          · have e4 : bX p x n ((lp (loopsL p) j).2 + 1) = 0 := if_neg (by omega)
            have e5 : bX p x j (lp (loopsL p) j).1 = piN p x j := if_pos (by rw [spn_lt hjl]; exact hx)
            have e6 : bX p x n (lp (loopsL p) j).1 = piN p x n := if_pos ⟨hx.1, by omega⟩
            have e7 : piN p x (j + 1) = piN p x j * ((at_ p (lp (loopsL p) j).2.toNat).c + 1) := if_pos (has_iff.2 hx)
            have h8 := pi_mono hC x (m := j + 1) (n := n) (by omega) hN
            rw [e4, e5, e6, Int.mul_comm, ← e7]
            omega
          · have e5 : bX p x j (lp (loopsL p) j).1 = 0 := if_neg (by rw [spn_lt hjl]; exact hx)
            rw [e5, Int.mul_zero, Int.zero_add]
            exact bX_le hC x hN (by omega)
        · have e2 : G srM p (kX x) (oM srM p (kX x)) n k = zeroW srM := by
            rw [G_eq hF hn hN h1 h2]
            unfold stepG
            rw [e]
            simp only
            rw [if_neg hk]
          rw [e2]
          exact bd_zero (bX_nn hC x hN _)
/-- how often a state may yet come to x -/
def visV (p : List Ins) (x : Nat) (s : Sp) : Int := (V srM p (kX x) (oM srM p (kX x)) s).1
theorem vis_pos (x : Nat) {s : Sp} (hg : Good p s) : 0 ≤ visV p x s := live_V hF hn nzM (h := kX x) (fun k _ => kX_nn x k) (fun j _ => oM_eq srM p (kX x) j) (fun h => absurd (show (0 : Int) ≤ -1 from h) (by omega)) hg
theorem vis_start (x : Nat) : visV p x Sp0 ≤ piN p x (loopsL p).length := by
  unfold visV
  rw [V_start hF hn (fun j _ => oM_eq srM p (kX x) j) hC]
  have hs := hF.size
  have h1 := (bd_G hF hn hC x (loopsL p).length (Nat.le_refl _) p.length 0 (by rw [spn_top]; simp only; omega) (by rw [spn_top]; exact Int.le_refl _) (by rw [spn_top]; simp only; omega)).f
  have h2 := pi_pos hC x (loopsL p).length (Nat.le_refl _)
  have h3 : bX p x (loopsL p).length ((0 : Nat) : Int) ≤ piN p x (loopsL p).length := by unfold bX; split <;> omega
  omega
theorem vis_next (x : Nat) {s : Sp} (hg : Good p s) (h21 : ¬ (at_ p s.pc).op = 21) (j : Bool) : (kX x s.pc).1 + visV p x (nx p s j) ≤ visV p x s := by
  have h1 := V_step hF hn (S := srM) (h := kX x) (fun j _ => oM_eq srM p (kX x) j) hC hg h21
  have h2 := vis_pos hF hn hC x (h1.2 false)
  have h3 := vis_pos hF hn hC x (h1.2 true)
  have h0 := kX_nn x s.pc
  by_cases hj : Jmp p s.pc
  · have e : visV p x s = both1 (kX x s.pc).1 (max (visV p x (nx p s false)) (visV p x (nx p s true))) := by
      unfold visV
      rw [h1.1, if_pos hj]
      rfl
    rw [e]
    unfold both1
    rw [if_neg (by omega)]
    cases j <;> omega
  · have e : visV p x s = both1 (kX x s.pc).1 (visV p x (nx p s false)) := by
      unfold visV
      rw [h1.1, if_neg hj]
      rfl
    rw [e, nx_one hF hn hg.pc hj j]
    unfold both1
    rw [if_neg (by omega)]
    exact Int.le_refl _
theorem vis_here (x : Nat) {s : Sp} (hg : Good p s) : (kX x s.pc).1 ≤ visV p x s := by
  by_cases h21 : (at_ p s.pc).op = 21
  · unfold visV
    rw [V_done hF hn (fun j _ => oM_eq srM p (kX x) j) hC hg h21]
    exact Int.le_refl _
  · have h1 := vis_next hF hn hC x hg h21 false
    have h2 := V_step hF hn (S := srM) (h := kX x) (fun j _ => oM_eq srM p (kX x) j) hC hg h21
    have h3 := vis_pos hF hn hC x (h2.2 false)
    omega
omit hF hn hC in
/-- how often the first places of a walk are x -/
def visN (p : List Ins) (ch : List Bool) (x : Nat) : Nat → Int
  | 0 => 0
  | n + 1 => visN p ch x n + (kX x (wk p ch n).1.pc).1
theorem vis_pre (x : Nat) (ch : List Bool) {n : Nat} (h : NoD p ch n) : visN p ch x n + visV p x (wk p ch n).1 ≤ piN p x (loopsL p).length := by
  induction n with
  | zero =>
    have := vis_start hF hn hC x
    show 0 + visV p x Sp0 ≤ _
    omega
  | succ n ih =>
    have hN : NoD p ch n := fun i hi => h i (by omega)
    have h1 := ih hN
    have hg := good_wk hF hn hC ch hN
    have h2 : (kX x (wk p ch n).1.pc).1 + visV p x (wk p ch (n + 1)).1 ≤ visV p x (wk p ch n).1 := by
      rw [wk, wkN]
      split
      · exact vis_next hF hn hC x hg (h n (by omega)) _
      · exact vis_next hF hn hC x hg (h n (by omega)) _
    show visN p ch x n + (kX x (wk p ch n).1.pc).1 + _ ≤ _
    omega
/-- no walk, nor any beginning of one, comes to x more often -/
theorem vis_walk (x : Nat) (ch : List Bool) {n : Nat} (h : NoD p ch (n - 1)) : visN p ch x n ≤ piN p x (loopsL p).length := by
  cases n with
  | zero =>
    have := pi_pos hC x (loopsL p).length (Nat.le_refl _)
    show (0 : Int) ≤ _
    omega
  | succ n =>
    have hN : NoD p ch n := h
    have h1 := vis_pre hF hn hC x ch hN
    have h2 := vis_here hF hn hC x (good_wk hF hn hC ch hN)
    show visN p ch x n + (kX x (wk p ch n).1.pc).1 ≤ _
    omega
omit hF hn hC in
theorem vis_le (ch : List Bool) (x n : Nat) : 0 ≤ visN p ch x n ∧ visN p ch x n ≤ n := by
  induction n with
  | zero => exact ⟨Int.le_refl _, Int.le_refl _⟩
  | succ n ih =>
    have h1 : 0 ≤ (kX x (wk p ch n).1.pc).1 ∧ (kX x (wk p ch n).1.pc).1 ≤ 1 := by
      show 0 ≤ (if _ = x then (1 : Int) else 0) ∧ (if _ = x then (1 : Int) else 0) ≤ 1
      split <;> omega
    show 0 ≤ visN p ch x n + _ ∧ visN p ch x n + _ ≤ _
    omega
end
end Go.Proofs.YtnlndkpjfgpodaaDoor.Wk
end
section
set_option linter.unusedSimpArgs false
set_option linter.unusedVariables false
namespace Go.Proofs.YtnlndkpjfgpodaaDoor.Pt
open Go.Proofs.YtnlndkpjfgpodaaDoor.Fp (Ins at_ lp loopsL hasB)
open Go.Proofs.YtnlndkpjfgpodaaDoor.Fw (okB okB_fine)
open Go.Proofs.YtnlndkpjfgpodaaDoor.Wd (mulv)
open Wk
theorem oft_pi {p : List Ins} (h : okB p = true) (hn : ∀ j, j < p.length → 0 ≤ (at_ p j).n) (x : Int) : ∀ n, n ≤ (loopsL p).length → oftF p x ((loopsL p).take n) = min (piN p x n) 1099511627776 := by
  have hC : ∀ j, j < (loopsL p).length → 0 ≤ (at_ p (lp (loopsL p) j).2.toNat).c := fun j hj => (loop_at h hn hj).2.2.2.1
  intro n
  induction n with
  | zero => intro _; rfl
  | succ n ih =>
    intro hN
    have h1 := pi_pos hC x n (by omega)
    have h2 := loop_at h hn (k := n) (by omega)
    rw [oftF_take p x (by omega), ih (by omega)]
    show _ = min (if hasB (lp (loopsL p) n) x = true then piN p x n * ((at_ p (lp (loopsL p) n).2.toNat).c + 1) else piN p x n) 1099511627776
    by_cases hb : hasB (lp (loopsL p) n) x = true
    · rw [if_pos hb, if_pos hb, mul_is ⟨by omega, by omega⟩ ⟨by omega, by omega⟩, Int.mul_comm, cut_mul (by omega) (by omega), Int.mul_comm]
    · rw [if_neg hb, if_neg hb]
theorem vis_often {p : List Ins} (h : okB p = true) (hn : ∀ j, j < p.length → 0 ≤ (at_ p j).n) (ch : List Bool) {x n : Nat} (hx : x < p.length) (hnb : n ≤ 2000) (hd : NoD p ch (n - 1)) : visN p ch x n ≤ oftenI p x := by
  have hC : ∀ j, j < (loopsL p).length → 0 ≤ (at_ p (lp (loopsL p) j).2.toNat).c := fun j hj => (loop_at h hn hj).2.2.2.1
  have h1 := vis_walk (okB_fine h) hn hC x ch hd
  have h2 := vis_le ch x n (p := p)
  have h3 := oft_pi h hn x (loopsL p).length (Nat.le_refl _)
  rw [List.take_length] at h3
  have h4 : oftenI p x = oftF p x (loopsL p) := if_pos ⟨h, by omega, by omega⟩
  rw [h4, h3]
  omega
end Go.Proofs.YtnlndkpjfgpodaaDoor.Pt
end
