/-

  What is seen of all walks, one after the other: how many there are (chapter 11); plain.
-/
import Derived.Test.YtnlndkpjfgpodaaDoorWlkSum
import Derived.Test.YtnlndkpjfgpodaaDoorPthCnt
section
set_option linter.unusedSimpArgs false
set_option linter.unusedVariables false
set_option linter.unusedSectionVars false
namespace Go.Proofs.YtnlndkpjfgpodaaDoor.Wk
open Fp (Ins at_ Fine check loopsL hasB nextL lp has_iff)
open Cs (Ok clI adI bestI bothI weighW btG ok_cl)

/-- how many walks, the dearest, the cheapest, and how many steps may be made yet -/
structure Sn where
  cnt : Int
  mx : Int
  mn : Int
  lf : Int
/-- one walk more, or all from a state on -/
def mxC (x : Sn) (v : Int) : Int := if x.cnt = 0 then v else max x.mx v
def mnC (x : Sn) (v : Int) : Int := if x.cnt = 0 then v else min x.mn v
structure SnOk (x : Sn) : Prop where
  cnt : 0 ≤ x.cnt ∧ x.cnt + x.lf ≤ 1000000
  mx : 0 ≤ x.mx ∧ x.mx ≤ 1099511627776
  mn : 0 ≤ x.mn ∧ x.mn ≤ 1099511627776
  lf : 0 ≤ x.lf
/-- what it came to: either the steps were too few, or all walks are in it -/
structure Told (x : Sn) (g l : Int) (y : Sn) : Prop where
  ok : SnOk y
  lf : y.lf ≤ x.lf
  all : y.lf = 0 ∨ (1 ≤ y.cnt ∧ y.mx = mxC x g ∧ y.mn = mnC x l)
/-- under way: what is left to be seen, with what was seen, comes to the same -/
structure Way (x : Sn) (g l : Int) (y : Sn) (g' l' : Int) : Prop where
  ok : SnOk y
  lf : y.lf ≤ x.lf
  all : y.lf = 0 ∨ (mxC y g' = mxC x g ∧ mnC y l' = mnC x l)
theorem way_start {x : Sn} (h : SnOk x) (g l : Int) : Way x g l x g l := ⟨h, Int.le_refl _, .inr ⟨rfl, rfl⟩⟩
def decS (x : Sn) : Sn := ⟨x.cnt, x.mx, x.mn, x.lf - 1⟩
theorem way_dec {x y : Sn} {g l g' l' : Int} (h : Way x g l y g' l') (h1 : 0 < y.lf) : Way x g l (decS y) g' l' ∧ (mxC y g' = mxC x g ∧ mnC y l' = mnC x l) := by
  have h2 := h.all.resolve_left (by omega)
  have h3 := h.ok
  exact ⟨⟨⟨⟨h3.cnt.1, by have := h3.cnt.2; show y.cnt + (y.lf - 1) ≤ _; omega⟩, h3.mx, h3.mn, by show 0 ≤ y.lf - 1; omega⟩, by have := h.lf; show y.lf - 1 ≤ _; omega, .inr h2⟩, h2⟩
/-- a walk's end -/
def endS (x : Sn) (v : Int) : Sn := ⟨x.cnt + 1, mxC x v, mnC x v, x.lf⟩
theorem way_end {x y : Sn} {g l v : Int} (h : Way x g l y v v) (h1 : 0 < y.lf) (hv : 0 ≤ v ∧ v ≤ 1099511627776) : Told x g l (endS (decS y) v) := by
  obtain ⟨h2, h3, h4⟩ := way_dec h h1
  have h5 := h.ok
  have hlf := h.lf
  refine ⟨⟨⟨?_, ?_⟩, ?_, ?_, ?_⟩, ?_, .inr ⟨?_, h3, h4⟩⟩
  · show 0 ≤ y.cnt + 1; have := h5.cnt; omega
  · show y.cnt + 1 + (y.lf - 1) ≤ _; have := h5.cnt; omega
  · show 0 ≤ mxC (decS y) v ∧ mxC (decS y) v ≤ _
    have := h5.mx
    unfold mxC decS
    simp only
    split <;> omega
  · show 0 ≤ mnC (decS y) v ∧ mnC (decS y) v ≤ _
    have := h5.mn
    unfold mnC decS
    simp only
    split <;> omega
  · show 0 ≤ y.lf - 1; omega
  · show y.lf - 1 ≤ _; omega
  · show 1 ≤ y.cnt + 1; have := h5.cnt; omega
theorem way_told {x y : Sn} {g l g' l' : Int} (h : Way x g l y g' l') (h1 : ¬ 0 < y.lf) : Told x g l y := ⟨h.ok, h.lf, .inl (by have := h.ok.lf; omega)⟩
/-- all walks from one of two states are seen -/
theorem way_two {x y z : Sn} {g l g1 g2 l1 l2 : Int} (h : Way x g l y (max g1 g2) (min l1 l2)) (hz : Told y g2 l2 z) : Way x g l z g1 l1 := by
  refine ⟨hz.ok, by have := hz.lf; have := h.lf; omega, ?_⟩
  have hzl := hz.ok.lf
  rcases hz.all with h1 | ⟨h1, h2, h3⟩
  · exact .inl h1
  · rcases h.all with h4 | ⟨h4, h5⟩
    · have := hz.lf
      exact .inl (by omega)
    · refine .inr ⟨?_, ?_⟩
      · rw [← h4]
        unfold mxC at *
        rw [if_neg (by omega), h2]
        split <;> omega
      · rw [← h5]
        unfold mnC at *
        rw [if_neg (by omega), h3]
        split <;> omega
theorem adI_assoc {a b c : Int} : adI (adI a b) c = adI a (adI b c) := by unfold adI; omega
theorem adI_cl (a b : Int) : adI a b = adI a (clI b) := by unfold adI clI; omega
theorem both_ad {a b : Int} (ha : 0 ≤ a) (hb : 0 ≤ b) : bothI a b = adI a b := by unfold bothI; rw [if_neg (by omega)]
theorem adI_here (sum x v : Int) : adI sum (adI (clI x) v) = adI (adI sum x) v := by rw [adI_cl sum x, adI_assoc]
theorem adI_max (S a b : Int) : adI S (max a b) = max (adI S a) (adI S b) := by unfold adI; omega
theorem adI_min (S a b : Int) : adI S (min a b) = min (adI S a) (adI S b) := by unfold adI; omega
section
variable {p : List Ins} {right : Ins → Bool} (hF : Fine right p) (hn : ∀ j, j < p.length → 0 ≤ (at_ p j).n) (hC : ∀ j, j < (loopsL p).length → 0 ≤ (at_ p (lp (loopsL p) j).2.toNat).c)
include hF hn hC
/-- what is to come, behind what came -/
def gV (p : List Ins) (w : List Int) (sum : Int) (s : Sp) : Int := adI sum (V (srB btG bt_gt) p (hW w) (oW btG p w) s).1
def lV (p : List Ins) (w : List Int) (sum : Int) (s : Sp) : Int := adI sum (V (srB btL bt_lt) p (hW w) (oW btL p w) s).1
theorem gV_done (w : List Int) {s : Sp} (hg : Good p s) (h21 : (at_ p s.pc).op = 21) (sum : Int) : gV p w sum s = adI sum (w.getD s.pc 0) ∧ lV p w sum s = adI sum (w.getD s.pc 0) := by
  unfold gV lV
  rw [VB_done hF hn hC bt_gt w hg h21, VB_done hF hn hC bt_lt w hg h21, ← adI_cl]
  exact ⟨rfl, rfl⟩
theorem gV_one (w : List Int) {s : Sp} (hg : Good p s) (h21 : ¬ (at_ p s.pc).op = 21) (hj : ¬ Jmp p s.pc) (sum : Int) : gV p w sum s = gV p w (adI sum (w.getD s.pc 0)) (nx p s false) ∧ lV p w sum s = lV p w (adI sum (w.getD s.pc 0)) (nx p s false) := by
  have h0 := V_pos bt_gt hF hn w (good_nx hF hn hC hg h21 false)
  have h1 := V_pos bt_lt hF hn w (good_nx hF hn hC hg h21 false)
  have hc : 0 ≤ clI (w.getD s.pc 0) := by unfold clI; omega
  unfold gV lV
  rw [VB_step hF hn hC bt_gt w hg h21, VB_step hF hn hC bt_lt w hg h21, if_neg hj, if_neg hj, both_ad hc h0.1, both_ad hc h1.1, adI_here, adI_here]
  exact ⟨rfl, rfl⟩
theorem gV_two (w : List Int) {s : Sp} (hg : Good p s) (h21 : ¬ (at_ p s.pc).op = 21) (hj : Jmp p s.pc) (sum : Int) : gV p w sum s = max (gV p w (adI sum (w.getD s.pc 0)) (nx p s false)) (gV p w (adI sum (w.getD s.pc 0)) (nx p s true)) ∧
    lV p w sum s = min (lV p w (adI sum (w.getD s.pc 0)) (nx p s false)) (lV p w (adI sum (w.getD s.pc 0)) (nx p s true)) := by
  have h0 := V_pos bt_gt hF hn w (good_nx hF hn hC hg h21 false)
  have h1 := V_pos bt_lt hF hn w (good_nx hF hn hC hg h21 false)
  have h2 := V_pos bt_gt hF hn w (good_nx hF hn hC hg h21 true)
  have h3 := V_pos bt_lt hF hn w (good_nx hF hn hC hg h21 true)
  unfold gV lV
  rw [VB_step hF hn hC bt_gt w hg h21, VB_step hF hn hC bt_lt w hg h21, if_pos hj, if_pos hj, bt_max _ _ (.inr h0) (.inr h2), bt_min _ _ (.inr h1) (.inr h3)]
  have e : minN (V (srB btL bt_lt) p (hW w) (oW btL p w) (nx p s false)).1 (V (srB btL bt_lt) p (hW w) (oW btL p w) (nx p s true)).1 = min (V (srB btL bt_lt) p (hW w) (oW btL p w) (nx p s false)).1 (V (srB btL bt_lt) p (hW w) (oW btL p w) (nx p s true)).1 := by
    unfold minN
    rw [if_neg (by omega), if_neg (by omega)]
  rw [e]
  generalize (V (srB btG bt_gt) p (hW w) (oW btG p w) (nx p s false)).1 = a at *
  generalize (V (srB btG bt_gt) p (hW w) (oW btG p w) (nx p s true)).1 = b at *
  generalize (V (srB btL bt_lt) p (hW w) (oW btL p w) (nx p s false)).1 = c at *
  generalize (V (srB btL bt_lt) p (hW w) (oW btL p w) (nx p s true)).1 = d at *
  have hc : 0 ≤ clI (w.getD s.pc 0) := by unfold clI; omega
  rw [both_ad hc (by omega), both_ad hc (by omega), adI_here, adI_here, adI_max, adI_min]
  exact ⟨rfl, rfl⟩
theorem gV_in (w : List Int) {s : Sp} (hg : Good p s) (sum : Int) : (0 ≤ gV p w sum s ∧ gV p w sum s ≤ 1099511627776) ∧ (0 ≤ lV p w sum s ∧ lV p w sum s ≤ 1099511627776) := by
  unfold gV lV adI
  omega
theorem gV_start (w : List Int) : gV p w 0 Sp0 = weighW btG p w ∧ lV p w 0 Sp0 = weighW btL p w := by
  have h0 := V_pos bt_gt hF hn w (good_start hF hn hC)
  have h1 := V_pos bt_lt hF hn w (good_start hF hn hC)
  rw [weigh_V bt_gt hF hn hC w, weigh_V bt_lt hF hn hC w]
  unfold gV lV adI
  omega
end
end Go.Proofs.YtnlndkpjfgpodaaDoor.Wk
end
section
set_option linter.unusedSimpArgs false
set_option linter.unusedVariables false
set_option linter.unusedSectionVars false
namespace Go.Proofs.YtnlndkpjfgpodaaDoor.Pq
open Fp (Ins at_ Fine check loopsL hasB nextL lp has_iff)
open Cs (adI clI)
open Wk

/-- what it came to: either the steps were too few, or all walks are counted -/
structure Told (x : Sn) (g l : Int) (y : Sn) : Prop where
  ok : SnOk y
  lf : y.lf ≤ x.lf
  all : y.lf = 0 ∨ min y.cnt 1099511627776 = min (x.cnt + g) 1099511627776
/-- under way -/
structure Way (x : Sn) (g l : Int) (y : Sn) (g' l' : Int) : Prop where
  ok : SnOk y
  lf : y.lf ≤ x.lf
  all : y.lf = 0 ∨ min (y.cnt + g') 1099511627776 = min (x.cnt + g) 1099511627776
theorem way_start {x : Sn} (h : SnOk x) (g l : Int) : Way x g l x g l := ⟨h, Int.le_refl _, .inr rfl⟩
theorem way_dec {x y : Sn} {g l g' l' : Int} (h : Way x g l y g' l') (h1 : 0 < y.lf) : Way x g l (decS y) g' l' ∧ min (y.cnt + g') 1099511627776 = min (x.cnt + g) 1099511627776 := by
  have h2 := h.all.resolve_left (by omega)
  have h3 := h.ok
  exact ⟨⟨⟨⟨h3.cnt.1, by have := h3.cnt.2; show y.cnt + (y.lf - 1) ≤ _; omega⟩, h3.mx, h3.mn, by show 0 ≤ y.lf - 1; omega⟩, by have := h.lf; show y.lf - 1 ≤ _; omega, .inr h2⟩, h2⟩
theorem way_end {x y : Sn} {g l v : Int} (h : Way x g l y 1 0) (h1 : 0 < y.lf) (hv : 0 ≤ v ∧ v ≤ 1099511627776) : Told x g l (endS (decS y) v) := by
  obtain ⟨h2, h3⟩ := way_dec h h1
  have h5 := h.ok
  have hlf := h.lf
  refine ⟨⟨⟨?_, ?_⟩, ?_, ?_, ?_⟩, ?_, .inr h3⟩
  · show 0 ≤ y.cnt + 1; have := h5.cnt; omega
  · show y.cnt + 1 + (y.lf - 1) ≤ _; have := h5.cnt; omega
  · show 0 ≤ mxC (decS y) v ∧ mxC (decS y) v ≤ _
    have := h5.mx
    unfold mxC decS
    simp only
    split <;> omega
  · show 0 ≤ mnC (decS y) v ∧ mnC (decS y) v ≤ _
    have := h5.mn
    unfold mnC decS
    simp only
    split <;> omega
  · show 0 ≤ y.lf - 1; omega
  · show y.lf - 1 ≤ _; omega
theorem way_told {x y : Sn} {g l g' l' : Int} (h : Way x g l y g' l') (h1 : ¬ 0 < y.lf) : Told x g l y := ⟨h.ok, h.lf, .inl (by have := h.ok.lf; omega)⟩
/-- all walks from one of two states are seen -/
theorem way_two {x y z : Sn} {g l g1 g2 l1 l2 : Int} (hg1 : 0 ≤ g1) (hg2 : 0 ≤ g2) (h : Way x g l y (min (g1 + g2) 1099511627776) (min l1 l2)) (hz : Told y g2 l2 z) : Way x g l z g1 l1 := by
  refine ⟨hz.ok, by have := hz.lf; have := h.lf; omega, ?_⟩
  have hzl := hz.ok.lf
  rcases hz.all with h1 | h1
  · exact .inl h1
  · rcases h.all with h4 | h4
    · have := hz.lf
      exact .inl (by omega)
    · refine .inr ?_
      have hy := h.ok.cnt.1
      have hz0 := hz.ok.cnt.1
      omega
/-- what is to come -/
def gV (p : List Ins) (w : List Int) (sum : Int) (s : Sp) : Int := (V srC p kC (oC p) s).1
def lV (p : List Ins) (w : List Int) (sum : Int) (s : Sp) : Int := 0
theorem gV_nn (p : List Ins) (w : List Int) (sum : Int) (s : Sp) : 0 ≤ gV p w sum s := (V srC p kC (oC p) s).2.1
section
variable {p : List Ins} {right : Ins → Bool} (hF : Fine right p) (hn : ∀ j, j < p.length → 0 ≤ (at_ p j).n) (hC : ∀ j, j < (loopsL p).length → 0 ≤ (at_ p (lp (loopsL p) j).2.toNat).c)
include hF hn hC
theorem gV_done (w : List Int) {s : Sp} (hg : Wk.Good p s) (h21 : (at_ p s.pc).op = 21) (sum : Int) : gV p w sum s = 1 ∧ lV p w sum s = 0 := ⟨cV_done hF hn hC hg h21, rfl⟩
theorem gV_one (w : List Int) {s : Sp} (hg : Wk.Good p s) (h21 : ¬ (at_ p s.pc).op = 21) (hj : ¬ Jmp p s.pc) (sum : Int) : gV p w sum s = gV p w (adI sum (w.getD s.pc 0)) (nx p s false) ∧ lV p w sum s = lV p w (adI sum (w.getD s.pc 0)) (nx p s false) := ⟨cV_one hF hn hC hg h21 hj, rfl⟩
theorem gV_two (w : List Int) {s : Sp} (hg : Wk.Good p s) (h21 : ¬ (at_ p s.pc).op = 21) (hj : Jmp p s.pc) (sum : Int) : gV p w sum s = min (gV p w (adI sum (w.getD s.pc 0)) (nx p s false) + gV p w (adI sum (w.getD s.pc 0)) (nx p s true)) 1099511627776 ∧
    lV p w sum s = min (lV p w (adI sum (w.getD s.pc 0)) (nx p s false)) (lV p w (adI sum (w.getD s.pc 0)) (nx p s true)) := ⟨cV_two hF hn hC hg h21 hj, rfl⟩
theorem gV_start (w : List Int) : gV p w 0 Sp0 = countI p ∧ lV p w 0 Sp0 = 0 := ⟨(weigh_VC hF hn hC).symm, rfl⟩
end
end Go.Proofs.YtnlndkpjfgpodaaDoor.Pq
end
