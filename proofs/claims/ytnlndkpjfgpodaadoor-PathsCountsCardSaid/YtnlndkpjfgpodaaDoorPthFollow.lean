/-

  Layer 11, the document: all walks of a program, one after the other, counted (follow, All).
-/
import Derived.Test.YtnlndkpjfgpodaaDoorSpot
import Derived.Test.YtnlndkpjfgpodaaDoorPthTell
import Derived.Test.YtnlndkpjfgpodaaDoorRefWalk
import Derived.Test.YtnlndkpjfgpodaaDoorFlowUse
import Derived.Test.YtnlndkpjfgpodaaDoorWordBase
import Derived.Deep.LoopGhost
set_option linter.unusedVariables false
set_option linter.unusedSimpArgs false
namespace Go.Proofs.YtnlndkpjfgpodaaDoor.Pq
open Go.ChangeShapes Go.WideShapes Go.ChangeAt Go.RowKit Ws
open Go.Proofs.YtnlndkpjfgpodaaDoor.Fp (Ins at_ Fine at_some lp loopsL nextL hasB)
open Go.Proofs.YtnlndkpjfgpodaaDoor.Fw (Prg Spn spanCells spn_of okB okB_fine rightI)
open Go.Proofs.YtnlndkpjfgpodaaDoor.Cs (adI)
open Go.Proofs.YtnlndkpjfgpodaaDoor.Wk

def snC (x : Sn) : Array Value := #[.int .i64 x.cnt, .int .i64 x.mx, .int .i64 x.mn, .int .i64 x.lf]
set_option maxRecDepth 100000 in
theorem rjump_any (A : Option Addr) (m c : Nat) (p : List Ins) (k : Nat) (w : World) (hl : p.length = m) (hm : m ≤ 5000) (hp : Prg w A p) (hk : k < m) :
    Calls Tryd.prog 69 #[.slice A m c, .int .i64 k] w fun e w' => e = .returned (.bool (decide (Jmp p k))) ∧ Same w w' := by
  obtain ⟨hok, bI, oI, rfl, z0, z1, z2, z3, z4⟩ := hp.at_ (k := k) (by omega)
  have hj : decide (Jmp p k) = (decide ((at_ p k).op = 15) && decide (¬ (at_ p k).n = (k : Int) + 1)) := by rw [← Bool.decide_and, decide_eq_decide]; rfl
  rw [hj]
  generalize at_ p k = x at *
  have hk0 : (0 : Int) ≤ k := by omega
  have hk1 : (k : Int) < m := by omega
  have hxn : 0 ≤ x.n ∧ x.n < 4294967296 := hok
  clear hj hl hp
  by_cases h15 : x.op = 15
  · have e15 : (x.op == 15) = true := by simpa using h15
    rw [decide_eq_true h15, Bool.true_and]
    clear h15 hok
    go_enter Tryd.func69, Tryd.ntmps69
    go_wp2_with fail
    go_ret
    exact ⟨Wd.ret_bool (by rw [Bool.eq_iff_iff]; simp), Same.refl _⟩
  · have e15 : (x.op == 15) = false := by simpa using h15
    rw [decide_eq_false h15, Bool.false_and]
    clear h15 hok
    go_enter Tryd.func69, Tryd.ntmps69
    go_wp2_with fail
    go_ret
    exact ⟨rfl, Same.refl _⟩
theorem same_b {w0 w w' : World} {b : Nat} (h : Same w0 w) (hc : Chg (fun i => i = b) w w') (hb : w0.heap.size ≤ b) : Same w0 w' := Same.more h hc (fun i hi => by have : i = b := hi; omega)
/-- what follow leaves -/
def FolP (w : World) (b : Nat) (x : Sn) (g l : Int) (e : Ending) (w' : World) : Prop := ∃ y, e = .returned (.tuple #[]) ∧ Blk w' b 30 (snC y) ∧ Chg (fun i => i = b) w w' ∧ Told x g l y
theorem fol_mk {w w' : World} {b : Nat} {x y : Sn} {g l : Int} (h1 : Blk w' b 30 (snC y)) (h2 : Chg (fun i => i = b) w w') (h3 : Told x g l y) : FolP w b x g l (.returned (.tuple #[])) w' := ⟨y, rfl, h1, h2, h3⟩

set_option maxRecDepth 100000 in
set_option maxHeartbeats 8000000 in
theorem follow_step (A : Option Addr) (m c : Nat) (p : List Ins) (Wt : Option Addr) (cW : Nat) (ws : List Int) (w0 : World) (b : Nat) (hl : p.length = m) (hp : Prg w0 A p) (hW : Row w0 Wt (ws.map (Value.int .i64))) (hwl : ws.length = m) (hok : okB p = true) (hb0 : w0.heap.size ≤ b)
    (hbc : ∀ k, k < p.length → (at_ p k).op = 16 → 0 ≤ (at_ p k).c ∧ (at_ p k).c < 1099511627776) (x : Sn) (s0 : Sp) (sum0 : Int) (w : World)
    (IH : ∀ (x' : Sn) (s' : Sp) (sum' : Int) (w1 : World), x'.lf < x.lf → SnOk x' → Wk.Good p s' → 0 ≤ sum' ∧ sum' ≤ 1099511627776 → Same w0 w1 → Blk w1 b 30 (snC x') →
      Calls Tryd.prog 42 #[.pointer (some ⟨b, 0, none⟩), .slice A m c, .slice Wt m cW, .agg (spC s'), .int .i64 sum'] w1 (FolP w1 b x' (gV p ws sum' s') (lV p ws sum' s')))
    (hx : SnOk x) (hg : Wk.Good p s0) (hs : 0 ≤ sum0 ∧ sum0 ≤ 1099511627776) (h0 : Same w0 w) (hbk : Blk w b 30 (snC x)) :
    Calls Tryd.prog 42 #[.pointer (some ⟨b, 0, none⟩), .slice A m c, .slice Wt m cW, .agg (spC s0), .int .i64 sum0] w (FolP w b x (gV p ws sum0 s0) (lV p ws sum0 s0)) := by
  have hF := okB_fine hok
  have hn := hp.nn
  have hm64 : m ≤ 64 := by have := hF.size; omega
  have hCl : ∀ j, j < (loopsL p).length → 0 ≤ (at_ p (lp (loopsL p) j).2.toNat).c := fun j hj => by
    have h1 := Cs.lp_in hF hn hj
    exact (hbc _ (by omega) (Cs.lp_back hF hn hj)).1
  have GN := Lib.hid (fun (s : Sp) (hg : Wk.Good p s) (h : ¬ (at_ p s.pc).op = 21) j => good_nx hF hn hCl hg h j)
  have NX := Lib.hid (fun (s : Sp) (jump : Bool) w' (hs : Same w0 w') (hg : Wk.Good p s) => next_any A m c p s jump w' hl hm64 (hp.same hs) (hl ▸ hg.pc) (good_back hF hbc hg))
  have JP := Lib.hid (fun (k : Nat) w' (hs : Same w0 w') (hk : k < m) => rjump_any A m c p k w' hl (by omega) (hp.same hs) hk)
  have GD := Lib.hid (fun (s : Sp) (hg : Wk.Good p s) h21 sum => gV_done hF hn hCl ws hg h21 sum)
  have G1 := Lib.hid (fun (s : Sp) (hg : Wk.Good p s) h21 hj sum => gV_one hF hn hCl ws hg h21 hj sum)
  have G2 := Lib.hid (fun (s : Sp) (hg : Wk.Good p s) h21 hj sum => gV_two hF hn hCl ws hg h21 hj sum)
  have WA := Lib.hid (fun (a v : Int) (w' : World) => (show Calls Tryd.prog 17 #[.int .i64 a, .int .i64 v] w' fun e w'' => e = .returned (.int .i64 (adI a v)) ∧ w' = w'' from Wd.radd a v w'))
  have HP := Lib.hid hp
  have HW := Lib.hid hW
  have HL := Lib.hid hl
  have HWL := Lib.hid hwl
  have HI := Lib.hid IH
  have HB0 := Lib.hid hb0
  have HIS := Lib.hid (fun s => (show (Tryd.prog.info? 84).map (·.size) = some (spC s).size by rw [spC_size]; exact spot_info))
  obtain ⟨w1, hw1⟩ : ∃ w1, w1 = w.alloc (.cells (spC s0) 84) := ⟨_, rfl⟩
  have hs1 : Same w w1 := hw1 ▸ (Same.refl w).alloc _
  have HQB := Lib.hid (show Blk w1 w.heap.size 84 (spC s0) from hw1 ▸ Blk.new w _ _)
  have HBB := Lib.hid (hbk.same hs1)
  have HS1 := Lib.hid hs1
  have H01 := Lib.hid (h0.trans hs1)
  have HW1 := Lib.hid hw1
  have HBQ := Lib.hid (show b < w.heap.size from hbk.lt)
  obtain ⟨g0, hg0⟩ : ∃ g0, g0 = gV p ws sum0 s0 := ⟨_, rfl⟩
  obtain ⟨l0, hl0⟩ : ∃ l0, l0 = lV p ws sum0 s0 := ⟨_, rfl⟩
  have HX := Lib.hid (show Way x g0 l0 x (gV p ws sum0 s0) (lV p ws sum0 s0) by rw [hg0, hl0]; exact way_start hx _ _)
  rw [← hg0, ← hl0]
  have HG := Lib.hid hg
  have HSU := Lib.hid hs
  have HLF := Lib.hid hx.lf
  clear hp hW hl hwl hF hn hCl hbc hok IH hb0 hw1 hs1 h0 hbk hx hg hs hg0 hl0
  go_enter Tryd.func42, Tryd.ntmps42
  go_wp2_with fail
  rw [← HW1.out]
  clear HW1
  generalize hq : w.heap.size = q at *
  have HQ := Lib.hid (show w.heap.size ≤ q by omega)
  clear hq
  go_loopg [4] x.lf.toNat (fun gk sv wx => ∃ (y : Sn) (s : Sp) (sum : Int), y.lf = gk ∧ sv = .int .i64 sum ∧ Way x g0 l0 y (gV p ws sum s) (lV p ws sum s) ∧ Wk.Good p s ∧ (0 ≤ sum ∧ sum ≤ 1099511627776) ∧ Blk wx b 30 (snC y) ∧ Blk wx q 84 (spC s) ∧ Chg (fun i => i = b) w wx ∧ Same w0 wx)
  case atStart => exact ⟨x, s0, sum0, by have := HLF.out; omega, rfl, HX.out, HG.out, HSU.out, HBB.out, HQB.out, HS1.out.chg _, H01.out⟩
  case round =>
    clear HBB HQB HS1 H01 HX HG HSU
    obtain ⟨y, s, sum, hk, rfl, hway, hg, hsu, hbb, hqb, hch, hsm⟩ := hrel
    have HWY := Lib.hid hway
    have HG := Lib.hid hg
    have HSU := Lib.hid hsu
    have HBB := Lib.hid hbb
    have HQB := Lib.hid hqb
    have HCH := Lib.hid hch
    have HSM := Lib.hid hsm
    have c3 := hbb.cell 3
    unfold snC at c3
    simp only [List.getElem?_toArray, List.getElem?_cons_zero, List.getElem?_cons_succ] at c3
    clear hway hg hsu hbb hqb hch hsm
    cases gk with
    | zero =>
      have hge : ¬ (0 : Int) < y.lf := by omega
      have HT := Lib.hid (way_told HWY.out hge)
      clear hk
      go_wp2_with fail
      go_end0
      exact fol_mk HBB.out HCH.out HT.out
    | succ GK =>
      have hlt : (0 : Int) < y.lf := by omega
      have HK := Lib.hid hk
      clear hk
      have hlb : y.lf ≤ 1000000 := by have := HWY.out.ok.cnt; omega
      have hcb : 0 ≤ y.cnt ∧ y.cnt < 1000000 := by have := HWY.out.ok.cnt; omega
      have t3 := HBB.out.thaw 3
      have HB2 := Lib.hid (show Blk (wr.setCell ⟨b, 3, none⟩ (.int .i64 (y.lf - 1))) b 30 (snC (decS y)) from HBB.out.put 3 (.int .i64 (y.lf - 1)))
      have HC1 := Lib.hid (Chg.set (S := fun i => i = b) (Chg.refl _ wr) (p := ⟨b, 3, none⟩) (.inl rfl) (.int .i64 (y.lf - 1)))
      have hqb : ¬ q = b := by have := HBQ.out; have := HQ.out; omega
      go_upto_region 3 with fail
      have HQB2 := Lib.hid (HQB.out.chg HC1.out (fun h => hqb h))
      have HCH2 := Lib.hid (HCH.out.trans HC1.out)
      have HSM2 := Lib.hid (same_b HSM.out HC1.out HB0.out)
      generalize wr.setCell ⟨b, 3, none⟩ (.int .i64 (y.lf - 1)) = wr2 at *
      clear HBB HQB HCH HSM HC1 c3 t3
      have HBB := HB2
      have HQB := HQB2
      have HCH := HCH2
      have HSM := HSM2
      clear HB2 HQB2 HCH2 HSM2
      have hpc : s.pc < m := by have := HG.out.pc; have := HL.out; omega
      have hpc0 : (0 : Int) ≤ s.pc := by omega
      have hpc1 : (s.pc : Int) < m := by omega
      have d0 := (HQB.out.cell 0).trans (spC_zero _)
      obtain ⟨bW, oW', rfl, cw⟩ := (HW.out.same HSM.out) s.pc (.int .i64 (ws.getD s.pc 0)) (by rw [List.getElem?_map, List.getD_eq_getElem?_getD, List.getElem?_eq_getElem (by have := HWL.out; omega)]; rfl)
      obtain ⟨hoki, bI, oI, rfl, z0, z1, z2, z3, z4⟩ := (HP.out.same HSM.out).at_ (k := s.pc) (by have := HL.out; omega)
      obtain ⟨xi, hxi⟩ : ∃ xi, xi = at_ p s.pc := ⟨_, rfl⟩
      rw [← hxi] at z0
      have HXI := Lib.hid hxi
      clear hxi hoki z1 z2 z3 z4
      obtain ⟨v, hv⟩ : ∃ v, v = adI sum (ws.getD s.pc 0) := ⟨_, rfl⟩
      have AD := Lib.hid (WA.out sum (ws.getD s.pc 0) wr2)
      rw [← hv] at AD
      have HVE := Lib.hid hv.symm
      have HSU1 := Lib.hid (show 0 ≤ v ∧ v ≤ 1099511627776 by rw [hv]; unfold adI; omega)
      clear hv
      go_wp2_with fail
      refine AD.out.mono ?_
      rintro e wr3 ⟨rfl, rfl⟩
      by_cases h21 : xi.op = 21
      · have e21 : (xi.op == 21) = true := by simpa using h21
        have HD := Lib.hid (show Told x g0 l0 (endS (decS y) v) from way_end (by have := (GD.out s HG.out (by rw [← HXI.out]; exact h21) sum); have h := HWY.out; rw [this.1, this.2] at h; exact h) hlt HSU1.out)
        clear h21
        obtain ⟨b0, b1, b2⟩ := (⟨HBB.out.cell 0, HBB.out.cell 1, HBB.out.cell 2⟩ : _ ∧ _ ∧ _)
        obtain ⟨t0, t1, t2⟩ := (⟨HBB.out.thaw 0, HBB.out.thaw 1, HBB.out.thaw 2⟩ : _ ∧ _ ∧ _)
        unfold snC decS at b0 b1 b2
        simp only [List.getElem?_toArray, List.getElem?_cons_zero, List.getElem?_cons_succ] at b0 b1 b2
        by_cases hc0 : y.cnt = 0
        · have ec : (y.cnt == 0) = true := by simpa using hc0
          have HFI := Lib.hid (show endS (decS y) v = ⟨y.cnt + 1, v, v, y.lf - 1⟩ by unfold endS decS mxC mnC; simp only; rw [if_pos hc0, if_pos hc0])
          clear hc0
          have HBF := Lib.hid (show Blk ((((wr2).setCell ⟨b, 1, none⟩ (.int .i64 (v))).setCell ⟨b, 2, none⟩ (.int .i64 (v))).setCell ⟨b, 0, none⟩ (.int .i64 (y.cnt + 1))) b 30 (snC (endS (decS y) v)) by rw [HFI.out]; exact (((HBB.out).put 1 (.int .i64 (v))).put 2 (.int .i64 (v))).put 0 (.int .i64 (y.cnt + 1)))
          have HCF := Lib.hid (show Chg (fun i => i = b) w ((((wr2).setCell ⟨b, 1, none⟩ (.int .i64 (v))).setCell ⟨b, 2, none⟩ (.int .i64 (v))).setCell ⟨b, 0, none⟩ (.int .i64 (y.cnt + 1))) from (((HCH.out).set (p := ⟨b, 1, none⟩) (.inl rfl) (.int .i64 (v))).set (p := ⟨b, 2, none⟩) (.inl rfl) (.int .i64 (v))).set (p := ⟨b, 0, none⟩) (.inl rfl) (.int .i64 (y.cnt + 1)))
          go_wp2_with fail
          go_end0
          exact fol_mk HBF.out HCF.out HD.out
        · have ec : (y.cnt == 0) = false := by simpa using hc0
          by_cases hv1 : y.mx < v
          · by_cases hv2 : v < y.mn
            · have HFI := Lib.hid (show endS (decS y) v = ⟨y.cnt + 1, v, v, y.lf - 1⟩ by unfold endS decS mxC mnC; simp only; rw [if_neg hc0, if_neg hc0]; congr 1 <;> omega)
              clear hc0
              have HBF := Lib.hid (show Blk ((((wr2).setCell ⟨b, 1, none⟩ (.int .i64 (v))).setCell ⟨b, 2, none⟩ (.int .i64 (v))).setCell ⟨b, 0, none⟩ (.int .i64 (y.cnt + 1))) b 30 (snC (endS (decS y) v)) by rw [HFI.out]; exact (((HBB.out).put 1 (.int .i64 (v))).put 2 (.int .i64 (v))).put 0 (.int .i64 (y.cnt + 1)))
              have HCF := Lib.hid (show Chg (fun i => i = b) w ((((wr2).setCell ⟨b, 1, none⟩ (.int .i64 (v))).setCell ⟨b, 2, none⟩ (.int .i64 (v))).setCell ⟨b, 0, none⟩ (.int .i64 (y.cnt + 1))) from (((HCH.out).set (p := ⟨b, 1, none⟩) (.inl rfl) (.int .i64 (v))).set (p := ⟨b, 2, none⟩) (.inl rfl) (.int .i64 (v))).set (p := ⟨b, 0, none⟩) (.inl rfl) (.int .i64 (y.cnt + 1)))
              go_wp2_with fail
              go_end0
              exact fol_mk HBF.out HCF.out HD.out
            · have HFI := Lib.hid (show endS (decS y) v = ⟨y.cnt + 1, v, y.mn, y.lf - 1⟩ by unfold endS decS mxC mnC; simp only; rw [if_neg hc0, if_neg hc0]; congr 1 <;> omega)
              clear hc0
              have HBF := Lib.hid (show Blk (((wr2).setCell ⟨b, 1, none⟩ (.int .i64 (v))).setCell ⟨b, 0, none⟩ (.int .i64 (y.cnt + 1))) b 30 (snC (endS (decS y) v)) by rw [HFI.out]; exact ((HBB.out).put 1 (.int .i64 (v))).put 0 (.int .i64 (y.cnt + 1)))
              have HCF := Lib.hid (show Chg (fun i => i = b) w (((wr2).setCell ⟨b, 1, none⟩ (.int .i64 (v))).setCell ⟨b, 0, none⟩ (.int .i64 (y.cnt + 1))) from ((HCH.out).set (p := ⟨b, 1, none⟩) (.inl rfl) (.int .i64 (v))).set (p := ⟨b, 0, none⟩) (.inl rfl) (.int .i64 (y.cnt + 1)))
              go_wp2_with fail
              go_end0
              exact fol_mk HBF.out HCF.out HD.out
          · by_cases hv2 : v < y.mn
            · have HFI := Lib.hid (show endS (decS y) v = ⟨y.cnt + 1, y.mx, v, y.lf - 1⟩ by unfold endS decS mxC mnC; simp only; rw [if_neg hc0, if_neg hc0]; congr 1 <;> omega)
              clear hc0
              have HBF := Lib.hid (show Blk (((wr2).setCell ⟨b, 2, none⟩ (.int .i64 (v))).setCell ⟨b, 0, none⟩ (.int .i64 (y.cnt + 1))) b 30 (snC (endS (decS y) v)) by rw [HFI.out]; exact ((HBB.out).put 2 (.int .i64 (v))).put 0 (.int .i64 (y.cnt + 1)))
              have HCF := Lib.hid (show Chg (fun i => i = b) w (((wr2).setCell ⟨b, 2, none⟩ (.int .i64 (v))).setCell ⟨b, 0, none⟩ (.int .i64 (y.cnt + 1))) from ((HCH.out).set (p := ⟨b, 2, none⟩) (.inl rfl) (.int .i64 (v))).set (p := ⟨b, 0, none⟩) (.inl rfl) (.int .i64 (y.cnt + 1)))
              go_wp2_with fail
              go_end0
              exact fol_mk HBF.out HCF.out HD.out
            · have HFI := Lib.hid (show endS (decS y) v = ⟨y.cnt + 1, y.mx, y.mn, y.lf - 1⟩ by unfold endS decS mxC mnC; simp only; rw [if_neg hc0, if_neg hc0]; congr 1 <;> omega)
              clear hc0
              have HBF := Lib.hid (show Blk ((wr2).setCell ⟨b, 0, none⟩ (.int .i64 (y.cnt + 1))) b 30 (snC (endS (decS y) v)) by rw [HFI.out]; exact (HBB.out).put 0 (.int .i64 (y.cnt + 1)))
              have HCF := Lib.hid (show Chg (fun i => i = b) w ((wr2).setCell ⟨b, 0, none⟩ (.int .i64 (y.cnt + 1))) from (HCH.out).set (p := ⟨b, 0, none⟩) (.inl rfl) (.int .i64 (y.cnt + 1)))
              go_wp2_with fail
              go_end0
              exact fol_mk HBF.out HCF.out HD.out
      · have e21 : (xi.op == 21) = false := by simpa using h21
        have H21 := Lib.hid h21
        go_wp2_with fail
        refine (JP.out s.pc _ HSM.out hpc).mono ?_
        rintro e wr3 ⟨rfl, s3⟩
        have HQB3 := Lib.hid (HQB.out.same s3)
        have HBB3 := Lib.hid (HBB.out.same s3)
        have HCH3 := Lib.hid (HCH.out.trans (s3.chg _))
        have HSM3 := Lib.hid (HSM.out.trans s3)
        clear s3 HQB HBB HCH HSM h21 cw d0 z0
        by_cases hj : Jmp p s.pc
        · have HJ := Lib.hid hj
          rw [decide_eq_true hj]
          clear hj
          obtain ⟨s', hs'⟩ : ∃ s', s' = nx p s true := ⟨_, rfl⟩
          have NXJ := Lib.hid (NX.out s true _ HSM3.out HG.out)
          have HG1 := Lib.hid (GN.out s HG.out (by rw [← HXI.out]; exact H21.out) true)
          rw [← hs'] at NXJ HG1
          have HSE := Lib.hid hs'
          clear hs'
          have HI0 := Lib.hid (HIS.out s)
          go_wp2_with (refine wpList_load_row rfl 84 (.tmp 8) rfl q rfl 84 (spC s) (0, 0) _ HQB3.out Tryd.underlying84 rfl HI0.out ?_)
          refine NXJ.out.mono ?_
          rintro e wr4 ⟨rfl, s4⟩
          have HQB3' := Lib.hid (HQB3.out.same s4)
          have HBB3' := Lib.hid (HBB3.out.same s4)
          have HCH3' := Lib.hid (HCH3.out.trans (s4.chg _))
          have HSM3' := Lib.hid (HSM3.out.trans s4)
          have IHJ := Lib.hid (HI.out (decS y) s' v wr4 (by have := HWY.out.lf; show y.lf - 1 < _; omega) (way_dec HWY.out hlt).1.ok HG1.out HSU1.out HSM3'.out HBB3'.out)
          clear s4 NXJ HI0 HQB3 HBB3 HCH3 HSM3
          go_wp2_with fail
          refine IHJ.out.mono ?_
          rintro e w4 ⟨z, rfl, hbz, hcz, hz⟩
          have HQB4 := Lib.hid (HQB3'.out.chg hcz (fun h => hqb h))
          have HBB4 := Lib.hid hbz
          have HCH4 := Lib.hid (HCH3'.out.trans hcz)
          have HSM4 := Lib.hid (same_b HSM3'.out hcz HB0.out)
          have HZ := Lib.hid hz
          clear hbz hcz hz IHJ HQB3' HBB3' HCH3' HSM3'
          obtain ⟨s2, hs2⟩ : ∃ s2, s2 = nx p s false := ⟨_, rfl⟩
          have NXF := Lib.hid (NX.out s false _ HSM4.out HG.out)
          have HG2 := Lib.hid (GN.out s HG.out (by rw [← HXI.out]; exact H21.out) false)
          rw [← hs2] at NXF HG2
          have HWY2 := Lib.hid (show Way x g0 l0 z (gV p ws v s2) (lV p ws v s2) by
            have h1 := (way_dec HWY.out hlt).1
            have h2 := G2.out s HG.out (by rw [← HXI.out]; exact H21.out) HJ.out sum
            rw [HVE.out, ← hs2, ← HSE.out] at h2
            rw [h2.1, h2.2] at h1
            exact way_two (gV_nn _ _ _ _) (gV_nn _ _ _ _) h1 HZ.out)
          clear hs2
          have HI1 := Lib.hid (HIS.out s)
          have HI2 := Lib.hid (HIS.out s2)
          have HON2 := Lib.hid (spC_one s2)
          go_wp2_with (refine wpList_load_row rfl 84 (.tmp 8) rfl q rfl 84 (spC s) (0, 0) _ HQB4.out Tryd.underlying84 rfl HI1.out ?_)
          refine NXF.out.mono ?_
          rintro e w5 ⟨rfl, s5⟩
          have HQB5 := Lib.hid (HQB4.out.same s5)
          have HBB5 := Lib.hid (HBB4.out.same s5)
          have HCH5 := Lib.hid (HCH4.out.trans (s5.chg _))
          have HSM5 := Lib.hid (HSM4.out.trans s5)
          have hsz : (spC s).size = (spC s2).size := by rw [spC_size, spC_size]
          clear s5 NXF
          have HQ6 := Lib.hid (show Blk (w5.setRow q (spC s2)) q 84 (spC s2) from row_blk HQB5.out)
          have HB6 := Lib.hid (HBB5.out.chg (chg_setRow (S := fun i => i = q) (Chg.refl _ w5) (g := q) (.inl rfl) (spC s2)) (fun h => hqb h.symm))
          have HC6 := Lib.hid (show Chg (fun i => i = b) w (w5.setRow q (spC s2)) from chg_setRow HCH5.out (.inr HQ.out) _)
          have HS6 := Lib.hid (show Same w0 (w5.setRow q (spC s2)) from chg_setRow HSM5.out (.inr (by have := HB0.out; have := HBQ.out; have := HQ.out; omega)) _)
          go_wp2_with (refine wpList_store_row rfl 84 (.tmp 8) (.tmp 91) rfl q (spC s2) rfl rfl 84 (spC s) HQB5.out HI2.out hsz HON2.out ?_)
          go_roundg z.lf.toNat
          case rel => exact ⟨z, s2, v, by have := HZ.out.ok.lf; omega, rfl, HWY2.out, HG2.out, HSU1.out, HB6.out, HQ6.out, HC6.out, HS6.out⟩
          case measure =>
            have h1 := HZ.out.lf
            have h2 : z.lf ≤ y.lf - 1 := h1
            have := HK.out
            omega
        · have HJ := Lib.hid hj
          rw [decide_eq_false hj]
          clear hj
          obtain ⟨s2, hs2⟩ : ∃ s2, s2 = nx p s false := ⟨_, rfl⟩
          have NXF := Lib.hid (NX.out s false _ HSM3.out HG.out)
          have HG2 := Lib.hid (GN.out s HG.out (by rw [← HXI.out]; exact H21.out) false)
          rw [← hs2] at NXF HG2
          have HWY2 := Lib.hid (show Way x g0 l0 (decS y) (gV p ws v s2) (lV p ws v s2) by
            have h1 := (way_dec HWY.out hlt).1
            have h2 := G1.out s HG.out (by rw [← HXI.out]; exact H21.out) HJ.out sum
            rw [HVE.out, ← hs2] at h2
            rw [h2.1, h2.2] at h1
            exact h1)
          clear hs2
          have HI1 := Lib.hid (HIS.out s)
          have HI2 := Lib.hid (HIS.out s2)
          have HON2 := Lib.hid (spC_one s2)
          go_wp2_with (refine wpList_load_row rfl 84 (.tmp 8) rfl q rfl 84 (spC s) (0, 0) _ HQB3.out Tryd.underlying84 rfl HI1.out ?_)
          refine NXF.out.mono ?_
          rintro e w5 ⟨rfl, s5⟩
          have HQB5 := Lib.hid (HQB3.out.same s5)
          have HBB5 := Lib.hid (HBB3.out.same s5)
          have HCH5 := Lib.hid (HCH3.out.trans (s5.chg _))
          have HSM5 := Lib.hid (HSM3.out.trans s5)
          have hsz : (spC s).size = (spC s2).size := by rw [spC_size, spC_size]
          clear s5 NXF
          have HQ6 := Lib.hid (show Blk (w5.setRow q (spC s2)) q 84 (spC s2) from row_blk HQB5.out)
          have HB6 := Lib.hid (HBB5.out.chg (chg_setRow (S := fun i => i = q) (Chg.refl _ w5) (g := q) (.inl rfl) (spC s2)) (fun h => hqb h.symm))
          have HC6 := Lib.hid (show Chg (fun i => i = b) w (w5.setRow q (spC s2)) from chg_setRow HCH5.out (.inr HQ.out) _)
          have HS6 := Lib.hid (show Same w0 (w5.setRow q (spC s2)) from chg_setRow HSM5.out (.inr (by have := HB0.out; have := HBQ.out; have := HQ.out; omega)) _)
          go_wp2_with (refine wpList_store_row rfl 84 (.tmp 8) (.tmp 91) rfl q (spC s2) rfl rfl 84 (spC s) HQB5.out HI2.out hsz HON2.out ?_)
          go_roundg GK
          case rel => exact ⟨decS y, s2, v, by have := HK.out; show y.lf - 1 = _; omega, rfl, HWY2.out, HG2.out, HSU1.out, HB6.out, HQ6.out, HC6.out, HS6.out⟩
          case measure => omega

theorem follow_any (A : Option Addr) (m c : Nat) (p : List Ins) (Wt : Option Addr) (cW : Nat) (ws : List Int) (w0 : World) (b : Nat) (hl : p.length = m) (hp : Prg w0 A p) (hW : Row w0 Wt (ws.map (Value.int .i64))) (hwl : ws.length = m) (hok : okB p = true) (hb0 : w0.heap.size ≤ b)
    (hbc : ∀ k, k < p.length → (at_ p k).op = 16 → 0 ≤ (at_ p k).c ∧ (at_ p k).c < 1099511627776) (N : Nat) : ∀ (x : Sn) (s0 : Sp) (sum0 : Int) (w : World), x.lf < N → SnOk x → Wk.Good p s0 → 0 ≤ sum0 ∧ sum0 ≤ 1099511627776 → Same w0 w → Blk w b 30 (snC x) →
      Calls Tryd.prog 42 #[.pointer (some ⟨b, 0, none⟩), .slice A m c, .slice Wt m cW, .agg (spC s0), .int .i64 sum0] w (FolP w b x (gV p ws sum0 s0) (lV p ws sum0 s0)) := by
  induction N with
  | zero => intro x s0 sum0 w h hx; have := hx.lf; omega
  | succ N ih =>
    intro x s0 sum0 w h hx hg hs h0 hb
    exact follow_step A m c p Wt cW ws w0 b hl hp hW hwl hok hb0 hbc x s0 sum0 w (fun x' s' sum' w1 hlt hx' hg' hs' h1 hb' => ih x' s' sum' w1 (by omega) hx' hg' hs' h1 hb') hx hg hs h0 hb
/-- all walks -/
def AllP (w : World) (p : List Ins) (ws : List Int) (n : Int) (e : Ending) (w' : World) : Prop := ∃ y, e = .returned (.agg (snC y)) ∧ Same w w' ∧ Told ⟨0, 0, 0, n⟩ (Wk.countI p) 0 y
theorem all_mk {w w' : World} {p : List Ins} {ws : List Int} {n : Int} {y : Sn} (hs : Same w w') (h : Told ⟨0, 0, 0, n⟩ (Wk.countI p) 0 y) : AllP w p ws n (.returned (.agg (snC y))) w' := ⟨y, rfl, hs, h⟩
set_option maxRecDepth 100000 in
set_option maxHeartbeats 2000000 in
theorem all_any (A : Option Addr) (m c : Nat) (p : List Ins) (Wt : Option Addr) (cW : Nat) (ws : List Int) (n : Int) (w : World) (hl : p.length = m) (hp : Prg w A p) (hW : Row w Wt (ws.map (Value.int .i64))) (hwl : ws.length = m) (hok : okB p = true) (hn : 0 ≤ n ∧ n ≤ 1000000)
    (hbc : ∀ k, k < p.length → (at_ p k).op = 16 → 0 ≤ (at_ p k).c ∧ (at_ p k).c < 1099511627776) :
    Calls Tryd.prog 13 #[.slice A m c, .slice Wt m cW, .int .i64 n] w (AllP w p ws n) := by
  have hF := okB_fine hok
  have hnn := hp.nn
  have hCl : ∀ j, j < (loopsL p).length → 0 ≤ (at_ p (lp (loopsL p) j).2.toNat).c := fun j hj => by
    have h1 := Cs.lp_in hF hnn hj
    exact (hbc _ (by omega) (Cs.lp_back hF hnn hj)).1
  obtain ⟨w1, hw1⟩ : ∃ w1, w1 = (w.alloc (.cells #[.int .i64 0, .int .i64 0, .int .i64 0, .int .i64 0] 30)).alloc (.cells #[.int .i64 0, .int .i64 0, .int .i64 0, .int .i64 n] 30) := ⟨_, rfl⟩
  have hs1 : Same w w1 := hw1 ▸ ((Same.refl w).alloc _).alloc _
  have hb1 : Blk w1 (w.heap.size + 1) 30 (snC ⟨0, 0, 0, n⟩) := by
    have h := Blk.new (w.alloc (.cells #[.int .i64 0, .int .i64 0, .int .i64 0, .int .i64 0] 30)) 30 (snC ⟨0, 0, 0, n⟩)
    rw [hw1]
    simpa [snC] using h
  have hb0 : Blk w1 w.heap.size 30 #[.int .i64 0, .int .i64 0, .int .i64 0, .int .i64 0] := hw1 ▸ (Blk.new w _ _).same ((Same.refl _).alloc _)
  have FA := Lib.hid (follow_any A m c p Wt cW ws w (w.heap.size + 1) hl hp hW hwl hok (by omega) hbc (n.toNat + 1) ⟨0, 0, 0, n⟩ Sp0 0 w1 (by simp only; omega) ⟨⟨by simp only; omega, by simp only; omega⟩, ⟨by simp only; omega, by simp only; omega⟩, ⟨by simp only; omega, by simp only; omega⟩, hn.1⟩ (good_start hF hnn hCl) (by omega) hs1 hb1)
  rw [(gV_start hF hnn hCl ws).1, (gV_start hF hnn hCl ws).2, ← zeros_eq] at FA
  have HS1 := Lib.hid hs1
  have HB0 := Lib.hid hb0
  have E1 := Lib.hid hw1
  clear hF hnn hCl hw1 hs1 hb1 hb0 hl hp hW hwl hok hn hbc
  go_enter Tryd.func13, Tryd.ntmps13
  go_wp2_with fail
  rw [← E1.out]
  clear E1
  refine FA.out.mono ?_
  rintro e w2 ⟨y, rfl, hby, hch, hty⟩
  have HT := Lib.hid hty
  have HS2 := Lib.hid (same_b HS1.out hch (by omega))
  have hb2 := HB0.out.chg hch (fun h => by omega)
  obtain ⟨y0, y1, y2, y3⟩ := (⟨hby.cell 0, hby.cell 1, hby.cell 2, hby.cell 3⟩ : _ ∧ _ ∧ _ ∧ _)
  unfold snC at y0 y1 y2 y3
  simp only [List.getElem?_toArray, List.getElem?_cons_zero, List.getElem?_cons_succ] at y0 y1 y2 y3
  obtain ⟨t0, t1, t2, t3⟩ := (⟨hb2.thaw 0, hb2.thaw 1, hb2.thaw 2, hb2.thaw 3⟩ : _ ∧ _ ∧ _ ∧ _)
  have hz := hb2.lt
  have HB2 := Lib.hid hb2
  generalize hq : w.heap.size = q at *
  have HQ := Lib.hid (show w.heap.size ≤ q by omega)
  clear hty hch hby hb2 FA HS1 HB0 hq
  have HIF := Lib.hid (show (Tryd.prog.info? 30).map (·.size) = some (snC y).size by kernel_rfl)
  have HON := Lib.hid (show (snC y).all (·.oneCell') = true by simp [snC, Value.oneCell'])
  have HOL := Lib.hid (show (#[Value.int .i64 0, .int .i64 0, .int .i64 0, .int .i64 0] : Array Value).size = (snC y).size by simp [snC])
  go_wp2_with (refine wpList_store_row rfl 30 (.tmp 6) (.tmp 18) rfl q (snC y) rfl rfl 30 _ HB2.out HIF.out HOL.out HON.out ?_)
  refine bodyPost_ret (v := .agg (snC y)) (results_cell_row Tryd.results13 _ _ q 30 (snC y) (0, 0) _ rfl (row_blk HB2.out) Tryd.underlying30 rfl HIF.out) rfl ?_
  exact all_mk (chg_setRow HS2.out (.inr HQ.out) _) HT.out
end Go.Proofs.YtnlndkpjfgpodaaDoor.Pq
