/-

  Layer 13: the document's Step, turns.
-/
import Derived.Test.YtgimelpjklnjmabDoorFrmOff
section
set_option linter.unusedVariables false
set_option linter.unusedSimpArgs false
namespace Go.Proofs.YtgimelpjklnjmabDoor.Fr
open Go.ChangeShapes Go.WideShapes Go.ChangeAt Go.RowKit Ws
open Go.Proofs.YtgimelpjklnjmabDoor.Fp (Ins at_ Fine at_some)
open Go.Proofs.YtgimelpjklnjmabDoor.Fw (Prg okB ckE check_any okB_fine rightI)
open Go.Proofs.YtgimelpjklnjmabDoor.Is (Tabs)
set_option maxRecDepth 100000 in
set_option maxHeartbeats 8000000 in
theorem rstep_21 (f : FS) (ws : List Nat) (st : Int) (T : Option Addr) (nT cT : Nat) (A : Option Addr) (m cA : Nat) (C : Option Addr) (n dC : Nat) (oa ol : Int) (p : List Ins) (w : World) (hT : Row w T (f.tn.map (Value.int .i64))) (hn : f.tn.length = nT) (hb : nT ≤ 5000) (hp : Prg w A p) (hl : p.length = m) (hm : m ≤ 5000) (hc : Own w 0 22 C dC ((cst ws).map (Value.int .u32))) (hcn : ws.length = n) (hcb : n ≤ 4096) (hmb : mayB p ⟨f, ws, st⟩ oa ol = true) (k ka kb kc xn va vb vc : Nat) (hpc : f.pc = (k : Int)) (hkm : k < m) (hx : at_ p k = ⟨21, ka, kb, kc, xn⟩) (hva : va = f.rg.getD ka 0) (hvb : vb = f.rg.getD kb 0) (hvc : vc = f.rg.getD kc 0) (hw : Wide ⟨f, ws, st⟩) (hxn : xn < 4294967296) :
    Calls Tryd.prog 16 #[.agg #[.int .i64 f.pc, .int .u32 (rk f 0), .int .u32 (rk f 1), .int .u32 (rk f 2), .int .u32 (rk f 3), .int .u32 (rk f 4), .int .u32 (rk f 5), .int .u32 (rk f 6), .int .u32 (rk f 7), .slice T nT cT], .slice A m cA, .slice C n dC, .agg #[.int .i64 oa, .int .i64 ol]] w (RefP w ⟨f, ws, st⟩ nT C n dC 2 0) := by
  have HPC := Lib.hid hpc
  have HX := Lib.hid hx
  have HVA := Lib.hid hva
  have HVB := Lib.hid hvb
  have HVC := Lib.hid hvc
  have HW := Lib.hid hw
  have HMBT := Lib.hid hmb
  clear hmb hpc hx hva hvb hvc hw
  obtain ⟨w1, hw1⟩ : ∃ w1, w1 = ((w.alloc (.cells #[.int .i64 f.pc, .int .u32 (rk f 0), .int .u32 (rk f 1), .int .u32 (rk f 2), .int .u32 (rk f 3), .int .u32 (rk f 4), .int .u32 (rk f 5), .int .u32 (rk f 6), .int .u32 (rk f 7), .slice T nT cT] 26)).alloc (.cells #[.int .i64 oa, .int .i64 ol] 30)).alloc (.cells #[.int .i64 0, .int .u32 0, .int .u32 0, .int .u32 0, .int .u32 0, .int .u32 0, .int .u32 0, .int .u32 0, .int .u32 0, .slice none 0 0] 26) := ⟨_, rfl⟩
  have hs1 : Same w w1 := hw1 ▸ (((Same.refl w).alloc _).alloc _).alloc _
  have hbb : Blk w1 w.heap.size 26 #[.int .i64 f.pc, .int .u32 (rk f 0), .int .u32 (rk f 1), .int .u32 (rk f 2), .int .u32 (rk f 3), .int .u32 (rk f 4), .int .u32 (rk f 5), .int .u32 (rk f 6), .int .u32 (rk f 7), .slice T nT cT] := hw1 ▸ ((Blk.new w _ _).same ((Same.refl _).alloc _)).same ((Same.refl _).alloc _)
  have hbr : Blk w1 (w.heap.size + 1) 30 #[.int .i64 oa, .int .i64 ol] := by
    have h := (Blk.new (w.alloc (.cells #[.int .i64 f.pc, .int .u32 (rk f 0), .int .u32 (rk f 1), .int .u32 (rk f 2), .int .u32 (rk f 3), .int .u32 (rk f 4), .int .u32 (rk f 5), .int .u32 (rk f 6), .int .u32 (rk f 7), .slice T nT cT] 26)) 30 #[.int .i64 oa, .int .i64 ol]).same ((Same.refl _).alloc (.cells #[.int .i64 0, .int .u32 0, .int .u32 0, .int .u32 0, .int .u32 0, .int .u32 0, .int .u32 0, .int .u32 0, .int .u32 0, .slice none 0 0] 26))
    rw [hw1]
    simpa using h
  have hbz : Blk w1 (w.heap.size + 1 + 1) 26 #[.int .i64 0, .int .u32 0, .int .u32 0, .int .u32 0, .int .u32 0, .int .u32 0, .int .u32 0, .int .u32 0, .int .u32 0, .slice none 0 0] := by
    have h := Blk.new ((w.alloc (.cells #[.int .i64 f.pc, .int .u32 (rk f 0), .int .u32 (rk f 1), .int .u32 (rk f 2), .int .u32 (rk f 3), .int .u32 (rk f 4), .int .u32 (rk f 5), .int .u32 (rk f 6), .int .u32 (rk f 7), .slice T nT cT] 26)).alloc (.cells #[.int .i64 oa, .int .i64 ol] 30)) 26 #[.int .i64 0, .int .u32 0, .int .u32 0, .int .u32 0, .int .u32 0, .int .u32 0, .int .u32 0, .int .u32 0, .int .u32 0, .slice none 0 0]
    rw [hw1]
    simpa using h
  have E1 := Lib.hid hw1
  have HS1 := Lib.hid hs1
  have HBB := Lib.hid hbb
  have HBR := Lib.hid hbr
  have HBZ := Lib.hid hbz
  have HN := Lib.hid hn
  have CP := Lib.hid (rcopy_any f T nT cT w1 (hT.same hs1) hn hb)
  have HP := Lib.hid hp
  have HL := Lib.hid hl
  have HC := Lib.hid hc
  have HCN := Lib.hid hcn
  obtain ⟨x0, x1, x2, x3, x4, x5, x6, x7, x8, x9⟩ := (⟨hbb.cell 0, hbb.cell 1, hbb.cell 2, hbb.cell 3, hbb.cell 4, hbb.cell 5, hbb.cell 6, hbb.cell 7, hbb.cell 8, hbb.cell 9⟩ : _ ∧ _ ∧ _ ∧ _ ∧ _ ∧ _ ∧ _ ∧ _ ∧ _ ∧ _)
  simp only [List.getElem?_toArray, List.getElem?_cons_zero, List.getElem?_cons_succ] at x0 x1 x2 x3 x4 x5 x6 x7 x8 x9
  clear hw1 hs1 hbb hbr hbz hT hn hp hl hc hcn
  go_enter Tryd.func16, Tryd.ntmps16
  go_upto_region 1 with fail
  rw [← E1.out]
  clear E1
  generalize hq0 : w.heap.size + 1 = b1 at *
  have HQ0 := Lib.hid hq0
  clear hq0
  generalize hq1 : w.heap.size = b0 at *
  have HQ1 := Lib.hid hq1
  clear hq1
  go_wp2_with fail
  refine CP.out.mono ?_
  rintro e w2 ⟨T', c', rfl, ho, s2⟩
  have HO := Lib.hid (ho.base (B' := w.heap.size) (by have := HS1.out.size; exact this))
  have HB2 := Lib.hid (HBB.out.same s2)
  have HS2 := Lib.hid (HS1.out.trans s2)
  have HBR2 := Lib.hid (HBR.out.same s2)
  have HBZ2 := Lib.hid (HBZ.out.same s2)
  clear ho s2 x0 x1 x2 x3 x4 x5 x6 x7 x8 x9 CP
  obtain ⟨y0, y1, y2, y3, y4, y5, y6, y7, y8, y9⟩ := (⟨HB2.out.cell 0, HB2.out.cell 1, HB2.out.cell 2, HB2.out.cell 3, HB2.out.cell 4, HB2.out.cell 5, HB2.out.cell 6, HB2.out.cell 7, HB2.out.cell 8, HB2.out.cell 9⟩ : _ ∧ _ ∧ _ ∧ _ ∧ _ ∧ _ ∧ _ ∧ _ ∧ _ ∧ _)
  simp only [List.getElem?_toArray, List.getElem?_cons_zero, List.getElem?_cons_succ] at y0 y1 y2 y3 y4 y5 y6 y7 y8 y9
  obtain ⟨u0, u1, u2, u3, u4, u5, u6, u7, u8, u9⟩ := (⟨HB2.out.thaw 0, HB2.out.thaw 1, HB2.out.thaw 2, HB2.out.thaw 3, HB2.out.thaw 4, HB2.out.thaw 5, HB2.out.thaw 6, HB2.out.thaw 7, HB2.out.thaw 8, HB2.out.thaw 9⟩ : _ ∧ _ ∧ _ ∧ _ ∧ _ ∧ _ ∧ _ ∧ _ ∧ _ ∧ _)
  obtain ⟨w3, hw3⟩ : ∃ w3, w3 = ((((((((((w2.setCell ⟨b0, 0, none⟩ (.int .i64 f.pc)).setCell ⟨b0, 1, none⟩ (.int .u32 (rk f 0))).setCell ⟨b0, 2, none⟩ (.int .u32 (rk f 1))).setCell ⟨b0, 3, none⟩ (.int .u32 (rk f 2))).setCell ⟨b0, 4, none⟩ (.int .u32 (rk f 3))).setCell ⟨b0, 5, none⟩ (.int .u32 (rk f 4))).setCell ⟨b0, 6, none⟩ (.int .u32 (rk f 5))).setCell ⟨b0, 7, none⟩ (.int .u32 (rk f 6))).setCell ⟨b0, 8, none⟩ (.int .u32 (rk f 7))).setCell ⟨b0, 9, none⟩ (.slice T' nT c')) := ⟨_, rfl⟩
  obtain ⟨p1, p2⟩ := puts10 (v0 := .int .i64 f.pc) (v1 := .int .u32 (rk f 0)) (v2 := .int .u32 (rk f 1)) (v3 := .int .u32 (rk f 2)) (v4 := .int .u32 (rk f 3)) (v5 := .int .u32 (rk f 4)) (v6 := .int .u32 (rk f 5)) (v7 := .int .u32 (rk f 6)) (v8 := .int .u32 (rk f 7)) (v9 := .slice T' nT c') HB2.out
  rw [← hw3] at p1 p2
  have E3 := Lib.hid hw3
  have H3 := Lib.hid (show D13 w w3 b0 ⟨f, ws, st⟩ T' nT c' C n dC from ⟨p1, HO.out.chg p2 (fun g hg he => HO.out.ne HB2.out (by decide) g hg he), HN.out, (HC.out.same HS2.out).chg p2 (fun g hg he => (HC.out.same HS2.out).ne HB2.out (by decide) g hg he), HCN.out, (chg_nw (HS2.out.chg _) p2 (by have := HQ1.out; omega)), by have := HQ1.out; omega⟩)
  have HV3 := Lib.hid (show V13 w w3 b1 oa ol from ⟨HBR2.out.chg p2 (fun he => by have := HQ0.out; omega), HBZ2.out.chg p2 (fun he => by have := HQ0.out; omega)⟩)
  have HS3 := Lib.hid (show Same w w3 from chg_nw HS2.out p2 (by have := HQ1.out; omega))
  clear hw3 p1 p2 HO HB2 HS2 HBR2 HBZ2
  go_upto_region 2 with fail
  rw [← E3.out]
  clear E3 y0 y1 y2 y3 y4 y5 y6 y7 y8 y9 u0 u1 u2 u3 u4 u5 u6 u7 u8 u9
  obtain ⟨z0, z1, z2, z3, z4, z5, z6, z7, z8, z9⟩ := (⟨H3.out.fr.cell 0, H3.out.fr.cell 1, H3.out.fr.cell 2, H3.out.fr.cell 3, H3.out.fr.cell 4, H3.out.fr.cell 5, H3.out.fr.cell 6, H3.out.fr.cell 7, H3.out.fr.cell 8, H3.out.fr.cell 9⟩ : _ ∧ _ ∧ _ ∧ _ ∧ _ ∧ _ ∧ _ ∧ _ ∧ _ ∧ _)
  simp only [List.getElem?_toArray, List.getElem?_cons_zero, List.getElem?_cons_succ] at z0 z1 z2 z3 z4 z5 z6 z7 z8 z9
  obtain ⟨r0, r1⟩ := (⟨HV3.out.rg.cell 0, HV3.out.rg.cell 1⟩ : _ ∧ _)
  simp only [List.getElem?_toArray, List.getElem?_cons_zero, List.getElem?_cons_succ] at r0 r1
  have RR := Lib.hid (rright_any f T' nT c' A m cA p w3 HL.out hm (HP.out.same HS3.out) H3.out.tn.row HN.out hb)
  have HMB : mayB p ⟨f, ws, st⟩ oa ol = (rightF (okB p) p f && (decide (0 < ol) && Mm.inB ws.length oa ol)) := rfl
  rw [HCN.out] at HMB
  have HMB := Lib.hid HMB
  have RI := Lib.hid (fun (w' : World) => rinside_any (n : Int) oa ol (by omega) w')
  obtain ⟨hm1, hm2, hm3⟩ : rightF (okB p) p f = true ∧ 0 < ol ∧ Mm.inB n oa ol = true := by
    have h := HMB.out
    rw [HMBT.out] at h
    have h2 := h.symm
    rw [Bool.and_eq_true, Bool.and_eq_true, decide_eq_true_eq] at h2
    exact h2
  rw [hm1] at RR
  rw [hm3] at RI
  have h0 : ¬ ol < 1 := by omega
  have HIN := Lib.hid (show 0 ≤ oa ∧ 0 ≤ ol ∧ oa ≤ n ∧ ol ≤ n - oa by unfold Mm.inB at hm3; simpa using hm3)
  have HOL := Lib.hid hm2
  clear hm1 hm2 hm3 HMB
  go_wp2_with fail
  refine RR.out.mono ?_
  rintro e w4 ⟨rfl, s4⟩
  have r0' := s4.cell r0
  have r1' := s4.cell r1
  go_wp2_with fail
  refine (RI.out _).mono ?_
  rintro e w5 ⟨rfl, s5⟩
  have s45 := s4.trans s5
  have z0' := s45.cell z0
  rw [HPC.out] at z0'
  have H5 := Lib.hid (H3.out.same s45)
  have HV5 := Lib.hid (show V13 w w5 b1 oa ol from ⟨HV3.out.rg.same s45, HV3.out.rs.same s45⟩)
  have hkp : k < p.length := by have := HL.out; omega
  obtain ⟨_, b, o, hA, i0, i1, i2, i3, i4⟩ := (HP.out.same (HS3.out.trans s45)).at_ (k := k) hkp
  rw [HX.out] at i0 i1 i2 i3 i4
  simp only at i0 i1 i2 i3 i4
  subst hA
  have k0 : (0 : Int) ≤ k := by omega
  have k1 : (k : Int) < m := by omega
  obtain ⟨w6, hw6⟩ : ∃ w6, w6 = w5.alloc (.cells #[.int .i64 21, .int .i64 (ka : Int), .int .i64 (kb : Int), .int .i64 (kc : Int), .int .u32 (xn : Int)] 40) := ⟨_, rfl⟩
  have E6 := Lib.hid hw6
  have hs6 : Same w5 w6 := hw6 ▸ (Same.refl w5).alloc _
  have H6 := Lib.hid (H5.out.same hs6)
  have HV6 := Lib.hid (show V13 w w6 b1 oa ol from ⟨HV5.out.rg.same hs6, HV5.out.rs.same hs6⟩)
  have HI6 := Lib.hid (show Blk w6 w5.heap.size 40 #[.int .i64 21, .int .i64 (ka : Int), .int .i64 (kb : Int), .int .i64 (kc : Int), .int .u32 (xn : Int)] from hw6 ▸ Blk.new w5 _ _)
  have HBQ := Lib.hid (show b0 < w5.heap.size from H5.out.fr.lt)
  have HIQ := Lib.hid (show ∀ i, C = some ⟨i, 0, none⟩ → i < w5.heap.size from fun i hi => by
    rcases H5.out.ws.2 with ⟨hz, _⟩ | ⟨g2, cap, cur, hv, hB, hg, _⟩
    · rw [hi] at hz; cases hz
    · rw [hi] at hv
      injection hv with hv
      injection hv with hv
      injection hv with hv
      exact hv ▸ Blk.lt (t := 22) hg)
  go_upto_region 5 with fail
  rw [← E6.out]
  clear E6 hs6 hw6 s4 s5 s45 z0 z1 z2 z3 z4 z5 z6 z7 z8 z9 r0 r1 r0' r1' z0' i0 i1 i2 i3 i4 k0 k1 H3 HV3 H5 HV5 RR RI
  generalize w5.heap.size = q at *
  obtain ⟨i0, i1, i2, i3, i4⟩ := (⟨HI6.out.cell 0, HI6.out.cell 1, HI6.out.cell 2, HI6.out.cell 3, HI6.out.cell 4⟩ : _ ∧ _ ∧ _ ∧ _ ∧ _)
  simp only [List.getElem?_toArray, List.getElem?_cons_zero, List.getElem?_cons_succ] at i0 i1 i2 i3 i4
  have z0 := H6.out.fr.cell 0
  have z9 := H6.out.fr.cell 9
  simp only [List.getElem?_toArray, List.getElem?_cons_zero, List.getElem?_cons_succ] at z0 z9
  rw [HPC.out] at z0
  have HZ6 := Lib.hid HV6.out.rs
  clear z0 z9
  obtain ⟨x0, x1, x2, x3, x4, x5, x6, x7, x8, x9⟩ := (⟨H6.out.fr.cell 0, H6.out.fr.cell 1, H6.out.fr.cell 2, H6.out.fr.cell 3, H6.out.fr.cell 4, H6.out.fr.cell 5, H6.out.fr.cell 6, H6.out.fr.cell 7, H6.out.fr.cell 8, H6.out.fr.cell 9⟩ : _ ∧ _ ∧ _ ∧ _ ∧ _ ∧ _ ∧ _ ∧ _ ∧ _ ∧ _)
  simp only [List.getElem?_toArray, List.getElem?_cons_zero, List.getElem?_cons_succ] at x0 x1 x2 x3 x4 x5 x6 x7 x8 x9
  obtain ⟨y0, y1, y2, y3, y4, y5, y6, y7, y8, y9⟩ := (⟨HZ6.out.cell 0, HZ6.out.cell 1, HZ6.out.cell 2, HZ6.out.cell 3, HZ6.out.cell 4, HZ6.out.cell 5, HZ6.out.cell 6, HZ6.out.cell 7, HZ6.out.cell 8, HZ6.out.cell 9⟩ : _ ∧ _ ∧ _ ∧ _ ∧ _ ∧ _ ∧ _ ∧ _ ∧ _ ∧ _)
  simp only [List.getElem?_toArray, List.getElem?_cons_zero, List.getElem?_cons_succ] at y0 y1 y2 y3 y4 y5 y6 y7 y8 y9
  obtain ⟨u0, u1, u2, u3, u4, u5, u6, u7, u8, u9⟩ := (⟨HZ6.out.thaw 0, HZ6.out.thaw 1, HZ6.out.thaw 2, HZ6.out.thaw 3, HZ6.out.thaw 4, HZ6.out.thaw 5, HZ6.out.thaw 6, HZ6.out.thaw 7, HZ6.out.thaw 8, HZ6.out.thaw 9⟩ : _ ∧ _ ∧ _ ∧ _ ∧ _ ∧ _ ∧ _ ∧ _ ∧ _ ∧ _)
  obtain ⟨w9, hw9⟩ : ∃ w9, w9 = ((((((((((w6.setCell ⟨b1 + 1, 0, none⟩ (.int .i64 f.pc)).setCell ⟨b1 + 1, 1, none⟩ (.int .u32 (rk f 0))).setCell ⟨b1 + 1, 2, none⟩ (.int .u32 (rk f 1))).setCell ⟨b1 + 1, 3, none⟩ (.int .u32 (rk f 2))).setCell ⟨b1 + 1, 4, none⟩ (.int .u32 (rk f 3))).setCell ⟨b1 + 1, 5, none⟩ (.int .u32 (rk f 4))).setCell ⟨b1 + 1, 6, none⟩ (.int .u32 (rk f 5))).setCell ⟨b1 + 1, 7, none⟩ (.int .u32 (rk f 6))).setCell ⟨b1 + 1, 8, none⟩ (.int .u32 (rk f 7))).setCell ⟨b1 + 1, 9, none⟩ (.slice T' nT c')) := ⟨_, rfl⟩
  obtain ⟨p1, p2⟩ := ref_end H6.out HZ6.out (by have := HQ0.out; have := HQ1.out; omega) (2) (0) w9 hw9
  have P1 := Lib.hid p1
  have P2 := Lib.hid p2
  have E9 := Lib.hid hw9
  clear p1 p2 hw9
  go_wp2_with fail
  rw [← E9.out]
  exact bodyPost_ret (v := .tuple #[.agg #[.int .i64 f.pc, .int .u32 (rk f 0), .int .u32 (rk f 1), .int .u32 (rk f 2), .int .u32 (rk f 3), .int .u32 (rk f 4), .int .u32 (rk f 5), .int .u32 (rk f 6), .int .u32 (rk f 7), .slice T' nT c'], .int .i64 (2), .int .i64 (0)]) (results_cell3 Tryd.results16 _ _ (b1 + 1) 26 #[.int .i64 f.pc, .int .u32 (rk f 0), .int .u32 (rk f 1), .int .u32 (rk f 2), .int .u32 (rk f 3), .int .u32 (rk f 4), .int .u32 (rk f 5), .int .u32 (rk f 6), .int .u32 (rk f 7), .slice T' nT c'] (0, 0) _ rfl P1.out Tryd.underlying26 rfl frm_size) rfl P2.out
set_option maxRecDepth 100000 in
set_option maxHeartbeats 8000000 in
theorem rstep_17 (f : FS) (ws : List Nat) (st : Int) (T : Option Addr) (nT cT : Nat) (A : Option Addr) (m cA : Nat) (C : Option Addr) (n dC : Nat) (oa ol : Int) (p : List Ins) (w : World) (hT : Row w T (f.tn.map (Value.int .i64))) (hn : f.tn.length = nT) (hb : nT ≤ 5000) (hp : Prg w A p) (hl : p.length = m) (hm : m ≤ 5000) (hc : Own w 0 22 C dC ((cst ws).map (Value.int .u32))) (hcn : ws.length = n) (hcb : n ≤ 4096) (hmb : mayB p ⟨f, ws, st⟩ oa ol = true) (k ka kb kc xn va vb vc : Nat) (hpc : f.pc = (k : Int)) (hkm : k < m) (hx : at_ p k = ⟨17, ka, kb, kc, xn⟩) (hva : va = f.rg.getD ka 0) (hvb : vb = f.rg.getD kb 0) (hvc : vc = f.rg.getD kc 0) (hw : Wide ⟨f, ws, st⟩) (hxn : xn < 4294967296) :
    Calls Tryd.prog 16 #[.agg #[.int .i64 f.pc, .int .u32 (rk f 0), .int .u32 (rk f 1), .int .u32 (rk f 2), .int .u32 (rk f 3), .int .u32 (rk f 4), .int .u32 (rk f 5), .int .u32 (rk f 6), .int .u32 (rk f 7), .slice T nT cT], .slice A m cA, .slice C n dC, .agg #[.int .i64 oa, .int .i64 ol]] w (RefP w ⟨f, ws, st⟩ nT C n dC 1 0) := by
  have HPC := Lib.hid hpc
  have HX := Lib.hid hx
  have HVA := Lib.hid hva
  have HVB := Lib.hid hvb
  have HVC := Lib.hid hvc
  have HW := Lib.hid hw
  have HMBT := Lib.hid hmb
  clear hmb hpc hx hva hvb hvc hw
  obtain ⟨w1, hw1⟩ : ∃ w1, w1 = ((w.alloc (.cells #[.int .i64 f.pc, .int .u32 (rk f 0), .int .u32 (rk f 1), .int .u32 (rk f 2), .int .u32 (rk f 3), .int .u32 (rk f 4), .int .u32 (rk f 5), .int .u32 (rk f 6), .int .u32 (rk f 7), .slice T nT cT] 26)).alloc (.cells #[.int .i64 oa, .int .i64 ol] 30)).alloc (.cells #[.int .i64 0, .int .u32 0, .int .u32 0, .int .u32 0, .int .u32 0, .int .u32 0, .int .u32 0, .int .u32 0, .int .u32 0, .slice none 0 0] 26) := ⟨_, rfl⟩
  have hs1 : Same w w1 := hw1 ▸ (((Same.refl w).alloc _).alloc _).alloc _
  have hbb : Blk w1 w.heap.size 26 #[.int .i64 f.pc, .int .u32 (rk f 0), .int .u32 (rk f 1), .int .u32 (rk f 2), .int .u32 (rk f 3), .int .u32 (rk f 4), .int .u32 (rk f 5), .int .u32 (rk f 6), .int .u32 (rk f 7), .slice T nT cT] := hw1 ▸ ((Blk.new w _ _).same ((Same.refl _).alloc _)).same ((Same.refl _).alloc _)
  have hbr : Blk w1 (w.heap.size + 1) 30 #[.int .i64 oa, .int .i64 ol] := by
    have h := (Blk.new (w.alloc (.cells #[.int .i64 f.pc, .int .u32 (rk f 0), .int .u32 (rk f 1), .int .u32 (rk f 2), .int .u32 (rk f 3), .int .u32 (rk f 4), .int .u32 (rk f 5), .int .u32 (rk f 6), .int .u32 (rk f 7), .slice T nT cT] 26)) 30 #[.int .i64 oa, .int .i64 ol]).same ((Same.refl _).alloc (.cells #[.int .i64 0, .int .u32 0, .int .u32 0, .int .u32 0, .int .u32 0, .int .u32 0, .int .u32 0, .int .u32 0, .int .u32 0, .slice none 0 0] 26))
    rw [hw1]
    simpa using h
  have hbz : Blk w1 (w.heap.size + 1 + 1) 26 #[.int .i64 0, .int .u32 0, .int .u32 0, .int .u32 0, .int .u32 0, .int .u32 0, .int .u32 0, .int .u32 0, .int .u32 0, .slice none 0 0] := by
    have h := Blk.new ((w.alloc (.cells #[.int .i64 f.pc, .int .u32 (rk f 0), .int .u32 (rk f 1), .int .u32 (rk f 2), .int .u32 (rk f 3), .int .u32 (rk f 4), .int .u32 (rk f 5), .int .u32 (rk f 6), .int .u32 (rk f 7), .slice T nT cT] 26)).alloc (.cells #[.int .i64 oa, .int .i64 ol] 30)) 26 #[.int .i64 0, .int .u32 0, .int .u32 0, .int .u32 0, .int .u32 0, .int .u32 0, .int .u32 0, .int .u32 0, .int .u32 0, .slice none 0 0]
    rw [hw1]
    simpa using h
  have E1 := Lib.hid hw1
  have HS1 := Lib.hid hs1
  have HBB := Lib.hid hbb
  have HBR := Lib.hid hbr
  have HBZ := Lib.hid hbz
  have HN := Lib.hid hn
  have CP := Lib.hid (rcopy_any f T nT cT w1 (hT.same hs1) hn hb)
  have HP := Lib.hid hp
  have HL := Lib.hid hl
  have HC := Lib.hid hc
  have HCN := Lib.hid hcn
  obtain ⟨x0, x1, x2, x3, x4, x5, x6, x7, x8, x9⟩ := (⟨hbb.cell 0, hbb.cell 1, hbb.cell 2, hbb.cell 3, hbb.cell 4, hbb.cell 5, hbb.cell 6, hbb.cell 7, hbb.cell 8, hbb.cell 9⟩ : _ ∧ _ ∧ _ ∧ _ ∧ _ ∧ _ ∧ _ ∧ _ ∧ _ ∧ _)
  simp only [List.getElem?_toArray, List.getElem?_cons_zero, List.getElem?_cons_succ] at x0 x1 x2 x3 x4 x5 x6 x7 x8 x9
  clear hw1 hs1 hbb hbr hbz hT hn hp hl hc hcn
  go_enter Tryd.func16, Tryd.ntmps16
  go_upto_region 1 with fail
  rw [← E1.out]
  clear E1
  generalize hq0 : w.heap.size + 1 = b1 at *
  have HQ0 := Lib.hid hq0
  clear hq0
  generalize hq1 : w.heap.size = b0 at *
  have HQ1 := Lib.hid hq1
  clear hq1
  go_wp2_with fail
  refine CP.out.mono ?_
  rintro e w2 ⟨T', c', rfl, ho, s2⟩
  have HO := Lib.hid (ho.base (B' := w.heap.size) (by have := HS1.out.size; exact this))
  have HB2 := Lib.hid (HBB.out.same s2)
  have HS2 := Lib.hid (HS1.out.trans s2)
  have HBR2 := Lib.hid (HBR.out.same s2)
  have HBZ2 := Lib.hid (HBZ.out.same s2)
  clear ho s2 x0 x1 x2 x3 x4 x5 x6 x7 x8 x9 CP
  obtain ⟨y0, y1, y2, y3, y4, y5, y6, y7, y8, y9⟩ := (⟨HB2.out.cell 0, HB2.out.cell 1, HB2.out.cell 2, HB2.out.cell 3, HB2.out.cell 4, HB2.out.cell 5, HB2.out.cell 6, HB2.out.cell 7, HB2.out.cell 8, HB2.out.cell 9⟩ : _ ∧ _ ∧ _ ∧ _ ∧ _ ∧ _ ∧ _ ∧ _ ∧ _ ∧ _)
  simp only [List.getElem?_toArray, List.getElem?_cons_zero, List.getElem?_cons_succ] at y0 y1 y2 y3 y4 y5 y6 y7 y8 y9
  obtain ⟨u0, u1, u2, u3, u4, u5, u6, u7, u8, u9⟩ := (⟨HB2.out.thaw 0, HB2.out.thaw 1, HB2.out.thaw 2, HB2.out.thaw 3, HB2.out.thaw 4, HB2.out.thaw 5, HB2.out.thaw 6, HB2.out.thaw 7, HB2.out.thaw 8, HB2.out.thaw 9⟩ : _ ∧ _ ∧ _ ∧ _ ∧ _ ∧ _ ∧ _ ∧ _ ∧ _ ∧ _)
  obtain ⟨w3, hw3⟩ : ∃ w3, w3 = ((((((((((w2.setCell ⟨b0, 0, none⟩ (.int .i64 f.pc)).setCell ⟨b0, 1, none⟩ (.int .u32 (rk f 0))).setCell ⟨b0, 2, none⟩ (.int .u32 (rk f 1))).setCell ⟨b0, 3, none⟩ (.int .u32 (rk f 2))).setCell ⟨b0, 4, none⟩ (.int .u32 (rk f 3))).setCell ⟨b0, 5, none⟩ (.int .u32 (rk f 4))).setCell ⟨b0, 6, none⟩ (.int .u32 (rk f 5))).setCell ⟨b0, 7, none⟩ (.int .u32 (rk f 6))).setCell ⟨b0, 8, none⟩ (.int .u32 (rk f 7))).setCell ⟨b0, 9, none⟩ (.slice T' nT c')) := ⟨_, rfl⟩
  obtain ⟨p1, p2⟩ := puts10 (v0 := .int .i64 f.pc) (v1 := .int .u32 (rk f 0)) (v2 := .int .u32 (rk f 1)) (v3 := .int .u32 (rk f 2)) (v4 := .int .u32 (rk f 3)) (v5 := .int .u32 (rk f 4)) (v6 := .int .u32 (rk f 5)) (v7 := .int .u32 (rk f 6)) (v8 := .int .u32 (rk f 7)) (v9 := .slice T' nT c') HB2.out
  rw [← hw3] at p1 p2
  have E3 := Lib.hid hw3
  have H3 := Lib.hid (show D13 w w3 b0 ⟨f, ws, st⟩ T' nT c' C n dC from ⟨p1, HO.out.chg p2 (fun g hg he => HO.out.ne HB2.out (by decide) g hg he), HN.out, (HC.out.same HS2.out).chg p2 (fun g hg he => (HC.out.same HS2.out).ne HB2.out (by decide) g hg he), HCN.out, (chg_nw (HS2.out.chg _) p2 (by have := HQ1.out; omega)), by have := HQ1.out; omega⟩)
  have HV3 := Lib.hid (show V13 w w3 b1 oa ol from ⟨HBR2.out.chg p2 (fun he => by have := HQ0.out; omega), HBZ2.out.chg p2 (fun he => by have := HQ0.out; omega)⟩)
  have HS3 := Lib.hid (show Same w w3 from chg_nw HS2.out p2 (by have := HQ1.out; omega))
  clear hw3 p1 p2 HO HB2 HS2 HBR2 HBZ2
  go_upto_region 2 with fail
  rw [← E3.out]
  clear E3 y0 y1 y2 y3 y4 y5 y6 y7 y8 y9 u0 u1 u2 u3 u4 u5 u6 u7 u8 u9
  obtain ⟨z0, z1, z2, z3, z4, z5, z6, z7, z8, z9⟩ := (⟨H3.out.fr.cell 0, H3.out.fr.cell 1, H3.out.fr.cell 2, H3.out.fr.cell 3, H3.out.fr.cell 4, H3.out.fr.cell 5, H3.out.fr.cell 6, H3.out.fr.cell 7, H3.out.fr.cell 8, H3.out.fr.cell 9⟩ : _ ∧ _ ∧ _ ∧ _ ∧ _ ∧ _ ∧ _ ∧ _ ∧ _ ∧ _)
  simp only [List.getElem?_toArray, List.getElem?_cons_zero, List.getElem?_cons_succ] at z0 z1 z2 z3 z4 z5 z6 z7 z8 z9
  obtain ⟨r0, r1⟩ := (⟨HV3.out.rg.cell 0, HV3.out.rg.cell 1⟩ : _ ∧ _)
  simp only [List.getElem?_toArray, List.getElem?_cons_zero, List.getElem?_cons_succ] at r0 r1
  have RR := Lib.hid (rright_any f T' nT c' A m cA p w3 HL.out hm (HP.out.same HS3.out) H3.out.tn.row HN.out hb)
  have HMB : mayB p ⟨f, ws, st⟩ oa ol = (rightF (okB p) p f && (decide (0 < ol) && Mm.inB ws.length oa ol)) := rfl
  rw [HCN.out] at HMB
  have HMB := Lib.hid HMB
  have RI := Lib.hid (fun (w' : World) => rinside_any (n : Int) oa ol (by omega) w')
  obtain ⟨hm1, hm2, hm3⟩ : rightF (okB p) p f = true ∧ 0 < ol ∧ Mm.inB n oa ol = true := by
    have h := HMB.out
    rw [HMBT.out] at h
    have h2 := h.symm
    rw [Bool.and_eq_true, Bool.and_eq_true, decide_eq_true_eq] at h2
    exact h2
  rw [hm1] at RR
  rw [hm3] at RI
  have h0 : ¬ ol < 1 := by omega
  have HIN := Lib.hid (show 0 ≤ oa ∧ 0 ≤ ol ∧ oa ≤ n ∧ ol ≤ n - oa by unfold Mm.inB at hm3; simpa using hm3)
  have HOL := Lib.hid hm2
  clear hm1 hm2 hm3 HMB
  go_wp2_with fail
  refine RR.out.mono ?_
  rintro e w4 ⟨rfl, s4⟩
  have r0' := s4.cell r0
  have r1' := s4.cell r1
  go_wp2_with fail
  refine (RI.out _).mono ?_
  rintro e w5 ⟨rfl, s5⟩
  have s45 := s4.trans s5
  have z0' := s45.cell z0
  rw [HPC.out] at z0'
  have H5 := Lib.hid (H3.out.same s45)
  have HV5 := Lib.hid (show V13 w w5 b1 oa ol from ⟨HV3.out.rg.same s45, HV3.out.rs.same s45⟩)
  have hkp : k < p.length := by have := HL.out; omega
  obtain ⟨_, b, o, hA, i0, i1, i2, i3, i4⟩ := (HP.out.same (HS3.out.trans s45)).at_ (k := k) hkp
  rw [HX.out] at i0 i1 i2 i3 i4
  simp only at i0 i1 i2 i3 i4
  subst hA
  have k0 : (0 : Int) ≤ k := by omega
  have k1 : (k : Int) < m := by omega
  obtain ⟨w6, hw6⟩ : ∃ w6, w6 = w5.alloc (.cells #[.int .i64 17, .int .i64 (ka : Int), .int .i64 (kb : Int), .int .i64 (kc : Int), .int .u32 (xn : Int)] 40) := ⟨_, rfl⟩
  have E6 := Lib.hid hw6
  have hs6 : Same w5 w6 := hw6 ▸ (Same.refl w5).alloc _
  have H6 := Lib.hid (H5.out.same hs6)
  have HV6 := Lib.hid (show V13 w w6 b1 oa ol from ⟨HV5.out.rg.same hs6, HV5.out.rs.same hs6⟩)
  have HI6 := Lib.hid (show Blk w6 w5.heap.size 40 #[.int .i64 17, .int .i64 (ka : Int), .int .i64 (kb : Int), .int .i64 (kc : Int), .int .u32 (xn : Int)] from hw6 ▸ Blk.new w5 _ _)
  have HBQ := Lib.hid (show b0 < w5.heap.size from H5.out.fr.lt)
  have HIQ := Lib.hid (show ∀ i, C = some ⟨i, 0, none⟩ → i < w5.heap.size from fun i hi => by
    rcases H5.out.ws.2 with ⟨hz, _⟩ | ⟨g2, cap, cur, hv, hB, hg, _⟩
    · rw [hi] at hz; cases hz
    · rw [hi] at hv
      injection hv with hv
      injection hv with hv
      injection hv with hv
      exact hv ▸ Blk.lt (t := 22) hg)
  go_upto_region 5 with fail
  rw [← E6.out]
  clear E6 hs6 hw6 s4 s5 s45 z0 z1 z2 z3 z4 z5 z6 z7 z8 z9 r0 r1 r0' r1' z0' i0 i1 i2 i3 i4 k0 k1 H3 HV3 H5 HV5 RR RI
  generalize w5.heap.size = q at *
  obtain ⟨i0, i1, i2, i3, i4⟩ := (⟨HI6.out.cell 0, HI6.out.cell 1, HI6.out.cell 2, HI6.out.cell 3, HI6.out.cell 4⟩ : _ ∧ _ ∧ _ ∧ _ ∧ _)
  simp only [List.getElem?_toArray, List.getElem?_cons_zero, List.getElem?_cons_succ] at i0 i1 i2 i3 i4
  have z0 := H6.out.fr.cell 0
  have z9 := H6.out.fr.cell 9
  simp only [List.getElem?_toArray, List.getElem?_cons_zero, List.getElem?_cons_succ] at z0 z9
  rw [HPC.out] at z0
  have RC := Lib.hid (fun (w' : World) => by
    have h := Is.rcalls_any 17 w'
    rw [show Is.callV 17 = 1 by decide] at h
    exact h)
  go_wp2_with fail
  refine (RC.out _).mono ?_
  rintro e w7 ⟨rfl, rfl⟩
  have HZ6 := Lib.hid HV6.out.rs
  clear z0 z9
  obtain ⟨x0, x1, x2, x3, x4, x5, x6, x7, x8, x9⟩ := (⟨H6.out.fr.cell 0, H6.out.fr.cell 1, H6.out.fr.cell 2, H6.out.fr.cell 3, H6.out.fr.cell 4, H6.out.fr.cell 5, H6.out.fr.cell 6, H6.out.fr.cell 7, H6.out.fr.cell 8, H6.out.fr.cell 9⟩ : _ ∧ _ ∧ _ ∧ _ ∧ _ ∧ _ ∧ _ ∧ _ ∧ _ ∧ _)
  simp only [List.getElem?_toArray, List.getElem?_cons_zero, List.getElem?_cons_succ] at x0 x1 x2 x3 x4 x5 x6 x7 x8 x9
  obtain ⟨y0, y1, y2, y3, y4, y5, y6, y7, y8, y9⟩ := (⟨HZ6.out.cell 0, HZ6.out.cell 1, HZ6.out.cell 2, HZ6.out.cell 3, HZ6.out.cell 4, HZ6.out.cell 5, HZ6.out.cell 6, HZ6.out.cell 7, HZ6.out.cell 8, HZ6.out.cell 9⟩ : _ ∧ _ ∧ _ ∧ _ ∧ _ ∧ _ ∧ _ ∧ _ ∧ _ ∧ _)
  simp only [List.getElem?_toArray, List.getElem?_cons_zero, List.getElem?_cons_succ] at y0 y1 y2 y3 y4 y5 y6 y7 y8 y9
  obtain ⟨u0, u1, u2, u3, u4, u5, u6, u7, u8, u9⟩ := (⟨HZ6.out.thaw 0, HZ6.out.thaw 1, HZ6.out.thaw 2, HZ6.out.thaw 3, HZ6.out.thaw 4, HZ6.out.thaw 5, HZ6.out.thaw 6, HZ6.out.thaw 7, HZ6.out.thaw 8, HZ6.out.thaw 9⟩ : _ ∧ _ ∧ _ ∧ _ ∧ _ ∧ _ ∧ _ ∧ _ ∧ _ ∧ _)
  obtain ⟨w9, hw9⟩ : ∃ w9, w9 = ((((((((((w6.setCell ⟨b1 + 1, 0, none⟩ (.int .i64 f.pc)).setCell ⟨b1 + 1, 1, none⟩ (.int .u32 (rk f 0))).setCell ⟨b1 + 1, 2, none⟩ (.int .u32 (rk f 1))).setCell ⟨b1 + 1, 3, none⟩ (.int .u32 (rk f 2))).setCell ⟨b1 + 1, 4, none⟩ (.int .u32 (rk f 3))).setCell ⟨b1 + 1, 5, none⟩ (.int .u32 (rk f 4))).setCell ⟨b1 + 1, 6, none⟩ (.int .u32 (rk f 5))).setCell ⟨b1 + 1, 7, none⟩ (.int .u32 (rk f 6))).setCell ⟨b1 + 1, 8, none⟩ (.int .u32 (rk f 7))).setCell ⟨b1 + 1, 9, none⟩ (.slice T' nT c')) := ⟨_, rfl⟩
  obtain ⟨p1, p2⟩ := ref_end H6.out HZ6.out (by have := HQ0.out; have := HQ1.out; omega) (1) (0) w9 hw9
  have P1 := Lib.hid p1
  have P2 := Lib.hid p2
  have E9 := Lib.hid hw9
  clear p1 p2 hw9
  go_wp2_with fail
  rw [← E9.out]
  exact bodyPost_ret (v := .tuple #[.agg #[.int .i64 f.pc, .int .u32 (rk f 0), .int .u32 (rk f 1), .int .u32 (rk f 2), .int .u32 (rk f 3), .int .u32 (rk f 4), .int .u32 (rk f 5), .int .u32 (rk f 6), .int .u32 (rk f 7), .slice T' nT c'], .int .i64 (1), .int .i64 (0)]) (results_cell3 Tryd.results16 _ _ (b1 + 1) 26 #[.int .i64 f.pc, .int .u32 (rk f 0), .int .u32 (rk f 1), .int .u32 (rk f 2), .int .u32 (rk f 3), .int .u32 (rk f 4), .int .u32 (rk f 5), .int .u32 (rk f 6), .int .u32 (rk f 7), .slice T' nT c'] (0, 0) _ rfl P1.out Tryd.underlying26 rfl frm_size) rfl P2.out
set_option maxRecDepth 100000 in
set_option maxHeartbeats 8000000 in
theorem rstep_18 (f : FS) (ws : List Nat) (st : Int) (T : Option Addr) (nT cT : Nat) (A : Option Addr) (m cA : Nat) (C : Option Addr) (n dC : Nat) (oa ol : Int) (p : List Ins) (w : World) (hT : Row w T (f.tn.map (Value.int .i64))) (hn : f.tn.length = nT) (hb : nT ≤ 5000) (hp : Prg w A p) (hl : p.length = m) (hm : m ≤ 5000) (hc : Own w 0 22 C dC ((cst ws).map (Value.int .u32))) (hcn : ws.length = n) (hcb : n ≤ 4096) (hmb : mayB p ⟨f, ws, st⟩ oa ol = true) (k ka kb kc xn va vb vc : Nat) (hpc : f.pc = (k : Int)) (hkm : k < m) (hx : at_ p k = ⟨18, ka, kb, kc, xn⟩) (hva : va = f.rg.getD ka 0) (hvb : vb = f.rg.getD kb 0) (hvc : vc = f.rg.getD kc 0) (hw : Wide ⟨f, ws, st⟩) (hxn : xn < 4294967296) :
    Calls Tryd.prog 16 #[.agg #[.int .i64 f.pc, .int .u32 (rk f 0), .int .u32 (rk f 1), .int .u32 (rk f 2), .int .u32 (rk f 3), .int .u32 (rk f 4), .int .u32 (rk f 5), .int .u32 (rk f 6), .int .u32 (rk f 7), .slice T nT cT], .slice A m cA, .slice C n dC, .agg #[.int .i64 oa, .int .i64 ol]] w (RefP w ⟨f, ws, st⟩ nT C n dC 1 0) := by
  have HPC := Lib.hid hpc
  have HX := Lib.hid hx
  have HVA := Lib.hid hva
  have HVB := Lib.hid hvb
  have HVC := Lib.hid hvc
  have HW := Lib.hid hw
  have HMBT := Lib.hid hmb
  clear hmb hpc hx hva hvb hvc hw
  obtain ⟨w1, hw1⟩ : ∃ w1, w1 = ((w.alloc (.cells #[.int .i64 f.pc, .int .u32 (rk f 0), .int .u32 (rk f 1), .int .u32 (rk f 2), .int .u32 (rk f 3), .int .u32 (rk f 4), .int .u32 (rk f 5), .int .u32 (rk f 6), .int .u32 (rk f 7), .slice T nT cT] 26)).alloc (.cells #[.int .i64 oa, .int .i64 ol] 30)).alloc (.cells #[.int .i64 0, .int .u32 0, .int .u32 0, .int .u32 0, .int .u32 0, .int .u32 0, .int .u32 0, .int .u32 0, .int .u32 0, .slice none 0 0] 26) := ⟨_, rfl⟩
  have hs1 : Same w w1 := hw1 ▸ (((Same.refl w).alloc _).alloc _).alloc _
  have hbb : Blk w1 w.heap.size 26 #[.int .i64 f.pc, .int .u32 (rk f 0), .int .u32 (rk f 1), .int .u32 (rk f 2), .int .u32 (rk f 3), .int .u32 (rk f 4), .int .u32 (rk f 5), .int .u32 (rk f 6), .int .u32 (rk f 7), .slice T nT cT] := hw1 ▸ ((Blk.new w _ _).same ((Same.refl _).alloc _)).same ((Same.refl _).alloc _)
  have hbr : Blk w1 (w.heap.size + 1) 30 #[.int .i64 oa, .int .i64 ol] := by
    have h := (Blk.new (w.alloc (.cells #[.int .i64 f.pc, .int .u32 (rk f 0), .int .u32 (rk f 1), .int .u32 (rk f 2), .int .u32 (rk f 3), .int .u32 (rk f 4), .int .u32 (rk f 5), .int .u32 (rk f 6), .int .u32 (rk f 7), .slice T nT cT] 26)) 30 #[.int .i64 oa, .int .i64 ol]).same ((Same.refl _).alloc (.cells #[.int .i64 0, .int .u32 0, .int .u32 0, .int .u32 0, .int .u32 0, .int .u32 0, .int .u32 0, .int .u32 0, .int .u32 0, .slice none 0 0] 26))
    rw [hw1]
    simpa using h
  have hbz : Blk w1 (w.heap.size + 1 + 1) 26 #[.int .i64 0, .int .u32 0, .int .u32 0, .int .u32 0, .int .u32 0, .int .u32 0, .int .u32 0, .int .u32 0, .int .u32 0, .slice none 0 0] := by
    have h := Blk.new ((w.alloc (.cells #[.int .i64 f.pc, .int .u32 (rk f 0), .int .u32 (rk f 1), .int .u32 (rk f 2), .int .u32 (rk f 3), .int .u32 (rk f 4), .int .u32 (rk f 5), .int .u32 (rk f 6), .int .u32 (rk f 7), .slice T nT cT] 26)).alloc (.cells #[.int .i64 oa, .int .i64 ol] 30)) 26 #[.int .i64 0, .int .u32 0, .int .u32 0, .int .u32 0, .int .u32 0, .int .u32 0, .int .u32 0, .int .u32 0, .int .u32 0, .slice none 0 0]
    rw [hw1]
    simpa using h
  have E1 := Lib.hid hw1
  have HS1 := Lib.hid hs1
  have HBB := Lib.hid hbb
  have HBR := Lib.hid hbr
  have HBZ := Lib.hid hbz
  have HN := Lib.hid hn
  have CP := Lib.hid (rcopy_any f T nT cT w1 (hT.same hs1) hn hb)
  have HP := Lib.hid hp
  have HL := Lib.hid hl
  have HC := Lib.hid hc
  have HCN := Lib.hid hcn
  obtain ⟨x0, x1, x2, x3, x4, x5, x6, x7, x8, x9⟩ := (⟨hbb.cell 0, hbb.cell 1, hbb.cell 2, hbb.cell 3, hbb.cell 4, hbb.cell 5, hbb.cell 6, hbb.cell 7, hbb.cell 8, hbb.cell 9⟩ : _ ∧ _ ∧ _ ∧ _ ∧ _ ∧ _ ∧ _ ∧ _ ∧ _ ∧ _)
  simp only [List.getElem?_toArray, List.getElem?_cons_zero, List.getElem?_cons_succ] at x0 x1 x2 x3 x4 x5 x6 x7 x8 x9
  clear hw1 hs1 hbb hbr hbz hT hn hp hl hc hcn
  go_enter Tryd.func16, Tryd.ntmps16
  go_upto_region 1 with fail
  rw [← E1.out]
  clear E1
  generalize hq0 : w.heap.size + 1 = b1 at *
  have HQ0 := Lib.hid hq0
  clear hq0
  generalize hq1 : w.heap.size = b0 at *
  have HQ1 := Lib.hid hq1
  clear hq1
  go_wp2_with fail
  refine CP.out.mono ?_
  rintro e w2 ⟨T', c', rfl, ho, s2⟩
  have HO := Lib.hid (ho.base (B' := w.heap.size) (by have := HS1.out.size; exact this))
  have HB2 := Lib.hid (HBB.out.same s2)
  have HS2 := Lib.hid (HS1.out.trans s2)
  have HBR2 := Lib.hid (HBR.out.same s2)
  have HBZ2 := Lib.hid (HBZ.out.same s2)
  clear ho s2 x0 x1 x2 x3 x4 x5 x6 x7 x8 x9 CP
  obtain ⟨y0, y1, y2, y3, y4, y5, y6, y7, y8, y9⟩ := (⟨HB2.out.cell 0, HB2.out.cell 1, HB2.out.cell 2, HB2.out.cell 3, HB2.out.cell 4, HB2.out.cell 5, HB2.out.cell 6, HB2.out.cell 7, HB2.out.cell 8, HB2.out.cell 9⟩ : _ ∧ _ ∧ _ ∧ _ ∧ _ ∧ _ ∧ _ ∧ _ ∧ _ ∧ _)
  simp only [List.getElem?_toArray, List.getElem?_cons_zero, List.getElem?_cons_succ] at y0 y1 y2 y3 y4 y5 y6 y7 y8 y9
  obtain ⟨u0, u1, u2, u3, u4, u5, u6, u7, u8, u9⟩ := (⟨HB2.out.thaw 0, HB2.out.thaw 1, HB2.out.thaw 2, HB2.out.thaw 3, HB2.out.thaw 4, HB2.out.thaw 5, HB2.out.thaw 6, HB2.out.thaw 7, HB2.out.thaw 8, HB2.out.thaw 9⟩ : _ ∧ _ ∧ _ ∧ _ ∧ _ ∧ _ ∧ _ ∧ _ ∧ _ ∧ _)
  obtain ⟨w3, hw3⟩ : ∃ w3, w3 = ((((((((((w2.setCell ⟨b0, 0, none⟩ (.int .i64 f.pc)).setCell ⟨b0, 1, none⟩ (.int .u32 (rk f 0))).setCell ⟨b0, 2, none⟩ (.int .u32 (rk f 1))).setCell ⟨b0, 3, none⟩ (.int .u32 (rk f 2))).setCell ⟨b0, 4, none⟩ (.int .u32 (rk f 3))).setCell ⟨b0, 5, none⟩ (.int .u32 (rk f 4))).setCell ⟨b0, 6, none⟩ (.int .u32 (rk f 5))).setCell ⟨b0, 7, none⟩ (.int .u32 (rk f 6))).setCell ⟨b0, 8, none⟩ (.int .u32 (rk f 7))).setCell ⟨b0, 9, none⟩ (.slice T' nT c')) := ⟨_, rfl⟩
  obtain ⟨p1, p2⟩ := puts10 (v0 := .int .i64 f.pc) (v1 := .int .u32 (rk f 0)) (v2 := .int .u32 (rk f 1)) (v3 := .int .u32 (rk f 2)) (v4 := .int .u32 (rk f 3)) (v5 := .int .u32 (rk f 4)) (v6 := .int .u32 (rk f 5)) (v7 := .int .u32 (rk f 6)) (v8 := .int .u32 (rk f 7)) (v9 := .slice T' nT c') HB2.out
  rw [← hw3] at p1 p2
  have E3 := Lib.hid hw3
  have H3 := Lib.hid (show D13 w w3 b0 ⟨f, ws, st⟩ T' nT c' C n dC from ⟨p1, HO.out.chg p2 (fun g hg he => HO.out.ne HB2.out (by decide) g hg he), HN.out, (HC.out.same HS2.out).chg p2 (fun g hg he => (HC.out.same HS2.out).ne HB2.out (by decide) g hg he), HCN.out, (chg_nw (HS2.out.chg _) p2 (by have := HQ1.out; omega)), by have := HQ1.out; omega⟩)
  have HV3 := Lib.hid (show V13 w w3 b1 oa ol from ⟨HBR2.out.chg p2 (fun he => by have := HQ0.out; omega), HBZ2.out.chg p2 (fun he => by have := HQ0.out; omega)⟩)
  have HS3 := Lib.hid (show Same w w3 from chg_nw HS2.out p2 (by have := HQ1.out; omega))
  clear hw3 p1 p2 HO HB2 HS2 HBR2 HBZ2
  go_upto_region 2 with fail
  rw [← E3.out]
  clear E3 y0 y1 y2 y3 y4 y5 y6 y7 y8 y9 u0 u1 u2 u3 u4 u5 u6 u7 u8 u9
  obtain ⟨z0, z1, z2, z3, z4, z5, z6, z7, z8, z9⟩ := (⟨H3.out.fr.cell 0, H3.out.fr.cell 1, H3.out.fr.cell 2, H3.out.fr.cell 3, H3.out.fr.cell 4, H3.out.fr.cell 5, H3.out.fr.cell 6, H3.out.fr.cell 7, H3.out.fr.cell 8, H3.out.fr.cell 9⟩ : _ ∧ _ ∧ _ ∧ _ ∧ _ ∧ _ ∧ _ ∧ _ ∧ _ ∧ _)
  simp only [List.getElem?_toArray, List.getElem?_cons_zero, List.getElem?_cons_succ] at z0 z1 z2 z3 z4 z5 z6 z7 z8 z9
  obtain ⟨r0, r1⟩ := (⟨HV3.out.rg.cell 0, HV3.out.rg.cell 1⟩ : _ ∧ _)
  simp only [List.getElem?_toArray, List.getElem?_cons_zero, List.getElem?_cons_succ] at r0 r1
  have RR := Lib.hid (rright_any f T' nT c' A m cA p w3 HL.out hm (HP.out.same HS3.out) H3.out.tn.row HN.out hb)
  have HMB : mayB p ⟨f, ws, st⟩ oa ol = (rightF (okB p) p f && (decide (0 < ol) && Mm.inB ws.length oa ol)) := rfl
  rw [HCN.out] at HMB
  have HMB := Lib.hid HMB
  have RI := Lib.hid (fun (w' : World) => rinside_any (n : Int) oa ol (by omega) w')
  obtain ⟨hm1, hm2, hm3⟩ : rightF (okB p) p f = true ∧ 0 < ol ∧ Mm.inB n oa ol = true := by
    have h := HMB.out
    rw [HMBT.out] at h
    have h2 := h.symm
    rw [Bool.and_eq_true, Bool.and_eq_true, decide_eq_true_eq] at h2
    exact h2
  rw [hm1] at RR
  rw [hm3] at RI
  have h0 : ¬ ol < 1 := by omega
  have HIN := Lib.hid (show 0 ≤ oa ∧ 0 ≤ ol ∧ oa ≤ n ∧ ol ≤ n - oa by unfold Mm.inB at hm3; simpa using hm3)
  have HOL := Lib.hid hm2
  clear hm1 hm2 hm3 HMB
  go_wp2_with fail
  refine RR.out.mono ?_
  rintro e w4 ⟨rfl, s4⟩
  have r0' := s4.cell r0
  have r1' := s4.cell r1
  go_wp2_with fail
  refine (RI.out _).mono ?_
  rintro e w5 ⟨rfl, s5⟩
  have s45 := s4.trans s5
  have z0' := s45.cell z0
  rw [HPC.out] at z0'
  have H5 := Lib.hid (H3.out.same s45)
  have HV5 := Lib.hid (show V13 w w5 b1 oa ol from ⟨HV3.out.rg.same s45, HV3.out.rs.same s45⟩)
  have hkp : k < p.length := by have := HL.out; omega
  obtain ⟨_, b, o, hA, i0, i1, i2, i3, i4⟩ := (HP.out.same (HS3.out.trans s45)).at_ (k := k) hkp
  rw [HX.out] at i0 i1 i2 i3 i4
  simp only at i0 i1 i2 i3 i4
  subst hA
  have k0 : (0 : Int) ≤ k := by omega
  have k1 : (k : Int) < m := by omega
  obtain ⟨w6, hw6⟩ : ∃ w6, w6 = w5.alloc (.cells #[.int .i64 18, .int .i64 (ka : Int), .int .i64 (kb : Int), .int .i64 (kc : Int), .int .u32 (xn : Int)] 40) := ⟨_, rfl⟩
  have E6 := Lib.hid hw6
  have hs6 : Same w5 w6 := hw6 ▸ (Same.refl w5).alloc _
  have H6 := Lib.hid (H5.out.same hs6)
  have HV6 := Lib.hid (show V13 w w6 b1 oa ol from ⟨HV5.out.rg.same hs6, HV5.out.rs.same hs6⟩)
  have HI6 := Lib.hid (show Blk w6 w5.heap.size 40 #[.int .i64 18, .int .i64 (ka : Int), .int .i64 (kb : Int), .int .i64 (kc : Int), .int .u32 (xn : Int)] from hw6 ▸ Blk.new w5 _ _)
  have HBQ := Lib.hid (show b0 < w5.heap.size from H5.out.fr.lt)
  have HIQ := Lib.hid (show ∀ i, C = some ⟨i, 0, none⟩ → i < w5.heap.size from fun i hi => by
    rcases H5.out.ws.2 with ⟨hz, _⟩ | ⟨g2, cap, cur, hv, hB, hg, _⟩
    · rw [hi] at hz; cases hz
    · rw [hi] at hv
      injection hv with hv
      injection hv with hv
      injection hv with hv
      exact hv ▸ Blk.lt (t := 22) hg)
  go_upto_region 5 with fail
  rw [← E6.out]
  clear E6 hs6 hw6 s4 s5 s45 z0 z1 z2 z3 z4 z5 z6 z7 z8 z9 r0 r1 r0' r1' z0' i0 i1 i2 i3 i4 k0 k1 H3 HV3 H5 HV5 RR RI
  generalize w5.heap.size = q at *
  obtain ⟨i0, i1, i2, i3, i4⟩ := (⟨HI6.out.cell 0, HI6.out.cell 1, HI6.out.cell 2, HI6.out.cell 3, HI6.out.cell 4⟩ : _ ∧ _ ∧ _ ∧ _ ∧ _)
  simp only [List.getElem?_toArray, List.getElem?_cons_zero, List.getElem?_cons_succ] at i0 i1 i2 i3 i4
  have z0 := H6.out.fr.cell 0
  have z9 := H6.out.fr.cell 9
  simp only [List.getElem?_toArray, List.getElem?_cons_zero, List.getElem?_cons_succ] at z0 z9
  rw [HPC.out] at z0
  have RC := Lib.hid (fun (w' : World) => by
    have h := Is.rcalls_any 18 w'
    rw [show Is.callV 18 = 2 by decide] at h
    exact h)
  go_wp2_with fail
  refine (RC.out _).mono ?_
  rintro e w7 ⟨rfl, rfl⟩
  have HZ6 := Lib.hid HV6.out.rs
  clear z0 z9
  obtain ⟨x0, x1, x2, x3, x4, x5, x6, x7, x8, x9⟩ := (⟨H6.out.fr.cell 0, H6.out.fr.cell 1, H6.out.fr.cell 2, H6.out.fr.cell 3, H6.out.fr.cell 4, H6.out.fr.cell 5, H6.out.fr.cell 6, H6.out.fr.cell 7, H6.out.fr.cell 8, H6.out.fr.cell 9⟩ : _ ∧ _ ∧ _ ∧ _ ∧ _ ∧ _ ∧ _ ∧ _ ∧ _ ∧ _)
  simp only [List.getElem?_toArray, List.getElem?_cons_zero, List.getElem?_cons_succ] at x0 x1 x2 x3 x4 x5 x6 x7 x8 x9
  obtain ⟨y0, y1, y2, y3, y4, y5, y6, y7, y8, y9⟩ := (⟨HZ6.out.cell 0, HZ6.out.cell 1, HZ6.out.cell 2, HZ6.out.cell 3, HZ6.out.cell 4, HZ6.out.cell 5, HZ6.out.cell 6, HZ6.out.cell 7, HZ6.out.cell 8, HZ6.out.cell 9⟩ : _ ∧ _ ∧ _ ∧ _ ∧ _ ∧ _ ∧ _ ∧ _ ∧ _ ∧ _)
  simp only [List.getElem?_toArray, List.getElem?_cons_zero, List.getElem?_cons_succ] at y0 y1 y2 y3 y4 y5 y6 y7 y8 y9
  obtain ⟨u0, u1, u2, u3, u4, u5, u6, u7, u8, u9⟩ := (⟨HZ6.out.thaw 0, HZ6.out.thaw 1, HZ6.out.thaw 2, HZ6.out.thaw 3, HZ6.out.thaw 4, HZ6.out.thaw 5, HZ6.out.thaw 6, HZ6.out.thaw 7, HZ6.out.thaw 8, HZ6.out.thaw 9⟩ : _ ∧ _ ∧ _ ∧ _ ∧ _ ∧ _ ∧ _ ∧ _ ∧ _ ∧ _)
  obtain ⟨w9, hw9⟩ : ∃ w9, w9 = ((((((((((w6.setCell ⟨b1 + 1, 0, none⟩ (.int .i64 f.pc)).setCell ⟨b1 + 1, 1, none⟩ (.int .u32 (rk f 0))).setCell ⟨b1 + 1, 2, none⟩ (.int .u32 (rk f 1))).setCell ⟨b1 + 1, 3, none⟩ (.int .u32 (rk f 2))).setCell ⟨b1 + 1, 4, none⟩ (.int .u32 (rk f 3))).setCell ⟨b1 + 1, 5, none⟩ (.int .u32 (rk f 4))).setCell ⟨b1 + 1, 6, none⟩ (.int .u32 (rk f 5))).setCell ⟨b1 + 1, 7, none⟩ (.int .u32 (rk f 6))).setCell ⟨b1 + 1, 8, none⟩ (.int .u32 (rk f 7))).setCell ⟨b1 + 1, 9, none⟩ (.slice T' nT c')) := ⟨_, rfl⟩
  obtain ⟨p1, p2⟩ := ref_end H6.out HZ6.out (by have := HQ0.out; have := HQ1.out; omega) (1) (0) w9 hw9
  have P1 := Lib.hid p1
  have P2 := Lib.hid p2
  have E9 := Lib.hid hw9
  clear p1 p2 hw9
  go_wp2_with fail
  rw [← E9.out]
  exact bodyPost_ret (v := .tuple #[.agg #[.int .i64 f.pc, .int .u32 (rk f 0), .int .u32 (rk f 1), .int .u32 (rk f 2), .int .u32 (rk f 3), .int .u32 (rk f 4), .int .u32 (rk f 5), .int .u32 (rk f 6), .int .u32 (rk f 7), .slice T' nT c'], .int .i64 (1), .int .i64 (0)]) (results_cell3 Tryd.results16 _ _ (b1 + 1) 26 #[.int .i64 f.pc, .int .u32 (rk f 0), .int .u32 (rk f 1), .int .u32 (rk f 2), .int .u32 (rk f 3), .int .u32 (rk f 4), .int .u32 (rk f 5), .int .u32 (rk f 6), .int .u32 (rk f 7), .slice T' nT c'] (0, 0) _ rfl P1.out Tryd.underlying26 rfl frm_size) rfl P2.out
set_option maxRecDepth 100000 in
set_option maxHeartbeats 8000000 in
theorem rstep_19 (f : FS) (ws : List Nat) (st : Int) (T : Option Addr) (nT cT : Nat) (A : Option Addr) (m cA : Nat) (C : Option Addr) (n dC : Nat) (oa ol : Int) (p : List Ins) (w : World) (hT : Row w T (f.tn.map (Value.int .i64))) (hn : f.tn.length = nT) (hb : nT ≤ 5000) (hp : Prg w A p) (hl : p.length = m) (hm : m ≤ 5000) (hc : Own w 0 22 C dC ((cst ws).map (Value.int .u32))) (hcn : ws.length = n) (hcb : n ≤ 4096) (hmb : mayB p ⟨f, ws, st⟩ oa ol = true) (k ka kb kc xn va vb vc : Nat) (hpc : f.pc = (k : Int)) (hkm : k < m) (hx : at_ p k = ⟨19, ka, kb, kc, xn⟩) (hva : va = f.rg.getD ka 0) (hvb : vb = f.rg.getD kb 0) (hvc : vc = f.rg.getD kc 0) (hw : Wide ⟨f, ws, st⟩) (hxn : xn < 4294967296) :
    Calls Tryd.prog 16 #[.agg #[.int .i64 f.pc, .int .u32 (rk f 0), .int .u32 (rk f 1), .int .u32 (rk f 2), .int .u32 (rk f 3), .int .u32 (rk f 4), .int .u32 (rk f 5), .int .u32 (rk f 6), .int .u32 (rk f 7), .slice T nT cT], .slice A m cA, .slice C n dC, .agg #[.int .i64 oa, .int .i64 ol]] w (RefP w ⟨f, ws, st⟩ nT C n dC 1 0) := by
  have HPC := Lib.hid hpc
  have HX := Lib.hid hx
  have HVA := Lib.hid hva
  have HVB := Lib.hid hvb
  have HVC := Lib.hid hvc
  have HW := Lib.hid hw
  have HMBT := Lib.hid hmb
  clear hmb hpc hx hva hvb hvc hw
  obtain ⟨w1, hw1⟩ : ∃ w1, w1 = ((w.alloc (.cells #[.int .i64 f.pc, .int .u32 (rk f 0), .int .u32 (rk f 1), .int .u32 (rk f 2), .int .u32 (rk f 3), .int .u32 (rk f 4), .int .u32 (rk f 5), .int .u32 (rk f 6), .int .u32 (rk f 7), .slice T nT cT] 26)).alloc (.cells #[.int .i64 oa, .int .i64 ol] 30)).alloc (.cells #[.int .i64 0, .int .u32 0, .int .u32 0, .int .u32 0, .int .u32 0, .int .u32 0, .int .u32 0, .int .u32 0, .int .u32 0, .slice none 0 0] 26) := ⟨_, rfl⟩
  have hs1 : Same w w1 := hw1 ▸ (((Same.refl w).alloc _).alloc _).alloc _
  have hbb : Blk w1 w.heap.size 26 #[.int .i64 f.pc, .int .u32 (rk f 0), .int .u32 (rk f 1), .int .u32 (rk f 2), .int .u32 (rk f 3), .int .u32 (rk f 4), .int .u32 (rk f 5), .int .u32 (rk f 6), .int .u32 (rk f 7), .slice T nT cT] := hw1 ▸ ((Blk.new w _ _).same ((Same.refl _).alloc _)).same ((Same.refl _).alloc _)
  have hbr : Blk w1 (w.heap.size + 1) 30 #[.int .i64 oa, .int .i64 ol] := by
    have h := (Blk.new (w.alloc (.cells #[.int .i64 f.pc, .int .u32 (rk f 0), .int .u32 (rk f 1), .int .u32 (rk f 2), .int .u32 (rk f 3), .int .u32 (rk f 4), .int .u32 (rk f 5), .int .u32 (rk f 6), .int .u32 (rk f 7), .slice T nT cT] 26)) 30 #[.int .i64 oa, .int .i64 ol]).same ((Same.refl _).alloc (.cells #[.int .i64 0, .int .u32 0, .int .u32 0, .int .u32 0, .int .u32 0, .int .u32 0, .int .u32 0, .int .u32 0, .int .u32 0, .slice none 0 0] 26))
    rw [hw1]
    simpa using h
  have hbz : Blk w1 (w.heap.size + 1 + 1) 26 #[.int .i64 0, .int .u32 0, .int .u32 0, .int .u32 0, .int .u32 0, .int .u32 0, .int .u32 0, .int .u32 0, .int .u32 0, .slice none 0 0] := by
    have h := Blk.new ((w.alloc (.cells #[.int .i64 f.pc, .int .u32 (rk f 0), .int .u32 (rk f 1), .int .u32 (rk f 2), .int .u32 (rk f 3), .int .u32 (rk f 4), .int .u32 (rk f 5), .int .u32 (rk f 6), .int .u32 (rk f 7), .slice T nT cT] 26)).alloc (.cells #[.int .i64 oa, .int .i64 ol] 30)) 26 #[.int .i64 0, .int .u32 0, .int .u32 0, .int .u32 0, .int .u32 0, .int .u32 0, .int .u32 0, .int .u32 0, .int .u32 0, .slice none 0 0]
    rw [hw1]
    simpa using h
  have E1 := Lib.hid hw1
  have HS1 := Lib.hid hs1
  have HBB := Lib.hid hbb
  have HBR := Lib.hid hbr
  have HBZ := Lib.hid hbz
  have HN := Lib.hid hn
  have CP := Lib.hid (rcopy_any f T nT cT w1 (hT.same hs1) hn hb)
  have HP := Lib.hid hp
  have HL := Lib.hid hl
  have HC := Lib.hid hc
  have HCN := Lib.hid hcn
  obtain ⟨x0, x1, x2, x3, x4, x5, x6, x7, x8, x9⟩ := (⟨hbb.cell 0, hbb.cell 1, hbb.cell 2, hbb.cell 3, hbb.cell 4, hbb.cell 5, hbb.cell 6, hbb.cell 7, hbb.cell 8, hbb.cell 9⟩ : _ ∧ _ ∧ _ ∧ _ ∧ _ ∧ _ ∧ _ ∧ _ ∧ _ ∧ _)
  simp only [List.getElem?_toArray, List.getElem?_cons_zero, List.getElem?_cons_succ] at x0 x1 x2 x3 x4 x5 x6 x7 x8 x9
  clear hw1 hs1 hbb hbr hbz hT hn hp hl hc hcn
  go_enter Tryd.func16, Tryd.ntmps16
  go_upto_region 1 with fail
  rw [← E1.out]
  clear E1
  generalize hq0 : w.heap.size + 1 = b1 at *
  have HQ0 := Lib.hid hq0
  clear hq0
  generalize hq1 : w.heap.size = b0 at *
  have HQ1 := Lib.hid hq1
  clear hq1
  go_wp2_with fail
  refine CP.out.mono ?_
  rintro e w2 ⟨T', c', rfl, ho, s2⟩
  have HO := Lib.hid (ho.base (B' := w.heap.size) (by have := HS1.out.size; exact this))
  have HB2 := Lib.hid (HBB.out.same s2)
  have HS2 := Lib.hid (HS1.out.trans s2)
  have HBR2 := Lib.hid (HBR.out.same s2)
  have HBZ2 := Lib.hid (HBZ.out.same s2)
  clear ho s2 x0 x1 x2 x3 x4 x5 x6 x7 x8 x9 CP
  obtain ⟨y0, y1, y2, y3, y4, y5, y6, y7, y8, y9⟩ := (⟨HB2.out.cell 0, HB2.out.cell 1, HB2.out.cell 2, HB2.out.cell 3, HB2.out.cell 4, HB2.out.cell 5, HB2.out.cell 6, HB2.out.cell 7, HB2.out.cell 8, HB2.out.cell 9⟩ : _ ∧ _ ∧ _ ∧ _ ∧ _ ∧ _ ∧ _ ∧ _ ∧ _ ∧ _)
  simp only [List.getElem?_toArray, List.getElem?_cons_zero, List.getElem?_cons_succ] at y0 y1 y2 y3 y4 y5 y6 y7 y8 y9
  obtain ⟨u0, u1, u2, u3, u4, u5, u6, u7, u8, u9⟩ := (⟨HB2.out.thaw 0, HB2.out.thaw 1, HB2.out.thaw 2, HB2.out.thaw 3, HB2.out.thaw 4, HB2.out.thaw 5, HB2.out.thaw 6, HB2.out.thaw 7, HB2.out.thaw 8, HB2.out.thaw 9⟩ : _ ∧ _ ∧ _ ∧ _ ∧ _ ∧ _ ∧ _ ∧ _ ∧ _ ∧ _)
  obtain ⟨w3, hw3⟩ : ∃ w3, w3 = ((((((((((w2.setCell ⟨b0, 0, none⟩ (.int .i64 f.pc)).setCell ⟨b0, 1, none⟩ (.int .u32 (rk f 0))).setCell ⟨b0, 2, none⟩ (.int .u32 (rk f 1))).setCell ⟨b0, 3, none⟩ (.int .u32 (rk f 2))).setCell ⟨b0, 4, none⟩ (.int .u32 (rk f 3))).setCell ⟨b0, 5, none⟩ (.int .u32 (rk f 4))).setCell ⟨b0, 6, none⟩ (.int .u32 (rk f 5))).setCell ⟨b0, 7, none⟩ (.int .u32 (rk f 6))).setCell ⟨b0, 8, none⟩ (.int .u32 (rk f 7))).setCell ⟨b0, 9, none⟩ (.slice T' nT c')) := ⟨_, rfl⟩
  obtain ⟨p1, p2⟩ := puts10 (v0 := .int .i64 f.pc) (v1 := .int .u32 (rk f 0)) (v2 := .int .u32 (rk f 1)) (v3 := .int .u32 (rk f 2)) (v4 := .int .u32 (rk f 3)) (v5 := .int .u32 (rk f 4)) (v6 := .int .u32 (rk f 5)) (v7 := .int .u32 (rk f 6)) (v8 := .int .u32 (rk f 7)) (v9 := .slice T' nT c') HB2.out
  rw [← hw3] at p1 p2
  have E3 := Lib.hid hw3
  have H3 := Lib.hid (show D13 w w3 b0 ⟨f, ws, st⟩ T' nT c' C n dC from ⟨p1, HO.out.chg p2 (fun g hg he => HO.out.ne HB2.out (by decide) g hg he), HN.out, (HC.out.same HS2.out).chg p2 (fun g hg he => (HC.out.same HS2.out).ne HB2.out (by decide) g hg he), HCN.out, (chg_nw (HS2.out.chg _) p2 (by have := HQ1.out; omega)), by have := HQ1.out; omega⟩)
  have HV3 := Lib.hid (show V13 w w3 b1 oa ol from ⟨HBR2.out.chg p2 (fun he => by have := HQ0.out; omega), HBZ2.out.chg p2 (fun he => by have := HQ0.out; omega)⟩)
  have HS3 := Lib.hid (show Same w w3 from chg_nw HS2.out p2 (by have := HQ1.out; omega))
  clear hw3 p1 p2 HO HB2 HS2 HBR2 HBZ2
  go_upto_region 2 with fail
  rw [← E3.out]
  clear E3 y0 y1 y2 y3 y4 y5 y6 y7 y8 y9 u0 u1 u2 u3 u4 u5 u6 u7 u8 u9
  obtain ⟨z0, z1, z2, z3, z4, z5, z6, z7, z8, z9⟩ := (⟨H3.out.fr.cell 0, H3.out.fr.cell 1, H3.out.fr.cell 2, H3.out.fr.cell 3, H3.out.fr.cell 4, H3.out.fr.cell 5, H3.out.fr.cell 6, H3.out.fr.cell 7, H3.out.fr.cell 8, H3.out.fr.cell 9⟩ : _ ∧ _ ∧ _ ∧ _ ∧ _ ∧ _ ∧ _ ∧ _ ∧ _ ∧ _)
  simp only [List.getElem?_toArray, List.getElem?_cons_zero, List.getElem?_cons_succ] at z0 z1 z2 z3 z4 z5 z6 z7 z8 z9
  obtain ⟨r0, r1⟩ := (⟨HV3.out.rg.cell 0, HV3.out.rg.cell 1⟩ : _ ∧ _)
  simp only [List.getElem?_toArray, List.getElem?_cons_zero, List.getElem?_cons_succ] at r0 r1
  have RR := Lib.hid (rright_any f T' nT c' A m cA p w3 HL.out hm (HP.out.same HS3.out) H3.out.tn.row HN.out hb)
  have HMB : mayB p ⟨f, ws, st⟩ oa ol = (rightF (okB p) p f && (decide (0 < ol) && Mm.inB ws.length oa ol)) := rfl
  rw [HCN.out] at HMB
  have HMB := Lib.hid HMB
  have RI := Lib.hid (fun (w' : World) => rinside_any (n : Int) oa ol (by omega) w')
  obtain ⟨hm1, hm2, hm3⟩ : rightF (okB p) p f = true ∧ 0 < ol ∧ Mm.inB n oa ol = true := by
    have h := HMB.out
    rw [HMBT.out] at h
    have h2 := h.symm
    rw [Bool.and_eq_true, Bool.and_eq_true, decide_eq_true_eq] at h2
    exact h2
  rw [hm1] at RR
  rw [hm3] at RI
  have h0 : ¬ ol < 1 := by omega
  have HIN := Lib.hid (show 0 ≤ oa ∧ 0 ≤ ol ∧ oa ≤ n ∧ ol ≤ n - oa by unfold Mm.inB at hm3; simpa using hm3)
  have HOL := Lib.hid hm2
  clear hm1 hm2 hm3 HMB
  go_wp2_with fail
  refine RR.out.mono ?_
  rintro e w4 ⟨rfl, s4⟩
  have r0' := s4.cell r0
  have r1' := s4.cell r1
  go_wp2_with fail
  refine (RI.out _).mono ?_
  rintro e w5 ⟨rfl, s5⟩
  have s45 := s4.trans s5
  have z0' := s45.cell z0
  rw [HPC.out] at z0'
  have H5 := Lib.hid (H3.out.same s45)
  have HV5 := Lib.hid (show V13 w w5 b1 oa ol from ⟨HV3.out.rg.same s45, HV3.out.rs.same s45⟩)
  have hkp : k < p.length := by have := HL.out; omega
  obtain ⟨_, b, o, hA, i0, i1, i2, i3, i4⟩ := (HP.out.same (HS3.out.trans s45)).at_ (k := k) hkp
  rw [HX.out] at i0 i1 i2 i3 i4
  simp only at i0 i1 i2 i3 i4
  subst hA
  have k0 : (0 : Int) ≤ k := by omega
  have k1 : (k : Int) < m := by omega
  obtain ⟨w6, hw6⟩ : ∃ w6, w6 = w5.alloc (.cells #[.int .i64 19, .int .i64 (ka : Int), .int .i64 (kb : Int), .int .i64 (kc : Int), .int .u32 (xn : Int)] 40) := ⟨_, rfl⟩
  have E6 := Lib.hid hw6
  have hs6 : Same w5 w6 := hw6 ▸ (Same.refl w5).alloc _
  have H6 := Lib.hid (H5.out.same hs6)
  have HV6 := Lib.hid (show V13 w w6 b1 oa ol from ⟨HV5.out.rg.same hs6, HV5.out.rs.same hs6⟩)
  have HI6 := Lib.hid (show Blk w6 w5.heap.size 40 #[.int .i64 19, .int .i64 (ka : Int), .int .i64 (kb : Int), .int .i64 (kc : Int), .int .u32 (xn : Int)] from hw6 ▸ Blk.new w5 _ _)
  have HBQ := Lib.hid (show b0 < w5.heap.size from H5.out.fr.lt)
  have HIQ := Lib.hid (show ∀ i, C = some ⟨i, 0, none⟩ → i < w5.heap.size from fun i hi => by
    rcases H5.out.ws.2 with ⟨hz, _⟩ | ⟨g2, cap, cur, hv, hB, hg, _⟩
    · rw [hi] at hz; cases hz
    · rw [hi] at hv
      injection hv with hv
      injection hv with hv
      injection hv with hv
      exact hv ▸ Blk.lt (t := 22) hg)
  go_upto_region 5 with fail
  rw [← E6.out]
  clear E6 hs6 hw6 s4 s5 s45 z0 z1 z2 z3 z4 z5 z6 z7 z8 z9 r0 r1 r0' r1' z0' i0 i1 i2 i3 i4 k0 k1 H3 HV3 H5 HV5 RR RI
  generalize w5.heap.size = q at *
  obtain ⟨i0, i1, i2, i3, i4⟩ := (⟨HI6.out.cell 0, HI6.out.cell 1, HI6.out.cell 2, HI6.out.cell 3, HI6.out.cell 4⟩ : _ ∧ _ ∧ _ ∧ _ ∧ _)
  simp only [List.getElem?_toArray, List.getElem?_cons_zero, List.getElem?_cons_succ] at i0 i1 i2 i3 i4
  have z0 := H6.out.fr.cell 0
  have z9 := H6.out.fr.cell 9
  simp only [List.getElem?_toArray, List.getElem?_cons_zero, List.getElem?_cons_succ] at z0 z9
  rw [HPC.out] at z0
  have RC := Lib.hid (fun (w' : World) => by
    have h := Is.rcalls_any 19 w'
    rw [show Is.callV 19 = 3 by decide] at h
    exact h)
  go_wp2_with fail
  refine (RC.out _).mono ?_
  rintro e w7 ⟨rfl, rfl⟩
  have HZ6 := Lib.hid HV6.out.rs
  clear z0 z9
  obtain ⟨x0, x1, x2, x3, x4, x5, x6, x7, x8, x9⟩ := (⟨H6.out.fr.cell 0, H6.out.fr.cell 1, H6.out.fr.cell 2, H6.out.fr.cell 3, H6.out.fr.cell 4, H6.out.fr.cell 5, H6.out.fr.cell 6, H6.out.fr.cell 7, H6.out.fr.cell 8, H6.out.fr.cell 9⟩ : _ ∧ _ ∧ _ ∧ _ ∧ _ ∧ _ ∧ _ ∧ _ ∧ _ ∧ _)
  simp only [List.getElem?_toArray, List.getElem?_cons_zero, List.getElem?_cons_succ] at x0 x1 x2 x3 x4 x5 x6 x7 x8 x9
  obtain ⟨y0, y1, y2, y3, y4, y5, y6, y7, y8, y9⟩ := (⟨HZ6.out.cell 0, HZ6.out.cell 1, HZ6.out.cell 2, HZ6.out.cell 3, HZ6.out.cell 4, HZ6.out.cell 5, HZ6.out.cell 6, HZ6.out.cell 7, HZ6.out.cell 8, HZ6.out.cell 9⟩ : _ ∧ _ ∧ _ ∧ _ ∧ _ ∧ _ ∧ _ ∧ _ ∧ _ ∧ _)
  simp only [List.getElem?_toArray, List.getElem?_cons_zero, List.getElem?_cons_succ] at y0 y1 y2 y3 y4 y5 y6 y7 y8 y9
  obtain ⟨u0, u1, u2, u3, u4, u5, u6, u7, u8, u9⟩ := (⟨HZ6.out.thaw 0, HZ6.out.thaw 1, HZ6.out.thaw 2, HZ6.out.thaw 3, HZ6.out.thaw 4, HZ6.out.thaw 5, HZ6.out.thaw 6, HZ6.out.thaw 7, HZ6.out.thaw 8, HZ6.out.thaw 9⟩ : _ ∧ _ ∧ _ ∧ _ ∧ _ ∧ _ ∧ _ ∧ _ ∧ _ ∧ _)
  obtain ⟨w9, hw9⟩ : ∃ w9, w9 = ((((((((((w6.setCell ⟨b1 + 1, 0, none⟩ (.int .i64 f.pc)).setCell ⟨b1 + 1, 1, none⟩ (.int .u32 (rk f 0))).setCell ⟨b1 + 1, 2, none⟩ (.int .u32 (rk f 1))).setCell ⟨b1 + 1, 3, none⟩ (.int .u32 (rk f 2))).setCell ⟨b1 + 1, 4, none⟩ (.int .u32 (rk f 3))).setCell ⟨b1 + 1, 5, none⟩ (.int .u32 (rk f 4))).setCell ⟨b1 + 1, 6, none⟩ (.int .u32 (rk f 5))).setCell ⟨b1 + 1, 7, none⟩ (.int .u32 (rk f 6))).setCell ⟨b1 + 1, 8, none⟩ (.int .u32 (rk f 7))).setCell ⟨b1 + 1, 9, none⟩ (.slice T' nT c')) := ⟨_, rfl⟩
  obtain ⟨p1, p2⟩ := ref_end H6.out HZ6.out (by have := HQ0.out; have := HQ1.out; omega) (1) (0) w9 hw9
  have P1 := Lib.hid p1
  have P2 := Lib.hid p2
  have E9 := Lib.hid hw9
  clear p1 p2 hw9
  go_wp2_with fail
  rw [← E9.out]
  exact bodyPost_ret (v := .tuple #[.agg #[.int .i64 f.pc, .int .u32 (rk f 0), .int .u32 (rk f 1), .int .u32 (rk f 2), .int .u32 (rk f 3), .int .u32 (rk f 4), .int .u32 (rk f 5), .int .u32 (rk f 6), .int .u32 (rk f 7), .slice T' nT c'], .int .i64 (1), .int .i64 (0)]) (results_cell3 Tryd.results16 _ _ (b1 + 1) 26 #[.int .i64 f.pc, .int .u32 (rk f 0), .int .u32 (rk f 1), .int .u32 (rk f 2), .int .u32 (rk f 3), .int .u32 (rk f 4), .int .u32 (rk f 5), .int .u32 (rk f 6), .int .u32 (rk f 7), .slice T' nT c'] (0, 0) _ rfl P1.out Tryd.underlying26 rfl frm_size) rfl P2.out
set_option maxRecDepth 100000 in
set_option maxHeartbeats 8000000 in
theorem rstep_20 (f : FS) (ws : List Nat) (st : Int) (T : Option Addr) (nT cT : Nat) (A : Option Addr) (m cA : Nat) (C : Option Addr) (n dC : Nat) (oa ol : Int) (p : List Ins) (w : World) (hT : Row w T (f.tn.map (Value.int .i64))) (hn : f.tn.length = nT) (hb : nT ≤ 5000) (hp : Prg w A p) (hl : p.length = m) (hm : m ≤ 5000) (hc : Own w 0 22 C dC ((cst ws).map (Value.int .u32))) (hcn : ws.length = n) (hcb : n ≤ 4096) (hmb : mayB p ⟨f, ws, st⟩ oa ol = true) (k ka kb kc xn va vb vc : Nat) (hpc : f.pc = (k : Int)) (hkm : k < m) (hx : at_ p k = ⟨20, ka, kb, kc, xn⟩) (hva : va = f.rg.getD ka 0) (hvb : vb = f.rg.getD kb 0) (hvc : vc = f.rg.getD kc 0) (hw : Wide ⟨f, ws, st⟩) (hxn : xn < 4294967296) :
    Calls Tryd.prog 16 #[.agg #[.int .i64 f.pc, .int .u32 (rk f 0), .int .u32 (rk f 1), .int .u32 (rk f 2), .int .u32 (rk f 3), .int .u32 (rk f 4), .int .u32 (rk f 5), .int .u32 (rk f 6), .int .u32 (rk f 7), .slice T nT cT], .slice A m cA, .slice C n dC, .agg #[.int .i64 oa, .int .i64 ol]] w (RefP w ⟨f, ws, st⟩ nT C n dC 1 0) := by
  have HPC := Lib.hid hpc
  have HX := Lib.hid hx
  have HVA := Lib.hid hva
  have HVB := Lib.hid hvb
  have HVC := Lib.hid hvc
  have HW := Lib.hid hw
  have HMBT := Lib.hid hmb
  clear hmb hpc hx hva hvb hvc hw
  obtain ⟨w1, hw1⟩ : ∃ w1, w1 = ((w.alloc (.cells #[.int .i64 f.pc, .int .u32 (rk f 0), .int .u32 (rk f 1), .int .u32 (rk f 2), .int .u32 (rk f 3), .int .u32 (rk f 4), .int .u32 (rk f 5), .int .u32 (rk f 6), .int .u32 (rk f 7), .slice T nT cT] 26)).alloc (.cells #[.int .i64 oa, .int .i64 ol] 30)).alloc (.cells #[.int .i64 0, .int .u32 0, .int .u32 0, .int .u32 0, .int .u32 0, .int .u32 0, .int .u32 0, .int .u32 0, .int .u32 0, .slice none 0 0] 26) := ⟨_, rfl⟩
  have hs1 : Same w w1 := hw1 ▸ (((Same.refl w).alloc _).alloc _).alloc _
  have hbb : Blk w1 w.heap.size 26 #[.int .i64 f.pc, .int .u32 (rk f 0), .int .u32 (rk f 1), .int .u32 (rk f 2), .int .u32 (rk f 3), .int .u32 (rk f 4), .int .u32 (rk f 5), .int .u32 (rk f 6), .int .u32 (rk f 7), .slice T nT cT] := hw1 ▸ ((Blk.new w _ _).same ((Same.refl _).alloc _)).same ((Same.refl _).alloc _)
  have hbr : Blk w1 (w.heap.size + 1) 30 #[.int .i64 oa, .int .i64 ol] := by
    have h := (Blk.new (w.alloc (.cells #[.int .i64 f.pc, .int .u32 (rk f 0), .int .u32 (rk f 1), .int .u32 (rk f 2), .int .u32 (rk f 3), .int .u32 (rk f 4), .int .u32 (rk f 5), .int .u32 (rk f 6), .int .u32 (rk f 7), .slice T nT cT] 26)) 30 #[.int .i64 oa, .int .i64 ol]).same ((Same.refl _).alloc (.cells #[.int .i64 0, .int .u32 0, .int .u32 0, .int .u32 0, .int .u32 0, .int .u32 0, .int .u32 0, .int .u32 0, .int .u32 0, .slice none 0 0] 26))
    rw [hw1]
    simpa using h
  have hbz : Blk w1 (w.heap.size + 1 + 1) 26 #[.int .i64 0, .int .u32 0, .int .u32 0, .int .u32 0, .int .u32 0, .int .u32 0, .int .u32 0, .int .u32 0, .int .u32 0, .slice none 0 0] := by
    have h := Blk.new ((w.alloc (.cells #[.int .i64 f.pc, .int .u32 (rk f 0), .int .u32 (rk f 1), .int .u32 (rk f 2), .int .u32 (rk f 3), .int .u32 (rk f 4), .int .u32 (rk f 5), .int .u32 (rk f 6), .int .u32 (rk f 7), .slice T nT cT] 26)).alloc (.cells #[.int .i64 oa, .int .i64 ol] 30)) 26 #[.int .i64 0, .int .u32 0, .int .u32 0, .int .u32 0, .int .u32 0, .int .u32 0, .int .u32 0, .int .u32 0, .int .u32 0, .slice none 0 0]
    rw [hw1]
    simpa using h
  have E1 := Lib.hid hw1
  have HS1 := Lib.hid hs1
  have HBB := Lib.hid hbb
  have HBR := Lib.hid hbr
  have HBZ := Lib.hid hbz
  have HN := Lib.hid hn
  have CP := Lib.hid (rcopy_any f T nT cT w1 (hT.same hs1) hn hb)
  have HP := Lib.hid hp
  have HL := Lib.hid hl
  have HC := Lib.hid hc
  have HCN := Lib.hid hcn
  obtain ⟨x0, x1, x2, x3, x4, x5, x6, x7, x8, x9⟩ := (⟨hbb.cell 0, hbb.cell 1, hbb.cell 2, hbb.cell 3, hbb.cell 4, hbb.cell 5, hbb.cell 6, hbb.cell 7, hbb.cell 8, hbb.cell 9⟩ : _ ∧ _ ∧ _ ∧ _ ∧ _ ∧ _ ∧ _ ∧ _ ∧ _ ∧ _)
  simp only [List.getElem?_toArray, List.getElem?_cons_zero, List.getElem?_cons_succ] at x0 x1 x2 x3 x4 x5 x6 x7 x8 x9
  clear hw1 hs1 hbb hbr hbz hT hn hp hl hc hcn
  go_enter Tryd.func16, Tryd.ntmps16
  go_upto_region 1 with fail
  rw [← E1.out]
  clear E1
  generalize hq0 : w.heap.size + 1 = b1 at *
  have HQ0 := Lib.hid hq0
  clear hq0
  generalize hq1 : w.heap.size = b0 at *
  have HQ1 := Lib.hid hq1
  clear hq1
  go_wp2_with fail
  refine CP.out.mono ?_
  rintro e w2 ⟨T', c', rfl, ho, s2⟩
  have HO := Lib.hid (ho.base (B' := w.heap.size) (by have := HS1.out.size; exact this))
  have HB2 := Lib.hid (HBB.out.same s2)
  have HS2 := Lib.hid (HS1.out.trans s2)
  have HBR2 := Lib.hid (HBR.out.same s2)
  have HBZ2 := Lib.hid (HBZ.out.same s2)
  clear ho s2 x0 x1 x2 x3 x4 x5 x6 x7 x8 x9 CP
  obtain ⟨y0, y1, y2, y3, y4, y5, y6, y7, y8, y9⟩ := (⟨HB2.out.cell 0, HB2.out.cell 1, HB2.out.cell 2, HB2.out.cell 3, HB2.out.cell 4, HB2.out.cell 5, HB2.out.cell 6, HB2.out.cell 7, HB2.out.cell 8, HB2.out.cell 9⟩ : _ ∧ _ ∧ _ ∧ _ ∧ _ ∧ _ ∧ _ ∧ _ ∧ _ ∧ _)
  simp only [List.getElem?_toArray, List.getElem?_cons_zero, List.getElem?_cons_succ] at y0 y1 y2 y3 y4 y5 y6 y7 y8 y9
  obtain ⟨u0, u1, u2, u3, u4, u5, u6, u7, u8, u9⟩ := (⟨HB2.out.thaw 0, HB2.out.thaw 1, HB2.out.thaw 2, HB2.out.thaw 3, HB2.out.thaw 4, HB2.out.thaw 5, HB2.out.thaw 6, HB2.out.thaw 7, HB2.out.thaw 8, HB2.out.thaw 9⟩ : _ ∧ _ ∧ _ ∧ _ ∧ _ ∧ _ ∧ _ ∧ _ ∧ _ ∧ _)
  obtain ⟨w3, hw3⟩ : ∃ w3, w3 = ((((((((((w2.setCell ⟨b0, 0, none⟩ (.int .i64 f.pc)).setCell ⟨b0, 1, none⟩ (.int .u32 (rk f 0))).setCell ⟨b0, 2, none⟩ (.int .u32 (rk f 1))).setCell ⟨b0, 3, none⟩ (.int .u32 (rk f 2))).setCell ⟨b0, 4, none⟩ (.int .u32 (rk f 3))).setCell ⟨b0, 5, none⟩ (.int .u32 (rk f 4))).setCell ⟨b0, 6, none⟩ (.int .u32 (rk f 5))).setCell ⟨b0, 7, none⟩ (.int .u32 (rk f 6))).setCell ⟨b0, 8, none⟩ (.int .u32 (rk f 7))).setCell ⟨b0, 9, none⟩ (.slice T' nT c')) := ⟨_, rfl⟩
  obtain ⟨p1, p2⟩ := puts10 (v0 := .int .i64 f.pc) (v1 := .int .u32 (rk f 0)) (v2 := .int .u32 (rk f 1)) (v3 := .int .u32 (rk f 2)) (v4 := .int .u32 (rk f 3)) (v5 := .int .u32 (rk f 4)) (v6 := .int .u32 (rk f 5)) (v7 := .int .u32 (rk f 6)) (v8 := .int .u32 (rk f 7)) (v9 := .slice T' nT c') HB2.out
  rw [← hw3] at p1 p2
  have E3 := Lib.hid hw3
  have H3 := Lib.hid (show D13 w w3 b0 ⟨f, ws, st⟩ T' nT c' C n dC from ⟨p1, HO.out.chg p2 (fun g hg he => HO.out.ne HB2.out (by decide) g hg he), HN.out, (HC.out.same HS2.out).chg p2 (fun g hg he => (HC.out.same HS2.out).ne HB2.out (by decide) g hg he), HCN.out, (chg_nw (HS2.out.chg _) p2 (by have := HQ1.out; omega)), by have := HQ1.out; omega⟩)
  have HV3 := Lib.hid (show V13 w w3 b1 oa ol from ⟨HBR2.out.chg p2 (fun he => by have := HQ0.out; omega), HBZ2.out.chg p2 (fun he => by have := HQ0.out; omega)⟩)
  have HS3 := Lib.hid (show Same w w3 from chg_nw HS2.out p2 (by have := HQ1.out; omega))
  clear hw3 p1 p2 HO HB2 HS2 HBR2 HBZ2
  go_upto_region 2 with fail
  rw [← E3.out]
  clear E3 y0 y1 y2 y3 y4 y5 y6 y7 y8 y9 u0 u1 u2 u3 u4 u5 u6 u7 u8 u9
  obtain ⟨z0, z1, z2, z3, z4, z5, z6, z7, z8, z9⟩ := (⟨H3.out.fr.cell 0, H3.out.fr.cell 1, H3.out.fr.cell 2, H3.out.fr.cell 3, H3.out.fr.cell 4, H3.out.fr.cell 5, H3.out.fr.cell 6, H3.out.fr.cell 7, H3.out.fr.cell 8, H3.out.fr.cell 9⟩ : _ ∧ _ ∧ _ ∧ _ ∧ _ ∧ _ ∧ _ ∧ _ ∧ _ ∧ _)
  simp only [List.getElem?_toArray, List.getElem?_cons_zero, List.getElem?_cons_succ] at z0 z1 z2 z3 z4 z5 z6 z7 z8 z9
  obtain ⟨r0, r1⟩ := (⟨HV3.out.rg.cell 0, HV3.out.rg.cell 1⟩ : _ ∧ _)
  simp only [List.getElem?_toArray, List.getElem?_cons_zero, List.getElem?_cons_succ] at r0 r1
  have RR := Lib.hid (rright_any f T' nT c' A m cA p w3 HL.out hm (HP.out.same HS3.out) H3.out.tn.row HN.out hb)
  have HMB : mayB p ⟨f, ws, st⟩ oa ol = (rightF (okB p) p f && (decide (0 < ol) && Mm.inB ws.length oa ol)) := rfl
  rw [HCN.out] at HMB
  have HMB := Lib.hid HMB
  have RI := Lib.hid (fun (w' : World) => rinside_any (n : Int) oa ol (by omega) w')
  obtain ⟨hm1, hm2, hm3⟩ : rightF (okB p) p f = true ∧ 0 < ol ∧ Mm.inB n oa ol = true := by
    have h := HMB.out
    rw [HMBT.out] at h
    have h2 := h.symm
    rw [Bool.and_eq_true, Bool.and_eq_true, decide_eq_true_eq] at h2
    exact h2
  rw [hm1] at RR
  rw [hm3] at RI
  have h0 : ¬ ol < 1 := by omega
  have HIN := Lib.hid (show 0 ≤ oa ∧ 0 ≤ ol ∧ oa ≤ n ∧ ol ≤ n - oa by unfold Mm.inB at hm3; simpa using hm3)
  have HOL := Lib.hid hm2
  clear hm1 hm2 hm3 HMB
  go_wp2_with fail
  refine RR.out.mono ?_
  rintro e w4 ⟨rfl, s4⟩
  have r0' := s4.cell r0
  have r1' := s4.cell r1
  go_wp2_with fail
  refine (RI.out _).mono ?_
  rintro e w5 ⟨rfl, s5⟩
  have s45 := s4.trans s5
  have z0' := s45.cell z0
  rw [HPC.out] at z0'
  have H5 := Lib.hid (H3.out.same s45)
  have HV5 := Lib.hid (show V13 w w5 b1 oa ol from ⟨HV3.out.rg.same s45, HV3.out.rs.same s45⟩)
  have hkp : k < p.length := by have := HL.out; omega
  obtain ⟨_, b, o, hA, i0, i1, i2, i3, i4⟩ := (HP.out.same (HS3.out.trans s45)).at_ (k := k) hkp
  rw [HX.out] at i0 i1 i2 i3 i4
  simp only at i0 i1 i2 i3 i4
  subst hA
  have k0 : (0 : Int) ≤ k := by omega
  have k1 : (k : Int) < m := by omega
  obtain ⟨w6, hw6⟩ : ∃ w6, w6 = w5.alloc (.cells #[.int .i64 20, .int .i64 (ka : Int), .int .i64 (kb : Int), .int .i64 (kc : Int), .int .u32 (xn : Int)] 40) := ⟨_, rfl⟩
  have E6 := Lib.hid hw6
  have hs6 : Same w5 w6 := hw6 ▸ (Same.refl w5).alloc _
  have H6 := Lib.hid (H5.out.same hs6)
  have HV6 := Lib.hid (show V13 w w6 b1 oa ol from ⟨HV5.out.rg.same hs6, HV5.out.rs.same hs6⟩)
  have HI6 := Lib.hid (show Blk w6 w5.heap.size 40 #[.int .i64 20, .int .i64 (ka : Int), .int .i64 (kb : Int), .int .i64 (kc : Int), .int .u32 (xn : Int)] from hw6 ▸ Blk.new w5 _ _)
  have HBQ := Lib.hid (show b0 < w5.heap.size from H5.out.fr.lt)
  have HIQ := Lib.hid (show ∀ i, C = some ⟨i, 0, none⟩ → i < w5.heap.size from fun i hi => by
    rcases H5.out.ws.2 with ⟨hz, _⟩ | ⟨g2, cap, cur, hv, hB, hg, _⟩
    · rw [hi] at hz; cases hz
    · rw [hi] at hv
      injection hv with hv
      injection hv with hv
      injection hv with hv
      exact hv ▸ Blk.lt (t := 22) hg)
  go_upto_region 5 with fail
  rw [← E6.out]
  clear E6 hs6 hw6 s4 s5 s45 z0 z1 z2 z3 z4 z5 z6 z7 z8 z9 r0 r1 r0' r1' z0' i0 i1 i2 i3 i4 k0 k1 H3 HV3 H5 HV5 RR RI
  generalize w5.heap.size = q at *
  obtain ⟨i0, i1, i2, i3, i4⟩ := (⟨HI6.out.cell 0, HI6.out.cell 1, HI6.out.cell 2, HI6.out.cell 3, HI6.out.cell 4⟩ : _ ∧ _ ∧ _ ∧ _ ∧ _)
  simp only [List.getElem?_toArray, List.getElem?_cons_zero, List.getElem?_cons_succ] at i0 i1 i2 i3 i4
  have z0 := H6.out.fr.cell 0
  have z9 := H6.out.fr.cell 9
  simp only [List.getElem?_toArray, List.getElem?_cons_zero, List.getElem?_cons_succ] at z0 z9
  rw [HPC.out] at z0
  have RC := Lib.hid (fun (w' : World) => by
    have h := Is.rcalls_any 20 w'
    rw [show Is.callV 20 = 4 by decide] at h
    exact h)
  go_wp2_with fail
  refine (RC.out _).mono ?_
  rintro e w7 ⟨rfl, rfl⟩
  have HZ6 := Lib.hid HV6.out.rs
  clear z0 z9
  obtain ⟨x0, x1, x2, x3, x4, x5, x6, x7, x8, x9⟩ := (⟨H6.out.fr.cell 0, H6.out.fr.cell 1, H6.out.fr.cell 2, H6.out.fr.cell 3, H6.out.fr.cell 4, H6.out.fr.cell 5, H6.out.fr.cell 6, H6.out.fr.cell 7, H6.out.fr.cell 8, H6.out.fr.cell 9⟩ : _ ∧ _ ∧ _ ∧ _ ∧ _ ∧ _ ∧ _ ∧ _ ∧ _ ∧ _)
  simp only [List.getElem?_toArray, List.getElem?_cons_zero, List.getElem?_cons_succ] at x0 x1 x2 x3 x4 x5 x6 x7 x8 x9
  obtain ⟨y0, y1, y2, y3, y4, y5, y6, y7, y8, y9⟩ := (⟨HZ6.out.cell 0, HZ6.out.cell 1, HZ6.out.cell 2, HZ6.out.cell 3, HZ6.out.cell 4, HZ6.out.cell 5, HZ6.out.cell 6, HZ6.out.cell 7, HZ6.out.cell 8, HZ6.out.cell 9⟩ : _ ∧ _ ∧ _ ∧ _ ∧ _ ∧ _ ∧ _ ∧ _ ∧ _ ∧ _)
  simp only [List.getElem?_toArray, List.getElem?_cons_zero, List.getElem?_cons_succ] at y0 y1 y2 y3 y4 y5 y6 y7 y8 y9
  obtain ⟨u0, u1, u2, u3, u4, u5, u6, u7, u8, u9⟩ := (⟨HZ6.out.thaw 0, HZ6.out.thaw 1, HZ6.out.thaw 2, HZ6.out.thaw 3, HZ6.out.thaw 4, HZ6.out.thaw 5, HZ6.out.thaw 6, HZ6.out.thaw 7, HZ6.out.thaw 8, HZ6.out.thaw 9⟩ : _ ∧ _ ∧ _ ∧ _ ∧ _ ∧ _ ∧ _ ∧ _ ∧ _ ∧ _)
  obtain ⟨w9, hw9⟩ : ∃ w9, w9 = ((((((((((w6.setCell ⟨b1 + 1, 0, none⟩ (.int .i64 f.pc)).setCell ⟨b1 + 1, 1, none⟩ (.int .u32 (rk f 0))).setCell ⟨b1 + 1, 2, none⟩ (.int .u32 (rk f 1))).setCell ⟨b1 + 1, 3, none⟩ (.int .u32 (rk f 2))).setCell ⟨b1 + 1, 4, none⟩ (.int .u32 (rk f 3))).setCell ⟨b1 + 1, 5, none⟩ (.int .u32 (rk f 4))).setCell ⟨b1 + 1, 6, none⟩ (.int .u32 (rk f 5))).setCell ⟨b1 + 1, 7, none⟩ (.int .u32 (rk f 6))).setCell ⟨b1 + 1, 8, none⟩ (.int .u32 (rk f 7))).setCell ⟨b1 + 1, 9, none⟩ (.slice T' nT c')) := ⟨_, rfl⟩
  obtain ⟨p1, p2⟩ := ref_end H6.out HZ6.out (by have := HQ0.out; have := HQ1.out; omega) (1) (0) w9 hw9
  have P1 := Lib.hid p1
  have P2 := Lib.hid p2
  have E9 := Lib.hid hw9
  clear p1 p2 hw9
  go_wp2_with fail
  rw [← E9.out]
  exact bodyPost_ret (v := .tuple #[.agg #[.int .i64 f.pc, .int .u32 (rk f 0), .int .u32 (rk f 1), .int .u32 (rk f 2), .int .u32 (rk f 3), .int .u32 (rk f 4), .int .u32 (rk f 5), .int .u32 (rk f 6), .int .u32 (rk f 7), .slice T' nT c'], .int .i64 (1), .int .i64 (0)]) (results_cell3 Tryd.results16 _ _ (b1 + 1) 26 #[.int .i64 f.pc, .int .u32 (rk f 0), .int .u32 (rk f 1), .int .u32 (rk f 2), .int .u32 (rk f 3), .int .u32 (rk f 4), .int .u32 (rk f 5), .int .u32 (rk f 6), .int .u32 (rk f 7), .slice T' nT c'] (0, 0) _ rfl P1.out Tryd.underlying26 rfl frm_size) rfl P2.out
end Go.Proofs.YtgimelpjklnjmabDoor.Fr
end
section
set_option linter.unusedVariables false
set_option linter.unusedSimpArgs false
namespace Go.Proofs.YtgimelpjklnjmabDoor.Fr
open Go.ChangeShapes Go.WideShapes Go.ChangeAt Go.RowKit Ws
open Go.Proofs.YtgimelpjklnjmabDoor.Fp (Ins at_ Fine at_some)
open Go.Proofs.YtgimelpjklnjmabDoor.Fw (Prg okB ckE check_any okB_fine rightI)
open Go.Proofs.YtgimelpjklnjmabDoor.Is (Tabs)
set_option maxRecDepth 100000 in
set_option maxHeartbeats 8000000 in
theorem rstep_16y (f : FS) (ws : List Nat) (st : Int) (T : Option Addr) (nT cT : Nat) (A : Option Addr) (m cA : Nat) (C : Option Addr) (n dC : Nat) (oa ol : Int) (p : List Ins) (w : World) (hT : Row w T (f.tn.map (Value.int .i64))) (hn : f.tn.length = nT) (hb : nT ≤ 5000) (hp : Prg w A p) (hl : p.length = m) (hm : m ≤ 5000) (hc : Own w 0 22 C dC ((cst ws).map (Value.int .u32))) (hcn : ws.length = n) (hcb : n ≤ 4096) (hmb : mayB p ⟨f, ws, st⟩ oa ol = true) (k xn : Nat) (xa xb xc : Int) (hpc : f.pc = (k : Int)) (hkm : k < m) (hx : at_ p k = ⟨16, xa, xb, xc, xn⟩) (hw : Wide ⟨f, ws, st⟩) (hxn : xn < 4294967296) (hkn : k < nT) (tv : Int) (htv : f.tn.getD k 0 = tv) (htb : 0 ≤ tv ∧ tv ≤ 4611686018427387904) (hlt : tv < xc) (g : FS) (hg : g = ⟨(xn : Int), f.rg, f.tn.set k (tv + 1)⟩) (ws' : List Nat) (hws : ws' = ws) :
    Calls Tryd.prog 16 #[.agg #[.int .i64 f.pc, .int .u32 (rk f 0), .int .u32 (rk f 1), .int .u32 (rk f 2), .int .u32 (rk f 3), .int .u32 (rk f 4), .int .u32 (rk f 5), .int .u32 (rk f 6), .int .u32 (rk f 7), .slice T nT cT], .slice A m cA, .slice C n dC, .agg #[.int .i64 oa, .int .i64 ol]] w (RefP w ⟨g, ws', st⟩ nT C n dC 0 0) := by
  have HPC := Lib.hid hpc
  have HX := Lib.hid hx
  have HW := Lib.hid hw
  have HMBT := Lib.hid hmb
  have HG := Lib.hid hg
  have HWS := Lib.hid hws
  have HTV := Lib.hid htv
  have HLT := Lib.hid hlt
  clear hmb hpc hx hw hg hws htv hlt
  obtain ⟨w1, hw1⟩ : ∃ w1, w1 = ((w.alloc (.cells #[.int .i64 f.pc, .int .u32 (rk f 0), .int .u32 (rk f 1), .int .u32 (rk f 2), .int .u32 (rk f 3), .int .u32 (rk f 4), .int .u32 (rk f 5), .int .u32 (rk f 6), .int .u32 (rk f 7), .slice T nT cT] 26)).alloc (.cells #[.int .i64 oa, .int .i64 ol] 30)).alloc (.cells #[.int .i64 0, .int .u32 0, .int .u32 0, .int .u32 0, .int .u32 0, .int .u32 0, .int .u32 0, .int .u32 0, .int .u32 0, .slice none 0 0] 26) := ⟨_, rfl⟩
  have hs1 : Same w w1 := hw1 ▸ (((Same.refl w).alloc _).alloc _).alloc _
  have hbb : Blk w1 w.heap.size 26 #[.int .i64 f.pc, .int .u32 (rk f 0), .int .u32 (rk f 1), .int .u32 (rk f 2), .int .u32 (rk f 3), .int .u32 (rk f 4), .int .u32 (rk f 5), .int .u32 (rk f 6), .int .u32 (rk f 7), .slice T nT cT] := hw1 ▸ ((Blk.new w _ _).same ((Same.refl _).alloc _)).same ((Same.refl _).alloc _)
  have hbr : Blk w1 (w.heap.size + 1) 30 #[.int .i64 oa, .int .i64 ol] := by
    have h := (Blk.new (w.alloc (.cells #[.int .i64 f.pc, .int .u32 (rk f 0), .int .u32 (rk f 1), .int .u32 (rk f 2), .int .u32 (rk f 3), .int .u32 (rk f 4), .int .u32 (rk f 5), .int .u32 (rk f 6), .int .u32 (rk f 7), .slice T nT cT] 26)) 30 #[.int .i64 oa, .int .i64 ol]).same ((Same.refl _).alloc (.cells #[.int .i64 0, .int .u32 0, .int .u32 0, .int .u32 0, .int .u32 0, .int .u32 0, .int .u32 0, .int .u32 0, .int .u32 0, .slice none 0 0] 26))
    rw [hw1]
    simpa using h
  have hbz : Blk w1 (w.heap.size + 1 + 1) 26 #[.int .i64 0, .int .u32 0, .int .u32 0, .int .u32 0, .int .u32 0, .int .u32 0, .int .u32 0, .int .u32 0, .int .u32 0, .slice none 0 0] := by
    have h := Blk.new ((w.alloc (.cells #[.int .i64 f.pc, .int .u32 (rk f 0), .int .u32 (rk f 1), .int .u32 (rk f 2), .int .u32 (rk f 3), .int .u32 (rk f 4), .int .u32 (rk f 5), .int .u32 (rk f 6), .int .u32 (rk f 7), .slice T nT cT] 26)).alloc (.cells #[.int .i64 oa, .int .i64 ol] 30)) 26 #[.int .i64 0, .int .u32 0, .int .u32 0, .int .u32 0, .int .u32 0, .int .u32 0, .int .u32 0, .int .u32 0, .int .u32 0, .slice none 0 0]
    rw [hw1]
    simpa using h
  have E1 := Lib.hid hw1
  have HS1 := Lib.hid hs1
  have HBB := Lib.hid hbb
  have HBR := Lib.hid hbr
  have HBZ := Lib.hid hbz
  have HN := Lib.hid hn
  have CP := Lib.hid (rcopy_any f T nT cT w1 (hT.same hs1) hn hb)
  have HP := Lib.hid hp
  have HL := Lib.hid hl
  have HC := Lib.hid hc
  have HCN := Lib.hid hcn
  obtain ⟨x0, x1, x2, x3, x4, x5, x6, x7, x8, x9⟩ := (⟨hbb.cell 0, hbb.cell 1, hbb.cell 2, hbb.cell 3, hbb.cell 4, hbb.cell 5, hbb.cell 6, hbb.cell 7, hbb.cell 8, hbb.cell 9⟩ : _ ∧ _ ∧ _ ∧ _ ∧ _ ∧ _ ∧ _ ∧ _ ∧ _ ∧ _)
  simp only [List.getElem?_toArray, List.getElem?_cons_zero, List.getElem?_cons_succ] at x0 x1 x2 x3 x4 x5 x6 x7 x8 x9
  clear hw1 hs1 hbb hbr hbz hT hn hp hl hc hcn
  go_enter Tryd.func16, Tryd.ntmps16
  go_upto_region 1 with fail
  rw [← E1.out]
  clear E1
  generalize hq0 : w.heap.size + 1 = b1 at *
  have HQ0 := Lib.hid hq0
  clear hq0
  generalize hq1 : w.heap.size = b0 at *
  have HQ1 := Lib.hid hq1
  clear hq1
  go_wp2_with fail
  refine CP.out.mono ?_
  rintro e w2 ⟨T', c', rfl, ho, s2⟩
  have HO := Lib.hid (ho.base (B' := w.heap.size) (by have := HS1.out.size; exact this))
  have HB2 := Lib.hid (HBB.out.same s2)
  have HS2 := Lib.hid (HS1.out.trans s2)
  have HBR2 := Lib.hid (HBR.out.same s2)
  have HBZ2 := Lib.hid (HBZ.out.same s2)
  clear ho s2 x0 x1 x2 x3 x4 x5 x6 x7 x8 x9 CP
  obtain ⟨y0, y1, y2, y3, y4, y5, y6, y7, y8, y9⟩ := (⟨HB2.out.cell 0, HB2.out.cell 1, HB2.out.cell 2, HB2.out.cell 3, HB2.out.cell 4, HB2.out.cell 5, HB2.out.cell 6, HB2.out.cell 7, HB2.out.cell 8, HB2.out.cell 9⟩ : _ ∧ _ ∧ _ ∧ _ ∧ _ ∧ _ ∧ _ ∧ _ ∧ _ ∧ _)
  simp only [List.getElem?_toArray, List.getElem?_cons_zero, List.getElem?_cons_succ] at y0 y1 y2 y3 y4 y5 y6 y7 y8 y9
  obtain ⟨u0, u1, u2, u3, u4, u5, u6, u7, u8, u9⟩ := (⟨HB2.out.thaw 0, HB2.out.thaw 1, HB2.out.thaw 2, HB2.out.thaw 3, HB2.out.thaw 4, HB2.out.thaw 5, HB2.out.thaw 6, HB2.out.thaw 7, HB2.out.thaw 8, HB2.out.thaw 9⟩ : _ ∧ _ ∧ _ ∧ _ ∧ _ ∧ _ ∧ _ ∧ _ ∧ _ ∧ _)
  obtain ⟨w3, hw3⟩ : ∃ w3, w3 = ((((((((((w2.setCell ⟨b0, 0, none⟩ (.int .i64 f.pc)).setCell ⟨b0, 1, none⟩ (.int .u32 (rk f 0))).setCell ⟨b0, 2, none⟩ (.int .u32 (rk f 1))).setCell ⟨b0, 3, none⟩ (.int .u32 (rk f 2))).setCell ⟨b0, 4, none⟩ (.int .u32 (rk f 3))).setCell ⟨b0, 5, none⟩ (.int .u32 (rk f 4))).setCell ⟨b0, 6, none⟩ (.int .u32 (rk f 5))).setCell ⟨b0, 7, none⟩ (.int .u32 (rk f 6))).setCell ⟨b0, 8, none⟩ (.int .u32 (rk f 7))).setCell ⟨b0, 9, none⟩ (.slice T' nT c')) := ⟨_, rfl⟩
  obtain ⟨p1, p2⟩ := puts10 (v0 := .int .i64 f.pc) (v1 := .int .u32 (rk f 0)) (v2 := .int .u32 (rk f 1)) (v3 := .int .u32 (rk f 2)) (v4 := .int .u32 (rk f 3)) (v5 := .int .u32 (rk f 4)) (v6 := .int .u32 (rk f 5)) (v7 := .int .u32 (rk f 6)) (v8 := .int .u32 (rk f 7)) (v9 := .slice T' nT c') HB2.out
  rw [← hw3] at p1 p2
  have E3 := Lib.hid hw3
  have H3 := Lib.hid (show D13 w w3 b0 ⟨f, ws, st⟩ T' nT c' C n dC from ⟨p1, HO.out.chg p2 (fun g hg he => HO.out.ne HB2.out (by decide) g hg he), HN.out, (HC.out.same HS2.out).chg p2 (fun g hg he => (HC.out.same HS2.out).ne HB2.out (by decide) g hg he), HCN.out, (chg_nw (HS2.out.chg _) p2 (by have := HQ1.out; omega)), by have := HQ1.out; omega⟩)
  have HV3 := Lib.hid (show V13 w w3 b1 oa ol from ⟨HBR2.out.chg p2 (fun he => by have := HQ0.out; omega), HBZ2.out.chg p2 (fun he => by have := HQ0.out; omega)⟩)
  have HS3 := Lib.hid (show Same w w3 from chg_nw HS2.out p2 (by have := HQ1.out; omega))
  clear hw3 p1 p2 HO HB2 HS2 HBR2 HBZ2
  go_upto_region 2 with fail
  rw [← E3.out]
  clear E3 y0 y1 y2 y3 y4 y5 y6 y7 y8 y9 u0 u1 u2 u3 u4 u5 u6 u7 u8 u9
  obtain ⟨z0, z1, z2, z3, z4, z5, z6, z7, z8, z9⟩ := (⟨H3.out.fr.cell 0, H3.out.fr.cell 1, H3.out.fr.cell 2, H3.out.fr.cell 3, H3.out.fr.cell 4, H3.out.fr.cell 5, H3.out.fr.cell 6, H3.out.fr.cell 7, H3.out.fr.cell 8, H3.out.fr.cell 9⟩ : _ ∧ _ ∧ _ ∧ _ ∧ _ ∧ _ ∧ _ ∧ _ ∧ _ ∧ _)
  simp only [List.getElem?_toArray, List.getElem?_cons_zero, List.getElem?_cons_succ] at z0 z1 z2 z3 z4 z5 z6 z7 z8 z9
  obtain ⟨r0, r1⟩ := (⟨HV3.out.rg.cell 0, HV3.out.rg.cell 1⟩ : _ ∧ _)
  simp only [List.getElem?_toArray, List.getElem?_cons_zero, List.getElem?_cons_succ] at r0 r1
  have RR := Lib.hid (rright_any f T' nT c' A m cA p w3 HL.out hm (HP.out.same HS3.out) H3.out.tn.row HN.out hb)
  have HMB : mayB p ⟨f, ws, st⟩ oa ol = (rightF (okB p) p f && (decide (0 < ol) && Mm.inB ws.length oa ol)) := rfl
  rw [HCN.out] at HMB
  have HMB := Lib.hid HMB
  have RI := Lib.hid (fun (w' : World) => rinside_any (n : Int) oa ol (by omega) w')
  obtain ⟨hm1, hm2, hm3⟩ : rightF (okB p) p f = true ∧ 0 < ol ∧ Mm.inB n oa ol = true := by
    have h := HMB.out
    rw [HMBT.out] at h
    have h2 := h.symm
    rw [Bool.and_eq_true, Bool.and_eq_true, decide_eq_true_eq] at h2
    exact h2
  rw [hm1] at RR
  rw [hm3] at RI
  have h0 : ¬ ol < 1 := by omega
  have HIN := Lib.hid (show 0 ≤ oa ∧ 0 ≤ ol ∧ oa ≤ n ∧ ol ≤ n - oa by unfold Mm.inB at hm3; simpa using hm3)
  have HOL := Lib.hid hm2
  clear hm1 hm2 hm3 HMB
  go_wp2_with fail
  refine RR.out.mono ?_
  rintro e w4 ⟨rfl, s4⟩
  have r0' := s4.cell r0
  have r1' := s4.cell r1
  go_wp2_with fail
  refine (RI.out _).mono ?_
  rintro e w5 ⟨rfl, s5⟩
  have s45 := s4.trans s5
  have z0' := s45.cell z0
  rw [HPC.out] at z0'
  have H5 := Lib.hid (H3.out.same s45)
  have HV5 := Lib.hid (show V13 w w5 b1 oa ol from ⟨HV3.out.rg.same s45, HV3.out.rs.same s45⟩)
  have hkp : k < p.length := by have := HL.out; omega
  obtain ⟨_, b, o, hA, i0, i1, i2, i3, i4⟩ := (HP.out.same (HS3.out.trans s45)).at_ (k := k) hkp
  rw [HX.out] at i0 i1 i2 i3 i4
  simp only at i0 i1 i2 i3 i4
  subst hA
  have k0 : (0 : Int) ≤ k := by omega
  have k1 : (k : Int) < m := by omega
  obtain ⟨w6, hw6⟩ : ∃ w6, w6 = w5.alloc (.cells #[.int .i64 16, .int .i64 xa, .int .i64 xb, .int .i64 xc, .int .u32 (xn : Int)] 40) := ⟨_, rfl⟩
  have E6 := Lib.hid hw6
  have hs6 : Same w5 w6 := hw6 ▸ (Same.refl w5).alloc _
  have H6 := Lib.hid (H5.out.same hs6)
  have HV6 := Lib.hid (show V13 w w6 b1 oa ol from ⟨HV5.out.rg.same hs6, HV5.out.rs.same hs6⟩)
  have HI6 := Lib.hid (show Blk w6 w5.heap.size 40 #[.int .i64 16, .int .i64 xa, .int .i64 xb, .int .i64 xc, .int .u32 (xn : Int)] from hw6 ▸ Blk.new w5 _ _)
  have HBQ := Lib.hid (show b0 < w5.heap.size from H5.out.fr.lt)
  have HIQ := Lib.hid (show ∀ i, C = some ⟨i, 0, none⟩ → i < w5.heap.size from fun i hi => by
    rcases H5.out.ws.2 with ⟨hz, _⟩ | ⟨g2, cap, cur, hv, hB, hg, _⟩
    · rw [hi] at hz; cases hz
    · rw [hi] at hv
      injection hv with hv
      injection hv with hv
      injection hv with hv
      exact hv ▸ Blk.lt (t := 22) hg)
  go_upto_region 5 with fail
  rw [← E6.out]
  clear E6 hs6 hw6 s4 s5 s45 z0 z1 z2 z3 z4 z5 z6 z7 z8 z9 r0 r1 r0' r1' z0' i0 i1 i2 i3 i4 k0 k1 H3 HV3 H5 HV5 RR RI
  generalize w5.heap.size = q at *
  obtain ⟨i0, i1, i2, i3, i4⟩ := (⟨HI6.out.cell 0, HI6.out.cell 1, HI6.out.cell 2, HI6.out.cell 3, HI6.out.cell 4⟩ : _ ∧ _ ∧ _ ∧ _ ∧ _)
  simp only [List.getElem?_toArray, List.getElem?_cons_zero, List.getElem?_cons_succ] at i0 i1 i2 i3 i4
  have z0 := H6.out.fr.cell 0
  have z9 := H6.out.fr.cell 9
  simp only [List.getElem?_toArray, List.getElem?_cons_zero, List.getElem?_cons_succ] at z0 z9
  rw [HPC.out] at z0
  have RC := Lib.hid (fun (w' : World) => by
    have h := Is.rcalls_any 16 w'
    rw [show Is.callV 16 = 0 by decide] at h
    exact h)
  go_wp2_with fail
  refine (RC.out _).mono ?_
  rintro e w7 ⟨rfl, rfl⟩
  have HKN := Lib.hid hkn
  obtain ⟨gt, hT, ct, ft⟩ := H6.out.turn hkn
  rw [HTV.out] at ct
  obtain ⟨hb1, hb2⟩ := htb
  have HGQ := Lib.hid (show gt < w6.heap.size from by
    have := World.block_lt_of_cell? _ _ ct
    exact this)
  have HGT := Lib.hid (show ∀ (cs : Array Value), gt ≠ q from fun cs he => by
    subst he
    rcases H6.out.tn.2 with ⟨hz, _⟩ | ⟨g2, cap, cur, hv, hB, hg, _⟩
    · rw [hT] at hz; cases hz
    · rw [hT] at hv
      injection hv with hv
      injection hv with hv
      injection hv with hv
      subst hv
      exact Blk.ne (t := 3) hg HI6.out (by decide) rfl)
  have i0' : (0 : Int) ≤ (k : Int) := by omega
  have i1' : (k : Int) < nT := by omega
  subst hT
  have e3 : tv < (xc : Int) := HLT.out
  go_wp2_with fail
  go_quiet (fail)
  clear z0 z9 ct ft
  have s7 : Same w6 (w6.drewN nq) := (Same.refl w6).drewN nq
  have H63 := Lib.hid (H6.out.same s7)
  have HI63 := Lib.hid (HI6.out.same s7)
  have HV63 := Lib.hid (show V13 w (w6.drewN nq) b1 oa ol from ⟨HV6.out.rg.same s7, HV6.out.rs.same s7⟩)
  clear s7 i0 i1 i2 i3 i4
  generalize w6.drewN nq = w63 at *
  obtain ⟨i0, i1, i2, i3, i4⟩ := (⟨HI63.out.cell 0, HI63.out.cell 1, HI63.out.cell 2, HI63.out.cell 3, HI63.out.cell 4⟩ : _ ∧ _ ∧ _ ∧ _ ∧ _)
  simp only [List.getElem?_toArray, List.getElem?_cons_zero, List.getElem?_cons_succ] at i0 i1 i2 i3 i4
  obtain ⟨gt2, hT2, ct, ft⟩ := H63.out.turn HKN.out
  injection hT2 with hT2
  injection hT2 with hT2
  subst hT2
  rw [HTV.out] at ct
  have z0 := H63.out.fr.cell 0
  have z9 := H63.out.fr.cell 9
  simp only [List.getElem?_toArray, List.getElem?_cons_zero, List.getElem?_cons_succ] at z0 z9
  rw [HPC.out] at z0
  have hb3 : wrap64 (tv + 1) = tv + 1 := Go.IntWalk.wrap64_in _ (by omega)
  obtain ⟨w7, hw7⟩ : ∃ w7, w7 = w63.setCell ⟨gt, k, none⟩ (.int .i64 (tv + 1)) := ⟨_, rfl⟩
  have H7 := Lib.hid (show D13 w w7 b0 ⟨{ f with tn := f.tn.set k (tv + 1) }, ws, st⟩ (some ⟨gt, 0, none⟩) nT c' C n dC by rw [hw7]; exact H63.out.set_tn rfl k (tv + 1))
  have E7 := Lib.hid hw7
  clear hw7
  have HI7 := Lib.hid (show Blk w7 q 40 #[.int .i64 16, .int .i64 xa, .int .i64 xb, .int .i64 xc, .int .u32 (xn : Int)] by rw [E7.out]; exact HI63.out.chg ((Chg.refl (fun i => i = gt) w63).set (p := ⟨gt, _, none⟩) (.inl rfl) _) (fun he => HGT.out #[] he.symm))
  have HZ7 := Lib.hid (show Blk w7 (b1 + 1) 26 #[.int .i64 0, .int .u32 0, .int .u32 0, .int .u32 0, .int .u32 0, .int .u32 0, .int .u32 0, .int .u32 0, .int .u32 0, .slice none 0 0] by rw [E7.out]; exact HV63.out.rs.chg ((Chg.refl (fun i => i = gt) w63).set (p := ⟨gt, _, none⟩) (.inl rfl) _) (fun he => H63.out.tn.ne HV63.out.rs (by decide) gt rfl he.symm))
  go_upto_region 38 with fail
  rw [← E7.out]
  clear E7 z0 z9 ct ft e3
  clear i0 i1 i2 i3 i4
  obtain ⟨i0, i1, i2, i3, i4⟩ := (⟨HI7.out.cell 0, HI7.out.cell 1, HI7.out.cell 2, HI7.out.cell 3, HI7.out.cell 4⟩ : _ ∧ _ ∧ _ ∧ _ ∧ _)
  simp only [List.getElem?_toArray, List.getElem?_cons_zero, List.getElem?_cons_succ] at i0 i1 i2 i3 i4
  go_upto_region 43 with fail
  have zz0 := H7.out.fr.cell 0
  have fz0 := H7.out.fr.thaw 0
  simp only [List.getElem?_toArray, List.getElem?_cons_zero, List.getElem?_cons_succ] at zz0
  obtain ⟨w8, hw8⟩ : ∃ w8, w8 = w7.setCell ⟨b0, 0, none⟩ (.int .i64 ((xn : Int))) := ⟨_, rfl⟩
  have H8 := Lib.hid (show D13 w w8 b0 ⟨g, ws', st⟩ (some ⟨gt, 0, none⟩) nT c' C n dC by rw [hw8, HG.out, HWS.out]; exact H7.out.set_pc ((xn : Int)))
  have HZ8 := Lib.hid (show Blk w8 (b1 + 1) 26 #[.int .i64 0, .int .u32 0, .int .u32 0, .int .u32 0, .int .u32 0, .int .u32 0, .int .u32 0, .int .u32 0, .int .u32 0, .slice none 0 0] by rw [hw8]; exact HZ7.out.chg ((Chg.refl (fun i => i = b0) w7).set (p := ⟨b0, 0, none⟩) (.inl rfl) _) (by have := HQ0.out; omega))
  have E8 := Lib.hid hw8
  clear hw8
  go_upto_region 44 with fail
  rw [← E8.out]
  clear E8 zz0 fz0
  obtain ⟨x0, x1, x2, x3, x4, x5, x6, x7, x8, x9⟩ := (⟨H8.out.fr.cell 0, H8.out.fr.cell 1, H8.out.fr.cell 2, H8.out.fr.cell 3, H8.out.fr.cell 4, H8.out.fr.cell 5, H8.out.fr.cell 6, H8.out.fr.cell 7, H8.out.fr.cell 8, H8.out.fr.cell 9⟩ : _ ∧ _ ∧ _ ∧ _ ∧ _ ∧ _ ∧ _ ∧ _ ∧ _ ∧ _)
  simp only [List.getElem?_toArray, List.getElem?_cons_zero, List.getElem?_cons_succ] at x0 x1 x2 x3 x4 x5 x6 x7 x8 x9
  obtain ⟨y0, y1, y2, y3, y4, y5, y6, y7, y8, y9⟩ := (⟨HZ8.out.cell 0, HZ8.out.cell 1, HZ8.out.cell 2, HZ8.out.cell 3, HZ8.out.cell 4, HZ8.out.cell 5, HZ8.out.cell 6, HZ8.out.cell 7, HZ8.out.cell 8, HZ8.out.cell 9⟩ : _ ∧ _ ∧ _ ∧ _ ∧ _ ∧ _ ∧ _ ∧ _ ∧ _ ∧ _)
  simp only [List.getElem?_toArray, List.getElem?_cons_zero, List.getElem?_cons_succ] at y0 y1 y2 y3 y4 y5 y6 y7 y8 y9
  obtain ⟨u0, u1, u2, u3, u4, u5, u6, u7, u8, u9⟩ := (⟨HZ8.out.thaw 0, HZ8.out.thaw 1, HZ8.out.thaw 2, HZ8.out.thaw 3, HZ8.out.thaw 4, HZ8.out.thaw 5, HZ8.out.thaw 6, HZ8.out.thaw 7, HZ8.out.thaw 8, HZ8.out.thaw 9⟩ : _ ∧ _ ∧ _ ∧ _ ∧ _ ∧ _ ∧ _ ∧ _ ∧ _ ∧ _)
  obtain ⟨w9, hw9⟩ : ∃ w9, w9 = ((((((((((w8.setCell ⟨b1 + 1, 0, none⟩ (.int .i64 g.pc)).setCell ⟨b1 + 1, 1, none⟩ (.int .u32 (rk g 0))).setCell ⟨b1 + 1, 2, none⟩ (.int .u32 (rk g 1))).setCell ⟨b1 + 1, 3, none⟩ (.int .u32 (rk g 2))).setCell ⟨b1 + 1, 4, none⟩ (.int .u32 (rk g 3))).setCell ⟨b1 + 1, 5, none⟩ (.int .u32 (rk g 4))).setCell ⟨b1 + 1, 6, none⟩ (.int .u32 (rk g 5))).setCell ⟨b1 + 1, 7, none⟩ (.int .u32 (rk g 6))).setCell ⟨b1 + 1, 8, none⟩ (.int .u32 (rk g 7))).setCell ⟨b1 + 1, 9, none⟩ (.slice (some ⟨gt, 0, none⟩) nT c')) := ⟨_, rfl⟩
  obtain ⟨p1, p2⟩ := ref_end H8.out HZ8.out (by have := HQ0.out; have := HQ1.out; omega) (0) (0) w9 hw9
  have P1 := Lib.hid p1
  have P2 := Lib.hid p2
  have E9 := Lib.hid hw9
  clear p1 p2 hw9
  go_wp2_with fail
  rw [← E9.out]
  exact bodyPost_ret (v := .tuple #[.agg #[.int .i64 g.pc, .int .u32 (rk g 0), .int .u32 (rk g 1), .int .u32 (rk g 2), .int .u32 (rk g 3), .int .u32 (rk g 4), .int .u32 (rk g 5), .int .u32 (rk g 6), .int .u32 (rk g 7), .slice (some ⟨gt, 0, none⟩) nT c'], .int .i64 (0), .int .i64 (0)]) (results_cell3 Tryd.results16 _ _ (b1 + 1) 26 #[.int .i64 g.pc, .int .u32 (rk g 0), .int .u32 (rk g 1), .int .u32 (rk g 2), .int .u32 (rk g 3), .int .u32 (rk g 4), .int .u32 (rk g 5), .int .u32 (rk g 6), .int .u32 (rk g 7), .slice (some ⟨gt, 0, none⟩) nT c'] (0, 0) _ rfl P1.out Tryd.underlying26 rfl frm_size) rfl P2.out
set_option maxRecDepth 100000 in
set_option maxHeartbeats 8000000 in
theorem rstep_16n (f : FS) (ws : List Nat) (st : Int) (T : Option Addr) (nT cT : Nat) (A : Option Addr) (m cA : Nat) (C : Option Addr) (n dC : Nat) (oa ol : Int) (p : List Ins) (w : World) (hT : Row w T (f.tn.map (Value.int .i64))) (hn : f.tn.length = nT) (hb : nT ≤ 5000) (hp : Prg w A p) (hl : p.length = m) (hm : m ≤ 5000) (hc : Own w 0 22 C dC ((cst ws).map (Value.int .u32))) (hcn : ws.length = n) (hcb : n ≤ 4096) (hmb : mayB p ⟨f, ws, st⟩ oa ol = true) (k xn : Nat) (xa xb xc : Int) (hpc : f.pc = (k : Int)) (hkm : k < m) (hx : at_ p k = ⟨16, xa, xb, xc, xn⟩) (hw : Wide ⟨f, ws, st⟩) (hxn : xn < 4294967296) (hkn : k < nT) (tv : Int) (htv : f.tn.getD k 0 = tv) (htb : 0 ≤ tv ∧ tv ≤ 4611686018427387904) (hlt : ¬ tv < xc) (g : FS) (hg : g = ⟨(k : Int) + 1, f.rg, f.tn.set k (0)⟩) (ws' : List Nat) (hws : ws' = ws) :
    Calls Tryd.prog 16 #[.agg #[.int .i64 f.pc, .int .u32 (rk f 0), .int .u32 (rk f 1), .int .u32 (rk f 2), .int .u32 (rk f 3), .int .u32 (rk f 4), .int .u32 (rk f 5), .int .u32 (rk f 6), .int .u32 (rk f 7), .slice T nT cT], .slice A m cA, .slice C n dC, .agg #[.int .i64 oa, .int .i64 ol]] w (RefP w ⟨g, ws', st⟩ nT C n dC 0 0) := by
  have HPC := Lib.hid hpc
  have HX := Lib.hid hx
  have HW := Lib.hid hw
  have HMBT := Lib.hid hmb
  have HG := Lib.hid hg
  have HWS := Lib.hid hws
  have HTV := Lib.hid htv
  have HLT := Lib.hid hlt
  clear hmb hpc hx hw hg hws htv hlt
  obtain ⟨w1, hw1⟩ : ∃ w1, w1 = ((w.alloc (.cells #[.int .i64 f.pc, .int .u32 (rk f 0), .int .u32 (rk f 1), .int .u32 (rk f 2), .int .u32 (rk f 3), .int .u32 (rk f 4), .int .u32 (rk f 5), .int .u32 (rk f 6), .int .u32 (rk f 7), .slice T nT cT] 26)).alloc (.cells #[.int .i64 oa, .int .i64 ol] 30)).alloc (.cells #[.int .i64 0, .int .u32 0, .int .u32 0, .int .u32 0, .int .u32 0, .int .u32 0, .int .u32 0, .int .u32 0, .int .u32 0, .slice none 0 0] 26) := ⟨_, rfl⟩
  have hs1 : Same w w1 := hw1 ▸ (((Same.refl w).alloc _).alloc _).alloc _
  have hbb : Blk w1 w.heap.size 26 #[.int .i64 f.pc, .int .u32 (rk f 0), .int .u32 (rk f 1), .int .u32 (rk f 2), .int .u32 (rk f 3), .int .u32 (rk f 4), .int .u32 (rk f 5), .int .u32 (rk f 6), .int .u32 (rk f 7), .slice T nT cT] := hw1 ▸ ((Blk.new w _ _).same ((Same.refl _).alloc _)).same ((Same.refl _).alloc _)
  have hbr : Blk w1 (w.heap.size + 1) 30 #[.int .i64 oa, .int .i64 ol] := by
    have h := (Blk.new (w.alloc (.cells #[.int .i64 f.pc, .int .u32 (rk f 0), .int .u32 (rk f 1), .int .u32 (rk f 2), .int .u32 (rk f 3), .int .u32 (rk f 4), .int .u32 (rk f 5), .int .u32 (rk f 6), .int .u32 (rk f 7), .slice T nT cT] 26)) 30 #[.int .i64 oa, .int .i64 ol]).same ((Same.refl _).alloc (.cells #[.int .i64 0, .int .u32 0, .int .u32 0, .int .u32 0, .int .u32 0, .int .u32 0, .int .u32 0, .int .u32 0, .int .u32 0, .slice none 0 0] 26))
    rw [hw1]
    simpa using h
  have hbz : Blk w1 (w.heap.size + 1 + 1) 26 #[.int .i64 0, .int .u32 0, .int .u32 0, .int .u32 0, .int .u32 0, .int .u32 0, .int .u32 0, .int .u32 0, .int .u32 0, .slice none 0 0] := by
    have h := Blk.new ((w.alloc (.cells #[.int .i64 f.pc, .int .u32 (rk f 0), .int .u32 (rk f 1), .int .u32 (rk f 2), .int .u32 (rk f 3), .int .u32 (rk f 4), .int .u32 (rk f 5), .int .u32 (rk f 6), .int .u32 (rk f 7), .slice T nT cT] 26)).alloc (.cells #[.int .i64 oa, .int .i64 ol] 30)) 26 #[.int .i64 0, .int .u32 0, .int .u32 0, .int .u32 0, .int .u32 0, .int .u32 0, .int .u32 0, .int .u32 0, .int .u32 0, .slice none 0 0]
    rw [hw1]
    simpa using h
  have E1 := Lib.hid hw1
  have HS1 := Lib.hid hs1
  have HBB := Lib.hid hbb
  have HBR := Lib.hid hbr
  have HBZ := Lib.hid hbz
  have HN := Lib.hid hn
  have CP := Lib.hid (rcopy_any f T nT cT w1 (hT.same hs1) hn hb)
  have HP := Lib.hid hp
  have HL := Lib.hid hl
  have HC := Lib.hid hc
  have HCN := Lib.hid hcn
  obtain ⟨x0, x1, x2, x3, x4, x5, x6, x7, x8, x9⟩ := (⟨hbb.cell 0, hbb.cell 1, hbb.cell 2, hbb.cell 3, hbb.cell 4, hbb.cell 5, hbb.cell 6, hbb.cell 7, hbb.cell 8, hbb.cell 9⟩ : _ ∧ _ ∧ _ ∧ _ ∧ _ ∧ _ ∧ _ ∧ _ ∧ _ ∧ _)
  simp only [List.getElem?_toArray, List.getElem?_cons_zero, List.getElem?_cons_succ] at x0 x1 x2 x3 x4 x5 x6 x7 x8 x9
  clear hw1 hs1 hbb hbr hbz hT hn hp hl hc hcn
  go_enter Tryd.func16, Tryd.ntmps16
  go_upto_region 1 with fail
  rw [← E1.out]
  clear E1
  generalize hq0 : w.heap.size + 1 = b1 at *
  have HQ0 := Lib.hid hq0
  clear hq0
  generalize hq1 : w.heap.size = b0 at *
  have HQ1 := Lib.hid hq1
  clear hq1
  go_wp2_with fail
  refine CP.out.mono ?_
  rintro e w2 ⟨T', c', rfl, ho, s2⟩
  have HO := Lib.hid (ho.base (B' := w.heap.size) (by have := HS1.out.size; exact this))
  have HB2 := Lib.hid (HBB.out.same s2)
  have HS2 := Lib.hid (HS1.out.trans s2)
  have HBR2 := Lib.hid (HBR.out.same s2)
  have HBZ2 := Lib.hid (HBZ.out.same s2)
  clear ho s2 x0 x1 x2 x3 x4 x5 x6 x7 x8 x9 CP
  obtain ⟨y0, y1, y2, y3, y4, y5, y6, y7, y8, y9⟩ := (⟨HB2.out.cell 0, HB2.out.cell 1, HB2.out.cell 2, HB2.out.cell 3, HB2.out.cell 4, HB2.out.cell 5, HB2.out.cell 6, HB2.out.cell 7, HB2.out.cell 8, HB2.out.cell 9⟩ : _ ∧ _ ∧ _ ∧ _ ∧ _ ∧ _ ∧ _ ∧ _ ∧ _ ∧ _)
  simp only [List.getElem?_toArray, List.getElem?_cons_zero, List.getElem?_cons_succ] at y0 y1 y2 y3 y4 y5 y6 y7 y8 y9
  obtain ⟨u0, u1, u2, u3, u4, u5, u6, u7, u8, u9⟩ := (⟨HB2.out.thaw 0, HB2.out.thaw 1, HB2.out.thaw 2, HB2.out.thaw 3, HB2.out.thaw 4, HB2.out.thaw 5, HB2.out.thaw 6, HB2.out.thaw 7, HB2.out.thaw 8, HB2.out.thaw 9⟩ : _ ∧ _ ∧ _ ∧ _ ∧ _ ∧ _ ∧ _ ∧ _ ∧ _ ∧ _)
  obtain ⟨w3, hw3⟩ : ∃ w3, w3 = ((((((((((w2.setCell ⟨b0, 0, none⟩ (.int .i64 f.pc)).setCell ⟨b0, 1, none⟩ (.int .u32 (rk f 0))).setCell ⟨b0, 2, none⟩ (.int .u32 (rk f 1))).setCell ⟨b0, 3, none⟩ (.int .u32 (rk f 2))).setCell ⟨b0, 4, none⟩ (.int .u32 (rk f 3))).setCell ⟨b0, 5, none⟩ (.int .u32 (rk f 4))).setCell ⟨b0, 6, none⟩ (.int .u32 (rk f 5))).setCell ⟨b0, 7, none⟩ (.int .u32 (rk f 6))).setCell ⟨b0, 8, none⟩ (.int .u32 (rk f 7))).setCell ⟨b0, 9, none⟩ (.slice T' nT c')) := ⟨_, rfl⟩
  obtain ⟨p1, p2⟩ := puts10 (v0 := .int .i64 f.pc) (v1 := .int .u32 (rk f 0)) (v2 := .int .u32 (rk f 1)) (v3 := .int .u32 (rk f 2)) (v4 := .int .u32 (rk f 3)) (v5 := .int .u32 (rk f 4)) (v6 := .int .u32 (rk f 5)) (v7 := .int .u32 (rk f 6)) (v8 := .int .u32 (rk f 7)) (v9 := .slice T' nT c') HB2.out
  rw [← hw3] at p1 p2
  have E3 := Lib.hid hw3
  have H3 := Lib.hid (show D13 w w3 b0 ⟨f, ws, st⟩ T' nT c' C n dC from ⟨p1, HO.out.chg p2 (fun g hg he => HO.out.ne HB2.out (by decide) g hg he), HN.out, (HC.out.same HS2.out).chg p2 (fun g hg he => (HC.out.same HS2.out).ne HB2.out (by decide) g hg he), HCN.out, (chg_nw (HS2.out.chg _) p2 (by have := HQ1.out; omega)), by have := HQ1.out; omega⟩)
  have HV3 := Lib.hid (show V13 w w3 b1 oa ol from ⟨HBR2.out.chg p2 (fun he => by have := HQ0.out; omega), HBZ2.out.chg p2 (fun he => by have := HQ0.out; omega)⟩)
  have HS3 := Lib.hid (show Same w w3 from chg_nw HS2.out p2 (by have := HQ1.out; omega))
  clear hw3 p1 p2 HO HB2 HS2 HBR2 HBZ2
  go_upto_region 2 with fail
  rw [← E3.out]
  clear E3 y0 y1 y2 y3 y4 y5 y6 y7 y8 y9 u0 u1 u2 u3 u4 u5 u6 u7 u8 u9
  obtain ⟨z0, z1, z2, z3, z4, z5, z6, z7, z8, z9⟩ := (⟨H3.out.fr.cell 0, H3.out.fr.cell 1, H3.out.fr.cell 2, H3.out.fr.cell 3, H3.out.fr.cell 4, H3.out.fr.cell 5, H3.out.fr.cell 6, H3.out.fr.cell 7, H3.out.fr.cell 8, H3.out.fr.cell 9⟩ : _ ∧ _ ∧ _ ∧ _ ∧ _ ∧ _ ∧ _ ∧ _ ∧ _ ∧ _)
  simp only [List.getElem?_toArray, List.getElem?_cons_zero, List.getElem?_cons_succ] at z0 z1 z2 z3 z4 z5 z6 z7 z8 z9
  obtain ⟨r0, r1⟩ := (⟨HV3.out.rg.cell 0, HV3.out.rg.cell 1⟩ : _ ∧ _)
  simp only [List.getElem?_toArray, List.getElem?_cons_zero, List.getElem?_cons_succ] at r0 r1
  have RR := Lib.hid (rright_any f T' nT c' A m cA p w3 HL.out hm (HP.out.same HS3.out) H3.out.tn.row HN.out hb)
  have HMB : mayB p ⟨f, ws, st⟩ oa ol = (rightF (okB p) p f && (decide (0 < ol) && Mm.inB ws.length oa ol)) := rfl
  rw [HCN.out] at HMB
  have HMB := Lib.hid HMB
  have RI := Lib.hid (fun (w' : World) => rinside_any (n : Int) oa ol (by omega) w')
  obtain ⟨hm1, hm2, hm3⟩ : rightF (okB p) p f = true ∧ 0 < ol ∧ Mm.inB n oa ol = true := by
    have h := HMB.out
    rw [HMBT.out] at h
    have h2 := h.symm
    rw [Bool.and_eq_true, Bool.and_eq_true, decide_eq_true_eq] at h2
    exact h2
  rw [hm1] at RR
  rw [hm3] at RI
  have h0 : ¬ ol < 1 := by omega
  have HIN := Lib.hid (show 0 ≤ oa ∧ 0 ≤ ol ∧ oa ≤ n ∧ ol ≤ n - oa by unfold Mm.inB at hm3; simpa using hm3)
  have HOL := Lib.hid hm2
  clear hm1 hm2 hm3 HMB
  go_wp2_with fail
  refine RR.out.mono ?_
  rintro e w4 ⟨rfl, s4⟩
  have r0' := s4.cell r0
  have r1' := s4.cell r1
  go_wp2_with fail
  refine (RI.out _).mono ?_
  rintro e w5 ⟨rfl, s5⟩
  have s45 := s4.trans s5
  have z0' := s45.cell z0
  rw [HPC.out] at z0'
  have H5 := Lib.hid (H3.out.same s45)
  have HV5 := Lib.hid (show V13 w w5 b1 oa ol from ⟨HV3.out.rg.same s45, HV3.out.rs.same s45⟩)
  have hkp : k < p.length := by have := HL.out; omega
  obtain ⟨_, b, o, hA, i0, i1, i2, i3, i4⟩ := (HP.out.same (HS3.out.trans s45)).at_ (k := k) hkp
  rw [HX.out] at i0 i1 i2 i3 i4
  simp only at i0 i1 i2 i3 i4
  subst hA
  have k0 : (0 : Int) ≤ k := by omega
  have k1 : (k : Int) < m := by omega
  obtain ⟨w6, hw6⟩ : ∃ w6, w6 = w5.alloc (.cells #[.int .i64 16, .int .i64 xa, .int .i64 xb, .int .i64 xc, .int .u32 (xn : Int)] 40) := ⟨_, rfl⟩
  have E6 := Lib.hid hw6
  have hs6 : Same w5 w6 := hw6 ▸ (Same.refl w5).alloc _
  have H6 := Lib.hid (H5.out.same hs6)
  have HV6 := Lib.hid (show V13 w w6 b1 oa ol from ⟨HV5.out.rg.same hs6, HV5.out.rs.same hs6⟩)
  have HI6 := Lib.hid (show Blk w6 w5.heap.size 40 #[.int .i64 16, .int .i64 xa, .int .i64 xb, .int .i64 xc, .int .u32 (xn : Int)] from hw6 ▸ Blk.new w5 _ _)
  have HBQ := Lib.hid (show b0 < w5.heap.size from H5.out.fr.lt)
  have HIQ := Lib.hid (show ∀ i, C = some ⟨i, 0, none⟩ → i < w5.heap.size from fun i hi => by
    rcases H5.out.ws.2 with ⟨hz, _⟩ | ⟨g2, cap, cur, hv, hB, hg, _⟩
    · rw [hi] at hz; cases hz
    · rw [hi] at hv
      injection hv with hv
      injection hv with hv
      injection hv with hv
      exact hv ▸ Blk.lt (t := 22) hg)
  go_upto_region 5 with fail
  rw [← E6.out]
  clear E6 hs6 hw6 s4 s5 s45 z0 z1 z2 z3 z4 z5 z6 z7 z8 z9 r0 r1 r0' r1' z0' i0 i1 i2 i3 i4 k0 k1 H3 HV3 H5 HV5 RR RI
  generalize w5.heap.size = q at *
  obtain ⟨i0, i1, i2, i3, i4⟩ := (⟨HI6.out.cell 0, HI6.out.cell 1, HI6.out.cell 2, HI6.out.cell 3, HI6.out.cell 4⟩ : _ ∧ _ ∧ _ ∧ _ ∧ _)
  simp only [List.getElem?_toArray, List.getElem?_cons_zero, List.getElem?_cons_succ] at i0 i1 i2 i3 i4
  have z0 := H6.out.fr.cell 0
  have z9 := H6.out.fr.cell 9
  simp only [List.getElem?_toArray, List.getElem?_cons_zero, List.getElem?_cons_succ] at z0 z9
  rw [HPC.out] at z0
  have RC := Lib.hid (fun (w' : World) => by
    have h := Is.rcalls_any 16 w'
    rw [show Is.callV 16 = 0 by decide] at h
    exact h)
  go_wp2_with fail
  refine (RC.out _).mono ?_
  rintro e w7 ⟨rfl, rfl⟩
  have HKN := Lib.hid hkn
  obtain ⟨gt, hT, ct, ft⟩ := H6.out.turn hkn
  rw [HTV.out] at ct
  obtain ⟨hb1, hb2⟩ := htb
  have HGQ := Lib.hid (show gt < w6.heap.size from by
    have := World.block_lt_of_cell? _ _ ct
    exact this)
  have HGT := Lib.hid (show ∀ (cs : Array Value), gt ≠ q from fun cs he => by
    subst he
    rcases H6.out.tn.2 with ⟨hz, _⟩ | ⟨g2, cap, cur, hv, hB, hg, _⟩
    · rw [hT] at hz; cases hz
    · rw [hT] at hv
      injection hv with hv
      injection hv with hv
      injection hv with hv
      subst hv
      exact Blk.ne (t := 3) hg HI6.out (by decide) rfl)
  have i0' : (0 : Int) ≤ (k : Int) := by omega
  have i1' : (k : Int) < nT := by omega
  subst hT
  have e3 : ¬ tv < (xc : Int) := by have := HLT.out; omega
  go_wp2_with fail
  go_quiet (fail)
  clear z0 z9 ct ft
  have s7 : Same w6 (w6.drewN nq) := (Same.refl w6).drewN nq
  have H63 := Lib.hid (H6.out.same s7)
  have HI63 := Lib.hid (HI6.out.same s7)
  have HV63 := Lib.hid (show V13 w (w6.drewN nq) b1 oa ol from ⟨HV6.out.rg.same s7, HV6.out.rs.same s7⟩)
  clear s7 i0 i1 i2 i3 i4
  generalize w6.drewN nq = w63 at *
  obtain ⟨i0, i1, i2, i3, i4⟩ := (⟨HI63.out.cell 0, HI63.out.cell 1, HI63.out.cell 2, HI63.out.cell 3, HI63.out.cell 4⟩ : _ ∧ _ ∧ _ ∧ _ ∧ _)
  simp only [List.getElem?_toArray, List.getElem?_cons_zero, List.getElem?_cons_succ] at i0 i1 i2 i3 i4
  obtain ⟨gt2, hT2, ct, ft⟩ := H63.out.turn HKN.out
  injection hT2 with hT2
  injection hT2 with hT2
  subst hT2
  rw [HTV.out] at ct
  have z0 := H63.out.fr.cell 0
  have z9 := H63.out.fr.cell 9
  simp only [List.getElem?_toArray, List.getElem?_cons_zero, List.getElem?_cons_succ] at z0 z9
  rw [HPC.out] at z0
  obtain ⟨w7, hw7⟩ : ∃ w7, w7 = w63.setCell ⟨gt, k, none⟩ (.int .i64 (0)) := ⟨_, rfl⟩
  have H7 := Lib.hid (show D13 w w7 b0 ⟨{ f with tn := f.tn.set k (0) }, ws, st⟩ (some ⟨gt, 0, none⟩) nT c' C n dC by rw [hw7]; exact H63.out.set_tn rfl k (0))
  have E7 := Lib.hid hw7
  clear hw7
  have HI7 := Lib.hid (show Blk w7 q 40 #[.int .i64 16, .int .i64 xa, .int .i64 xb, .int .i64 xc, .int .u32 (xn : Int)] by rw [E7.out]; exact HI63.out.chg ((Chg.refl (fun i => i = gt) w63).set (p := ⟨gt, _, none⟩) (.inl rfl) _) (fun he => HGT.out #[] he.symm))
  have HZ7 := Lib.hid (show Blk w7 (b1 + 1) 26 #[.int .i64 0, .int .u32 0, .int .u32 0, .int .u32 0, .int .u32 0, .int .u32 0, .int .u32 0, .int .u32 0, .int .u32 0, .slice none 0 0] by rw [E7.out]; exact HV63.out.rs.chg ((Chg.refl (fun i => i = gt) w63).set (p := ⟨gt, _, none⟩) (.inl rfl) _) (fun he => H63.out.tn.ne HV63.out.rs (by decide) gt rfl he.symm))
  go_upto_region 40 with fail
  rw [← E7.out]
  clear E7 z0 z9 ct ft e3
  clear i0 i1 i2 i3 i4
  obtain ⟨i0, i1, i2, i3, i4⟩ := (⟨HI7.out.cell 0, HI7.out.cell 1, HI7.out.cell 2, HI7.out.cell 3, HI7.out.cell 4⟩ : _ ∧ _ ∧ _ ∧ _ ∧ _)
  simp only [List.getElem?_toArray, List.getElem?_cons_zero, List.getElem?_cons_succ] at i0 i1 i2 i3 i4
  go_upto_region 43 with fail
  have zz0 := H7.out.fr.cell 0
  have fz0 := H7.out.fr.thaw 0
  simp only [List.getElem?_toArray, List.getElem?_cons_zero, List.getElem?_cons_succ] at zz0
  obtain ⟨w8, hw8⟩ : ∃ w8, w8 = w7.setCell ⟨b0, 0, none⟩ (.int .i64 ((k : Int) + 1)) := ⟨_, rfl⟩
  have H8 := Lib.hid (show D13 w w8 b0 ⟨g, ws', st⟩ (some ⟨gt, 0, none⟩) nT c' C n dC by rw [hw8, HG.out, HWS.out]; exact H7.out.set_pc ((k : Int) + 1))
  have HZ8 := Lib.hid (show Blk w8 (b1 + 1) 26 #[.int .i64 0, .int .u32 0, .int .u32 0, .int .u32 0, .int .u32 0, .int .u32 0, .int .u32 0, .int .u32 0, .int .u32 0, .slice none 0 0] by rw [hw8]; exact HZ7.out.chg ((Chg.refl (fun i => i = b0) w7).set (p := ⟨b0, 0, none⟩) (.inl rfl) _) (by have := HQ0.out; omega))
  have E8 := Lib.hid hw8
  clear hw8
  go_upto_region 44 with fail
  rw [← E8.out]
  clear E8 zz0 fz0
  obtain ⟨x0, x1, x2, x3, x4, x5, x6, x7, x8, x9⟩ := (⟨H8.out.fr.cell 0, H8.out.fr.cell 1, H8.out.fr.cell 2, H8.out.fr.cell 3, H8.out.fr.cell 4, H8.out.fr.cell 5, H8.out.fr.cell 6, H8.out.fr.cell 7, H8.out.fr.cell 8, H8.out.fr.cell 9⟩ : _ ∧ _ ∧ _ ∧ _ ∧ _ ∧ _ ∧ _ ∧ _ ∧ _ ∧ _)
  simp only [List.getElem?_toArray, List.getElem?_cons_zero, List.getElem?_cons_succ] at x0 x1 x2 x3 x4 x5 x6 x7 x8 x9
  obtain ⟨y0, y1, y2, y3, y4, y5, y6, y7, y8, y9⟩ := (⟨HZ8.out.cell 0, HZ8.out.cell 1, HZ8.out.cell 2, HZ8.out.cell 3, HZ8.out.cell 4, HZ8.out.cell 5, HZ8.out.cell 6, HZ8.out.cell 7, HZ8.out.cell 8, HZ8.out.cell 9⟩ : _ ∧ _ ∧ _ ∧ _ ∧ _ ∧ _ ∧ _ ∧ _ ∧ _ ∧ _)
  simp only [List.getElem?_toArray, List.getElem?_cons_zero, List.getElem?_cons_succ] at y0 y1 y2 y3 y4 y5 y6 y7 y8 y9
  obtain ⟨u0, u1, u2, u3, u4, u5, u6, u7, u8, u9⟩ := (⟨HZ8.out.thaw 0, HZ8.out.thaw 1, HZ8.out.thaw 2, HZ8.out.thaw 3, HZ8.out.thaw 4, HZ8.out.thaw 5, HZ8.out.thaw 6, HZ8.out.thaw 7, HZ8.out.thaw 8, HZ8.out.thaw 9⟩ : _ ∧ _ ∧ _ ∧ _ ∧ _ ∧ _ ∧ _ ∧ _ ∧ _ ∧ _)
  obtain ⟨w9, hw9⟩ : ∃ w9, w9 = ((((((((((w8.setCell ⟨b1 + 1, 0, none⟩ (.int .i64 g.pc)).setCell ⟨b1 + 1, 1, none⟩ (.int .u32 (rk g 0))).setCell ⟨b1 + 1, 2, none⟩ (.int .u32 (rk g 1))).setCell ⟨b1 + 1, 3, none⟩ (.int .u32 (rk g 2))).setCell ⟨b1 + 1, 4, none⟩ (.int .u32 (rk g 3))).setCell ⟨b1 + 1, 5, none⟩ (.int .u32 (rk g 4))).setCell ⟨b1 + 1, 6, none⟩ (.int .u32 (rk g 5))).setCell ⟨b1 + 1, 7, none⟩ (.int .u32 (rk g 6))).setCell ⟨b1 + 1, 8, none⟩ (.int .u32 (rk g 7))).setCell ⟨b1 + 1, 9, none⟩ (.slice (some ⟨gt, 0, none⟩) nT c')) := ⟨_, rfl⟩
  obtain ⟨p1, p2⟩ := ref_end H8.out HZ8.out (by have := HQ0.out; have := HQ1.out; omega) (0) (0) w9 hw9
  have P1 := Lib.hid p1
  have P2 := Lib.hid p2
  have E9 := Lib.hid hw9
  clear p1 p2 hw9
  go_wp2_with fail
  rw [← E9.out]
  exact bodyPost_ret (v := .tuple #[.agg #[.int .i64 g.pc, .int .u32 (rk g 0), .int .u32 (rk g 1), .int .u32 (rk g 2), .int .u32 (rk g 3), .int .u32 (rk g 4), .int .u32 (rk g 5), .int .u32 (rk g 6), .int .u32 (rk g 7), .slice (some ⟨gt, 0, none⟩) nT c'], .int .i64 (0), .int .i64 (0)]) (results_cell3 Tryd.results16 _ _ (b1 + 1) 26 #[.int .i64 g.pc, .int .u32 (rk g 0), .int .u32 (rk g 1), .int .u32 (rk g 2), .int .u32 (rk g 3), .int .u32 (rk g 4), .int .u32 (rk g 5), .int .u32 (rk g 6), .int .u32 (rk g 7), .slice (some ⟨gt, 0, none⟩) nT c'] (0, 0) _ rfl P1.out Tryd.underlying26 rfl frm_size) rfl P2.out
end Go.Proofs.YtgimelpjklnjmabDoor.Fr
end
