/-

  The law FrameGoes.
-/
import Derived.Test.YtiipdeionmndcaaDoorFrmCase
import Derived.Test.YtiipdeionmndcaaDoorFrmRunF
import Derived.Test.YtiipdeionmndcaaDoorFrmStepF
import Derived.Test.YtiipdeionmndcaaDoorFrmAwake
import Derived.Test.YtiipdeionmndcaaDoorFrmWlk
import Derived.Test.YtiipdeionmndcaaDoorCstMost
import Derived.Test.YtiipdeionmndcaaDoorMemFn
import Derived.Test.YtiipdeionmndcaaDoorOperApp
set_option linter.unusedVariables false
set_option linter.unusedSimpArgs false
namespace Go.Proofs.YtiipdeionmndcaaDoor.Fr
open Go.ChangeShapes Go.WideShapes Go.ChangeAt Go.RowKit Ws
open Go.Proofs.YtiipdeionmndcaaDoor.Fp (Ins at_ Fine at_some)
open Go.Proofs.YtiipdeionmndcaaDoor.Fw (Prg okB ckE check_any okB_fine rightI)
open Go.Proofs.YtiipdeionmndcaaDoor.Is (Tabs)

theorem step_len (p : List Ins) (oa ol : Int) (s : SS) : (stepR p oa ol s).1.f.tn.length = s.f.tn.length := by
  unfold stepR stepW
  split
  · split
    · show (tnI _ _).length = _
      unfold tnI
      repeat' split
      all_goals simp
    · rfl
  · rfl
theorem step_wlen (p : List Ins) (oa ol : Int) (s : SS) : (stepR p oa ol s).1.ws.length = s.ws.length := by
  unfold stepR stepW
  split
  · split
    · exact ws_len _ _ _ _
    · rfl
  · rfl

theorem chg_setRow {S : Nat → Prop} {a b : World} (h : Chg S a b) {g : Nat} (hg : S g ∨ a.heap.size ≤ g) (cs : Array Value) : Chg S a (b.setRow g cs) := by
  refine ⟨h.os, h.tape, h.output, by simpa [World.setRow] using h.size, fun i hi hn => ?_⟩
  rw [← h.block i hi hn]
  unfold World.setRow
  simp only [Array.getElem?_modify]
  rw [if_neg]
  rintro rfl
  rcases hg with hg | hg
  · exact hn hg
  · omega
theorem frame_info : (Tryd.prog.info? 44).map (·.size) = some 10 := by kernel_rfl
/-- what a step of a frame comes to -/
theorem step_facts {p : List Ins} (hn : ∀ j, j < p.length → 0 ≤ (at_ p j).n) (oa ol : Int) (f : FS) (ws : List Nat) :
    ((stepR p oa ol ⟨f, ws, 0⟩).2 = 0 → (stepR p oa ol ⟨f, ws, 0⟩).1.f.pc ≠ f.pc ∧ rightF (okB p) p (stepR p oa ol ⟨f, ws, 0⟩).1.f = true ∧ (stepR p oa ol ⟨f, ws, 0⟩).1.st ≤ 1) ∧
    ∀ k : Nat, (stepR p oa ol ⟨f, ws, 0⟩).1.ws.getD k 0 ≠ ws.getD k 0 → 0 ≤ oa ∧ oa ≤ k ∧ (k : Int) - oa < ol := by
  unfold stepR
  by_cases hm : mayB p ⟨f, ws, 0⟩ oa ol = true
  · rw [if_pos hm]
    have hm' := hm
    unfold mayB Mm.inB at hm'
    simp only [Bool.and_eq_true, decide_eq_true_eq] at hm'
    obtain ⟨h1, h2, h3⟩ := hm'
    obtain ⟨h0, ⟨ha, hb, hc⟩, _⟩ := right_iff.1 h1
    have hF := okB_fine h0
    unfold stepW
    by_cases hk : kindI (curI p f) = 0
    · rw [if_pos hk]
      have hk' : kindW p ⟨f, ws, 0⟩ = 0 := hk
      refine ⟨fun _ => ⟨?_, right_inst hF hn oa ol h1 hk', ?_⟩, fun k hne => ?_⟩
      · exact pc_moves hF hn (s := ⟨f, ws, 0⟩) ha hb hk'
      · have := inst_st oa ol (curI p f) ⟨f, ws, 0⟩
        simp only at this ⊢
        omega
      · have := ws_own oa ol (curI p f) ⟨f, ws, 0⟩ h3.1 h2 k hne
        exact ⟨h3.1, this⟩
    · rw [if_neg hk]
      exact ⟨fun h => absurd h hk, fun k hne => absurd rfl hne⟩
  · rw [if_neg hm]
    exact ⟨fun h => (by cases h), fun k hne => absurd rfl hne⟩
theorem run_far {p : List Ins} (hok : okB p = true) (hn : ∀ j, j < p.length → 0 ≤ (at_ p j).n) (oa ol : Int) (ws : List Nat) {N : Int} (hN : Cs.weighW Cs.btG p (List.replicate p.length 1) = N) (h2 : N ≤ 20000) : (runR p oa ol ⟨startF p.length, ws, 0⟩ N).2.1 < N := by
  have hF := okB_fine hok
  have hC : ∀ j, j < (Fp.loopsL p).length → 0 ≤ (at_ p (Fp.lp (Fp.loopsL p) j).2.toNat).c := fun j hj => by
    have h1 := Cs.lp_in hF hn hj
    have := Cs.back_c (hF.right (Fp.lp (Fp.loopsL p) j).2.toNat (by omega)) (Cs.lp_back hF hn hj)
    omega
  have hpos := ones_pos hF hn hC
  rw [hN] at hpos
  unfold runR
  rw [if_neg (by omega)]
  split
  · have := steps_end hF hn hC oa ol ⟨startF p.length, ws, 0⟩ rfl rfl (N := N.toNat) (by omega) (by omega)
    simp only
    omega
  · simp only
    omega
set_option maxRecDepth 100000 in
set_option maxHeartbeats 8000000 in
theorem goes_walk (f : FS) (T : Option Addr) (nT cT : Nat) (A : Option Addr) (m cA : Nat) (L : Option Addr) (nL cL : Nat) (oa ol : Int) (ws : List Nat) (p : List Ins) (w : World) (hT : Row w T (f.tn.map (Value.int .i64))) (hn : f.tn.length = nT) (hp : Prg w A p) (hl : p.length = m) (hL : Row w L ((cst ws).map (Value.int .u32))) (hwl : ws.length = nL) (h8 : f.rg.length = 8) (hrb : ∀ x ∈ f.rg, x < 4294967296) (hwb : ∀ x ∈ ws, x < 4294967296) (ht : Tabs w) :
    Calls Tryd.prog 5 #[.agg #[.int .i64 f.pc, .int .u32 (rk f 0), .int .u32 (rk f 1), .int .u32 (rk f 2), .int .u32 (rk f 3), .int .u32 (rk f 4), .int .u32 (rk f 5), .int .u32 (rk f 6), .int .u32 (rk f 7), .slice T nT cT, .slice A m cA, .slice L nL cL, .int .i64 oa, .int .i64 ol]] w fun e w' => e = .returned (.bool true) ∧ Same w w' := by
  obtain ⟨w1, hw1⟩ : ∃ w1, w1 = w.alloc (.cells #[.int .i64 f.pc, .int .u32 (rk f 0), .int .u32 (rk f 1), .int .u32 (rk f 2), .int .u32 (rk f 3), .int .u32 (rk f 4), .int .u32 (rk f 5), .int .u32 (rk f 6), .int .u32 (rk f 7), .slice T nT cT, .slice A m cA, .slice L nL cL, .int .i64 oa, .int .i64 ol] 49) := ⟨_, rfl⟩
  have hs1 : Same w w1 := hw1 ▸ (Same.refl w).alloc _
  have hb1 : Blk w1 w.heap.size 49 #[.int .i64 f.pc, .int .u32 (rk f 0), .int .u32 (rk f 1), .int .u32 (rk f 2), .int .u32 (rk f 3), .int .u32 (rk f 4), .int .u32 (rk f 5), .int .u32 (rk f 6), .int .u32 (rk f 7), .slice T nT cT, .slice A m cA, .slice L nL cL, .int .i64 oa, .int .i64 ol] := hw1 ▸ Blk.new w _ _
  have E1 := Lib.hid hw1
  have HS1 := Lib.hid hs1
  have HB1 := Lib.hid hb1
  have HT := Lib.hid hT
  have HN := Lib.hid hn
  have HP := Lib.hid hp
  have HL := Lib.hid hl
  have HLR := Lib.hid hL
  have HWL := Lib.hid hwl
  have HW := Lib.hid (show Wide ⟨f, ws, 0⟩ from ⟨h8, hrb, hwb⟩)
  have HTB := Lib.hid ht
  obtain ⟨z0, z1, z2, z3, z4, z5, z6, z7, z8, z9, z10, z11, z12, z13⟩ := (⟨hb1.cell 0, hb1.cell 1, hb1.cell 2, hb1.cell 3, hb1.cell 4, hb1.cell 5, hb1.cell 6, hb1.cell 7, hb1.cell 8, hb1.cell 9, hb1.cell 10, hb1.cell 11, hb1.cell 12, hb1.cell 13⟩ : _ ∧ _ ∧ _ ∧ _ ∧ _ ∧ _ ∧ _ ∧ _ ∧ _ ∧ _ ∧ _ ∧ _ ∧ _ ∧ _)
  simp only [List.getElem?_toArray, List.getElem?_cons_zero, List.getElem?_cons_succ] at z0 z1 z2 z3 z4 z5 z6 z7 z8 z9 z10 z11 z12 z13
  clear hw1 hs1 hb1 hT hn hp hl hL hwl h8 hrb hwb ht
  go_enter Tryd.func5, Tryd.ntmps5
  go_wp2_with fail
  rw [← E1.out]
  clear E1
  refine (light_any f T nT cT A m cA L nL cL oa ol w1).mono ?_
  rintro e w2 ⟨rfl, s2⟩
  cases hlb : lightB m nL nT with
  | false =>
    have AW := Lib.hid (awake13 w2 (HTB.out.same (HS1.out.trans s2)))
    have HS2 := Lib.hid (HS1.out.trans s2)
    clear hlb s2
    go_wp2_with fail
    refine AW.out.mono ?_
    rintro e w3 ⟨rfl, s3⟩
    go_wp2_with fail
    go_ret
    exact ⟨rfl, HS2.out.trans s3⟩
  | true =>
    have hli : (m : Int) ≤ 200 ∧ (nL : Int) ≤ 300 ∧ (nT : Int) ≤ 200 := of_decide_eq_true hlb
    obtain ⟨hm2, hl2, ht2⟩ := hli
    obtain ⟨i0, hi, hz0, hz1, hz2⟩ := info_parts Mm.u32_info
    have HS2 := Lib.hid (HS1.out.trans s2)
    have HB2 := Lib.hid (HB1.out.same s2)
    have HB2L := Lib.hid HB2.out.lt
    clear hlb s2 z0 z1 z2 z3 z4 z5 z6 z7 z8 z9 z10 z11 z12 z13 HB1
    obtain ⟨z0, z1, z2, z3, z4, z5, z6, z7, z8, z9, z10, z11, z12, z13⟩ := (⟨HB2.out.cell 0, HB2.out.cell 1, HB2.out.cell 2, HB2.out.cell 3, HB2.out.cell 4, HB2.out.cell 5, HB2.out.cell 6, HB2.out.cell 7, HB2.out.cell 8, HB2.out.cell 9, HB2.out.cell 10, HB2.out.cell 11, HB2.out.cell 12, HB2.out.cell 13⟩ : _ ∧ _ ∧ _ ∧ _ ∧ _ ∧ _ ∧ _ ∧ _ ∧ _ ∧ _ ∧ _ ∧ _ ∧ _ ∧ _)
    simp only [List.getElem?_toArray, List.getElem?_cons_zero, List.getElem?_cons_succ] at z0 z1 z2 z3 z4 z5 z6 z7 z8 z9 z10 z11 z12 z13
    go_wp2_with fail
    refine (Mm.memory_any L nL cL (cst ws) w2 (by rw [cst_len]; exact HWL.out) (by omega) (HLR.out.same HS2.out)).mono ?_
    rintro e w3 ⟨gm, rfl, s3, hm3⟩
    have HM3 := Lib.hid hm3.within
    have HS3 := Lib.hid (HS2.out.trans s3)
    have HB3 := Lib.hid (HB2.out.same s3)
    have HR3 := Lib.hid (fun i (h : w2.heap.size ≤ i ∧ i < w3.heap.size) => (⟨Nat.le_trans HS2.out.size h.1, h.2⟩ : w.heap.size ≤ i ∧ i < w3.heap.size))
    clear hm3 s3 z0 z1 z2 z3 z4 z5 z6 z7 z8 z9 z10 z11 z12 z13 HB2
    obtain ⟨z0, z1, z2, z3, z4, z5, z6, z7, z8, z9, z10, z11, z12, z13⟩ := (⟨HB3.out.cell 0, HB3.out.cell 1, HB3.out.cell 2, HB3.out.cell 3, HB3.out.cell 4, HB3.out.cell 5, HB3.out.cell 6, HB3.out.cell 7, HB3.out.cell 8, HB3.out.cell 9, HB3.out.cell 10, HB3.out.cell 11, HB3.out.cell 12, HB3.out.cell 13⟩ : _ ∧ _ ∧ _ ∧ _ ∧ _ ∧ _ ∧ _ ∧ _ ∧ _ ∧ _ ∧ _ ∧ _ ∧ _ ∧ _)
    simp only [List.getElem?_toArray, List.getElem?_cons_zero, List.getElem?_cons_succ] at z0 z1 z2 z3 z4 z5 z6 z7 z8 z9 z10 z11 z12 z13
    have FS := Lib.hid (fstep_any f ws 0 gm T nT cT A m cA oa ol p (HT.out.same HS3.out) HN.out (by omega) HP.out HTB.out HS3.out HL.out (by omega) HM3.out (fun i h => ⟨(HR3.out i h).1, (HR3.out i h).2⟩) HW.out (by omega))
    have hsf := step_facts HP.out.nn oa ol f ws
    obtain ⟨s', hs'⟩ : ∃ s', s' = (stepR p oa ol ⟨f, ws, 0⟩).1 := ⟨_, rfl⟩
    obtain ⟨kx, hkx⟩ : ∃ kx, kx = (stepR p oa ol ⟨f, ws, 0⟩).2 := ⟨_, rfl⟩
    rw [← hs', ← hkx] at FS hsf
    have HSW := Lib.hid (show s'.ws.length = nL by rw [hs', step_wlen]; exact HWL.out)
    have HSN := Lib.hid (show s'.f.tn.length = nT by rw [hs', step_len]; exact HN.out)
    have HSF := Lib.hid hsf
    clear hs' hkx hsf
    go_wp2_with fail
    refine FS.out.mono ?_
    rintro e w7 ⟨T1, c1, rfl, ho1, hm7, hc7⟩
    simp only [List.append_toArray]
    obtain ⟨w8, hw8⟩ : ∃ w8, w8 = w7.alloc (.cells #[.int .i64 s'.f.pc, .int .u32 (rk s'.f 0), .int .u32 (rk s'.f 1), .int .u32 (rk s'.f 2), .int .u32 (rk s'.f 3), .int .u32 (rk s'.f 4), .int .u32 (rk s'.f 5), .int .u32 (rk s'.f 6), .int .u32 (rk s'.f 7), .slice T1 nT c1] 44) := ⟨_, rfl⟩
    have hs8 : Same w7 w8 := hw8 ▸ (Same.refl w7).alloc _
    have E8 := Lib.hid hw8
    have HQ7 := Lib.hid (show Blk w8 w7.heap.size 44 #[.int .i64 s'.f.pc, .int .u32 (rk s'.f 0), .int .u32 (rk s'.f 1), .int .u32 (rk s'.f 2), .int .u32 (rk s'.f 3), .int .u32 (rk s'.f 4), .int .u32 (rk s'.f 5), .int .u32 (rk s'.f 6), .int .u32 (rk s'.f 7), .slice T1 nT c1] from hw8 ▸ Blk.new w7 _ _)
    have HO8 := Lib.hid (ho1.same hs8)
    have HS8 := Lib.hid ((Same.more HS3.out hc7 (fun i h => (HR3.out i h).1)).trans hs8)
    have HB8 := Lib.hid ((HB3.out.chg hc7 (fun h => by have := HB2L.out; have := h.1; omega)).same hs8)
    have HM8 := Lib.hid (hm7.same hs8)
    clear ho1 hm7 hc7 hs8 hw8 z0 z1 z2 z3 z4 z5 z6 z7 z8 z9 z10 z11 z12 z13 HB3 HM3 FS
    go_upto_region 5 with fail
    rw [← E8.out]
    clear E8
    generalize w7.heap.size = q7 at *
    obtain ⟨z0, z1, z2, z3, z4, z5, z6, z7, z8, z9, z10, z11, z12, z13⟩ := (⟨HB8.out.cell 0, HB8.out.cell 1, HB8.out.cell 2, HB8.out.cell 3, HB8.out.cell 4, HB8.out.cell 5, HB8.out.cell 6, HB8.out.cell 7, HB8.out.cell 8, HB8.out.cell 9, HB8.out.cell 10, HB8.out.cell 11, HB8.out.cell 12, HB8.out.cell 13⟩ : _ ∧ _ ∧ _ ∧ _ ∧ _ ∧ _ ∧ _ ∧ _ ∧ _ ∧ _ ∧ _ ∧ _ ∧ _ ∧ _)
    simp only [List.getElem?_toArray, List.getElem?_cons_zero, List.getElem?_cons_succ] at z0 z1 z2 z3 z4 z5 z6 z7 z8 z9 z10 z11 z12 z13
    obtain ⟨y0, y1, y2, y3, y4, y5, y6, y7, y8, y9⟩ := (⟨HQ7.out.cell 0, HQ7.out.cell 1, HQ7.out.cell 2, HQ7.out.cell 3, HQ7.out.cell 4, HQ7.out.cell 5, HQ7.out.cell 6, HQ7.out.cell 7, HQ7.out.cell 8, HQ7.out.cell 9⟩ : _ ∧ _ ∧ _ ∧ _ ∧ _ ∧ _ ∧ _ ∧ _ ∧ _ ∧ _)
    simp only [List.getElem?_toArray, List.getElem?_cons_zero, List.getElem?_cons_succ] at y0 y1 y2 y3 y4 y5 y6 y7 y8 y9
    have FR := Lib.hid (fright_any s'.f T1 nT c1 A m cA p w8 HL.out (by omega) (HP.out.same HS8.out) (HTB.out.same HS8.out) HO8.out.row HSN.out (by omega))
    have WD := Lib.hid (fun (w' : World) (hs : Same w8 w') => Mm.words_any w' (HM8.out.same hs))
    have HWN := Lib.hid (show (cst s'.ws).length = nL by rw [cst_len]; exact HSW.out)
    by_cases hk0 : kx = 0
    · have ek : (kx == 0) = true := by simpa using hk0
      obtain ⟨hpc, hrt, hst1⟩ := HSF.out.1 hk0
      have epc : (s'.f.pc == f.pc) = false := by simpa using hpc
      rw [hrt] at FR
      have hst : ¬ s'.st > 1 := by omega
      clear hk0 hpc hrt
      go_wp2_with fail
      refine FR.out.mono ?_
      rintro e w9 ⟨rfl, s9⟩
      have SN := Lib.hid (Mm.steps_any w9 (HM8.out.same s9))
      have HS89 := Lib.hid s9
      clear s9 FR
      go_wp2_with fail
      refine SN.out.mono ?_
      rintro e w9 ⟨rfl, rfl⟩
      clear SN
      clear z0 z1 z2 z3 z4 z5 z6 z7 z8 z9 z10 z11 z12 z13 y0 y1 y2 y3 y4 y5 y6 y7 y8 y9
      go_wp2_with fail
      refine (WD.out _ HS89.out).mono ?_
      rintro e w10 ⟨gq, cq, rfl, s10, hoq⟩
      have HQW := Lib.hid hoq.row
      have HS8A := Lib.hid (HS89.out.trans s10)
      clear s10 hoq WD HS89
      go_wp2_with fail
      go_loopg [56] nL (fun gk iv wx => ∃ k : Nat, k + gk = nL ∧ iv = .int .i64 k ∧ Same w10 wx)
      case atStart => exact ⟨0, by omega, rfl, Same.refl _⟩
      case round =>
        obtain ⟨k, hk, rfl, sx⟩ := hrel
        have HSX := Lib.hid sx
        have HSR := Lib.hid (HS8.out.trans (HS8A.out.trans sx))
        have HBR := Lib.hid (HB8.out.same (HS8A.out.trans sx))
        clear sx
        obtain ⟨z0, z1, z2, z3, z4, z5, z6, z7, z8, z9, z10, z11, z12, z13⟩ := (⟨HBR.out.cell 0, HBR.out.cell 1, HBR.out.cell 2, HBR.out.cell 3, HBR.out.cell 4, HBR.out.cell 5, HBR.out.cell 6, HBR.out.cell 7, HBR.out.cell 8, HBR.out.cell 9, HBR.out.cell 10, HBR.out.cell 11, HBR.out.cell 12, HBR.out.cell 13⟩ : _ ∧ _ ∧ _ ∧ _ ∧ _ ∧ _ ∧ _ ∧ _ ∧ _ ∧ _ ∧ _ ∧ _ ∧ _ ∧ _)
        simp only [List.getElem?_toArray, List.getElem?_cons_zero, List.getElem?_cons_succ] at z0 z1 z2 z3 z4 z5 z6 z7 z8 z9 z10 z11 z12 z13
        cases gk with
        | succ GK =>
          have hlt : (k : Int) < (cst s'.ws).length := by have := HWN.out; omega
          have hlt2 : (k : Int) < nL := by omega
          have hk0 : (0 : Int) ≤ k := by omega
          have HKN := Lib.hid (show k + (GK + 1) = nL from hk)
          obtain ⟨bq, oq, hAq, cq0⟩ := (HQW.out.same HSX.out) k (.int .u32 ((s'.ws.getD k 0 : Nat) : Int)) (by
            unfold cst
            rw [List.getElem?_map, List.getElem?_map, List.getD_eq_getElem?_getD, List.getElem?_eq_getElem (by have := HSW.out; omega)]
            rfl)
          obtain ⟨rfl, rfl⟩ : gq = bq ∧ 0 = oq := by
            have h1 := Option.some.inj hAq
            injection h1 with h1 h2
            exact ⟨h1, h2⟩
          rw [Nat.zero_add] at cq0
          obtain ⟨bL, oL, rfl, cL0⟩ := (HLR.out.same HSR.out) k (.int .u32 ((ws.getD k 0 : Nat) : Int)) (by
            unfold cst
            rw [List.getElem?_map, List.getElem?_map, List.getD_eq_getElem?_getD, List.getElem?_eq_getElem (by have := HWL.out; omega)]
            rfl)
          have HDF := Lib.hid (HSF.out.2 k)
          clear hAq hk
          by_cases hxy : s'.ws.getD k 0 = ws.getD k 0
          · rw [hxy] at cq0
            generalize ws.getD k 0 = y at *
            have exy : ((y : Int) != (y : Int)) = false := by simp
            clear hxy HDF
            go_wp2_with fail
            go_roundg GK
            case rel => exact ⟨k + 1, by have := HKN.out; omega, by go_num, HSX.out⟩
            case measure => omega
          · obtain ⟨ho0, ho1, ho2⟩ := HDF.out hxy
            generalize s'.ws.getD k 0 = x at *
            generalize ws.getD k 0 = y at *
            have exy : ((x : Int) != (y : Int)) = true := by simp; omega
            have hn1 : ¬ (k : Int) < oa := by omega
            have hn2 : ¬ (k : Int) - oa ≥ ol := by omega
            clear hxy HDF
            go_wp2_with fail
            go_roundg GK
            case rel => exact ⟨k + 1, by have := HKN.out; omega, by go_num, HSX.out⟩
            case measure => omega
        | zero =>
          have hge : ¬ (k : Int) < (cst s'.ws).length := by have := HWN.out; omega
          clear hk
          have HSR0 := HSR.out
          clear HQW HSX HS8A HSF z0 z1 z2 z3 z4 z5 z6 z7 z8 z9 z10 z11 z12 z13
          go_wp2_with fail
          generalize hwv : wr = wv at *
          clear hwv
          refine wp_region_held_drew (S := fun w' => Same wv w') (by kernel_rfl) ?_ (fun hHeld => ?_)
          · exact (Same.refl wv).drew
          refine Ro.take_on (i := 0) (v := ?_) rfl (by kernel_rfl) (by kernel_rfl) (by kernel_rfl) (fun _ _ _ h => h) (by rfl) (by assumption) ?_ ?_
          rotate_left
          · intro wS hSw; (try dsimp only at hSw); go_simp; try with_reducible rfl
          try simp only [Act.put, List.setIfInBounds_toArray, List.set_cons_zero, List.set_cons_succ]
          refine Ro.take_on (i := 1) (v := ?_) rfl (by kernel_rfl) (by kernel_rfl) (by kernel_rfl) (fun _ _ _ h => h) (by rfl) (by assumption) ?_ ?_
          rotate_left
          · intro wS hSw; (try dsimp only at hSw); obtain ⟨v0, v1, v2, v3, v4, v5, v6, v7, v8, v9, v10, v11, v12, v13⟩ := (⟨(HBR.out.same hSw).cell 0, (HBR.out.same hSw).cell 1, (HBR.out.same hSw).cell 2, (HBR.out.same hSw).cell 3, (HBR.out.same hSw).cell 4, (HBR.out.same hSw).cell 5, (HBR.out.same hSw).cell 6, (HBR.out.same hSw).cell 7, (HBR.out.same hSw).cell 8, (HBR.out.same hSw).cell 9, (HBR.out.same hSw).cell 10, (HBR.out.same hSw).cell 11, (HBR.out.same hSw).cell 12, (HBR.out.same hSw).cell 13⟩ : _ ∧ _ ∧ _ ∧ _ ∧ _ ∧ _ ∧ _ ∧ _ ∧ _ ∧ _ ∧ _ ∧ _ ∧ _ ∧ _); simp only [List.getElem?_toArray, List.getElem?_cons_zero, List.getElem?_cons_succ] at v0 v1 v2 v3 v4 v5 v6 v7 v8 v9 v10 v11 v12 v13; go_simp; try with_reducible rfl
          try simp only [Act.put, List.setIfInBounds_toArray, List.set_cons_zero, List.set_cons_succ]
          refine Ro.take_on (i := 2) (v := ?_) rfl (by kernel_rfl) (by kernel_rfl) (by kernel_rfl) (fun _ _ _ h => h) (by rfl) (by assumption) ?_ ?_
          rotate_left
          · intro wS hSw; (try dsimp only at hSw); go_simp; try with_reducible rfl
          try simp only [Act.put, List.setIfInBounds_toArray, List.set_cons_zero, List.set_cons_succ]
          refine Ro.take_on (i := 3) (v := ?_) rfl (by kernel_rfl) (by kernel_rfl) (by kernel_rfl) (fun _ _ _ h => h) (by rfl) (by assumption) ?_ ?_
          rotate_left
          · intro wS hSw; (try dsimp only at hSw); obtain ⟨v0, v1, v2, v3, v4, v5, v6, v7, v8, v9, v10, v11, v12, v13⟩ := (⟨(HBR.out.same hSw).cell 0, (HBR.out.same hSw).cell 1, (HBR.out.same hSw).cell 2, (HBR.out.same hSw).cell 3, (HBR.out.same hSw).cell 4, (HBR.out.same hSw).cell 5, (HBR.out.same hSw).cell 6, (HBR.out.same hSw).cell 7, (HBR.out.same hSw).cell 8, (HBR.out.same hSw).cell 9, (HBR.out.same hSw).cell 10, (HBR.out.same hSw).cell 11, (HBR.out.same hSw).cell 12, (HBR.out.same hSw).cell 13⟩ : _ ∧ _ ∧ _ ∧ _ ∧ _ ∧ _ ∧ _ ∧ _ ∧ _ ∧ _ ∧ _ ∧ _ ∧ _ ∧ _); simp only [List.getElem?_toArray, List.getElem?_cons_zero, List.getElem?_cons_succ] at v0 v1 v2 v3 v4 v5 v6 v7 v8 v9 v10 v11 v12 v13; go_simp; try with_reducible rfl
          try simp only [Act.put, List.setIfInBounds_toArray, List.set_cons_zero, List.set_cons_succ]
          refine Ro.one_on (i := 4) rfl (by kernel_rfl) (by rfl) (fun K hK => ?_)
          go_simp
          go_at_call 24
          refine (Cs.ones_any A m cA _ (by omega)).mono ?_
          rintro e wO ⟨OB, oc, rfl, hro, sO⟩
          have HRO := Lib.hid hro
          clear hro
          refine hK.out _ _ ?_ (fun hNew => ?_)
          · exact hHeld.trans sO
          clear hK K hHeld; have hHeld := hNew; clear hNew
          try simp only [Act.put, List.setIfInBounds_toArray, List.set_cons_zero, List.set_cons_succ]
          refine Ro.one_on (i := 5) rfl (by kernel_rfl) (by rfl) (fun K hK => ?_)
          go_simp
          go_at_call 8
          refine (Cs.most_any A m cA p OB m oc (List.replicate m 1) wO HL.out (by omega) (HP.out.same (HSR0.trans hHeld)) HRO.out (by simp) (HTB.out.same (HSR0.trans hHeld))).mono ?_
          rintro e wM ⟨rfl, sM⟩
          refine hK.out _ _ ?_ (fun hNew => ?_)
          · exact hHeld.trans sM
          clear hK K hHeld; have hHeld := hNew; clear hNew
          try simp only [Act.put, List.setIfInBounds_toArray, List.set_cons_zero, List.set_cons_succ]
          refine Ro.take_on (i := 6) (v := ?_) rfl (by kernel_rfl) (by kernel_rfl) (by kernel_rfl) (fun _ _ _ h => h) (by rfl) (by assumption) ?_ ?_
          rotate_left
          · intro wS hSw; (try dsimp only at hSw); go_simp; try with_reducible rfl
          try simp only [Act.put, List.setIfInBounds_toArray, List.set_cons_zero, List.set_cons_succ]
          refine Ro.take_on (i := 7) (v := ?_) rfl (by kernel_rfl) (by kernel_rfl) (by kernel_rfl) (fun _ _ _ h => h) (by rfl) (by assumption) ?_ ?_
          rotate_left
          · intro wS hSw; (try dsimp only at hSw); go_simp; try with_reducible rfl
          try simp only [Act.put, List.setIfInBounds_toArray, List.set_cons_zero, List.set_cons_succ]
          refine Ro.take_on (i := 9) (v := ?_) rfl (by kernel_rfl) (by kernel_rfl) (by kernel_rfl) (fun _ _ _ h => h) (by rfl) (by assumption) ?_ ?_
          rotate_left
          · intro wS hSw; (try dsimp only at hSw); go_simp; try with_reducible rfl
          try simp only [Act.put, List.setIfInBounds_toArray, List.set_cons_zero, List.set_cons_succ]
          refine Ro.take_on (i := 8) (v := ?_) rfl (by kernel_rfl) (by kernel_rfl) (by kernel_rfl) (fun _ _ _ h => h) (by rfl) (by assumption) ?_ ?_
          rotate_left
          · intro wS hSw; (try dsimp only at hSw); go_simp; try with_reducible rfl
          try simp only [Act.put, List.setIfInBounds_toArray, List.set_cons_zero, List.set_cons_succ]
          refine Ro.take_on (i := 10) (v := ?_) rfl (by kernel_rfl) (by kernel_rfl) (by kernel_rfl) (fun _ _ _ h => h) (by rfl) (by assumption) ?_ ?_
          rotate_left
          · intro wS hSw; (try dsimp only at hSw); go_simp; try with_reducible rfl
          try simp only [Act.put, List.setIfInBounds_toArray, List.set_cons_zero, List.set_cons_succ]
          refine wpAnyH_done (by kernel_rfl) ?_ _
          have HSM := Lib.hid (HSR0.trans hHeld)
          have HBM := Lib.hid (HBR.out.same hHeld)
          clear hHeld HRO HBR
          try simp only [List.length_replicate]
          have HFR := Lib.hid (fun (he : Cs.weE p m = 0) (hn : Cs.weI true p (List.replicate m 1) ≤ 20000) => (show (runR p oa ol ⟨startF m, ws, 0⟩ (Cs.weI true p (List.replicate m 1))).2.1 < Cs.weI true p (List.replicate m 1) by
            have hok : okB p = true := by
              unfold okB
              rw [decide_eq_true_eq]
              unfold Cs.weE at he
              split at he
              · assumption
              · exact he
            have hl : p.length = m := HL.out
            rw [← hl] at he hn ⊢
            refine run_far hok HP.out.nn oa ol ws ?_ hn
            unfold Cs.weI
            rw [if_pos (by rw [List.length_replicate]; exact he)]
            rfl))
          have AWM := Lib.hid (fun (w' : World) (hs : Same wM w') => awake13 w' (HTB.out.same (HSM.out.trans hs)))
          generalize Cs.weE p m = er at *
          generalize Cs.weI true p (List.replicate m 1) = n0 at *
          by_cases her : er = 0
          · have eer : (er != 0) = false := by simpa using her
            by_cases hbig : (20000 : Int) < n0
            · clear her
              go_wp2_with fail
              all_goals
                refine (AWM.out _ (Same.refl _)).mono ?_
                rintro e wZ ⟨rfl, sZ⟩
                go_wp2_with fail
                go_ret
                exact ⟨rfl, HSM.out.trans sZ⟩
            · have hst0 := HFR.out her (by omega)
              clear her HFR
              go_wp2_with fail
              refine wp_region_held_drew (S := fun w' => Same wM w') (by kernel_rfl) ?_ (fun hHeld => ?_)
              · exact (Same.refl wM).drew
              refine Ro.take_on (i := 0) (v := ?_) rfl (by kernel_rfl) (by kernel_rfl) (by kernel_rfl) (fun _ _ _ h => h) (by rfl) (by assumption) ?_ ?_
              rotate_left
              · intro wS hSw; (try dsimp only at hSw); go_simp; try with_reducible rfl
              try simp only [Act.put, List.setIfInBounds_toArray, List.set_cons_zero, List.set_cons_succ]
              refine Ro.take_on (i := 1) (v := ?_) rfl (by kernel_rfl) (by kernel_rfl) (by kernel_rfl) (fun _ _ _ h => h) (by rfl) (by assumption) ?_ ?_
              rotate_left
              · intro wS hSw; (try dsimp only at hSw); obtain ⟨v0, v1, v2, v3, v4, v5, v6, v7, v8, v9, v10, v11, v12, v13⟩ := (⟨(HBM.out.same hSw).cell 0, (HBM.out.same hSw).cell 1, (HBM.out.same hSw).cell 2, (HBM.out.same hSw).cell 3, (HBM.out.same hSw).cell 4, (HBM.out.same hSw).cell 5, (HBM.out.same hSw).cell 6, (HBM.out.same hSw).cell 7, (HBM.out.same hSw).cell 8, (HBM.out.same hSw).cell 9, (HBM.out.same hSw).cell 10, (HBM.out.same hSw).cell 11, (HBM.out.same hSw).cell 12, (HBM.out.same hSw).cell 13⟩ : _ ∧ _ ∧ _ ∧ _ ∧ _ ∧ _ ∧ _ ∧ _ ∧ _ ∧ _ ∧ _ ∧ _ ∧ _ ∧ _); simp only [List.getElem?_toArray, List.getElem?_cons_zero, List.getElem?_cons_succ] at v0 v1 v2 v3 v4 v5 v6 v7 v8 v9 v10 v11 v12 v13; go_simp; try with_reducible rfl
              try simp only [Act.put, List.setIfInBounds_toArray, List.set_cons_zero, List.set_cons_succ]
              refine Ro.take_on (i := 3) (v := ?_) rfl (by kernel_rfl) (by kernel_rfl) (by kernel_rfl) (fun _ _ _ h => h) (by rfl) (by assumption) ?_ ?_
              rotate_left
              · intro wS hSw; (try dsimp only at hSw); go_simp; try with_reducible rfl
              try simp only [Act.put, List.setIfInBounds_toArray, List.set_cons_zero, List.set_cons_succ]
              refine Ro.take_on (i := 4) (v := ?_) rfl (by kernel_rfl) (by kernel_rfl) (by kernel_rfl) (fun _ _ _ h => h) (by rfl) (by assumption) ?_ ?_
              rotate_left
              · intro wS hSw; (try dsimp only at hSw); obtain ⟨v0, v1, v2, v3, v4, v5, v6, v7, v8, v9, v10, v11, v12, v13⟩ := (⟨(HBM.out.same hSw).cell 0, (HBM.out.same hSw).cell 1, (HBM.out.same hSw).cell 2, (HBM.out.same hSw).cell 3, (HBM.out.same hSw).cell 4, (HBM.out.same hSw).cell 5, (HBM.out.same hSw).cell 6, (HBM.out.same hSw).cell 7, (HBM.out.same hSw).cell 8, (HBM.out.same hSw).cell 9, (HBM.out.same hSw).cell 10, (HBM.out.same hSw).cell 11, (HBM.out.same hSw).cell 12, (HBM.out.same hSw).cell 13⟩ : _ ∧ _ ∧ _ ∧ _ ∧ _ ∧ _ ∧ _ ∧ _ ∧ _ ∧ _ ∧ _ ∧ _ ∧ _ ∧ _); simp only [List.getElem?_toArray, List.getElem?_cons_zero, List.getElem?_cons_succ] at v0 v1 v2 v3 v4 v5 v6 v7 v8 v9 v10 v11 v12 v13; go_simp; try with_reducible rfl
              try simp only [Act.put, List.setIfInBounds_toArray, List.set_cons_zero, List.set_cons_succ]
              refine Ro.take_on (i := 5) (v := ?_) rfl (by kernel_rfl) (by kernel_rfl) (by kernel_rfl) (fun _ _ _ h => h) (by rfl) (by assumption) ?_ ?_
              rotate_left
              · intro wS hSw; (try dsimp only at hSw); go_simp; try with_reducible rfl
              try simp only [Act.put, List.setIfInBounds_toArray, List.set_cons_zero, List.set_cons_succ]
              refine Ro.take_on (i := 6) (v := ?_) rfl (by kernel_rfl) (by kernel_rfl) (by kernel_rfl) (fun _ _ _ h => h) (by rfl) (by assumption) ?_ ?_
              rotate_left
              · intro wS hSw; (try dsimp only at hSw); obtain ⟨v0, v1, v2, v3, v4, v5, v6, v7, v8, v9, v10, v11, v12, v13⟩ := (⟨(HBM.out.same hSw).cell 0, (HBM.out.same hSw).cell 1, (HBM.out.same hSw).cell 2, (HBM.out.same hSw).cell 3, (HBM.out.same hSw).cell 4, (HBM.out.same hSw).cell 5, (HBM.out.same hSw).cell 6, (HBM.out.same hSw).cell 7, (HBM.out.same hSw).cell 8, (HBM.out.same hSw).cell 9, (HBM.out.same hSw).cell 10, (HBM.out.same hSw).cell 11, (HBM.out.same hSw).cell 12, (HBM.out.same hSw).cell 13⟩ : _ ∧ _ ∧ _ ∧ _ ∧ _ ∧ _ ∧ _ ∧ _ ∧ _ ∧ _ ∧ _ ∧ _ ∧ _ ∧ _); simp only [List.getElem?_toArray, List.getElem?_cons_zero, List.getElem?_cons_succ] at v0 v1 v2 v3 v4 v5 v6 v7 v8 v9 v10 v11 v12 v13; go_simp; try with_reducible rfl
              try simp only [Act.put, List.setIfInBounds_toArray, List.set_cons_zero, List.set_cons_succ]
              refine Ro.take_on (i := 8) (v := ?_) rfl (by kernel_rfl) (by kernel_rfl) (by kernel_rfl) (fun _ _ _ h => h) (by rfl) (by assumption) ?_ ?_
              rotate_left
              · intro wS hSw; (try dsimp only at hSw); go_simp; try with_reducible rfl
              try simp only [Act.put, List.setIfInBounds_toArray, List.set_cons_zero, List.set_cons_succ]
              refine Ro.take_on (i := 9) (v := ?_) rfl (by kernel_rfl) (by kernel_rfl) (by kernel_rfl) (fun _ _ _ h => h) (by rfl) (by assumption) ?_ ?_
              rotate_left
              · intro wS hSw; (try dsimp only at hSw); obtain ⟨v0, v1, v2, v3, v4, v5, v6, v7, v8, v9, v10, v11, v12, v13⟩ := (⟨(HBM.out.same hSw).cell 0, (HBM.out.same hSw).cell 1, (HBM.out.same hSw).cell 2, (HBM.out.same hSw).cell 3, (HBM.out.same hSw).cell 4, (HBM.out.same hSw).cell 5, (HBM.out.same hSw).cell 6, (HBM.out.same hSw).cell 7, (HBM.out.same hSw).cell 8, (HBM.out.same hSw).cell 9, (HBM.out.same hSw).cell 10, (HBM.out.same hSw).cell 11, (HBM.out.same hSw).cell 12, (HBM.out.same hSw).cell 13⟩ : _ ∧ _ ∧ _ ∧ _ ∧ _ ∧ _ ∧ _ ∧ _ ∧ _ ∧ _ ∧ _ ∧ _ ∧ _ ∧ _); simp only [List.getElem?_toArray, List.getElem?_cons_zero, List.getElem?_cons_succ] at v0 v1 v2 v3 v4 v5 v6 v7 v8 v9 v10 v11 v12 v13; go_simp; try with_reducible rfl
              try simp only [Act.put, List.setIfInBounds_toArray, List.set_cons_zero, List.set_cons_succ]
              refine Ro.take_on (i := 10) (v := ?_) rfl (by kernel_rfl) (by kernel_rfl) (by kernel_rfl) (fun _ _ _ h => h) (by rfl) (by assumption) ?_ ?_
              rotate_left
              · intro wS hSw; (try dsimp only at hSw); go_simp; try with_reducible rfl
              try simp only [Act.put, List.setIfInBounds_toArray, List.set_cons_zero, List.set_cons_succ]
              have HKP := Lib.hid hHeld
              refine Ra.two_on (i := 2) (j := 16) rfl rfl (by kernel_rfl) (by rfl) (by rfl) (fun K hK => ?_) (fun K hK => ?_)
              · go_simp
                go_at_call 26
                refine (fstart_any A m cA _ (by omega)).mono ?_
                rintro e wS ⟨TS, rfl, hoS, sS⟩
                have HOS := Lib.hid hoS.row
                have HSS := Lib.hid sS
                clear hoS sS
                refine hK.out _ _ ?_ (fun hNew => ?_)
                · exact hHeld.trans HSS.out
                clear hK K hHeld; have hHeld := hNew; clear hNew
                try simp only [Act.put, List.setIfInBounds_toArray, List.set_cons_zero, List.set_cons_succ]
                have HKP := Lib.hid hHeld
                refine Ra.two_on (i := 7) (j := 16) rfl rfl (by kernel_rfl) (by rfl) (by rfl) (fun K hK => ?_) (fun K hK => ?_)
                · go_simp
                  go_at_call 19
                  refine (Mm.memory_any L nL cL (cst ws) _ (by rw [cst_len]; exact HWL.out) (by omega) (HLR.out.same (HSM.out.trans hHeld))).mono ?_
                  rintro e wY ⟨gm2, rfl, sY, hmY⟩
                  have HMY := Lib.hid hmY.within
                  have HSY := Lib.hid sY
                  have HRW := Lib.hid hHeld.size
                  have HYC := Lib.hid (Nat.le_refl wY.heap.size)
                  clear sY hmY
                  refine hK.out _ _ ?_ (fun hNew => ?_)
                  · exact hHeld.trans HSY.out
                  clear hK K hHeld; have hHeld := hNew; clear hNew
                  try simp only [Act.put, List.setIfInBounds_toArray, List.set_cons_zero, List.set_cons_succ]
                  have HOS := Lib.hid (HOS.out.same HSY.out)
                  have HKP := Lib.hid hHeld
                  refine Ra.two_on (i := 11) (j := 16) rfl rfl (by kernel_rfl) (by rfl) (by rfl) (fun K hK => ?_) (fun K hK => ?_)
                  · go_simp
                    go_at_call 25
                    refine (frun_any (startF m) ws 0 gm2 TS m m A m cA oa ol p HOS.out (by show (List.replicate m (0 : Int)).length = m; simp) (by omega) HP.out HTB.out (HSM.out.trans hHeld) HL.out (by omega) HMY.out (fun i h => ⟨Nat.le_trans HSM.out.size (Nat.le_trans HRW.out h.1), Nat.lt_of_lt_of_le h.2 HYC.out⟩) (wide_start m ws 0 HW.out.wb) (by omega) n0 (by omega)).mono ?_
                    rintro e wR ⟨TR, cR, rfl, hoR, hmR, hcR⟩
                    have HCR := Lib.hid hcR
                    clear hoR hmR hcR
                    refine hK.out _ _ ?_ (fun hNew => ?_)
                    · exact Same.more hHeld HCR.out (fun i h => Nat.le_trans HRW.out h.1)
                    clear hK K hHeld; have hHeld := hNew; clear hNew
                    try simp only [Act.put, List.setIfInBounds_toArray, List.set_cons_zero, List.set_cons_succ]
                    simp only [List.append_toArray, List.cons_append, List.nil_append]
                    refine Ro.take_on (i := 12) (v := ?_) rfl (by kernel_rfl) (by kernel_rfl) (by kernel_rfl) (fun _ _ _ h => h) (by rfl) (by assumption) ?_ ?_
                    rotate_left
                    · intro wS hSw; (try dsimp only at hSw); go_simp; try with_reducible rfl
                    try simp only [Act.put, List.setIfInBounds_toArray, List.set_cons_zero, List.set_cons_succ]
                    refine Ro.take_on (i := 13) (v := ?_) rfl (by kernel_rfl) (by kernel_rfl) (by kernel_rfl) (fun _ _ _ h => h) (by rfl) (by assumption) ?_ ?_
                    rotate_left
                    · intro wS hSw; (try dsimp only at hSw); go_simp; try with_reducible rfl
                    try simp only [Act.put, List.setIfInBounds_toArray, List.set_cons_zero, List.set_cons_succ]
                    refine Ro.take_on (i := 14) (v := ?_) rfl (by kernel_rfl) (by kernel_rfl) (by kernel_rfl) (fun _ _ _ h => h) (by rfl) (by assumption) ?_ ?_
                    rotate_left
                    · intro wS hSw; (try dsimp only at hSw); go_simp; try with_reducible rfl
                    try simp only [Act.put, List.setIfInBounds_toArray, List.set_cons_zero, List.set_cons_succ]
                    refine Ro.take_on (i := 15) (v := ?_) rfl (by kernel_rfl) (by kernel_rfl) (by kernel_rfl) (fun _ _ _ h => h) (by rfl) (by assumption) ?_ ?_
                    rotate_left
                    · intro wS hSw; (try dsimp only at hSw); go_simp; try with_reducible rfl
                    try simp only [Act.put, List.setIfInBounds_toArray, List.set_cons_zero, List.set_cons_succ]
                    have HKP := Lib.hid hHeld
                    refine Ro.one_on (i := 16) rfl (by kernel_rfl) (by rfl) (fun K hK => ?_)
                    go_simp
                    refine hK.out _ _ ?_ (fun hNew => ?_)
                    · exact hHeld.alloc _
                    clear hK K hHeld; have hHeld := hNew; clear hNew
                    try simp only [Act.put, List.setIfInBounds_toArray, List.set_cons_zero, List.set_cons_succ]
                    obtain ⟨wA, hwA⟩ : ∃ wA, wA = wR.alloc (.cells #[.int .i64 0, .int .u32 0, .int .u32 0, .int .u32 0, .int .u32 0, .int .u32 0, .int .u32 0, .int .u32 0, .int .u32 0, .slice none 0 0] 44) := ⟨_, rfl⟩
                    obtain ⟨gx, hgx⟩ : ∃ gx, gx = wR.heap.size := ⟨_, rfl⟩
                    have HBA := Lib.hid (show Blk wA gx 44 #[.int .i64 0, .int .u32 0, .int .u32 0, .int .u32 0, .int .u32 0, .int .u32 0, .int .u32 0, .int .u32 0, .int .u32 0, .slice none 0 0] by rw [hwA, hgx]; exact Blk.new _ _ _)
                    have HSA := Lib.hid (show Same wR wA by rw [hwA]; exact (Same.refl _).alloc _)
                    have HGX := Lib.hid (show wM.heap.size ≤ gx by rw [hgx]; exact HKP.out.size)
                    rw [← hwA, ← hgx]
                    clear hHeld
                    have hHeld : Same wM wA := HKP.out.trans HSA.out
                    clear hwA hgx HKP
                    have HIFR := Lib.hid frame_info
                    refine Ro.one_on (i := 17) rfl (by kernel_rfl) (by rfl) (fun K hK => ?_)
                    refine wp_store_row 44 (.tmp 10) (.tmp 116) rfl gx _ rfl rfl 44 #[.int .i64 0, .int .u32 0, .int .u32 0, .int .u32 0, .int .u32 0, .int .u32 0, .int .u32 0, .int .u32 0, .int .u32 0, .slice none 0 0] HBA.out HIFR.out rfl (by simp [Value.oneCell']) ?_
                    refine hK.out _ _ ?_ (fun hNew => ?_)
                    · exact chg_setRow hHeld (.inr HGX.out) _
                    clear hK K hHeld; have hHeld := hNew; clear hNew
                    try simp only [Act.put, List.setIfInBounds_toArray, List.set_cons_zero, List.set_cons_succ]
                    refine Ro.take_on (i := 18) (v := ?_) rfl (by kernel_rfl) (by kernel_rfl) (by kernel_rfl) (fun _ _ _ h => h) (by rfl) (by assumption) ?_ ?_
                    rotate_left
                    · intro wS hSw; (try dsimp only at hSw); go_simp; try with_reducible rfl
                    try simp only [Act.put, List.setIfInBounds_toArray, List.set_cons_zero, List.set_cons_succ]
                    refine Ro.take_on (i := 19) (v := ?_) rfl (by kernel_rfl) (by kernel_rfl) (by kernel_rfl) (fun _ _ _ h => h) (by rfl) (by assumption) ?_ ?_
                    rotate_left
                    · intro wS hSw; (try dsimp only at hSw); go_simp; try with_reducible rfl
                    try simp only [Act.put, List.setIfInBounds_toArray, List.set_cons_zero, List.set_cons_succ]
                    refine wpAnyH_done (by kernel_rfl) ?_ _
                    have HS16 := Lib.hid (HSM.out.trans hHeld)
                    have AWZ := Lib.hid (AWM.out _ hHeld)
                    clear hHeld
                    generalize (runR p oa ol ⟨startF m, ws, 0⟩ n0).2.1 = stn at *
                    go_wp2_with fail
                    refine AWZ.out.mono ?_
                    rintro e wZ ⟨rfl, sZ⟩
                    go_wp2_with fail
                    go_ret
                    exact ⟨rfl, HS16.out.trans sZ⟩
                  · go_simp
                    refine hK.out _ _ ?_ (fun hNew => ?_)
                    · exact hHeld.alloc _
                    clear hK K hHeld; have hHeld := hNew; clear hNew
                    try simp only [Act.put, List.setIfInBounds_toArray, List.set_cons_zero, List.set_cons_succ]
                    obtain ⟨wA, hwA⟩ : ∃ wA, wA = wY.alloc (.cells #[.int .i64 0, .int .u32 0, .int .u32 0, .int .u32 0, .int .u32 0, .int .u32 0, .int .u32 0, .int .u32 0, .int .u32 0, .slice none 0 0] 44) := ⟨_, rfl⟩
                    obtain ⟨gx, hgx⟩ : ∃ gx, gx = wY.heap.size := ⟨_, rfl⟩
                    have HBA := Lib.hid (show Blk wA gx 44 #[.int .i64 0, .int .u32 0, .int .u32 0, .int .u32 0, .int .u32 0, .int .u32 0, .int .u32 0, .int .u32 0, .int .u32 0, .slice none 0 0] by rw [hwA, hgx]; exact Blk.new _ _ _)
                    have HSA := Lib.hid (show Same wY wA by rw [hwA]; exact (Same.refl _).alloc _)
                    have HGX := Lib.hid (show wM.heap.size ≤ gx by rw [hgx]; exact HKP.out.size)
                    have HGB := Lib.hid (show wY.heap.size ≤ gx by rw [hgx]; exact Nat.le_refl _)
                    rw [← hwA, ← hgx]
                    clear hHeld
                    have hHeld : Same wM wA := HKP.out.trans HSA.out
                    clear hwA hgx HKP
                    have HOS := Lib.hid (HOS.out.same HSA.out)
                    have HMY := Lib.hid (HMY.out.same HSA.out)
                    have HYC := Lib.hid HSA.out.size
                    refine Ro.one_on (i := 11) rfl (by kernel_rfl) (by rfl) (fun K hK => ?_)
                    go_simp
                    go_at_call 25
                    refine (frun_any (startF m) ws 0 gm2 TS m m A m cA oa ol p HOS.out (by show (List.replicate m (0 : Int)).length = m; simp) (by omega) HP.out HTB.out (HSM.out.trans hHeld) HL.out (by omega) HMY.out (fun i h => ⟨Nat.le_trans HSM.out.size (Nat.le_trans HRW.out h.1), Nat.lt_of_lt_of_le h.2 HYC.out⟩) (wide_start m ws 0 HW.out.wb) (by omega) n0 (by omega)).mono ?_
                    rintro e wR ⟨TR, cR, rfl, hoR, hmR, hcR⟩
                    have HCR := Lib.hid hcR
                    clear hoR hmR hcR
                    refine hK.out _ _ ?_ (fun hNew => ?_)
                    · exact Same.more hHeld HCR.out (fun i h => Nat.le_trans HRW.out h.1)
                    clear hK K hHeld; have hHeld := hNew; clear hNew
                    try simp only [Act.put, List.setIfInBounds_toArray, List.set_cons_zero, List.set_cons_succ]
                    simp only [List.append_toArray, List.cons_append, List.nil_append]
                    have HBA := Lib.hid (HBA.out.chg HCR.out (fun h => by have h2 := h.2; have := HGB.out; omega))
                    refine Ro.take_on (i := 12) (v := ?_) rfl (by kernel_rfl) (by kernel_rfl) (by kernel_rfl) (fun _ _ _ h => h) (by rfl) (by assumption) ?_ ?_
                    rotate_left
                    · intro wS hSw; (try dsimp only at hSw); go_simp; try with_reducible rfl
                    try simp only [Act.put, List.setIfInBounds_toArray, List.set_cons_zero, List.set_cons_succ]
                    refine Ro.take_on (i := 13) (v := ?_) rfl (by kernel_rfl) (by kernel_rfl) (by kernel_rfl) (fun _ _ _ h => h) (by rfl) (by assumption) ?_ ?_
                    rotate_left
                    · intro wS hSw; (try dsimp only at hSw); go_simp; try with_reducible rfl
                    try simp only [Act.put, List.setIfInBounds_toArray, List.set_cons_zero, List.set_cons_succ]
                    refine Ro.take_on (i := 14) (v := ?_) rfl (by kernel_rfl) (by kernel_rfl) (by kernel_rfl) (fun _ _ _ h => h) (by rfl) (by assumption) ?_ ?_
                    rotate_left
                    · intro wS hSw; (try dsimp only at hSw); go_simp; try with_reducible rfl
                    try simp only [Act.put, List.setIfInBounds_toArray, List.set_cons_zero, List.set_cons_succ]
                    refine Ro.take_on (i := 15) (v := ?_) rfl (by kernel_rfl) (by kernel_rfl) (by kernel_rfl) (fun _ _ _ h => h) (by rfl) (by assumption) ?_ ?_
                    rotate_left
                    · intro wS hSw; (try dsimp only at hSw); go_simp; try with_reducible rfl
                    try simp only [Act.put, List.setIfInBounds_toArray, List.set_cons_zero, List.set_cons_succ]
                    have HIFR := Lib.hid frame_info
                    refine Ro.one_on (i := 17) rfl (by kernel_rfl) (by rfl) (fun K hK => ?_)
                    refine wp_store_row 44 (.tmp 10) (.tmp 116) rfl gx _ rfl rfl 44 #[.int .i64 0, .int .u32 0, .int .u32 0, .int .u32 0, .int .u32 0, .int .u32 0, .int .u32 0, .int .u32 0, .int .u32 0, .slice none 0 0] HBA.out HIFR.out rfl (by simp [Value.oneCell']) ?_
                    refine hK.out _ _ ?_ (fun hNew => ?_)
                    · exact chg_setRow hHeld (.inr HGX.out) _
                    clear hK K hHeld; have hHeld := hNew; clear hNew
                    try simp only [Act.put, List.setIfInBounds_toArray, List.set_cons_zero, List.set_cons_succ]
                    refine Ro.take_on (i := 18) (v := ?_) rfl (by kernel_rfl) (by kernel_rfl) (by kernel_rfl) (fun _ _ _ h => h) (by rfl) (by assumption) ?_ ?_
                    rotate_left
                    · intro wS hSw; (try dsimp only at hSw); go_simp; try with_reducible rfl
                    try simp only [Act.put, List.setIfInBounds_toArray, List.set_cons_zero, List.set_cons_succ]
                    refine Ro.take_on (i := 19) (v := ?_) rfl (by kernel_rfl) (by kernel_rfl) (by kernel_rfl) (fun _ _ _ h => h) (by rfl) (by assumption) ?_ ?_
                    rotate_left
                    · intro wS hSw; (try dsimp only at hSw); go_simp; try with_reducible rfl
                    try simp only [Act.put, List.setIfInBounds_toArray, List.set_cons_zero, List.set_cons_succ]
                    refine wpAnyH_done (by kernel_rfl) ?_ _
                    have HS16 := Lib.hid (HSM.out.trans hHeld)
                    have AWZ := Lib.hid (AWM.out _ hHeld)
                    clear hHeld
                    generalize (runR p oa ol ⟨startF m, ws, 0⟩ n0).2.1 = stn at *
                    go_wp2_with fail
                    refine AWZ.out.mono ?_
                    rintro e wZ ⟨rfl, sZ⟩
                    go_wp2_with fail
                    go_ret
                    exact ⟨rfl, HS16.out.trans sZ⟩
                · go_simp
                  refine hK.out _ _ ?_ (fun hNew => ?_)
                  · exact hHeld.alloc _
                  clear hK K hHeld; have hHeld := hNew; clear hNew
                  try simp only [Act.put, List.setIfInBounds_toArray, List.set_cons_zero, List.set_cons_succ]
                  obtain ⟨wA, hwA⟩ : ∃ wA, wA = wS.alloc (.cells #[.int .i64 0, .int .u32 0, .int .u32 0, .int .u32 0, .int .u32 0, .int .u32 0, .int .u32 0, .int .u32 0, .int .u32 0, .slice none 0 0] 44) := ⟨_, rfl⟩
                  obtain ⟨gx, hgx⟩ : ∃ gx, gx = wS.heap.size := ⟨_, rfl⟩
                  have HBA := Lib.hid (show Blk wA gx 44 #[.int .i64 0, .int .u32 0, .int .u32 0, .int .u32 0, .int .u32 0, .int .u32 0, .int .u32 0, .int .u32 0, .int .u32 0, .slice none 0 0] by rw [hwA, hgx]; exact Blk.new _ _ _)
                  have HSA := Lib.hid (show Same wS wA by rw [hwA]; exact (Same.refl _).alloc _)
                  have HGX := Lib.hid (show wM.heap.size ≤ gx by rw [hgx]; exact HKP.out.size)
                  rw [← hwA, ← hgx]
                  clear hHeld
                  have hHeld : Same wM wA := HKP.out.trans HSA.out
                  clear hwA hgx HKP
                  have HOS := Lib.hid (HOS.out.same HSA.out)
                  refine Ro.one_on (i := 7) rfl (by kernel_rfl) (by rfl) (fun K hK => ?_)
                  go_simp
                  go_at_call 19
                  refine (Mm.memory_any L nL cL (cst ws) _ (by rw [cst_len]; exact HWL.out) (by omega) (HLR.out.same (HSM.out.trans hHeld))).mono ?_
                  rintro e wY ⟨gm2, rfl, sY, hmY⟩
                  have HMY := Lib.hid hmY.within
                  have HSY := Lib.hid sY
                  have HRW := Lib.hid hHeld.size
                  have HYC := Lib.hid (Nat.le_refl wY.heap.size)
                  have HGA := Lib.hid HBA.out.lt
                  clear sY hmY
                  refine hK.out _ _ ?_ (fun hNew => ?_)
                  · exact hHeld.trans HSY.out
                  clear hK K hHeld; have hHeld := hNew; clear hNew
                  try simp only [Act.put, List.setIfInBounds_toArray, List.set_cons_zero, List.set_cons_succ]
                  have HOS := Lib.hid (HOS.out.same HSY.out)
                  have HBA := Lib.hid (HBA.out.same HSY.out)
                  refine Ro.one_on (i := 11) rfl (by kernel_rfl) (by rfl) (fun K hK => ?_)
                  go_simp
                  go_at_call 25
                  refine (frun_any (startF m) ws 0 gm2 TS m m A m cA oa ol p HOS.out (by show (List.replicate m (0 : Int)).length = m; simp) (by omega) HP.out HTB.out (HSM.out.trans hHeld) HL.out (by omega) HMY.out (fun i h => ⟨Nat.le_trans HSM.out.size (Nat.le_trans HRW.out h.1), Nat.lt_of_lt_of_le h.2 HYC.out⟩) (wide_start m ws 0 HW.out.wb) (by omega) n0 (by omega)).mono ?_
                  rintro e wR ⟨TR, cR, rfl, hoR, hmR, hcR⟩
                  have HCR := Lib.hid hcR
                  clear hoR hmR hcR
                  refine hK.out _ _ ?_ (fun hNew => ?_)
                  · exact Same.more hHeld HCR.out (fun i h => Nat.le_trans HRW.out h.1)
                  clear hK K hHeld; have hHeld := hNew; clear hNew
                  try simp only [Act.put, List.setIfInBounds_toArray, List.set_cons_zero, List.set_cons_succ]
                  simp only [List.append_toArray, List.cons_append, List.nil_append]
                  have HBA := Lib.hid (HBA.out.chg HCR.out (fun h => by have h1 := h.1; have := HGA.out; omega))
                  refine Ro.take_on (i := 12) (v := ?_) rfl (by kernel_rfl) (by kernel_rfl) (by kernel_rfl) (fun _ _ _ h => h) (by rfl) (by assumption) ?_ ?_
                  rotate_left
                  · intro wS hSw; (try dsimp only at hSw); go_simp; try with_reducible rfl
                  try simp only [Act.put, List.setIfInBounds_toArray, List.set_cons_zero, List.set_cons_succ]
                  refine Ro.take_on (i := 13) (v := ?_) rfl (by kernel_rfl) (by kernel_rfl) (by kernel_rfl) (fun _ _ _ h => h) (by rfl) (by assumption) ?_ ?_
                  rotate_left
                  · intro wS hSw; (try dsimp only at hSw); go_simp; try with_reducible rfl
                  try simp only [Act.put, List.setIfInBounds_toArray, List.set_cons_zero, List.set_cons_succ]
                  refine Ro.take_on (i := 14) (v := ?_) rfl (by kernel_rfl) (by kernel_rfl) (by kernel_rfl) (fun _ _ _ h => h) (by rfl) (by assumption) ?_ ?_
                  rotate_left
                  · intro wS hSw; (try dsimp only at hSw); go_simp; try with_reducible rfl
                  try simp only [Act.put, List.setIfInBounds_toArray, List.set_cons_zero, List.set_cons_succ]
                  refine Ro.take_on (i := 15) (v := ?_) rfl (by kernel_rfl) (by kernel_rfl) (by kernel_rfl) (fun _ _ _ h => h) (by rfl) (by assumption) ?_ ?_
                  rotate_left
                  · intro wS hSw; (try dsimp only at hSw); go_simp; try with_reducible rfl
                  try simp only [Act.put, List.setIfInBounds_toArray, List.set_cons_zero, List.set_cons_succ]
                  have HIFR := Lib.hid frame_info
                  refine Ro.one_on (i := 17) rfl (by kernel_rfl) (by rfl) (fun K hK => ?_)
                  refine wp_store_row 44 (.tmp 10) (.tmp 116) rfl gx _ rfl rfl 44 #[.int .i64 0, .int .u32 0, .int .u32 0, .int .u32 0, .int .u32 0, .int .u32 0, .int .u32 0, .int .u32 0, .int .u32 0, .slice none 0 0] HBA.out HIFR.out rfl (by simp [Value.oneCell']) ?_
                  refine hK.out _ _ ?_ (fun hNew => ?_)
                  · exact chg_setRow hHeld (.inr HGX.out) _
                  clear hK K hHeld; have hHeld := hNew; clear hNew
                  try simp only [Act.put, List.setIfInBounds_toArray, List.set_cons_zero, List.set_cons_succ]
                  refine Ro.take_on (i := 18) (v := ?_) rfl (by kernel_rfl) (by kernel_rfl) (by kernel_rfl) (fun _ _ _ h => h) (by rfl) (by assumption) ?_ ?_
                  rotate_left
                  · intro wS hSw; (try dsimp only at hSw); go_simp; try with_reducible rfl
                  try simp only [Act.put, List.setIfInBounds_toArray, List.set_cons_zero, List.set_cons_succ]
                  refine Ro.take_on (i := 19) (v := ?_) rfl (by kernel_rfl) (by kernel_rfl) (by kernel_rfl) (fun _ _ _ h => h) (by rfl) (by assumption) ?_ ?_
                  rotate_left
                  · intro wS hSw; (try dsimp only at hSw); go_simp; try with_reducible rfl
                  try simp only [Act.put, List.setIfInBounds_toArray, List.set_cons_zero, List.set_cons_succ]
                  refine wpAnyH_done (by kernel_rfl) ?_ _
                  have HS16 := Lib.hid (HSM.out.trans hHeld)
                  have AWZ := Lib.hid (AWM.out _ hHeld)
                  clear hHeld
                  generalize (runR p oa ol ⟨startF m, ws, 0⟩ n0).2.1 = stn at *
                  go_wp2_with fail
                  refine AWZ.out.mono ?_
                  rintro e wZ ⟨rfl, sZ⟩
                  go_wp2_with fail
                  go_ret
                  exact ⟨rfl, HS16.out.trans sZ⟩
              · go_simp
                refine hK.out _ _ ?_ (fun hNew => ?_)
                · exact hHeld.alloc _
                clear hK K hHeld; have hHeld := hNew; clear hNew
                try simp only [Act.put, List.setIfInBounds_toArray, List.set_cons_zero, List.set_cons_succ]
                obtain ⟨wA, hwA⟩ : ∃ wA, wA = (wM.alloc (.cells #[.int .i64 0, .int .u32 0, .int .u32 0, .int .u32 0, .int .u32 0, .int .u32 0, .int .u32 0, .int .u32 0, .int .u32 0, .slice none 0 0] 44)).drew := ⟨_, rfl⟩
                obtain ⟨gx, hgx⟩ : ∃ gx, gx = wM.heap.size := ⟨_, rfl⟩
                have HBA := Lib.hid (show Blk wA gx 44 #[.int .i64 0, .int .u32 0, .int .u32 0, .int .u32 0, .int .u32 0, .int .u32 0, .int .u32 0, .int .u32 0, .int .u32 0, .slice none 0 0] by rw [hwA, hgx]; exact (Blk.new wM _ _).same ((Same.refl _).drew))
                have HSA := Lib.hid (show Same wM wA by rw [hwA]; exact ((Same.refl wM).alloc _).drew)
                have HGX := Lib.hid (show wM.heap.size ≤ gx by rw [hgx]; exact Nat.le_refl _)
                rw [← hwA, ← hgx]
                clear hHeld
                have hHeld : Same wM wA := HSA.out
                clear hwA hgx HKP
                refine Ro.one_on (i := 2) rfl (by kernel_rfl) (by rfl) (fun K hK => ?_)
                go_simp
                go_at_call 26
                refine (fstart_any A m cA _ (by omega)).mono ?_
                rintro e wS ⟨TS, rfl, hoS, sS⟩
                have HOS := Lib.hid hoS.row
                have HSS := Lib.hid sS
                clear hoS sS
                refine hK.out _ _ ?_ (fun hNew => ?_)
                · exact hHeld.trans HSS.out
                clear hK K hHeld; have hHeld := hNew; clear hNew
                try simp only [Act.put, List.setIfInBounds_toArray, List.set_cons_zero, List.set_cons_succ]
                have HBA := Lib.hid (HBA.out.same HSS.out)
                refine Ro.one_on (i := 7) rfl (by kernel_rfl) (by rfl) (fun K hK => ?_)
                go_simp
                go_at_call 19
                refine (Mm.memory_any L nL cL (cst ws) _ (by rw [cst_len]; exact HWL.out) (by omega) (HLR.out.same (HSM.out.trans hHeld))).mono ?_
                rintro e wY ⟨gm2, rfl, sY, hmY⟩
                have HMY := Lib.hid hmY.within
                have HSY := Lib.hid sY
                have HRW := Lib.hid hHeld.size
                have HYC := Lib.hid (Nat.le_refl wY.heap.size)
                have HGA := Lib.hid HBA.out.lt
                clear sY hmY
                refine hK.out _ _ ?_ (fun hNew => ?_)
                · exact hHeld.trans HSY.out
                clear hK K hHeld; have hHeld := hNew; clear hNew
                try simp only [Act.put, List.setIfInBounds_toArray, List.set_cons_zero, List.set_cons_succ]
                have HOS := Lib.hid (HOS.out.same HSY.out)
                have HBA := Lib.hid (HBA.out.same HSY.out)
                refine Ro.one_on (i := 11) rfl (by kernel_rfl) (by rfl) (fun K hK => ?_)
                go_simp
                go_at_call 25
                refine (frun_any (startF m) ws 0 gm2 TS m m A m cA oa ol p HOS.out (by show (List.replicate m (0 : Int)).length = m; simp) (by omega) HP.out HTB.out (HSM.out.trans hHeld) HL.out (by omega) HMY.out (fun i h => ⟨Nat.le_trans HSM.out.size (Nat.le_trans HRW.out h.1), Nat.lt_of_lt_of_le h.2 HYC.out⟩) (wide_start m ws 0 HW.out.wb) (by omega) n0 (by omega)).mono ?_
                rintro e wR ⟨TR, cR, rfl, hoR, hmR, hcR⟩
                have HCR := Lib.hid hcR
                clear hoR hmR hcR
                refine hK.out _ _ ?_ (fun hNew => ?_)
                · exact Same.more hHeld HCR.out (fun i h => Nat.le_trans HRW.out h.1)
                clear hK K hHeld; have hHeld := hNew; clear hNew
                try simp only [Act.put, List.setIfInBounds_toArray, List.set_cons_zero, List.set_cons_succ]
                simp only [List.append_toArray, List.cons_append, List.nil_append]
                have HBA := Lib.hid (HBA.out.chg HCR.out (fun h => by have h1 := h.1; have := HGA.out; omega))
                refine Ro.take_on (i := 12) (v := ?_) rfl (by kernel_rfl) (by kernel_rfl) (by kernel_rfl) (fun _ _ _ h => h) (by rfl) (by assumption) ?_ ?_
                rotate_left
                · intro wS hSw; (try dsimp only at hSw); go_simp; try with_reducible rfl
                try simp only [Act.put, List.setIfInBounds_toArray, List.set_cons_zero, List.set_cons_succ]
                refine Ro.take_on (i := 13) (v := ?_) rfl (by kernel_rfl) (by kernel_rfl) (by kernel_rfl) (fun _ _ _ h => h) (by rfl) (by assumption) ?_ ?_
                rotate_left
                · intro wS hSw; (try dsimp only at hSw); go_simp; try with_reducible rfl
                try simp only [Act.put, List.setIfInBounds_toArray, List.set_cons_zero, List.set_cons_succ]
                refine Ro.take_on (i := 14) (v := ?_) rfl (by kernel_rfl) (by kernel_rfl) (by kernel_rfl) (fun _ _ _ h => h) (by rfl) (by assumption) ?_ ?_
                rotate_left
                · intro wS hSw; (try dsimp only at hSw); go_simp; try with_reducible rfl
                try simp only [Act.put, List.setIfInBounds_toArray, List.set_cons_zero, List.set_cons_succ]
                refine Ro.take_on (i := 15) (v := ?_) rfl (by kernel_rfl) (by kernel_rfl) (by kernel_rfl) (fun _ _ _ h => h) (by rfl) (by assumption) ?_ ?_
                rotate_left
                · intro wS hSw; (try dsimp only at hSw); go_simp; try with_reducible rfl
                try simp only [Act.put, List.setIfInBounds_toArray, List.set_cons_zero, List.set_cons_succ]
                have HIFR := Lib.hid frame_info
                refine Ro.one_on (i := 17) rfl (by kernel_rfl) (by rfl) (fun K hK => ?_)
                refine wp_store_row 44 (.tmp 10) (.tmp 116) rfl gx _ rfl rfl 44 #[.int .i64 0, .int .u32 0, .int .u32 0, .int .u32 0, .int .u32 0, .int .u32 0, .int .u32 0, .int .u32 0, .int .u32 0, .slice none 0 0] HBA.out HIFR.out rfl (by simp [Value.oneCell']) ?_
                refine hK.out _ _ ?_ (fun hNew => ?_)
                · exact chg_setRow hHeld (.inr HGX.out) _
                clear hK K hHeld; have hHeld := hNew; clear hNew
                try simp only [Act.put, List.setIfInBounds_toArray, List.set_cons_zero, List.set_cons_succ]
                refine Ro.take_on (i := 18) (v := ?_) rfl (by kernel_rfl) (by kernel_rfl) (by kernel_rfl) (fun _ _ _ h => h) (by rfl) (by assumption) ?_ ?_
                rotate_left
                · intro wS hSw; (try dsimp only at hSw); go_simp; try with_reducible rfl
                try simp only [Act.put, List.setIfInBounds_toArray, List.set_cons_zero, List.set_cons_succ]
                refine Ro.take_on (i := 19) (v := ?_) rfl (by kernel_rfl) (by kernel_rfl) (by kernel_rfl) (fun _ _ _ h => h) (by rfl) (by assumption) ?_ ?_
                rotate_left
                · intro wS hSw; (try dsimp only at hSw); go_simp; try with_reducible rfl
                try simp only [Act.put, List.setIfInBounds_toArray, List.set_cons_zero, List.set_cons_succ]
                refine wpAnyH_done (by kernel_rfl) ?_ _
                have HS16 := Lib.hid (HSM.out.trans hHeld)
                have AWZ := Lib.hid (AWM.out _ hHeld)
                clear hHeld
                generalize (runR p oa ol ⟨startF m, ws, 0⟩ n0).2.1 = stn at *
                go_wp2_with fail
                refine AWZ.out.mono ?_
                rintro e wZ ⟨rfl, sZ⟩
                go_wp2_with fail
                go_ret
                exact ⟨rfl, HS16.out.trans sZ⟩
          · have eer : (er != 0) = true := by simpa using her
            clear her HFR
            go_wp2_with fail
            all_goals
              refine (AWM.out _ (Same.refl _)).mono ?_
              rintro e wZ ⟨rfl, sZ⟩
              go_wp2_with fail
              go_ret
              exact ⟨rfl, HSM.out.trans sZ⟩
    · have ek : (kx == 0) = false := by simpa using hk0
      have HS89 := Lib.hid (Same.refl w8)
      clear hk0 FR
      clear z0 z1 z2 z3 z4 z5 z6 z7 z8 z9 z10 z11 z12 z13 y0 y1 y2 y3 y4 y5 y6 y7 y8 y9
      go_wp2_with fail
      refine (WD.out _ HS89.out).mono ?_
      rintro e w10 ⟨gq, cq, rfl, s10, hoq⟩
      have HQW := Lib.hid hoq.row
      have HS8A := Lib.hid (HS89.out.trans s10)
      clear s10 hoq WD HS89
      go_wp2_with fail
      go_loopg [56] nL (fun gk iv wx => ∃ k : Nat, k + gk = nL ∧ iv = .int .i64 k ∧ Same w10 wx)
      case atStart => exact ⟨0, by omega, rfl, Same.refl _⟩
      case round =>
        obtain ⟨k, hk, rfl, sx⟩ := hrel
        have HSX := Lib.hid sx
        have HSR := Lib.hid (HS8.out.trans (HS8A.out.trans sx))
        have HBR := Lib.hid (HB8.out.same (HS8A.out.trans sx))
        clear sx
        obtain ⟨z0, z1, z2, z3, z4, z5, z6, z7, z8, z9, z10, z11, z12, z13⟩ := (⟨HBR.out.cell 0, HBR.out.cell 1, HBR.out.cell 2, HBR.out.cell 3, HBR.out.cell 4, HBR.out.cell 5, HBR.out.cell 6, HBR.out.cell 7, HBR.out.cell 8, HBR.out.cell 9, HBR.out.cell 10, HBR.out.cell 11, HBR.out.cell 12, HBR.out.cell 13⟩ : _ ∧ _ ∧ _ ∧ _ ∧ _ ∧ _ ∧ _ ∧ _ ∧ _ ∧ _ ∧ _ ∧ _ ∧ _ ∧ _)
        simp only [List.getElem?_toArray, List.getElem?_cons_zero, List.getElem?_cons_succ] at z0 z1 z2 z3 z4 z5 z6 z7 z8 z9 z10 z11 z12 z13
        cases gk with
        | succ GK =>
          have hlt : (k : Int) < (cst s'.ws).length := by have := HWN.out; omega
          have hlt2 : (k : Int) < nL := by omega
          have hk0 : (0 : Int) ≤ k := by omega
          have HKN := Lib.hid (show k + (GK + 1) = nL from hk)
          obtain ⟨bq, oq, hAq, cq0⟩ := (HQW.out.same HSX.out) k (.int .u32 ((s'.ws.getD k 0 : Nat) : Int)) (by
            unfold cst
            rw [List.getElem?_map, List.getElem?_map, List.getD_eq_getElem?_getD, List.getElem?_eq_getElem (by have := HSW.out; omega)]
            rfl)
          obtain ⟨rfl, rfl⟩ : gq = bq ∧ 0 = oq := by
            have h1 := Option.some.inj hAq
            injection h1 with h1 h2
            exact ⟨h1, h2⟩
          rw [Nat.zero_add] at cq0
          obtain ⟨bL, oL, rfl, cL0⟩ := (HLR.out.same HSR.out) k (.int .u32 ((ws.getD k 0 : Nat) : Int)) (by
            unfold cst
            rw [List.getElem?_map, List.getElem?_map, List.getD_eq_getElem?_getD, List.getElem?_eq_getElem (by have := HWL.out; omega)]
            rfl)
          have HDF := Lib.hid (HSF.out.2 k)
          clear hAq hk
          by_cases hxy : s'.ws.getD k 0 = ws.getD k 0
          · rw [hxy] at cq0
            generalize ws.getD k 0 = y at *
            have exy : ((y : Int) != (y : Int)) = false := by simp
            clear hxy HDF
            go_wp2_with fail
            go_roundg GK
            case rel => exact ⟨k + 1, by have := HKN.out; omega, by go_num, HSX.out⟩
            case measure => omega
          · obtain ⟨ho0, ho1, ho2⟩ := HDF.out hxy
            generalize s'.ws.getD k 0 = x at *
            generalize ws.getD k 0 = y at *
            have exy : ((x : Int) != (y : Int)) = true := by simp; omega
            have hn1 : ¬ (k : Int) < oa := by omega
            have hn2 : ¬ (k : Int) - oa ≥ ol := by omega
            clear hxy HDF
            go_wp2_with fail
            go_roundg GK
            case rel => exact ⟨k + 1, by have := HKN.out; omega, by go_num, HSX.out⟩
            case measure => omega
        | zero =>
          have hge : ¬ (k : Int) < (cst s'.ws).length := by have := HWN.out; omega
          clear hk
          have HSR0 := HSR.out
          clear HQW HSX HS8A HSF z0 z1 z2 z3 z4 z5 z6 z7 z8 z9 z10 z11 z12 z13
          go_wp2_with fail
          generalize hwv : wr = wv at *
          clear hwv
          refine wp_region_held_drew (S := fun w' => Same wv w') (by kernel_rfl) ?_ (fun hHeld => ?_)
          · exact (Same.refl wv).drew
          refine Ro.take_on (i := 0) (v := ?_) rfl (by kernel_rfl) (by kernel_rfl) (by kernel_rfl) (fun _ _ _ h => h) (by rfl) (by assumption) ?_ ?_
          rotate_left
          · intro wS hSw; (try dsimp only at hSw); go_simp; try with_reducible rfl
          try simp only [Act.put, List.setIfInBounds_toArray, List.set_cons_zero, List.set_cons_succ]
          refine Ro.take_on (i := 1) (v := ?_) rfl (by kernel_rfl) (by kernel_rfl) (by kernel_rfl) (fun _ _ _ h => h) (by rfl) (by assumption) ?_ ?_
          rotate_left
          · intro wS hSw; (try dsimp only at hSw); obtain ⟨v0, v1, v2, v3, v4, v5, v6, v7, v8, v9, v10, v11, v12, v13⟩ := (⟨(HBR.out.same hSw).cell 0, (HBR.out.same hSw).cell 1, (HBR.out.same hSw).cell 2, (HBR.out.same hSw).cell 3, (HBR.out.same hSw).cell 4, (HBR.out.same hSw).cell 5, (HBR.out.same hSw).cell 6, (HBR.out.same hSw).cell 7, (HBR.out.same hSw).cell 8, (HBR.out.same hSw).cell 9, (HBR.out.same hSw).cell 10, (HBR.out.same hSw).cell 11, (HBR.out.same hSw).cell 12, (HBR.out.same hSw).cell 13⟩ : _ ∧ _ ∧ _ ∧ _ ∧ _ ∧ _ ∧ _ ∧ _ ∧ _ ∧ _ ∧ _ ∧ _ ∧ _ ∧ _); simp only [List.getElem?_toArray, List.getElem?_cons_zero, List.getElem?_cons_succ] at v0 v1 v2 v3 v4 v5 v6 v7 v8 v9 v10 v11 v12 v13; go_simp; try with_reducible rfl
          try simp only [Act.put, List.setIfInBounds_toArray, List.set_cons_zero, List.set_cons_succ]
          refine Ro.take_on (i := 2) (v := ?_) rfl (by kernel_rfl) (by kernel_rfl) (by kernel_rfl) (fun _ _ _ h => h) (by rfl) (by assumption) ?_ ?_
          rotate_left
          · intro wS hSw; (try dsimp only at hSw); go_simp; try with_reducible rfl
          try simp only [Act.put, List.setIfInBounds_toArray, List.set_cons_zero, List.set_cons_succ]
          refine Ro.take_on (i := 3) (v := ?_) rfl (by kernel_rfl) (by kernel_rfl) (by kernel_rfl) (fun _ _ _ h => h) (by rfl) (by assumption) ?_ ?_
          rotate_left
          · intro wS hSw; (try dsimp only at hSw); obtain ⟨v0, v1, v2, v3, v4, v5, v6, v7, v8, v9, v10, v11, v12, v13⟩ := (⟨(HBR.out.same hSw).cell 0, (HBR.out.same hSw).cell 1, (HBR.out.same hSw).cell 2, (HBR.out.same hSw).cell 3, (HBR.out.same hSw).cell 4, (HBR.out.same hSw).cell 5, (HBR.out.same hSw).cell 6, (HBR.out.same hSw).cell 7, (HBR.out.same hSw).cell 8, (HBR.out.same hSw).cell 9, (HBR.out.same hSw).cell 10, (HBR.out.same hSw).cell 11, (HBR.out.same hSw).cell 12, (HBR.out.same hSw).cell 13⟩ : _ ∧ _ ∧ _ ∧ _ ∧ _ ∧ _ ∧ _ ∧ _ ∧ _ ∧ _ ∧ _ ∧ _ ∧ _ ∧ _); simp only [List.getElem?_toArray, List.getElem?_cons_zero, List.getElem?_cons_succ] at v0 v1 v2 v3 v4 v5 v6 v7 v8 v9 v10 v11 v12 v13; go_simp; try with_reducible rfl
          try simp only [Act.put, List.setIfInBounds_toArray, List.set_cons_zero, List.set_cons_succ]
          refine Ro.one_on (i := 4) rfl (by kernel_rfl) (by rfl) (fun K hK => ?_)
          go_simp
          go_at_call 24
          refine (Cs.ones_any A m cA _ (by omega)).mono ?_
          rintro e wO ⟨OB, oc, rfl, hro, sO⟩
          have HRO := Lib.hid hro
          clear hro
          refine hK.out _ _ ?_ (fun hNew => ?_)
          · exact hHeld.trans sO
          clear hK K hHeld; have hHeld := hNew; clear hNew
          try simp only [Act.put, List.setIfInBounds_toArray, List.set_cons_zero, List.set_cons_succ]
          refine Ro.one_on (i := 5) rfl (by kernel_rfl) (by rfl) (fun K hK => ?_)
          go_simp
          go_at_call 8
          refine (Cs.most_any A m cA p OB m oc (List.replicate m 1) wO HL.out (by omega) (HP.out.same (HSR0.trans hHeld)) HRO.out (by simp) (HTB.out.same (HSR0.trans hHeld))).mono ?_
          rintro e wM ⟨rfl, sM⟩
          refine hK.out _ _ ?_ (fun hNew => ?_)
          · exact hHeld.trans sM
          clear hK K hHeld; have hHeld := hNew; clear hNew
          try simp only [Act.put, List.setIfInBounds_toArray, List.set_cons_zero, List.set_cons_succ]
          refine Ro.take_on (i := 6) (v := ?_) rfl (by kernel_rfl) (by kernel_rfl) (by kernel_rfl) (fun _ _ _ h => h) (by rfl) (by assumption) ?_ ?_
          rotate_left
          · intro wS hSw; (try dsimp only at hSw); go_simp; try with_reducible rfl
          try simp only [Act.put, List.setIfInBounds_toArray, List.set_cons_zero, List.set_cons_succ]
          refine Ro.take_on (i := 7) (v := ?_) rfl (by kernel_rfl) (by kernel_rfl) (by kernel_rfl) (fun _ _ _ h => h) (by rfl) (by assumption) ?_ ?_
          rotate_left
          · intro wS hSw; (try dsimp only at hSw); go_simp; try with_reducible rfl
          try simp only [Act.put, List.setIfInBounds_toArray, List.set_cons_zero, List.set_cons_succ]
          refine Ro.take_on (i := 9) (v := ?_) rfl (by kernel_rfl) (by kernel_rfl) (by kernel_rfl) (fun _ _ _ h => h) (by rfl) (by assumption) ?_ ?_
          rotate_left
          · intro wS hSw; (try dsimp only at hSw); go_simp; try with_reducible rfl
          try simp only [Act.put, List.setIfInBounds_toArray, List.set_cons_zero, List.set_cons_succ]
          refine Ro.take_on (i := 8) (v := ?_) rfl (by kernel_rfl) (by kernel_rfl) (by kernel_rfl) (fun _ _ _ h => h) (by rfl) (by assumption) ?_ ?_
          rotate_left
          · intro wS hSw; (try dsimp only at hSw); go_simp; try with_reducible rfl
          try simp only [Act.put, List.setIfInBounds_toArray, List.set_cons_zero, List.set_cons_succ]
          refine Ro.take_on (i := 10) (v := ?_) rfl (by kernel_rfl) (by kernel_rfl) (by kernel_rfl) (fun _ _ _ h => h) (by rfl) (by assumption) ?_ ?_
          rotate_left
          · intro wS hSw; (try dsimp only at hSw); go_simp; try with_reducible rfl
          try simp only [Act.put, List.setIfInBounds_toArray, List.set_cons_zero, List.set_cons_succ]
          refine wpAnyH_done (by kernel_rfl) ?_ _
          have HSM := Lib.hid (HSR0.trans hHeld)
          have HBM := Lib.hid (HBR.out.same hHeld)
          clear hHeld HRO HBR
          try simp only [List.length_replicate]
          have HFR := Lib.hid (fun (he : Cs.weE p m = 0) (hn : Cs.weI true p (List.replicate m 1) ≤ 20000) => (show (runR p oa ol ⟨startF m, ws, 0⟩ (Cs.weI true p (List.replicate m 1))).2.1 < Cs.weI true p (List.replicate m 1) by
            have hok : okB p = true := by
              unfold okB
              rw [decide_eq_true_eq]
              unfold Cs.weE at he
              split at he
              · assumption
              · exact he
            have hl : p.length = m := HL.out
            rw [← hl] at he hn ⊢
            refine run_far hok HP.out.nn oa ol ws ?_ hn
            unfold Cs.weI
            rw [if_pos (by rw [List.length_replicate]; exact he)]
            rfl))
          have AWM := Lib.hid (fun (w' : World) (hs : Same wM w') => awake13 w' (HTB.out.same (HSM.out.trans hs)))
          generalize Cs.weE p m = er at *
          generalize Cs.weI true p (List.replicate m 1) = n0 at *
          by_cases her : er = 0
          · have eer : (er != 0) = false := by simpa using her
            by_cases hbig : (20000 : Int) < n0
            · clear her
              go_wp2_with fail
              all_goals
                refine (AWM.out _ (Same.refl _)).mono ?_
                rintro e wZ ⟨rfl, sZ⟩
                go_wp2_with fail
                go_ret
                exact ⟨rfl, HSM.out.trans sZ⟩
            · have hst0 := HFR.out her (by omega)
              clear her HFR
              go_wp2_with fail
              refine wp_region_held_drew (S := fun w' => Same wM w') (by kernel_rfl) ?_ (fun hHeld => ?_)
              · exact (Same.refl wM).drew
              refine Ro.take_on (i := 0) (v := ?_) rfl (by kernel_rfl) (by kernel_rfl) (by kernel_rfl) (fun _ _ _ h => h) (by rfl) (by assumption) ?_ ?_
              rotate_left
              · intro wS hSw; (try dsimp only at hSw); go_simp; try with_reducible rfl
              try simp only [Act.put, List.setIfInBounds_toArray, List.set_cons_zero, List.set_cons_succ]
              refine Ro.take_on (i := 1) (v := ?_) rfl (by kernel_rfl) (by kernel_rfl) (by kernel_rfl) (fun _ _ _ h => h) (by rfl) (by assumption) ?_ ?_
              rotate_left
              · intro wS hSw; (try dsimp only at hSw); obtain ⟨v0, v1, v2, v3, v4, v5, v6, v7, v8, v9, v10, v11, v12, v13⟩ := (⟨(HBM.out.same hSw).cell 0, (HBM.out.same hSw).cell 1, (HBM.out.same hSw).cell 2, (HBM.out.same hSw).cell 3, (HBM.out.same hSw).cell 4, (HBM.out.same hSw).cell 5, (HBM.out.same hSw).cell 6, (HBM.out.same hSw).cell 7, (HBM.out.same hSw).cell 8, (HBM.out.same hSw).cell 9, (HBM.out.same hSw).cell 10, (HBM.out.same hSw).cell 11, (HBM.out.same hSw).cell 12, (HBM.out.same hSw).cell 13⟩ : _ ∧ _ ∧ _ ∧ _ ∧ _ ∧ _ ∧ _ ∧ _ ∧ _ ∧ _ ∧ _ ∧ _ ∧ _ ∧ _); simp only [List.getElem?_toArray, List.getElem?_cons_zero, List.getElem?_cons_succ] at v0 v1 v2 v3 v4 v5 v6 v7 v8 v9 v10 v11 v12 v13; go_simp; try with_reducible rfl
              try simp only [Act.put, List.setIfInBounds_toArray, List.set_cons_zero, List.set_cons_succ]
              refine Ro.take_on (i := 3) (v := ?_) rfl (by kernel_rfl) (by kernel_rfl) (by kernel_rfl) (fun _ _ _ h => h) (by rfl) (by assumption) ?_ ?_
              rotate_left
              · intro wS hSw; (try dsimp only at hSw); go_simp; try with_reducible rfl
              try simp only [Act.put, List.setIfInBounds_toArray, List.set_cons_zero, List.set_cons_succ]
              refine Ro.take_on (i := 4) (v := ?_) rfl (by kernel_rfl) (by kernel_rfl) (by kernel_rfl) (fun _ _ _ h => h) (by rfl) (by assumption) ?_ ?_
              rotate_left
              · intro wS hSw; (try dsimp only at hSw); obtain ⟨v0, v1, v2, v3, v4, v5, v6, v7, v8, v9, v10, v11, v12, v13⟩ := (⟨(HBM.out.same hSw).cell 0, (HBM.out.same hSw).cell 1, (HBM.out.same hSw).cell 2, (HBM.out.same hSw).cell 3, (HBM.out.same hSw).cell 4, (HBM.out.same hSw).cell 5, (HBM.out.same hSw).cell 6, (HBM.out.same hSw).cell 7, (HBM.out.same hSw).cell 8, (HBM.out.same hSw).cell 9, (HBM.out.same hSw).cell 10, (HBM.out.same hSw).cell 11, (HBM.out.same hSw).cell 12, (HBM.out.same hSw).cell 13⟩ : _ ∧ _ ∧ _ ∧ _ ∧ _ ∧ _ ∧ _ ∧ _ ∧ _ ∧ _ ∧ _ ∧ _ ∧ _ ∧ _); simp only [List.getElem?_toArray, List.getElem?_cons_zero, List.getElem?_cons_succ] at v0 v1 v2 v3 v4 v5 v6 v7 v8 v9 v10 v11 v12 v13; go_simp; try with_reducible rfl
              try simp only [Act.put, List.setIfInBounds_toArray, List.set_cons_zero, List.set_cons_succ]
              refine Ro.take_on (i := 5) (v := ?_) rfl (by kernel_rfl) (by kernel_rfl) (by kernel_rfl) (fun _ _ _ h => h) (by rfl) (by assumption) ?_ ?_
              rotate_left
              · intro wS hSw; (try dsimp only at hSw); go_simp; try with_reducible rfl
              try simp only [Act.put, List.setIfInBounds_toArray, List.set_cons_zero, List.set_cons_succ]
              refine Ro.take_on (i := 6) (v := ?_) rfl (by kernel_rfl) (by kernel_rfl) (by kernel_rfl) (fun _ _ _ h => h) (by rfl) (by assumption) ?_ ?_
              rotate_left
              · intro wS hSw; (try dsimp only at hSw); obtain ⟨v0, v1, v2, v3, v4, v5, v6, v7, v8, v9, v10, v11, v12, v13⟩ := (⟨(HBM.out.same hSw).cell 0, (HBM.out.same hSw).cell 1, (HBM.out.same hSw).cell 2, (HBM.out.same hSw).cell 3, (HBM.out.same hSw).cell 4, (HBM.out.same hSw).cell 5, (HBM.out.same hSw).cell 6, (HBM.out.same hSw).cell 7, (HBM.out.same hSw).cell 8, (HBM.out.same hSw).cell 9, (HBM.out.same hSw).cell 10, (HBM.out.same hSw).cell 11, (HBM.out.same hSw).cell 12, (HBM.out.same hSw).cell 13⟩ : _ ∧ _ ∧ _ ∧ _ ∧ _ ∧ _ ∧ _ ∧ _ ∧ _ ∧ _ ∧ _ ∧ _ ∧ _ ∧ _); simp only [List.getElem?_toArray, List.getElem?_cons_zero, List.getElem?_cons_succ] at v0 v1 v2 v3 v4 v5 v6 v7 v8 v9 v10 v11 v12 v13; go_simp; try with_reducible rfl
              try simp only [Act.put, List.setIfInBounds_toArray, List.set_cons_zero, List.set_cons_succ]
              refine Ro.take_on (i := 8) (v := ?_) rfl (by kernel_rfl) (by kernel_rfl) (by kernel_rfl) (fun _ _ _ h => h) (by rfl) (by assumption) ?_ ?_
              rotate_left
              · intro wS hSw; (try dsimp only at hSw); go_simp; try with_reducible rfl
              try simp only [Act.put, List.setIfInBounds_toArray, List.set_cons_zero, List.set_cons_succ]
              refine Ro.take_on (i := 9) (v := ?_) rfl (by kernel_rfl) (by kernel_rfl) (by kernel_rfl) (fun _ _ _ h => h) (by rfl) (by assumption) ?_ ?_
              rotate_left
              · intro wS hSw; (try dsimp only at hSw); obtain ⟨v0, v1, v2, v3, v4, v5, v6, v7, v8, v9, v10, v11, v12, v13⟩ := (⟨(HBM.out.same hSw).cell 0, (HBM.out.same hSw).cell 1, (HBM.out.same hSw).cell 2, (HBM.out.same hSw).cell 3, (HBM.out.same hSw).cell 4, (HBM.out.same hSw).cell 5, (HBM.out.same hSw).cell 6, (HBM.out.same hSw).cell 7, (HBM.out.same hSw).cell 8, (HBM.out.same hSw).cell 9, (HBM.out.same hSw).cell 10, (HBM.out.same hSw).cell 11, (HBM.out.same hSw).cell 12, (HBM.out.same hSw).cell 13⟩ : _ ∧ _ ∧ _ ∧ _ ∧ _ ∧ _ ∧ _ ∧ _ ∧ _ ∧ _ ∧ _ ∧ _ ∧ _ ∧ _); simp only [List.getElem?_toArray, List.getElem?_cons_zero, List.getElem?_cons_succ] at v0 v1 v2 v3 v4 v5 v6 v7 v8 v9 v10 v11 v12 v13; go_simp; try with_reducible rfl
              try simp only [Act.put, List.setIfInBounds_toArray, List.set_cons_zero, List.set_cons_succ]
              refine Ro.take_on (i := 10) (v := ?_) rfl (by kernel_rfl) (by kernel_rfl) (by kernel_rfl) (fun _ _ _ h => h) (by rfl) (by assumption) ?_ ?_
              rotate_left
              · intro wS hSw; (try dsimp only at hSw); go_simp; try with_reducible rfl
              try simp only [Act.put, List.setIfInBounds_toArray, List.set_cons_zero, List.set_cons_succ]
              have HKP := Lib.hid hHeld
              refine Ra.two_on (i := 2) (j := 16) rfl rfl (by kernel_rfl) (by rfl) (by rfl) (fun K hK => ?_) (fun K hK => ?_)
              · go_simp
                go_at_call 26
                refine (fstart_any A m cA _ (by omega)).mono ?_
                rintro e wS ⟨TS, rfl, hoS, sS⟩
                have HOS := Lib.hid hoS.row
                have HSS := Lib.hid sS
                clear hoS sS
                refine hK.out _ _ ?_ (fun hNew => ?_)
                · exact hHeld.trans HSS.out
                clear hK K hHeld; have hHeld := hNew; clear hNew
                try simp only [Act.put, List.setIfInBounds_toArray, List.set_cons_zero, List.set_cons_succ]
                have HKP := Lib.hid hHeld
                refine Ra.two_on (i := 7) (j := 16) rfl rfl (by kernel_rfl) (by rfl) (by rfl) (fun K hK => ?_) (fun K hK => ?_)
                · go_simp
                  go_at_call 19
                  refine (Mm.memory_any L nL cL (cst ws) _ (by rw [cst_len]; exact HWL.out) (by omega) (HLR.out.same (HSM.out.trans hHeld))).mono ?_
                  rintro e wY ⟨gm2, rfl, sY, hmY⟩
                  have HMY := Lib.hid hmY.within
                  have HSY := Lib.hid sY
                  have HRW := Lib.hid hHeld.size
                  have HYC := Lib.hid (Nat.le_refl wY.heap.size)
                  clear sY hmY
                  refine hK.out _ _ ?_ (fun hNew => ?_)
                  · exact hHeld.trans HSY.out
                  clear hK K hHeld; have hHeld := hNew; clear hNew
                  try simp only [Act.put, List.setIfInBounds_toArray, List.set_cons_zero, List.set_cons_succ]
                  have HOS := Lib.hid (HOS.out.same HSY.out)
                  have HKP := Lib.hid hHeld
                  refine Ra.two_on (i := 11) (j := 16) rfl rfl (by kernel_rfl) (by rfl) (by rfl) (fun K hK => ?_) (fun K hK => ?_)
                  · go_simp
                    go_at_call 25
                    refine (frun_any (startF m) ws 0 gm2 TS m m A m cA oa ol p HOS.out (by show (List.replicate m (0 : Int)).length = m; simp) (by omega) HP.out HTB.out (HSM.out.trans hHeld) HL.out (by omega) HMY.out (fun i h => ⟨Nat.le_trans HSM.out.size (Nat.le_trans HRW.out h.1), Nat.lt_of_lt_of_le h.2 HYC.out⟩) (wide_start m ws 0 HW.out.wb) (by omega) n0 (by omega)).mono ?_
                    rintro e wR ⟨TR, cR, rfl, hoR, hmR, hcR⟩
                    have HCR := Lib.hid hcR
                    clear hoR hmR hcR
                    refine hK.out _ _ ?_ (fun hNew => ?_)
                    · exact Same.more hHeld HCR.out (fun i h => Nat.le_trans HRW.out h.1)
                    clear hK K hHeld; have hHeld := hNew; clear hNew
                    try simp only [Act.put, List.setIfInBounds_toArray, List.set_cons_zero, List.set_cons_succ]
                    simp only [List.append_toArray, List.cons_append, List.nil_append]
                    refine Ro.take_on (i := 12) (v := ?_) rfl (by kernel_rfl) (by kernel_rfl) (by kernel_rfl) (fun _ _ _ h => h) (by rfl) (by assumption) ?_ ?_
                    rotate_left
                    · intro wS hSw; (try dsimp only at hSw); go_simp; try with_reducible rfl
                    try simp only [Act.put, List.setIfInBounds_toArray, List.set_cons_zero, List.set_cons_succ]
                    refine Ro.take_on (i := 13) (v := ?_) rfl (by kernel_rfl) (by kernel_rfl) (by kernel_rfl) (fun _ _ _ h => h) (by rfl) (by assumption) ?_ ?_
                    rotate_left
                    · intro wS hSw; (try dsimp only at hSw); go_simp; try with_reducible rfl
                    try simp only [Act.put, List.setIfInBounds_toArray, List.set_cons_zero, List.set_cons_succ]
                    refine Ro.take_on (i := 14) (v := ?_) rfl (by kernel_rfl) (by kernel_rfl) (by kernel_rfl) (fun _ _ _ h => h) (by rfl) (by assumption) ?_ ?_
                    rotate_left
                    · intro wS hSw; (try dsimp only at hSw); go_simp; try with_reducible rfl
                    try simp only [Act.put, List.setIfInBounds_toArray, List.set_cons_zero, List.set_cons_succ]
                    refine Ro.take_on (i := 15) (v := ?_) rfl (by kernel_rfl) (by kernel_rfl) (by kernel_rfl) (fun _ _ _ h => h) (by rfl) (by assumption) ?_ ?_
                    rotate_left
                    · intro wS hSw; (try dsimp only at hSw); go_simp; try with_reducible rfl
                    try simp only [Act.put, List.setIfInBounds_toArray, List.set_cons_zero, List.set_cons_succ]
                    have HKP := Lib.hid hHeld
                    refine Ro.one_on (i := 16) rfl (by kernel_rfl) (by rfl) (fun K hK => ?_)
                    go_simp
                    refine hK.out _ _ ?_ (fun hNew => ?_)
                    · exact hHeld.alloc _
                    clear hK K hHeld; have hHeld := hNew; clear hNew
                    try simp only [Act.put, List.setIfInBounds_toArray, List.set_cons_zero, List.set_cons_succ]
                    obtain ⟨wA, hwA⟩ : ∃ wA, wA = wR.alloc (.cells #[.int .i64 0, .int .u32 0, .int .u32 0, .int .u32 0, .int .u32 0, .int .u32 0, .int .u32 0, .int .u32 0, .int .u32 0, .slice none 0 0] 44) := ⟨_, rfl⟩
                    obtain ⟨gx, hgx⟩ : ∃ gx, gx = wR.heap.size := ⟨_, rfl⟩
                    have HBA := Lib.hid (show Blk wA gx 44 #[.int .i64 0, .int .u32 0, .int .u32 0, .int .u32 0, .int .u32 0, .int .u32 0, .int .u32 0, .int .u32 0, .int .u32 0, .slice none 0 0] by rw [hwA, hgx]; exact Blk.new _ _ _)
                    have HSA := Lib.hid (show Same wR wA by rw [hwA]; exact (Same.refl _).alloc _)
                    have HGX := Lib.hid (show wM.heap.size ≤ gx by rw [hgx]; exact HKP.out.size)
                    rw [← hwA, ← hgx]
                    clear hHeld
                    have hHeld : Same wM wA := HKP.out.trans HSA.out
                    clear hwA hgx HKP
                    have HIFR := Lib.hid frame_info
                    refine Ro.one_on (i := 17) rfl (by kernel_rfl) (by rfl) (fun K hK => ?_)
                    refine wp_store_row 44 (.tmp 10) (.tmp 116) rfl gx _ rfl rfl 44 #[.int .i64 0, .int .u32 0, .int .u32 0, .int .u32 0, .int .u32 0, .int .u32 0, .int .u32 0, .int .u32 0, .int .u32 0, .slice none 0 0] HBA.out HIFR.out rfl (by simp [Value.oneCell']) ?_
                    refine hK.out _ _ ?_ (fun hNew => ?_)
                    · exact chg_setRow hHeld (.inr HGX.out) _
                    clear hK K hHeld; have hHeld := hNew; clear hNew
                    try simp only [Act.put, List.setIfInBounds_toArray, List.set_cons_zero, List.set_cons_succ]
                    refine Ro.take_on (i := 18) (v := ?_) rfl (by kernel_rfl) (by kernel_rfl) (by kernel_rfl) (fun _ _ _ h => h) (by rfl) (by assumption) ?_ ?_
                    rotate_left
                    · intro wS hSw; (try dsimp only at hSw); go_simp; try with_reducible rfl
                    try simp only [Act.put, List.setIfInBounds_toArray, List.set_cons_zero, List.set_cons_succ]
                    refine Ro.take_on (i := 19) (v := ?_) rfl (by kernel_rfl) (by kernel_rfl) (by kernel_rfl) (fun _ _ _ h => h) (by rfl) (by assumption) ?_ ?_
                    rotate_left
                    · intro wS hSw; (try dsimp only at hSw); go_simp; try with_reducible rfl
                    try simp only [Act.put, List.setIfInBounds_toArray, List.set_cons_zero, List.set_cons_succ]
                    refine wpAnyH_done (by kernel_rfl) ?_ _
                    have HS16 := Lib.hid (HSM.out.trans hHeld)
                    have AWZ := Lib.hid (AWM.out _ hHeld)
                    clear hHeld
                    generalize (runR p oa ol ⟨startF m, ws, 0⟩ n0).2.1 = stn at *
                    go_wp2_with fail
                    refine AWZ.out.mono ?_
                    rintro e wZ ⟨rfl, sZ⟩
                    go_wp2_with fail
                    go_ret
                    exact ⟨rfl, HS16.out.trans sZ⟩
                  · go_simp
                    refine hK.out _ _ ?_ (fun hNew => ?_)
                    · exact hHeld.alloc _
                    clear hK K hHeld; have hHeld := hNew; clear hNew
                    try simp only [Act.put, List.setIfInBounds_toArray, List.set_cons_zero, List.set_cons_succ]
                    obtain ⟨wA, hwA⟩ : ∃ wA, wA = wY.alloc (.cells #[.int .i64 0, .int .u32 0, .int .u32 0, .int .u32 0, .int .u32 0, .int .u32 0, .int .u32 0, .int .u32 0, .int .u32 0, .slice none 0 0] 44) := ⟨_, rfl⟩
                    obtain ⟨gx, hgx⟩ : ∃ gx, gx = wY.heap.size := ⟨_, rfl⟩
                    have HBA := Lib.hid (show Blk wA gx 44 #[.int .i64 0, .int .u32 0, .int .u32 0, .int .u32 0, .int .u32 0, .int .u32 0, .int .u32 0, .int .u32 0, .int .u32 0, .slice none 0 0] by rw [hwA, hgx]; exact Blk.new _ _ _)
                    have HSA := Lib.hid (show Same wY wA by rw [hwA]; exact (Same.refl _).alloc _)
                    have HGX := Lib.hid (show wM.heap.size ≤ gx by rw [hgx]; exact HKP.out.size)
                    have HGB := Lib.hid (show wY.heap.size ≤ gx by rw [hgx]; exact Nat.le_refl _)
                    rw [← hwA, ← hgx]
                    clear hHeld
                    have hHeld : Same wM wA := HKP.out.trans HSA.out
                    clear hwA hgx HKP
                    have HOS := Lib.hid (HOS.out.same HSA.out)
                    have HMY := Lib.hid (HMY.out.same HSA.out)
                    have HYC := Lib.hid HSA.out.size
                    refine Ro.one_on (i := 11) rfl (by kernel_rfl) (by rfl) (fun K hK => ?_)
                    go_simp
                    go_at_call 25
                    refine (frun_any (startF m) ws 0 gm2 TS m m A m cA oa ol p HOS.out (by show (List.replicate m (0 : Int)).length = m; simp) (by omega) HP.out HTB.out (HSM.out.trans hHeld) HL.out (by omega) HMY.out (fun i h => ⟨Nat.le_trans HSM.out.size (Nat.le_trans HRW.out h.1), Nat.lt_of_lt_of_le h.2 HYC.out⟩) (wide_start m ws 0 HW.out.wb) (by omega) n0 (by omega)).mono ?_
                    rintro e wR ⟨TR, cR, rfl, hoR, hmR, hcR⟩
                    have HCR := Lib.hid hcR
                    clear hoR hmR hcR
                    refine hK.out _ _ ?_ (fun hNew => ?_)
                    · exact Same.more hHeld HCR.out (fun i h => Nat.le_trans HRW.out h.1)
                    clear hK K hHeld; have hHeld := hNew; clear hNew
                    try simp only [Act.put, List.setIfInBounds_toArray, List.set_cons_zero, List.set_cons_succ]
                    simp only [List.append_toArray, List.cons_append, List.nil_append]
                    have HBA := Lib.hid (HBA.out.chg HCR.out (fun h => by have h2 := h.2; have := HGB.out; omega))
                    refine Ro.take_on (i := 12) (v := ?_) rfl (by kernel_rfl) (by kernel_rfl) (by kernel_rfl) (fun _ _ _ h => h) (by rfl) (by assumption) ?_ ?_
                    rotate_left
                    · intro wS hSw; (try dsimp only at hSw); go_simp; try with_reducible rfl
                    try simp only [Act.put, List.setIfInBounds_toArray, List.set_cons_zero, List.set_cons_succ]
                    refine Ro.take_on (i := 13) (v := ?_) rfl (by kernel_rfl) (by kernel_rfl) (by kernel_rfl) (fun _ _ _ h => h) (by rfl) (by assumption) ?_ ?_
                    rotate_left
                    · intro wS hSw; (try dsimp only at hSw); go_simp; try with_reducible rfl
                    try simp only [Act.put, List.setIfInBounds_toArray, List.set_cons_zero, List.set_cons_succ]
                    refine Ro.take_on (i := 14) (v := ?_) rfl (by kernel_rfl) (by kernel_rfl) (by kernel_rfl) (fun _ _ _ h => h) (by rfl) (by assumption) ?_ ?_
                    rotate_left
                    · intro wS hSw; (try dsimp only at hSw); go_simp; try with_reducible rfl
                    try simp only [Act.put, List.setIfInBounds_toArray, List.set_cons_zero, List.set_cons_succ]
                    refine Ro.take_on (i := 15) (v := ?_) rfl (by kernel_rfl) (by kernel_rfl) (by kernel_rfl) (fun _ _ _ h => h) (by rfl) (by assumption) ?_ ?_
                    rotate_left
                    · intro wS hSw; (try dsimp only at hSw); go_simp; try with_reducible rfl
                    try simp only [Act.put, List.setIfInBounds_toArray, List.set_cons_zero, List.set_cons_succ]
                    have HIFR := Lib.hid frame_info
                    refine Ro.one_on (i := 17) rfl (by kernel_rfl) (by rfl) (fun K hK => ?_)
                    refine wp_store_row 44 (.tmp 10) (.tmp 116) rfl gx _ rfl rfl 44 #[.int .i64 0, .int .u32 0, .int .u32 0, .int .u32 0, .int .u32 0, .int .u32 0, .int .u32 0, .int .u32 0, .int .u32 0, .slice none 0 0] HBA.out HIFR.out rfl (by simp [Value.oneCell']) ?_
                    refine hK.out _ _ ?_ (fun hNew => ?_)
                    · exact chg_setRow hHeld (.inr HGX.out) _
                    clear hK K hHeld; have hHeld := hNew; clear hNew
                    try simp only [Act.put, List.setIfInBounds_toArray, List.set_cons_zero, List.set_cons_succ]
                    refine Ro.take_on (i := 18) (v := ?_) rfl (by kernel_rfl) (by kernel_rfl) (by kernel_rfl) (fun _ _ _ h => h) (by rfl) (by assumption) ?_ ?_
                    rotate_left
                    · intro wS hSw; (try dsimp only at hSw); go_simp; try with_reducible rfl
                    try simp only [Act.put, List.setIfInBounds_toArray, List.set_cons_zero, List.set_cons_succ]
                    refine Ro.take_on (i := 19) (v := ?_) rfl (by kernel_rfl) (by kernel_rfl) (by kernel_rfl) (fun _ _ _ h => h) (by rfl) (by assumption) ?_ ?_
                    rotate_left
                    · intro wS hSw; (try dsimp only at hSw); go_simp; try with_reducible rfl
                    try simp only [Act.put, List.setIfInBounds_toArray, List.set_cons_zero, List.set_cons_succ]
                    refine wpAnyH_done (by kernel_rfl) ?_ _
                    have HS16 := Lib.hid (HSM.out.trans hHeld)
                    have AWZ := Lib.hid (AWM.out _ hHeld)
                    clear hHeld
                    generalize (runR p oa ol ⟨startF m, ws, 0⟩ n0).2.1 = stn at *
                    go_wp2_with fail
                    refine AWZ.out.mono ?_
                    rintro e wZ ⟨rfl, sZ⟩
                    go_wp2_with fail
                    go_ret
                    exact ⟨rfl, HS16.out.trans sZ⟩
                · go_simp
                  refine hK.out _ _ ?_ (fun hNew => ?_)
                  · exact hHeld.alloc _
                  clear hK K hHeld; have hHeld := hNew; clear hNew
                  try simp only [Act.put, List.setIfInBounds_toArray, List.set_cons_zero, List.set_cons_succ]
                  obtain ⟨wA, hwA⟩ : ∃ wA, wA = wS.alloc (.cells #[.int .i64 0, .int .u32 0, .int .u32 0, .int .u32 0, .int .u32 0, .int .u32 0, .int .u32 0, .int .u32 0, .int .u32 0, .slice none 0 0] 44) := ⟨_, rfl⟩
                  obtain ⟨gx, hgx⟩ : ∃ gx, gx = wS.heap.size := ⟨_, rfl⟩
                  have HBA := Lib.hid (show Blk wA gx 44 #[.int .i64 0, .int .u32 0, .int .u32 0, .int .u32 0, .int .u32 0, .int .u32 0, .int .u32 0, .int .u32 0, .int .u32 0, .slice none 0 0] by rw [hwA, hgx]; exact Blk.new _ _ _)
                  have HSA := Lib.hid (show Same wS wA by rw [hwA]; exact (Same.refl _).alloc _)
                  have HGX := Lib.hid (show wM.heap.size ≤ gx by rw [hgx]; exact HKP.out.size)
                  rw [← hwA, ← hgx]
                  clear hHeld
                  have hHeld : Same wM wA := HKP.out.trans HSA.out
                  clear hwA hgx HKP
                  have HOS := Lib.hid (HOS.out.same HSA.out)
                  refine Ro.one_on (i := 7) rfl (by kernel_rfl) (by rfl) (fun K hK => ?_)
                  go_simp
                  go_at_call 19
                  refine (Mm.memory_any L nL cL (cst ws) _ (by rw [cst_len]; exact HWL.out) (by omega) (HLR.out.same (HSM.out.trans hHeld))).mono ?_
                  rintro e wY ⟨gm2, rfl, sY, hmY⟩
                  have HMY := Lib.hid hmY.within
                  have HSY := Lib.hid sY
                  have HRW := Lib.hid hHeld.size
                  have HYC := Lib.hid (Nat.le_refl wY.heap.size)
                  have HGA := Lib.hid HBA.out.lt
                  clear sY hmY
                  refine hK.out _ _ ?_ (fun hNew => ?_)
                  · exact hHeld.trans HSY.out
                  clear hK K hHeld; have hHeld := hNew; clear hNew
                  try simp only [Act.put, List.setIfInBounds_toArray, List.set_cons_zero, List.set_cons_succ]
                  have HOS := Lib.hid (HOS.out.same HSY.out)
                  have HBA := Lib.hid (HBA.out.same HSY.out)
                  refine Ro.one_on (i := 11) rfl (by kernel_rfl) (by rfl) (fun K hK => ?_)
                  go_simp
                  go_at_call 25
                  refine (frun_any (startF m) ws 0 gm2 TS m m A m cA oa ol p HOS.out (by show (List.replicate m (0 : Int)).length = m; simp) (by omega) HP.out HTB.out (HSM.out.trans hHeld) HL.out (by omega) HMY.out (fun i h => ⟨Nat.le_trans HSM.out.size (Nat.le_trans HRW.out h.1), Nat.lt_of_lt_of_le h.2 HYC.out⟩) (wide_start m ws 0 HW.out.wb) (by omega) n0 (by omega)).mono ?_
                  rintro e wR ⟨TR, cR, rfl, hoR, hmR, hcR⟩
                  have HCR := Lib.hid hcR
                  clear hoR hmR hcR
                  refine hK.out _ _ ?_ (fun hNew => ?_)
                  · exact Same.more hHeld HCR.out (fun i h => Nat.le_trans HRW.out h.1)
                  clear hK K hHeld; have hHeld := hNew; clear hNew
                  try simp only [Act.put, List.setIfInBounds_toArray, List.set_cons_zero, List.set_cons_succ]
                  simp only [List.append_toArray, List.cons_append, List.nil_append]
                  have HBA := Lib.hid (HBA.out.chg HCR.out (fun h => by have h1 := h.1; have := HGA.out; omega))
                  refine Ro.take_on (i := 12) (v := ?_) rfl (by kernel_rfl) (by kernel_rfl) (by kernel_rfl) (fun _ _ _ h => h) (by rfl) (by assumption) ?_ ?_
                  rotate_left
                  · intro wS hSw; (try dsimp only at hSw); go_simp; try with_reducible rfl
                  try simp only [Act.put, List.setIfInBounds_toArray, List.set_cons_zero, List.set_cons_succ]
                  refine Ro.take_on (i := 13) (v := ?_) rfl (by kernel_rfl) (by kernel_rfl) (by kernel_rfl) (fun _ _ _ h => h) (by rfl) (by assumption) ?_ ?_
                  rotate_left
                  · intro wS hSw; (try dsimp only at hSw); go_simp; try with_reducible rfl
                  try simp only [Act.put, List.setIfInBounds_toArray, List.set_cons_zero, List.set_cons_succ]
                  refine Ro.take_on (i := 14) (v := ?_) rfl (by kernel_rfl) (by kernel_rfl) (by kernel_rfl) (fun _ _ _ h => h) (by rfl) (by assumption) ?_ ?_
                  rotate_left
                  · intro wS hSw; (try dsimp only at hSw); go_simp; try with_reducible rfl
                  try simp only [Act.put, List.setIfInBounds_toArray, List.set_cons_zero, List.set_cons_succ]
                  refine Ro.take_on (i := 15) (v := ?_) rfl (by kernel_rfl) (by kernel_rfl) (by kernel_rfl) (fun _ _ _ h => h) (by rfl) (by assumption) ?_ ?_
                  rotate_left
                  · intro wS hSw; (try dsimp only at hSw); go_simp; try with_reducible rfl
                  try simp only [Act.put, List.setIfInBounds_toArray, List.set_cons_zero, List.set_cons_succ]
                  have HIFR := Lib.hid frame_info
                  refine Ro.one_on (i := 17) rfl (by kernel_rfl) (by rfl) (fun K hK => ?_)
                  refine wp_store_row 44 (.tmp 10) (.tmp 116) rfl gx _ rfl rfl 44 #[.int .i64 0, .int .u32 0, .int .u32 0, .int .u32 0, .int .u32 0, .int .u32 0, .int .u32 0, .int .u32 0, .int .u32 0, .slice none 0 0] HBA.out HIFR.out rfl (by simp [Value.oneCell']) ?_
                  refine hK.out _ _ ?_ (fun hNew => ?_)
                  · exact chg_setRow hHeld (.inr HGX.out) _
                  clear hK K hHeld; have hHeld := hNew; clear hNew
                  try simp only [Act.put, List.setIfInBounds_toArray, List.set_cons_zero, List.set_cons_succ]
                  refine Ro.take_on (i := 18) (v := ?_) rfl (by kernel_rfl) (by kernel_rfl) (by kernel_rfl) (fun _ _ _ h => h) (by rfl) (by assumption) ?_ ?_
                  rotate_left
                  · intro wS hSw; (try dsimp only at hSw); go_simp; try with_reducible rfl
                  try simp only [Act.put, List.setIfInBounds_toArray, List.set_cons_zero, List.set_cons_succ]
                  refine Ro.take_on (i := 19) (v := ?_) rfl (by kernel_rfl) (by kernel_rfl) (by kernel_rfl) (fun _ _ _ h => h) (by rfl) (by assumption) ?_ ?_
                  rotate_left
                  · intro wS hSw; (try dsimp only at hSw); go_simp; try with_reducible rfl
                  try simp only [Act.put, List.setIfInBounds_toArray, List.set_cons_zero, List.set_cons_succ]
                  refine wpAnyH_done (by kernel_rfl) ?_ _
                  have HS16 := Lib.hid (HSM.out.trans hHeld)
                  have AWZ := Lib.hid (AWM.out _ hHeld)
                  clear hHeld
                  generalize (runR p oa ol ⟨startF m, ws, 0⟩ n0).2.1 = stn at *
                  go_wp2_with fail
                  refine AWZ.out.mono ?_
                  rintro e wZ ⟨rfl, sZ⟩
                  go_wp2_with fail
                  go_ret
                  exact ⟨rfl, HS16.out.trans sZ⟩
              · go_simp
                refine hK.out _ _ ?_ (fun hNew => ?_)
                · exact hHeld.alloc _
                clear hK K hHeld; have hHeld := hNew; clear hNew
                try simp only [Act.put, List.setIfInBounds_toArray, List.set_cons_zero, List.set_cons_succ]
                obtain ⟨wA, hwA⟩ : ∃ wA, wA = (wM.alloc (.cells #[.int .i64 0, .int .u32 0, .int .u32 0, .int .u32 0, .int .u32 0, .int .u32 0, .int .u32 0, .int .u32 0, .int .u32 0, .slice none 0 0] 44)).drew := ⟨_, rfl⟩
                obtain ⟨gx, hgx⟩ : ∃ gx, gx = wM.heap.size := ⟨_, rfl⟩
                have HBA := Lib.hid (show Blk wA gx 44 #[.int .i64 0, .int .u32 0, .int .u32 0, .int .u32 0, .int .u32 0, .int .u32 0, .int .u32 0, .int .u32 0, .int .u32 0, .slice none 0 0] by rw [hwA, hgx]; exact (Blk.new wM _ _).same ((Same.refl _).drew))
                have HSA := Lib.hid (show Same wM wA by rw [hwA]; exact ((Same.refl wM).alloc _).drew)
                have HGX := Lib.hid (show wM.heap.size ≤ gx by rw [hgx]; exact Nat.le_refl _)
                rw [← hwA, ← hgx]
                clear hHeld
                have hHeld : Same wM wA := HSA.out
                clear hwA hgx HKP
                refine Ro.one_on (i := 2) rfl (by kernel_rfl) (by rfl) (fun K hK => ?_)
                go_simp
                go_at_call 26
                refine (fstart_any A m cA _ (by omega)).mono ?_
                rintro e wS ⟨TS, rfl, hoS, sS⟩
                have HOS := Lib.hid hoS.row
                have HSS := Lib.hid sS
                clear hoS sS
                refine hK.out _ _ ?_ (fun hNew => ?_)
                · exact hHeld.trans HSS.out
                clear hK K hHeld; have hHeld := hNew; clear hNew
                try simp only [Act.put, List.setIfInBounds_toArray, List.set_cons_zero, List.set_cons_succ]
                have HBA := Lib.hid (HBA.out.same HSS.out)
                refine Ro.one_on (i := 7) rfl (by kernel_rfl) (by rfl) (fun K hK => ?_)
                go_simp
                go_at_call 19
                refine (Mm.memory_any L nL cL (cst ws) _ (by rw [cst_len]; exact HWL.out) (by omega) (HLR.out.same (HSM.out.trans hHeld))).mono ?_
                rintro e wY ⟨gm2, rfl, sY, hmY⟩
                have HMY := Lib.hid hmY.within
                have HSY := Lib.hid sY
                have HRW := Lib.hid hHeld.size
                have HYC := Lib.hid (Nat.le_refl wY.heap.size)
                have HGA := Lib.hid HBA.out.lt
                clear sY hmY
                refine hK.out _ _ ?_ (fun hNew => ?_)
                · exact hHeld.trans HSY.out
                clear hK K hHeld; have hHeld := hNew; clear hNew
                try simp only [Act.put, List.setIfInBounds_toArray, List.set_cons_zero, List.set_cons_succ]
                have HOS := Lib.hid (HOS.out.same HSY.out)
                have HBA := Lib.hid (HBA.out.same HSY.out)
                refine Ro.one_on (i := 11) rfl (by kernel_rfl) (by rfl) (fun K hK => ?_)
                go_simp
                go_at_call 25
                refine (frun_any (startF m) ws 0 gm2 TS m m A m cA oa ol p HOS.out (by show (List.replicate m (0 : Int)).length = m; simp) (by omega) HP.out HTB.out (HSM.out.trans hHeld) HL.out (by omega) HMY.out (fun i h => ⟨Nat.le_trans HSM.out.size (Nat.le_trans HRW.out h.1), Nat.lt_of_lt_of_le h.2 HYC.out⟩) (wide_start m ws 0 HW.out.wb) (by omega) n0 (by omega)).mono ?_
                rintro e wR ⟨TR, cR, rfl, hoR, hmR, hcR⟩
                have HCR := Lib.hid hcR
                clear hoR hmR hcR
                refine hK.out _ _ ?_ (fun hNew => ?_)
                · exact Same.more hHeld HCR.out (fun i h => Nat.le_trans HRW.out h.1)
                clear hK K hHeld; have hHeld := hNew; clear hNew
                try simp only [Act.put, List.setIfInBounds_toArray, List.set_cons_zero, List.set_cons_succ]
                simp only [List.append_toArray, List.cons_append, List.nil_append]
                have HBA := Lib.hid (HBA.out.chg HCR.out (fun h => by have h1 := h.1; have := HGA.out; omega))
                refine Ro.take_on (i := 12) (v := ?_) rfl (by kernel_rfl) (by kernel_rfl) (by kernel_rfl) (fun _ _ _ h => h) (by rfl) (by assumption) ?_ ?_
                rotate_left
                · intro wS hSw; (try dsimp only at hSw); go_simp; try with_reducible rfl
                try simp only [Act.put, List.setIfInBounds_toArray, List.set_cons_zero, List.set_cons_succ]
                refine Ro.take_on (i := 13) (v := ?_) rfl (by kernel_rfl) (by kernel_rfl) (by kernel_rfl) (fun _ _ _ h => h) (by rfl) (by assumption) ?_ ?_
                rotate_left
                · intro wS hSw; (try dsimp only at hSw); go_simp; try with_reducible rfl
                try simp only [Act.put, List.setIfInBounds_toArray, List.set_cons_zero, List.set_cons_succ]
                refine Ro.take_on (i := 14) (v := ?_) rfl (by kernel_rfl) (by kernel_rfl) (by kernel_rfl) (fun _ _ _ h => h) (by rfl) (by assumption) ?_ ?_
                rotate_left
                · intro wS hSw; (try dsimp only at hSw); go_simp; try with_reducible rfl
                try simp only [Act.put, List.setIfInBounds_toArray, List.set_cons_zero, List.set_cons_succ]
                refine Ro.take_on (i := 15) (v := ?_) rfl (by kernel_rfl) (by kernel_rfl) (by kernel_rfl) (fun _ _ _ h => h) (by rfl) (by assumption) ?_ ?_
                rotate_left
                · intro wS hSw; (try dsimp only at hSw); go_simp; try with_reducible rfl
                try simp only [Act.put, List.setIfInBounds_toArray, List.set_cons_zero, List.set_cons_succ]
                have HIFR := Lib.hid frame_info
                refine Ro.one_on (i := 17) rfl (by kernel_rfl) (by rfl) (fun K hK => ?_)
                refine wp_store_row 44 (.tmp 10) (.tmp 116) rfl gx _ rfl rfl 44 #[.int .i64 0, .int .u32 0, .int .u32 0, .int .u32 0, .int .u32 0, .int .u32 0, .int .u32 0, .int .u32 0, .int .u32 0, .slice none 0 0] HBA.out HIFR.out rfl (by simp [Value.oneCell']) ?_
                refine hK.out _ _ ?_ (fun hNew => ?_)
                · exact chg_setRow hHeld (.inr HGX.out) _
                clear hK K hHeld; have hHeld := hNew; clear hNew
                try simp only [Act.put, List.setIfInBounds_toArray, List.set_cons_zero, List.set_cons_succ]
                refine Ro.take_on (i := 18) (v := ?_) rfl (by kernel_rfl) (by kernel_rfl) (by kernel_rfl) (fun _ _ _ h => h) (by rfl) (by assumption) ?_ ?_
                rotate_left
                · intro wS hSw; (try dsimp only at hSw); go_simp; try with_reducible rfl
                try simp only [Act.put, List.setIfInBounds_toArray, List.set_cons_zero, List.set_cons_succ]
                refine Ro.take_on (i := 19) (v := ?_) rfl (by kernel_rfl) (by kernel_rfl) (by kernel_rfl) (fun _ _ _ h => h) (by rfl) (by assumption) ?_ ?_
                rotate_left
                · intro wS hSw; (try dsimp only at hSw); go_simp; try with_reducible rfl
                try simp only [Act.put, List.setIfInBounds_toArray, List.set_cons_zero, List.set_cons_succ]
                refine wpAnyH_done (by kernel_rfl) ?_ _
                have HS16 := Lib.hid (HSM.out.trans hHeld)
                have AWZ := Lib.hid (AWM.out _ hHeld)
                clear hHeld
                generalize (runR p oa ol ⟨startF m, ws, 0⟩ n0).2.1 = stn at *
                go_wp2_with fail
                refine AWZ.out.mono ?_
                rintro e wZ ⟨rfl, sZ⟩
                go_wp2_with fail
                go_ret
                exact ⟨rfl, HS16.out.trans sZ⟩
          · have eer : (er != 0) = true := by simpa using her
            clear her HFR
            go_wp2_with fail
            all_goals
              refine (AWM.out _ (Same.refl _)).mono ?_
              rintro e wZ ⟨rfl, sZ⟩
              go_wp2_with fail
              go_ret
              exact ⟨rfl, HSM.out.trans sZ⟩
end Go.Proofs.YtiipdeionmndcaaDoor.Fr
