/-

  The law FrameSteps.
-/
import Derived.Test.YtgimelpjklnjmaaDoorFrmCase
import Derived.Test.YtgimelpjklnjmaaDoorFrmRsAll
import Derived.Test.YtgimelpjklnjmaaDoorOperApp
set_option linter.unusedVariables false
set_option linter.unusedSimpArgs false
namespace Go.Proofs.YtgimelpjklnjmaaDoor.Fr
open Go.ChangeShapes Go.WideShapes Go.ChangeAt Go.RowKit Ws
open Go.Proofs.YtgimelpjklnjmaaDoor.Fp (Ins at_ Fine at_some)
open Go.Proofs.YtgimelpjklnjmaaDoor.Fw (Prg okB ckE check_any okB_fine rightI)
open Go.Proofs.YtgimelpjklnjmaaDoor.Is (Tabs)

theorem own_ne2 {w : World} {B B' : Nat} {e e' : TypeId} {T C : Option Addr} {c d : Nat} {l l' : List Value} (h : Own w B e T c l) (h' : Own w B' e' C d l') (hne : e ≠ e') : ∀ i, T = some ⟨i, 0, none⟩ → ¬ C = some ⟨i, 0, none⟩ := fun i hi hC => by
  rcases h'.2 with ⟨hz, _⟩ | ⟨g2, cap, cur, hv, hB, hg, _⟩
  · rw [hC] at hz; cases hz
  · rw [hC] at hv
    injection hv with hv
    injection hv with hv
    injection hv with hv
    subst hv
    exact h.ne (t := e') hg hne _ hi rfl
theorem step_len (p : List Ins) (oa ol : Int) (s : SS) : (stepR p oa ol s).1.f.tn.length = s.f.tn.length := by
  unfold stepR stepW
  split
  · split
    · show (tnI _ _).length = _
      unfold tnI
      repeat' split
      all_goals simp
    · rfl
  · rfl
theorem step_wlen (p : List Ins) (oa ol : Int) (s : SS) : (stepR p oa ol s).1.ws.length = s.ws.length := by
  unfold stepR stepW
  split
  · split
    · exact ws_len _ _ _ _
    · rfl
  · rfl
def zs10 (q : Nat) (w : World) (f : FS) (T : Option Addr) (n c : Nat) : Prop := Blk w q 53 #[.int .i64 f.pc, .int .u32 (rk f 0), .int .u32 (rk f 1), .int .u32 (rk f 2), .int .u32 (rk f 3), .int .u32 (rk f 4), .int .u32 (rk f 5), .int .u32 (rk f 6), .int .u32 (rk f 7), .slice T n c]
set_option maxRecDepth 100000 in
set_option maxHeartbeats 8000000 in
theorem steps_walk (f : FS) (T : Option Addr) (nT cT : Nat) (A : Option Addr) (m cA : Nat) (L : Option Addr) (nL cL : Nat) (oa ol : Int) (ws : List Nat) (p : List Ins) (w : World) (hT : Row w T (f.tn.map (Value.int .i64))) (hn : f.tn.length = nT) (hp : Prg w A p) (hl : p.length = m) (hL : Row w L ((cst ws).map (Value.int .u32))) (hwl : ws.length = nL) (h8 : f.rg.length = 8) (hrb : ∀ x ∈ f.rg, x < 4294967296) (hwb : ∀ x ∈ ws, x < 4294967296) (ht : Tabs w) :
    Calls Tryd.prog 7 #[.agg #[.int .i64 f.pc, .int .u32 (rk f 0), .int .u32 (rk f 1), .int .u32 (rk f 2), .int .u32 (rk f 3), .int .u32 (rk f 4), .int .u32 (rk f 5), .int .u32 (rk f 6), .int .u32 (rk f 7), .slice T nT cT, .slice A m cA, .slice L nL cL, .int .i64 oa, .int .i64 ol]] w fun e w' => e = .returned (.bool true) ∧ Same w w' := by
  obtain ⟨w1, hw1⟩ : ∃ w1, w1 = w.alloc (.cells #[.int .i64 f.pc, .int .u32 (rk f 0), .int .u32 (rk f 1), .int .u32 (rk f 2), .int .u32 (rk f 3), .int .u32 (rk f 4), .int .u32 (rk f 5), .int .u32 (rk f 6), .int .u32 (rk f 7), .slice T nT cT, .slice A m cA, .slice L nL cL, .int .i64 oa, .int .i64 ol] 57) := ⟨_, rfl⟩
  have hs1 : Same w w1 := hw1 ▸ (Same.refl w).alloc _
  have hb1 : Blk w1 w.heap.size 57 #[.int .i64 f.pc, .int .u32 (rk f 0), .int .u32 (rk f 1), .int .u32 (rk f 2), .int .u32 (rk f 3), .int .u32 (rk f 4), .int .u32 (rk f 5), .int .u32 (rk f 6), .int .u32 (rk f 7), .slice T nT cT, .slice A m cA, .slice L nL cL, .int .i64 oa, .int .i64 ol] := hw1 ▸ Blk.new w _ _
  have E1 := Lib.hid hw1
  have HS1 := Lib.hid hs1
  have HB1 := Lib.hid hb1
  have HT := Lib.hid hT
  have HN := Lib.hid hn
  have HP := Lib.hid hp
  have HL := Lib.hid hl
  have HLR := Lib.hid hL
  have HWL := Lib.hid hwl
  have HW := Lib.hid (show Wide ⟨f, ws, 0⟩ from ⟨h8, hrb, hwb⟩)
  have HTB := Lib.hid ht
  obtain ⟨z0, z1, z2, z3, z4, z5, z6, z7, z8, z9, z10, z11, z12, z13⟩ := (⟨hb1.cell 0, hb1.cell 1, hb1.cell 2, hb1.cell 3, hb1.cell 4, hb1.cell 5, hb1.cell 6, hb1.cell 7, hb1.cell 8, hb1.cell 9, hb1.cell 10, hb1.cell 11, hb1.cell 12, hb1.cell 13⟩ : _ ∧ _ ∧ _ ∧ _ ∧ _ ∧ _ ∧ _ ∧ _ ∧ _ ∧ _ ∧ _ ∧ _ ∧ _ ∧ _)
  simp only [List.getElem?_toArray, List.getElem?_cons_zero, List.getElem?_cons_succ] at z0 z1 z2 z3 z4 z5 z6 z7 z8 z9 z10 z11 z12 z13
  clear hw1 hs1 hb1 hT hn hp hl hL hwl h8 hrb hwb ht
  go_enter Tryd.func7, Tryd.ntmps7
  go_wp2_with fail
  rw [← E1.out]
  clear E1
  refine (light_any f T nT cT A m cA L nL cL oa ol w1).mono ?_
  rintro e w2 ⟨rfl, s2⟩
  cases hlb : lightB m nL nT with
  | false =>
    have AW := Lib.hid (awake13 w2 (HTB.out.same (HS1.out.trans s2)))
    have HS2 := Lib.hid (HS1.out.trans s2)
    clear hlb s2
    go_wp2_with fail
    refine AW.out.mono ?_
    rintro e w3 ⟨rfl, s3⟩
    go_wp2_with fail
    go_ret
    exact ⟨rfl, HS2.out.trans s3⟩
  | true =>
    have hli : (m : Int) ≤ 200 ∧ (nL : Int) ≤ 300 ∧ (nT : Int) ≤ 200 := of_decide_eq_true hlb
    obtain ⟨hm2, hl2, ht2⟩ := hli
    obtain ⟨i0, hi, hz0, hz1, hz2⟩ := info_parts Mm.u32_info
    have HS2 := Lib.hid (HS1.out.trans s2)
    have HB2 := Lib.hid (HB1.out.same s2)
    have HB2L := Lib.hid HB2.out.lt
    clear hlb s2 z0 z1 z2 z3 z4 z5 z6 z7 z8 z9 z10 z11 z12 z13 HB1
    obtain ⟨z0, z1, z2, z3, z4, z5, z6, z7, z8, z9, z10, z11, z12, z13⟩ := (⟨HB2.out.cell 0, HB2.out.cell 1, HB2.out.cell 2, HB2.out.cell 3, HB2.out.cell 4, HB2.out.cell 5, HB2.out.cell 6, HB2.out.cell 7, HB2.out.cell 8, HB2.out.cell 9, HB2.out.cell 10, HB2.out.cell 11, HB2.out.cell 12, HB2.out.cell 13⟩ : _ ∧ _ ∧ _ ∧ _ ∧ _ ∧ _ ∧ _ ∧ _ ∧ _ ∧ _ ∧ _ ∧ _ ∧ _ ∧ _)
    simp only [List.getElem?_toArray, List.getElem?_cons_zero, List.getElem?_cons_succ] at z0 z1 z2 z3 z4 z5 z6 z7 z8 z9 z10 z11 z12 z13
    go_wp2_with fail
    refine (Mm.memory_any L nL cL (cst ws) w2 (by rw [cst_len]; exact HWL.out) (by omega) (HLR.out.same HS2.out)).mono ?_
    rintro e w3 ⟨gm, rfl, s3, hm3⟩
    have HM3 := Lib.hid hm3.within
    have HS3 := Lib.hid (HS2.out.trans s3)
    have HB3 := Lib.hid (HB2.out.same s3)
    have HR3 := Lib.hid (fun i (h : w2.heap.size ≤ i ∧ i < w3.heap.size) => (⟨Nat.le_trans HS2.out.size h.1, h.2⟩ : w.heap.size ≤ i ∧ i < w3.heap.size))
    clear hm3 s3 z0 z1 z2 z3 z4 z5 z6 z7 z8 z9 z10 z11 z12 z13 HB2
    have y11 : (w3.alloc (.cells #[] 50)).cell? ⟨w.heap.size, 11, none⟩ = some (.slice L nL cL) := ((Same.refl w3).alloc (.cells #[] 50)).cell (HB3.out.cell 11)
    go_wp2_with (at_builtin; refine wpList_app rfl _ _ 22 rfl w3.heap.size 50 i0 _ 4 Tryd.underlying22 hi hz0 hz1 hz2 rfl _ _ _ [] rfl rfl (Mm.own_none w3 50) _ _ _ ((cst ws).map (Value.int .u32)) rfl ?c1 ?c2 (Mm.words_one (cst ws)) ?c3 (by omega) ?c4 ?c5)
    case c1 => rw [List.length_map, cst_len]; exact HWL.out
    case c2 => exact (HLR.out.same HS3.out).same ((Same.refl _).alloc _)
    case c3 => have := HWL.out; rw [List.length_map, cst_len]; simp; omega
    case c4 => simp
    intro C dC w4 ho hc hA
    have s4 : Same w3 w4 := Same.more ((Same.refl w3).alloc (.cells #[] 50)) hc (fun i hi => by
      have hi : w3.heap.size = i := by simpa using hi
      omega)
    have HC4 := Lib.hid (show Own w4 w3.heap.size 50 C dC ((cst ws).map (Value.int .u32)) by simpa using ho)
    have HS4 := Lib.hid (HS3.out.trans s4)
    have HB4 := Lib.hid (HB3.out.same s4)
    have HM4 := Lib.hid (HM3.out.same s4)
    have HZ34 := Lib.hid s4.size
    clear ho hc hA s4 y11 HB3 HM3
    try simp only [List.length_nil, Nat.zero_add]
    obtain ⟨z0, z1, z2, z3, z4, z5, z6, z7, z8, z9, z10, z11, z12, z13⟩ := (⟨HB4.out.cell 0, HB4.out.cell 1, HB4.out.cell 2, HB4.out.cell 3, HB4.out.cell 4, HB4.out.cell 5, HB4.out.cell 6, HB4.out.cell 7, HB4.out.cell 8, HB4.out.cell 9, HB4.out.cell 10, HB4.out.cell 11, HB4.out.cell 12, HB4.out.cell 13⟩ : _ ∧ _ ∧ _ ∧ _ ∧ _ ∧ _ ∧ _ ∧ _ ∧ _ ∧ _ ∧ _ ∧ _ ∧ _ ∧ _)
    simp only [List.getElem?_toArray, List.getElem?_cons_zero, List.getElem?_cons_succ] at z0 z1 z2 z3 z4 z5 z6 z7 z8 z9 z10 z11 z12 z13
    go_wp2_with fail
    refine (rcopy_any f T nT cT w4 (HT.out.same HS4.out) HN.out (by omega)).mono ?_
    rintro e w5 ⟨Tw, cw, rfl, how, s5⟩
    obtain ⟨w6, hw6⟩ : ∃ w6, w6 = w5.alloc (.cells #[.int .i64 f.pc, .int .u32 (rk f 0), .int .u32 (rk f 1), .int .u32 (rk f 2), .int .u32 (rk f 3), .int .u32 (rk f 4), .int .u32 (rk f 5), .int .u32 (rk f 6), .int .u32 (rk f 7), .slice Tw nT cw] 53) := ⟨_, rfl⟩
    have hs6 : Same w5 w6 := hw6 ▸ (Same.refl w5).alloc _
    have E6 := Lib.hid hw6
    have s46 := s5.trans hs6
    have HQ6 := Lib.hid (show Blk w6 w5.heap.size 53 #[.int .i64 f.pc, .int .u32 (rk f 0), .int .u32 (rk f 1), .int .u32 (rk f 2), .int .u32 (rk f 3), .int .u32 (rk f 4), .int .u32 (rk f 5), .int .u32 (rk f 6), .int .u32 (rk f 7), .slice Tw nT cw] from hw6 ▸ Blk.new w5 _ _)
    have HOW6 := Lib.hid (how.same hs6)
    have HS6 := Lib.hid (HS4.out.trans s46)
    have HB6 := Lib.hid (HB4.out.same s46)
    have HM6 := Lib.hid (HM4.out.same s46)
    have HC6 := Lib.hid (HC4.out.same s46)
    have HZ36 := Lib.hid (Nat.le_trans HZ34.out s46.size)
    have HZ45 := Lib.hid s5.size
    clear how s5 hs6 s46 hw6 z0 z1 z2 z3 z4 z5 z6 z7 z8 z9 z10 z11 z12 z13 HB4 HM4 HC4
    go_upto_region 6 with fail
    rw [← E6.out]
    clear E6
    generalize hq5 : w5.heap.size = q5 at *
    have HQ5 := Lib.hid hq5
    clear hq5
    obtain ⟨z0, z1, z2, z3, z4, z5, z6, z7, z8, z9, z10, z11, z12, z13⟩ := (⟨HB6.out.cell 0, HB6.out.cell 1, HB6.out.cell 2, HB6.out.cell 3, HB6.out.cell 4, HB6.out.cell 5, HB6.out.cell 6, HB6.out.cell 7, HB6.out.cell 8, HB6.out.cell 9, HB6.out.cell 10, HB6.out.cell 11, HB6.out.cell 12, HB6.out.cell 13⟩ : _ ∧ _ ∧ _ ∧ _ ∧ _ ∧ _ ∧ _ ∧ _ ∧ _ ∧ _ ∧ _ ∧ _ ∧ _ ∧ _)
    simp only [List.getElem?_toArray, List.getElem?_cons_zero, List.getElem?_cons_succ] at z0 z1 z2 z3 z4 z5 z6 z7 z8 z9 z10 z11 z12 z13
    have FS := Lib.hid (fstep_any f ws 0 gm T nT cT A m cA oa ol p (HT.out.same HS6.out) HN.out (by omega) HP.out HTB.out HS6.out HL.out (by omega) HM6.out (fun i h => ⟨(HR3.out i h).1, Nat.lt_of_lt_of_le (HR3.out i h).2 HZ36.out⟩) HW.out (by omega))
    obtain ⟨s', hs'⟩ : ∃ s', s' = (stepR p oa ol ⟨f, ws, 0⟩).1 := ⟨_, rfl⟩
    obtain ⟨kx, hkx⟩ : ∃ kx, kx = (stepR p oa ol ⟨f, ws, 0⟩).2 := ⟨_, rfl⟩
    have RS := Lib.hid (fun (w' : World) (hs : Same w w') (hc : Own w' 0 50 C dC ((cst ws).map (Value.int .u32))) => rstep_any f ws 0 T nT cT A m cA C nL dC oa ol p w' (HT.out.same hs) HN.out (by omega) (HP.out.same hs) HL.out (by omega) hc HWL.out (by omega) HW.out)
    rw [Int.sub_zero] at RS
    rw [← hs', ← hkx] at FS RS
    have HSW := Lib.hid (show s'.ws.length = nL by rw [hs', step_wlen]; exact HWL.out)
    have HSN := Lib.hid (show s'.f.tn.length = nT by rw [hs', step_len]; exact HN.out)
    clear hs' hkx
    go_wp2_with fail
    refine FS.out.mono ?_
    rintro e w7 ⟨T1, c1, rfl, ho1, hm7, hc7⟩
    simp only [List.append_toArray]
    obtain ⟨w8, hw8⟩ : ∃ w8, w8 = w7.alloc (.cells #[.int .i64 s'.f.pc, .int .u32 (rk s'.f 0), .int .u32 (rk s'.f 1), .int .u32 (rk s'.f 2), .int .u32 (rk s'.f 3), .int .u32 (rk s'.f 4), .int .u32 (rk s'.f 5), .int .u32 (rk s'.f 6), .int .u32 (rk s'.f 7), .slice T1 nT c1] 53) := ⟨_, rfl⟩
    have hs8 : Same w7 w8 := hw8 ▸ (Same.refl w7).alloc _
    have E8 := Lib.hid hw8
    have hcg := own_ge1 HC6.out
    have hwg := own_ge1 HOW6.out
    have h36 := HZ36.out
    have h34 := HZ34.out
    have h45 := HZ45.out
    have hq5 := HQ5.out
    have hbl := HB6.out.lt
    have HW1 := Lib.hid (show w.heap.size < w2.heap.size from HB2L.out)
    have HQ7 := Lib.hid (show Blk w8 w7.heap.size 53 #[.int .i64 s'.f.pc, .int .u32 (rk s'.f 0), .int .u32 (rk s'.f 1), .int .u32 (rk s'.f 2), .int .u32 (rk s'.f 3), .int .u32 (rk s'.f 4), .int .u32 (rk s'.f 5), .int .u32 (rk s'.f 6), .int .u32 (rk s'.f 7), .slice T1 nT c1] from hw8 ▸ Blk.new w7 _ _)
    have HO8 := Lib.hid (ho1.same hs8)
    have HS8 := Lib.hid ((Same.more HS6.out hc7 (fun i h => (HR3.out i h).1)).trans hs8)
    have HB8 := Lib.hid ((HB6.out.chg hc7 (fun h => by have := HW1.out; omega)).same hs8)
    have HM8 := Lib.hid (hm7.same hs8)
    have HC8 := Lib.hid ((HC6.out.chg hc7 (fun i hi h => by have := hcg i hi; omega)).same hs8)
    have HOW8 := Lib.hid ((HOW6.out.chg hc7 (fun i hi h => by have := hwg i hi; omega)).same hs8)
    have HQ58 := Lib.hid ((HQ6.out.chg hc7 (fun h => by omega)).same hs8)
    clear ho1 hm7 hc7 hs8 hw8 hcg hwg h36 h34 h45 hq5 hbl z0 z1 z2 z3 z4 z5 z6 z7 z8 z9 z10 z11 z12 z13 HB6 HM6 HC6 HOW6 HQ6 FS
    go_upto_region 7 with fail
    rw [← E8.out]
    clear E8
    generalize w7.heap.size = q7 at *
    obtain ⟨z0, z1, z2, z3, z4, z5, z6, z7, z8, z9, z10, z11, z12, z13⟩ := (⟨HB8.out.cell 0, HB8.out.cell 1, HB8.out.cell 2, HB8.out.cell 3, HB8.out.cell 4, HB8.out.cell 5, HB8.out.cell 6, HB8.out.cell 7, HB8.out.cell 8, HB8.out.cell 9, HB8.out.cell 10, HB8.out.cell 11, HB8.out.cell 12, HB8.out.cell 13⟩ : _ ∧ _ ∧ _ ∧ _ ∧ _ ∧ _ ∧ _ ∧ _ ∧ _ ∧ _ ∧ _ ∧ _ ∧ _ ∧ _)
    simp only [List.getElem?_toArray, List.getElem?_cons_zero, List.getElem?_cons_succ] at z0 z1 z2 z3 z4 z5 z6 z7 z8 z9 z10 z11 z12 z13
    have RS8 := Lib.hid (RS.out w8 HS8.out (HC8.out.base (Nat.zero_le _)))
    clear RS
    go_wp2_with fail
    refine RS8.out.mono ?_
    rintro e w9 ⟨T2, c2, rfl, ho2, hc9, hx9⟩
    obtain ⟨w10, hw10⟩ : ∃ w10, w10 = w9.alloc (.cells #[.int .i64 s'.f.pc, .int .u32 (rk s'.f 0), .int .u32 (rk s'.f 1), .int .u32 (rk s'.f 2), .int .u32 (rk s'.f 3), .int .u32 (rk s'.f 4), .int .u32 (rk s'.f 5), .int .u32 (rk s'.f 6), .int .u32 (rk s'.f 7), .slice T2 nT c2] 53) := ⟨_, rfl⟩
    have hs10 : Same w9 w10 := hw10 ▸ (Same.refl w9).alloc _
    have E10 := Lib.hid hw10
    have hcg := own_ge1 HC8.out
    have h3w := HS3.out.size
    have HQ9 := Lib.hid (show Blk w10 w9.heap.size 53 #[.int .i64 s'.f.pc, .int .u32 (rk s'.f 0), .int .u32 (rk s'.f 1), .int .u32 (rk s'.f 2), .int .u32 (rk s'.f 3), .int .u32 (rk s'.f 4), .int .u32 (rk s'.f 5), .int .u32 (rk s'.f 6), .int .u32 (rk s'.f 7), .slice T2 nT c2] from hw10 ▸ Blk.new w9 _ _)
    have HO10 := Lib.hid (ho2.same hs10)
    have HC10 := Lib.hid (hc9.same hs10)
    have HS10 := Lib.hid ((Same.more HS8.out hx9 (fun i h => by have := hcg i h; omega)).trans hs10)
    have HB10 := Lib.hid ((HB8.out.chg hx9 (fun h => HC8.out.ne HB8.out (by decide) _ h rfl)).same hs10)
    have HM10 := Lib.hid ((HM8.out.chg hx9 (fun i h h2 => by have := hcg i h2; omega)).same hs10)
    have HOW10 := Lib.hid ((HOW8.out.chg hx9 (own_ne2 HOW8.out HC8.out (by decide))).same hs10)
    have HO1 := Lib.hid ((HO8.out.chg hx9 (own_ne2 HO8.out HC8.out (by decide))).same hs10)
    have HQ510 := Lib.hid ((HQ58.out.chg hx9 (fun h => HC8.out.ne HQ58.out (by decide) _ h rfl)).same hs10)
    have HQ710 := Lib.hid ((HQ7.out.chg hx9 (fun h => HC8.out.ne HQ7.out (by decide) _ h rfl)).same hs10)
    clear ho2 hc9 hx9 hs10 hw10 hcg h3w z0 z1 z2 z3 z4 z5 z6 z7 z8 z9 z10 z11 z12 z13 HB8 HM8 HC8 HOW8 HQ58 HO8 RS8 HQ7
    go_upto_region 8 with fail
    rw [← E10.out]
    clear E10
    generalize w9.heap.size = q9 at *
    have HWN := Lib.hid (show (cst s'.ws).length = nL by rw [cst_len]; exact HSW.out)
    have HLN := Lib.hid (show s'.f.tn.length = nT from HSN.out)
    have S1 := Lib.hid (fun (w' : World) (hs : Same w10 w') => rsame_yes s'.f T1 T2 nT c1 c2 w' (HO1.out.row.same hs) (HO10.out.row.same hs) HLN.out (by omega))
    have S2 := Lib.hid (fun (w' : World) (hs : Same w10 w') => rsame_yes f T Tw nT cT cw w' ((HT.out.same HS10.out).same hs) (HOW10.out.row.same hs) HN.out (by omega))
    have SN := Lib.hid (fun (w' : World) (hs : Same w10 w') => Mm.steps_any w' (HM10.out.same hs))
    have FRr := Lib.hid (fun (w' : World) (hs : Same w10 w') => fright_any f T nT cT A m cA p w' HL.out (by omega) (HP.out.same (HS10.out.trans hs)) (HTB.out.same (HS10.out.trans hs)) (HT.out.same (HS10.out.trans hs)) HN.out (by omega))
    have RRr := Lib.hid (fun (w' : World) (hs : Same w10 w') => rright_any f T nT cT A m cA p w' HL.out (by omega) (HP.out.same (HS10.out.trans hs)) (HT.out.same (HS10.out.trans hs)) HN.out (by omega))
    generalize rightF (okB p) p f = rb at *
    have WD := Lib.hid (fun (w' : World) (hs : Same w10 w') => Mm.words_any w' (HM10.out.same hs))
    have AWK := Lib.hid (fun (w' : World) (hs : Same w10 w') => awake13 w' (HTB.out.same (HS10.out.trans hs)))
    generalize w.heap.size = q0 at *
    go_wp2_with fail
    have kk : (kx != kx) = false := by simp
    have ss : (s'.st != s'.st) = false := by simp
    have rr : (rb != rb) = false := by simp
    refine wp_region_held_drew (S := fun w' => Same w10 w') (by kernel_rfl) ?_ (fun hHeld => ?_)
    · exact (Same.refl w10).drew
    refine Ro.take_on (i := 0) (v := ?_) rfl (by kernel_rfl) (by kernel_rfl) (by kernel_rfl) (fun _ _ _ h => h) (by rfl) (by assumption) ?_ ?_
    rotate_left
    · intro wS hSw; (try dsimp only at hSw); go_simp; try with_reducible rfl
    try simp only [Act.put, List.setIfInBounds_toArray, List.set_cons_zero, List.set_cons_succ]
    refine Ro.take_on (i := 1) (v := ?_) rfl (by kernel_rfl) (by kernel_rfl) (by kernel_rfl) (fun _ _ _ h => h) (by rfl) (by assumption) ?_ ?_
    rotate_left
    · intro wS hSw; (try dsimp only at hSw); go_simp; try with_reducible rfl
    try simp only [Act.put, List.setIfInBounds_toArray, List.set_cons_zero, List.set_cons_succ]
    refine Ro.take_on (i := 2) (v := ?_) rfl (by kernel_rfl) (by kernel_rfl) (by kernel_rfl) (fun _ _ _ h => h) (by rfl) (by assumption) ?_ ?_
    rotate_left
    · intro wS hSw; (try dsimp only at hSw); go_simp; try with_reducible rfl
    try simp only [Act.put, List.setIfInBounds_toArray, List.set_cons_zero, List.set_cons_succ]
    refine Ro.take_on (i := 3) (v := ?_) rfl (by kernel_rfl) (by kernel_rfl) (by kernel_rfl) (fun _ _ _ h => h) (by rfl) (by assumption) ?_ ?_
    rotate_left
    · intro wS hSw; (try dsimp only at hSw); go_simp; try with_reducible rfl
    try simp only [Act.put, List.setIfInBounds_toArray, List.set_cons_zero, List.set_cons_succ]
    refine Ro.take_on (i := 4) (v := ?_) rfl (by kernel_rfl) (by kernel_rfl) (by kernel_rfl) (fun _ _ _ h => h) (by rfl) (by assumption) ?_ ?_
    rotate_left
    · intro wS hSw; (try dsimp only at hSw); obtain ⟨v0, v1, v2, v3, v4, v5, v6, v7, v8, v9⟩ := (⟨(HQ710.out.same hSw).cell 0, (HQ710.out.same hSw).cell 1, (HQ710.out.same hSw).cell 2, (HQ710.out.same hSw).cell 3, (HQ710.out.same hSw).cell 4, (HQ710.out.same hSw).cell 5, (HQ710.out.same hSw).cell 6, (HQ710.out.same hSw).cell 7, (HQ710.out.same hSw).cell 8, (HQ710.out.same hSw).cell 9⟩ : _ ∧ _ ∧ _ ∧ _ ∧ _ ∧ _ ∧ _ ∧ _ ∧ _ ∧ _); simp only [List.getElem?_toArray, List.getElem?_cons_zero, List.getElem?_cons_succ] at v0 v1 v2 v3 v4 v5 v6 v7 v8 v9; go_simp; try with_reducible rfl
    try simp only [Act.put, List.setIfInBounds_toArray, List.set_cons_zero, List.set_cons_succ]
    refine Ro.take_on (i := 5) (v := ?_) rfl (by kernel_rfl) (by kernel_rfl) (by kernel_rfl) (fun _ _ _ h => h) (by rfl) (by assumption) ?_ ?_
    rotate_left
    · intro wS hSw; (try dsimp only at hSw); obtain ⟨v0, v1, v2, v3, v4, v5, v6, v7, v8, v9⟩ := (⟨(HQ9.out.same hSw).cell 0, (HQ9.out.same hSw).cell 1, (HQ9.out.same hSw).cell 2, (HQ9.out.same hSw).cell 3, (HQ9.out.same hSw).cell 4, (HQ9.out.same hSw).cell 5, (HQ9.out.same hSw).cell 6, (HQ9.out.same hSw).cell 7, (HQ9.out.same hSw).cell 8, (HQ9.out.same hSw).cell 9⟩ : _ ∧ _ ∧ _ ∧ _ ∧ _ ∧ _ ∧ _ ∧ _ ∧ _ ∧ _); simp only [List.getElem?_toArray, List.getElem?_cons_zero, List.getElem?_cons_succ] at v0 v1 v2 v3 v4 v5 v6 v7 v8 v9; go_simp; try with_reducible rfl
    try simp only [Act.put, List.setIfInBounds_toArray, List.set_cons_zero, List.set_cons_succ]
    refine Ro.one_on (i := 6) rfl (by kernel_rfl) (by rfl) (fun K hK => ?_)
    go_simp
    go_at_call 34
    refine (S1.out _ hHeld).mono ?_
    rintro e wN ⟨rfl, sN⟩
    refine hK.out _ _ ?_ (fun hNew => ?_)
    · exact hHeld.trans sN
    clear hK K hHeld; have hHeld := hNew; clear hNew
    try simp only [Act.put, List.setIfInBounds_toArray, List.set_cons_zero, List.set_cons_succ]
    refine Ro.take_on (i := 7) (v := ?_) rfl (by kernel_rfl) (by kernel_rfl) (by kernel_rfl) (fun _ _ _ h => h) (by rfl) (by assumption) ?_ ?_
    rotate_left
    · intro wS hSw; (try dsimp only at hSw); go_simp; try with_reducible rfl
    try simp only [Act.put, List.setIfInBounds_toArray, List.set_cons_zero, List.set_cons_succ]
    refine Ro.take_on (i := 8) (v := ?_) rfl (by kernel_rfl) (by kernel_rfl) (by kernel_rfl) (fun _ _ _ h => h) (by rfl) (by assumption) ?_ ?_
    rotate_left
    · intro wS hSw; (try dsimp only at hSw); go_simp; try with_reducible rfl
    try simp only [Act.put, List.setIfInBounds_toArray, List.set_cons_zero, List.set_cons_succ]
    refine Ro.take_on (i := 9) (v := ?_) rfl (by kernel_rfl) (by kernel_rfl) (by kernel_rfl) (fun _ _ _ h => h) (by rfl) (by assumption) ?_ ?_
    rotate_left
    · intro wS hSw; (try dsimp only at hSw); go_simp; try with_reducible rfl
    try simp only [Act.put, List.setIfInBounds_toArray, List.set_cons_zero, List.set_cons_succ]
    refine Ro.take_on (i := 10) (v := ?_) rfl (by kernel_rfl) (by kernel_rfl) (by kernel_rfl) (fun _ _ _ h => h) (by rfl) (by assumption) ?_ ?_
    rotate_left
    · intro wS hSw; (try dsimp only at hSw); go_simp; try with_reducible rfl
    try simp only [Act.put, List.setIfInBounds_toArray, List.set_cons_zero, List.set_cons_succ]
    refine Ro.take_on (i := 11) (v := ?_) rfl (by kernel_rfl) (by kernel_rfl) (by kernel_rfl) (fun _ _ _ h => h) (by rfl) (by assumption) ?_ ?_
    rotate_left
    · intro wS hSw; (try dsimp only at hSw); obtain ⟨v0, v1, v2, v3, v4, v5, v6, v7, v8, v9, v10, v11, v12, v13⟩ := (⟨(HB10.out.same hSw).cell 0, (HB10.out.same hSw).cell 1, (HB10.out.same hSw).cell 2, (HB10.out.same hSw).cell 3, (HB10.out.same hSw).cell 4, (HB10.out.same hSw).cell 5, (HB10.out.same hSw).cell 6, (HB10.out.same hSw).cell 7, (HB10.out.same hSw).cell 8, (HB10.out.same hSw).cell 9, (HB10.out.same hSw).cell 10, (HB10.out.same hSw).cell 11, (HB10.out.same hSw).cell 12, (HB10.out.same hSw).cell 13⟩ : _ ∧ _ ∧ _ ∧ _ ∧ _ ∧ _ ∧ _ ∧ _ ∧ _ ∧ _ ∧ _ ∧ _ ∧ _ ∧ _); simp only [List.getElem?_toArray, List.getElem?_cons_zero, List.getElem?_cons_succ] at v0 v1 v2 v3 v4 v5 v6 v7 v8 v9 v10 v11 v12 v13; go_simp; try with_reducible rfl
    try simp only [Act.put, List.setIfInBounds_toArray, List.set_cons_zero, List.set_cons_succ]
    refine Ro.take_on (i := 12) (v := ?_) rfl (by kernel_rfl) (by kernel_rfl) (by kernel_rfl) (fun _ _ _ h => h) (by rfl) (by assumption) ?_ ?_
    rotate_left
    · intro wS hSw; (try dsimp only at hSw); obtain ⟨v0, v1, v2, v3, v4, v5, v6, v7, v8, v9⟩ := (⟨(HQ510.out.same hSw).cell 0, (HQ510.out.same hSw).cell 1, (HQ510.out.same hSw).cell 2, (HQ510.out.same hSw).cell 3, (HQ510.out.same hSw).cell 4, (HQ510.out.same hSw).cell 5, (HQ510.out.same hSw).cell 6, (HQ510.out.same hSw).cell 7, (HQ510.out.same hSw).cell 8, (HQ510.out.same hSw).cell 9⟩ : _ ∧ _ ∧ _ ∧ _ ∧ _ ∧ _ ∧ _ ∧ _ ∧ _ ∧ _); simp only [List.getElem?_toArray, List.getElem?_cons_zero, List.getElem?_cons_succ] at v0 v1 v2 v3 v4 v5 v6 v7 v8 v9; go_simp; try with_reducible rfl
    try simp only [Act.put, List.setIfInBounds_toArray, List.set_cons_zero, List.set_cons_succ]
    refine Ro.one_on (i := 13) rfl (by kernel_rfl) (by rfl) (fun K hK => ?_)
    go_simp
    go_at_call 34
    refine (S2.out _ hHeld).mono ?_
    rintro e wN ⟨rfl, sN⟩
    refine hK.out _ _ ?_ (fun hNew => ?_)
    · exact hHeld.trans sN
    clear hK K hHeld; have hHeld := hNew; clear hNew
    try simp only [Act.put, List.setIfInBounds_toArray, List.set_cons_zero, List.set_cons_succ]
    refine Ro.take_on (i := 14) (v := ?_) rfl (by kernel_rfl) (by kernel_rfl) (by kernel_rfl) (fun _ _ _ h => h) (by rfl) (by assumption) ?_ ?_
    rotate_left
    · intro wS hSw; (try dsimp only at hSw); go_simp; try with_reducible rfl
    try simp only [Act.put, List.setIfInBounds_toArray, List.set_cons_zero, List.set_cons_succ]
    refine Ro.take_on (i := 15) (v := ?_) rfl (by kernel_rfl) (by kernel_rfl) (by kernel_rfl) (fun _ _ _ h => h) (by rfl) (by assumption) ?_ ?_
    rotate_left
    · intro wS hSw; (try dsimp only at hSw); go_simp; try with_reducible rfl
    try simp only [Act.put, List.setIfInBounds_toArray, List.set_cons_zero, List.set_cons_succ]
    refine Ro.take_on (i := 16) (v := ?_) rfl (by kernel_rfl) (by kernel_rfl) (by kernel_rfl) (fun _ _ _ h => h) (by rfl) (by assumption) ?_ ?_
    rotate_left
    · intro wS hSw; (try dsimp only at hSw); go_simp; try with_reducible rfl
    try simp only [Act.put, List.setIfInBounds_toArray, List.set_cons_zero, List.set_cons_succ]
    refine Ro.take_on (i := 17) (v := ?_) rfl (by kernel_rfl) (by kernel_rfl) (by kernel_rfl) (fun _ _ _ h => h) (by rfl) (by assumption) ?_ ?_
    rotate_left
    · intro wS hSw; (try dsimp only at hSw); go_simp; try with_reducible rfl
    try simp only [Act.put, List.setIfInBounds_toArray, List.set_cons_zero, List.set_cons_succ]
    refine Ro.take_on (i := 19) (v := ?_) rfl (by kernel_rfl) (by kernel_rfl) (by kernel_rfl) (fun _ _ _ h => h) (by rfl) (by assumption) ?_ ?_
    rotate_left
    · intro wS hSw; (try dsimp only at hSw); go_simp; try with_reducible rfl
    try simp only [Act.put, List.setIfInBounds_toArray, List.set_cons_zero, List.set_cons_succ]
    refine Ro.one_on (i := 18) rfl (by kernel_rfl) (by rfl) (fun K hK => ?_)
    go_simp
    go_at_call 35
    refine (SN.out _ hHeld).mono ?_
    rintro e wN ⟨rfl, rfl⟩
    refine hK.out _ _ ?_ (fun hNew => ?_)
    · exact hHeld
    clear hK K hHeld; have hHeld := hNew; clear hNew
    try simp only [Act.put, List.setIfInBounds_toArray, List.set_cons_zero, List.set_cons_succ]
    refine Ro.take_on (i := 20) (v := ?_) rfl (by kernel_rfl) (by kernel_rfl) (by kernel_rfl) (fun _ _ _ h => h) (by rfl) (by assumption) ?_ ?_
    rotate_left
    · intro wS hSw; (try dsimp only at hSw); go_simp; try with_reducible rfl
    try simp only [Act.put, List.setIfInBounds_toArray, List.set_cons_zero, List.set_cons_succ]
    refine Ro.take_on (i := 21) (v := ?_) rfl (by kernel_rfl) (by kernel_rfl) (by kernel_rfl) (fun _ _ _ h => h) (by rfl) (by assumption) ?_ ?_
    rotate_left
    · intro wS hSw; (try dsimp only at hSw); go_simp; try with_reducible rfl
    try simp only [Act.put, List.setIfInBounds_toArray, List.set_cons_zero, List.set_cons_succ]
    refine Ro.take_on (i := 22) (v := ?_) rfl (by kernel_rfl) (by kernel_rfl) (by kernel_rfl) (fun _ _ _ h => h) (by rfl) (by assumption) ?_ ?_
    rotate_left
    · intro wS hSw; (try dsimp only at hSw); go_simp; try with_reducible rfl
    try simp only [Act.put, List.setIfInBounds_toArray, List.set_cons_zero, List.set_cons_succ]
    refine Ro.take_on (i := 23) (v := ?_) rfl (by kernel_rfl) (by kernel_rfl) (by kernel_rfl) (fun _ _ _ h => h) (by rfl) (by assumption) ?_ ?_
    rotate_left
    · intro wS hSw; (try dsimp only at hSw); go_simp; try with_reducible rfl
    try simp only [Act.put, List.setIfInBounds_toArray, List.set_cons_zero, List.set_cons_succ]
    refine Ro.take_on (i := 24) (v := ?_) rfl (by kernel_rfl) (by kernel_rfl) (by kernel_rfl) (fun _ _ _ h => h) (by rfl) (by assumption) ?_ ?_
    rotate_left
    · intro wS hSw; (try dsimp only at hSw); obtain ⟨v0, v1, v2, v3, v4, v5, v6, v7, v8, v9, v10, v11, v12, v13⟩ := (⟨(HB10.out.same hSw).cell 0, (HB10.out.same hSw).cell 1, (HB10.out.same hSw).cell 2, (HB10.out.same hSw).cell 3, (HB10.out.same hSw).cell 4, (HB10.out.same hSw).cell 5, (HB10.out.same hSw).cell 6, (HB10.out.same hSw).cell 7, (HB10.out.same hSw).cell 8, (HB10.out.same hSw).cell 9, (HB10.out.same hSw).cell 10, (HB10.out.same hSw).cell 11, (HB10.out.same hSw).cell 12, (HB10.out.same hSw).cell 13⟩ : _ ∧ _ ∧ _ ∧ _ ∧ _ ∧ _ ∧ _ ∧ _ ∧ _ ∧ _ ∧ _ ∧ _ ∧ _ ∧ _); simp only [List.getElem?_toArray, List.getElem?_cons_zero, List.getElem?_cons_succ] at v0 v1 v2 v3 v4 v5 v6 v7 v8 v9 v10 v11 v12 v13; go_simp; try with_reducible rfl
    try simp only [Act.put, List.setIfInBounds_toArray, List.set_cons_zero, List.set_cons_succ]
    refine Ro.take_on (i := 25) (v := ?_) rfl (by kernel_rfl) (by kernel_rfl) (by kernel_rfl) (fun _ _ _ h => h) (by rfl) (by assumption) ?_ ?_
    rotate_left
    · intro wS hSw; (try dsimp only at hSw); go_simp; try with_reducible rfl
    try simp only [Act.put, List.setIfInBounds_toArray, List.set_cons_zero, List.set_cons_succ]
    refine Ro.take_on (i := 26) (v := ?_) rfl (by kernel_rfl) (by kernel_rfl) (by kernel_rfl) (fun _ _ _ h => h) (by rfl) (by assumption) ?_ ?_
    rotate_left
    · intro wS hSw; (try dsimp only at hSw); obtain ⟨v0, v1, v2, v3, v4, v5, v6, v7, v8, v9, v10, v11, v12, v13⟩ := (⟨(HB10.out.same hSw).cell 0, (HB10.out.same hSw).cell 1, (HB10.out.same hSw).cell 2, (HB10.out.same hSw).cell 3, (HB10.out.same hSw).cell 4, (HB10.out.same hSw).cell 5, (HB10.out.same hSw).cell 6, (HB10.out.same hSw).cell 7, (HB10.out.same hSw).cell 8, (HB10.out.same hSw).cell 9, (HB10.out.same hSw).cell 10, (HB10.out.same hSw).cell 11, (HB10.out.same hSw).cell 12, (HB10.out.same hSw).cell 13⟩ : _ ∧ _ ∧ _ ∧ _ ∧ _ ∧ _ ∧ _ ∧ _ ∧ _ ∧ _ ∧ _ ∧ _ ∧ _ ∧ _); simp only [List.getElem?_toArray, List.getElem?_cons_zero, List.getElem?_cons_succ] at v0 v1 v2 v3 v4 v5 v6 v7 v8 v9 v10 v11 v12 v13; go_simp; try with_reducible rfl
    try simp only [Act.put, List.setIfInBounds_toArray, List.set_cons_zero, List.set_cons_succ]
    refine Ro.take_on (i := 28) (v := ?_) rfl (by kernel_rfl) (by kernel_rfl) (by kernel_rfl) (fun _ _ _ h => h) (by rfl) (by assumption) ?_ ?_
    rotate_left
    · intro wS hSw; (try dsimp only at hSw); go_simp; try with_reducible rfl
    try simp only [Act.put, List.setIfInBounds_toArray, List.set_cons_zero, List.set_cons_succ]
    refine Ro.take_on (i := 29) (v := ?_) rfl (by kernel_rfl) (by kernel_rfl) (by kernel_rfl) (fun _ _ _ h => h) (by rfl) (by assumption) ?_ ?_
    rotate_left
    · intro wS hSw; (try dsimp only at hSw); obtain ⟨v0, v1, v2, v3, v4, v5, v6, v7, v8, v9, v10, v11, v12, v13⟩ := (⟨(HB10.out.same hSw).cell 0, (HB10.out.same hSw).cell 1, (HB10.out.same hSw).cell 2, (HB10.out.same hSw).cell 3, (HB10.out.same hSw).cell 4, (HB10.out.same hSw).cell 5, (HB10.out.same hSw).cell 6, (HB10.out.same hSw).cell 7, (HB10.out.same hSw).cell 8, (HB10.out.same hSw).cell 9, (HB10.out.same hSw).cell 10, (HB10.out.same hSw).cell 11, (HB10.out.same hSw).cell 12, (HB10.out.same hSw).cell 13⟩ : _ ∧ _ ∧ _ ∧ _ ∧ _ ∧ _ ∧ _ ∧ _ ∧ _ ∧ _ ∧ _ ∧ _ ∧ _ ∧ _); simp only [List.getElem?_toArray, List.getElem?_cons_zero, List.getElem?_cons_succ] at v0 v1 v2 v3 v4 v5 v6 v7 v8 v9 v10 v11 v12 v13; go_simp; try with_reducible rfl
    try simp only [Act.put, List.setIfInBounds_toArray, List.set_cons_zero, List.set_cons_succ]
    refine Ro.take_on (i := 30) (v := ?_) rfl (by kernel_rfl) (by kernel_rfl) (by kernel_rfl) (fun _ _ _ h => h) (by rfl) (by assumption) ?_ ?_
    rotate_left
    · intro wS hSw; (try dsimp only at hSw); go_simp; try with_reducible rfl
    try simp only [Act.put, List.setIfInBounds_toArray, List.set_cons_zero, List.set_cons_succ]
    refine Ro.take_on (i := 31) (v := ?_) rfl (by kernel_rfl) (by kernel_rfl) (by kernel_rfl) (fun _ _ _ h => h) (by rfl) (by assumption) ?_ ?_
    rotate_left
    · intro wS hSw; (try dsimp only at hSw); obtain ⟨v0, v1, v2, v3, v4, v5, v6, v7, v8, v9, v10, v11, v12, v13⟩ := (⟨(HB10.out.same hSw).cell 0, (HB10.out.same hSw).cell 1, (HB10.out.same hSw).cell 2, (HB10.out.same hSw).cell 3, (HB10.out.same hSw).cell 4, (HB10.out.same hSw).cell 5, (HB10.out.same hSw).cell 6, (HB10.out.same hSw).cell 7, (HB10.out.same hSw).cell 8, (HB10.out.same hSw).cell 9, (HB10.out.same hSw).cell 10, (HB10.out.same hSw).cell 11, (HB10.out.same hSw).cell 12, (HB10.out.same hSw).cell 13⟩ : _ ∧ _ ∧ _ ∧ _ ∧ _ ∧ _ ∧ _ ∧ _ ∧ _ ∧ _ ∧ _ ∧ _ ∧ _ ∧ _); simp only [List.getElem?_toArray, List.getElem?_cons_zero, List.getElem?_cons_succ] at v0 v1 v2 v3 v4 v5 v6 v7 v8 v9 v10 v11 v12 v13; go_simp; try with_reducible rfl
    try simp only [Act.put, List.setIfInBounds_toArray, List.set_cons_zero, List.set_cons_succ]
    refine Ro.one_on (i := 27) rfl (by kernel_rfl) (by rfl) (fun K hK => ?_)
    go_simp
    go_at_call 36
    refine (FRr.out _ hHeld).mono ?_
    rintro e wN ⟨rfl, sN⟩
    refine hK.out _ _ ?_ (fun hNew => ?_)
    · exact hHeld.trans sN
    clear hK K hHeld; have hHeld := hNew; clear hNew
    try simp only [Act.put, List.setIfInBounds_toArray, List.set_cons_zero, List.set_cons_succ]
    refine Ro.one_on (i := 32) rfl (by kernel_rfl) (by rfl) (fun K hK => ?_)
    go_simp
    go_at_call 37
    refine (RRr.out _ hHeld).mono ?_
    rintro e wN ⟨rfl, sN⟩
    refine hK.out _ _ ?_ (fun hNew => ?_)
    · exact hHeld.trans sN
    clear hK K hHeld; have hHeld := hNew; clear hNew
    try simp only [Act.put, List.setIfInBounds_toArray, List.set_cons_zero, List.set_cons_succ]
    refine Ro.take_on (i := 33) (v := ?_) rfl (by kernel_rfl) (by kernel_rfl) (by kernel_rfl) (fun _ _ _ h => h) (by rfl) (by assumption) ?_ ?_
    rotate_left
    · intro wS hSw; (try dsimp only at hSw); go_simp; try with_reducible rfl
    try simp only [Act.put, List.setIfInBounds_toArray, List.set_cons_zero, List.set_cons_succ]
    refine Ro.take_on (i := 34) (v := ?_) rfl (by kernel_rfl) (by kernel_rfl) (by kernel_rfl) (fun _ _ _ h => h) (by rfl) (by assumption) ?_ ?_
    rotate_left
    · intro wS hSw; (try dsimp only at hSw); go_simp; try with_reducible rfl
    try simp only [Act.put, List.setIfInBounds_toArray, List.set_cons_zero, List.set_cons_succ]
    refine wpAnyH_done (by kernel_rfl) ?_ _
    go_wp2_with fail
    have HSZ := Lib.hid hHeld
    clear hHeld
    generalize hwz : wN = wZ at *
    clear hwz
    refine wp_region_held_drew (S := fun w' => Same w10 w') (by kernel_rfl) ?_ (fun hHeld => ?_)
    · exact HSZ.out.drew
    refine Ro.take_on (i := 0) (v := ?_) rfl (by kernel_rfl) (by kernel_rfl) (by kernel_rfl) (fun _ _ _ h => h) (by rfl) (by assumption) ?_ ?_
    rotate_left
    · intro wS hSw; (try dsimp only at hSw); go_simp; try with_reducible rfl
    try simp only [Act.put, List.setIfInBounds_toArray, List.set_cons_zero, List.set_cons_succ]
    refine Ro.take_on (i := 2) (v := ?_) rfl (by kernel_rfl) (by kernel_rfl) (by kernel_rfl) (fun _ _ _ h => h) (by rfl) (by assumption) ?_ ?_
    rotate_left
    · intro wS hSw; (try dsimp only at hSw); go_simp; try with_reducible rfl
    try simp only [Act.put, List.setIfInBounds_toArray, List.set_cons_zero, List.set_cons_succ]
    refine Ro.one_on (i := 1) rfl (by kernel_rfl) (by rfl) (fun K hK => ?_)
    go_simp
    go_at_call 38
    refine (WD.out _ hHeld).mono ?_
    rintro e wN ⟨gq, cq, rfl, sN, hoN⟩
    have WE := Lib.hid (fun (w' : World) (hs : Same wN w') (hs2 : Same w10 w') => Mm.words_eq (some ⟨gq, 0, none⟩) C (cst s'.ws).length nL cq dC (cst s'.ws) (cst s'.ws) w' rfl HWN.out (hoN.row.same hs) (HC10.out.row.same hs2) (by have := HM10.out.short; omega) (by omega))
    clear hoN
    refine hK.out _ _ ?_ (fun hNew => ?_)
    · exact hHeld.trans sN
    clear hK K hHeld; have hHeld := hNew; clear hNew
    try simp only [Act.put, List.setIfInBounds_toArray, List.set_cons_zero, List.set_cons_succ]
    refine Ro.one_on (i := 3) rfl (by kernel_rfl) (by rfl) (fun K hK => ?_)
    go_simp
    go_at_call 13
    refine (WE.out _ (Same.refl _) hHeld).mono ?_
    rintro e wM ⟨rfl, kq, rfl⟩
    rw [decide_eq_true (rfl : cst s'.ws = cst s'.ws)]
    refine hK.out _ _ ?_ (fun hNew => ?_)
    · exact hHeld.drewN _
    clear hK K hHeld; have hHeld := hNew; clear hNew
    try simp only [Act.put, List.setIfInBounds_toArray, List.set_cons_zero, List.set_cons_succ]
    refine Ro.take_on (i := 4) (v := ?_) rfl (by kernel_rfl) (by kernel_rfl) (by kernel_rfl) (fun _ _ _ h => h) (by rfl) (by assumption) ?_ ?_
    rotate_left
    · intro wS hSw; (try dsimp only at hSw); go_simp; try with_reducible rfl
    try simp only [Act.put, List.setIfInBounds_toArray, List.set_cons_zero, List.set_cons_succ]
    refine Ro.take_on (i := 5) (v := ?_) rfl (by kernel_rfl) (by kernel_rfl) (by kernel_rfl) (fun _ _ _ h => h) (by rfl) (by assumption) ?_ ?_
    rotate_left
    · intro wS hSw; (try dsimp only at hSw); go_simp; try with_reducible rfl
    try simp only [Act.put, List.setIfInBounds_toArray, List.set_cons_zero, List.set_cons_succ]
    refine Ro.take_on (i := 6) (v := ?_) rfl (by kernel_rfl) (by kernel_rfl) (by kernel_rfl) (fun _ _ _ h => h) (by rfl) (by assumption) ?_ ?_
    rotate_left
    · intro wS hSw; (try dsimp only at hSw); obtain ⟨v0, v1, v2, v3, v4, v5, v6, v7, v8, v9, v10, v11, v12, v13⟩ := (⟨(HB10.out.same hSw).cell 0, (HB10.out.same hSw).cell 1, (HB10.out.same hSw).cell 2, (HB10.out.same hSw).cell 3, (HB10.out.same hSw).cell 4, (HB10.out.same hSw).cell 5, (HB10.out.same hSw).cell 6, (HB10.out.same hSw).cell 7, (HB10.out.same hSw).cell 8, (HB10.out.same hSw).cell 9, (HB10.out.same hSw).cell 10, (HB10.out.same hSw).cell 11, (HB10.out.same hSw).cell 12, (HB10.out.same hSw).cell 13⟩ : _ ∧ _ ∧ _ ∧ _ ∧ _ ∧ _ ∧ _ ∧ _ ∧ _ ∧ _ ∧ _ ∧ _ ∧ _ ∧ _); simp only [List.getElem?_toArray, List.getElem?_cons_zero, List.getElem?_cons_succ] at v0 v1 v2 v3 v4 v5 v6 v7 v8 v9 v10 v11 v12 v13; go_simp; try with_reducible rfl
    try simp only [Act.put, List.setIfInBounds_toArray, List.set_cons_zero, List.set_cons_succ]
    refine Ro.take_on (i := 8) (v := ?_) rfl (by kernel_rfl) (by kernel_rfl) (by kernel_rfl) (fun _ _ _ h => h) (by rfl) (by assumption) ?_ ?_
    rotate_left
    · intro wS hSw; (try dsimp only at hSw); go_simp; try with_reducible rfl
    try simp only [Act.put, List.setIfInBounds_toArray, List.set_cons_zero, List.set_cons_succ]
    refine Ro.take_on (i := 9) (v := ?_) rfl (by kernel_rfl) (by kernel_rfl) (by kernel_rfl) (fun _ _ _ h => h) (by rfl) (by assumption) ?_ ?_
    rotate_left
    · intro wS hSw; (try dsimp only at hSw); obtain ⟨v0, v1, v2, v3, v4, v5, v6, v7, v8, v9, v10, v11, v12, v13⟩ := (⟨(HB10.out.same hSw).cell 0, (HB10.out.same hSw).cell 1, (HB10.out.same hSw).cell 2, (HB10.out.same hSw).cell 3, (HB10.out.same hSw).cell 4, (HB10.out.same hSw).cell 5, (HB10.out.same hSw).cell 6, (HB10.out.same hSw).cell 7, (HB10.out.same hSw).cell 8, (HB10.out.same hSw).cell 9, (HB10.out.same hSw).cell 10, (HB10.out.same hSw).cell 11, (HB10.out.same hSw).cell 12, (HB10.out.same hSw).cell 13⟩ : _ ∧ _ ∧ _ ∧ _ ∧ _ ∧ _ ∧ _ ∧ _ ∧ _ ∧ _ ∧ _ ∧ _ ∧ _ ∧ _); simp only [List.getElem?_toArray, List.getElem?_cons_zero, List.getElem?_cons_succ] at v0 v1 v2 v3 v4 v5 v6 v7 v8 v9 v10 v11 v12 v13; go_simp; try with_reducible rfl
    try simp only [Act.put, List.setIfInBounds_toArray, List.set_cons_zero, List.set_cons_succ]
    refine Ro.take_on (i := 10) (v := ?_) rfl (by kernel_rfl) (by kernel_rfl) (by kernel_rfl) (fun _ _ _ h => h) (by rfl) (by assumption) ?_ ?_
    rotate_left
    · intro wS hSw; (try dsimp only at hSw); go_simp; try with_reducible rfl
    try simp only [Act.put, List.setIfInBounds_toArray, List.set_cons_zero, List.set_cons_succ]
    obtain ⟨wM, hwM⟩ : ∃ wM, wM = wN.drewN kq := ⟨_, rfl⟩
    rw [← hwM]
    rw [← hwM] at hHeld
    clear hwM sN WE
    refine Ra.two_on (i := 7) (j := 11) rfl rfl (by kernel_rfl) (by rfl) (by rfl) (fun K hK => ?_) (fun K hK => ?_)
    · go_simp
      go_at_call 39
      refine (fstart_any A m cA wM (by omega)).mono ?_
      rintro e wO ⟨TS, rfl, hoS, sO⟩
      refine hK.out _ _ ?_ (fun hNew => ?_)
      · exact hHeld.trans sO
      clear hK K hHeld; have hHeld := hNew; clear hNew
      try simp only [Act.put, List.setIfInBounds_toArray, List.set_cons_zero, List.set_cons_succ]
      have hmk := imake_any m (by omega) wO
      refine Ro.one_on (i := 11) rfl (by kernel_rfl) (by rfl) (fun K hK => ?_)
      go_simp
      refine hK.out _ _ ?_ (fun hNew => ?_)
      · exact hHeld.alloc _
      clear hK K hHeld; have hHeld := hNew; clear hNew
      try simp only [Act.put, List.setIfInBounds_toArray, List.set_cons_zero, List.set_cons_succ]
      obtain ⟨wP, hwP⟩ : ∃ wP, wP = wO.alloc (.cells (izeros m) 3) := ⟨_, rfl⟩
      obtain ⟨TV, hTV⟩ : ∃ TV : Option Addr, TV = some ⟨wO.heap.size, 0, none⟩ := ⟨_, rfl⟩
      have HSA := Lib.hid (show Own wP _ 3 TS m ((startF m).tn.map (Value.int .i64)) from hwP ▸ hoS.same ((Same.refl wO).alloc _))
      have HSV := Lib.hid (show Own wP _ 3 TV m ((startF m).tn.map (Value.int .i64)) by rw [hwP, hTV]; exact iown_zeros m (by omega) wO)
      rw [← hwP, ← hTV]
      rw [← hwP] at hHeld
      clear hwP hTV hmk hoS sO
      have SS3 := Lib.hid (fun (w' : World) (hs : Same wP w') => rsame_yes (startF m) TS TV m m m w' (HSA.out.row.same hs) (HSV.out.row.same hs) (by show (List.replicate m (0 : Int)).length = m; simp) (by omega))
      refine Ro.take_on (i := 12) (v := ?_) rfl (by kernel_rfl) (by kernel_rfl) (by kernel_rfl) (fun _ _ _ h => h) (by rfl) (by assumption) ?_ ?_
      rotate_left
      · intro wS hSw; (try dsimp only at hSw); go_simp; try with_reducible rfl
      try simp only [Act.put, List.setIfInBounds_toArray, List.set_cons_zero, List.set_cons_succ]
      refine Ro.one_on (i := 13) rfl (by kernel_rfl) (by rfl) (fun K hK => ?_)
      go_simp
      go_at_call 34
      refine (SS3.out _ (Same.refl _)).mono ?_
      rintro e wR ⟨rfl, sR⟩
      refine hK.out _ _ ?_ (fun hNew => ?_)
      · exact hHeld.trans sR
      clear hK K hHeld; have hHeld := hNew; clear hNew
      try simp only [Act.put, List.setIfInBounds_toArray, List.set_cons_zero, List.set_cons_succ]
      refine Ro.take_on (i := 14) (v := ?_) rfl (by kernel_rfl) (by kernel_rfl) (by kernel_rfl) (fun _ _ _ h => h) (by rfl) (by assumption) ?_ ?_
      rotate_left
      · intro wS hSw; (try dsimp only at hSw); go_simp; try with_reducible rfl
      try simp only [Act.put, List.setIfInBounds_toArray, List.set_cons_zero, List.set_cons_succ]
      refine Ro.take_on (i := 15) (v := ?_) rfl (by kernel_rfl) (by kernel_rfl) (by kernel_rfl) (fun _ _ _ h => h) (by rfl) (by assumption) ?_ ?_
      rotate_left
      · intro wS hSw; (try dsimp only at hSw); go_simp; try with_reducible rfl
      try simp only [Act.put, List.setIfInBounds_toArray, List.set_cons_zero, List.set_cons_succ]
      refine Ro.one_on (i := 16) rfl (by kernel_rfl) (by rfl) (fun K hK => ?_)
      go_simp
      go_at_call 29
      refine (AWK.out _ hHeld).mono ?_
      rintro e wS ⟨rfl, sS⟩
      refine hK.out _ _ ?_ (fun hNew => ?_)
      · exact hHeld.trans sS
      clear hK K hHeld; have hHeld := hNew; clear hNew
      try simp only [Act.put, List.setIfInBounds_toArray, List.set_cons_zero, List.set_cons_succ]
      refine Ro.take_on (i := 17) (v := ?_) rfl (by kernel_rfl) (by kernel_rfl) (by kernel_rfl) (fun _ _ _ h => h) (by rfl) (by assumption) ?_ ?_
      rotate_left
      · intro wS hSw; (try dsimp only at hSw); go_simp; try with_reducible rfl
      try simp only [Act.put, List.setIfInBounds_toArray, List.set_cons_zero, List.set_cons_succ]
      refine Ro.take_on (i := 18) (v := ?_) rfl (by kernel_rfl) (by kernel_rfl) (by kernel_rfl) (fun _ _ _ h => h) (by rfl) (by assumption) ?_ ?_
      rotate_left
      · intro wS hSw; (try dsimp only at hSw); go_simp; try with_reducible rfl
      try simp only [Act.put, List.setIfInBounds_toArray, List.set_cons_zero, List.set_cons_succ]
      refine wpAnyH_done (by kernel_rfl) ?_ _
      go_wp2_with fail
      go_ret
      exact ⟨rfl, HS10.out.trans hHeld⟩
    · have hmk := imake_any m (by omega) wM
      go_simp
      refine hK.out _ _ ?_ (fun hNew => ?_)
      · exact hHeld.alloc _
      clear hK K hHeld; have hHeld := hNew; clear hNew
      try simp only [Act.put, List.setIfInBounds_toArray, List.set_cons_zero, List.set_cons_succ]
      obtain ⟨wO, hwO⟩ : ∃ wO, wO = wM.alloc (.cells (izeros m) 3) := ⟨_, rfl⟩
      obtain ⟨TV, hTV⟩ : ∃ TV : Option Addr, TV = some ⟨wM.heap.size, 0, none⟩ := ⟨_, rfl⟩
      have HSV0 := Lib.hid (show Own wO _ 3 TV m ((startF m).tn.map (Value.int .i64)) by rw [hwO, hTV]; exact iown_zeros m (by omega) wM)
      rw [← hwO, ← hTV]
      rw [← hwO] at hHeld
      clear hwO hTV hmk
      refine Ro.take_on (i := 12) (v := ?_) rfl (by kernel_rfl) (by kernel_rfl) (by kernel_rfl) (fun _ _ _ h => h) (by rfl) (by assumption) ?_ ?_
      rotate_left
      · intro wS hSw; (try dsimp only at hSw); go_simp; try with_reducible rfl
      try simp only [Act.put, List.setIfInBounds_toArray, List.set_cons_zero, List.set_cons_succ]
      refine Ro.one_on (i := 7) rfl (by kernel_rfl) (by rfl) (fun K hK => ?_)
      go_simp
      go_at_call 39
      refine (fstart_any A m cA wO (by omega)).mono ?_
      rintro e wP ⟨TS, rfl, hoS, sO⟩
      have HSA := Lib.hid hoS
      have HSV := Lib.hid (HSV0.out.same sO)
      clear hoS
      refine hK.out _ _ ?_ (fun hNew => ?_)
      · exact hHeld.trans sO
      clear hK K hHeld; have hHeld := hNew; clear hNew
      try simp only [Act.put, List.setIfInBounds_toArray, List.set_cons_zero, List.set_cons_succ]
      have SS3 := Lib.hid (fun (w' : World) (hs : Same wP w') => rsame_yes (startF m) TS TV m m m w' (HSA.out.row.same hs) (HSV.out.row.same hs) (by show (List.replicate m (0 : Int)).length = m; simp) (by omega))
      refine Ro.one_on (i := 13) rfl (by kernel_rfl) (by rfl) (fun K hK => ?_)
      go_simp
      go_at_call 34
      refine (SS3.out _ (Same.refl _)).mono ?_
      rintro e wR ⟨rfl, sR⟩
      refine hK.out _ _ ?_ (fun hNew => ?_)
      · exact hHeld.trans sR
      clear hK K hHeld; have hHeld := hNew; clear hNew
      try simp only [Act.put, List.setIfInBounds_toArray, List.set_cons_zero, List.set_cons_succ]
      refine Ro.take_on (i := 14) (v := ?_) rfl (by kernel_rfl) (by kernel_rfl) (by kernel_rfl) (fun _ _ _ h => h) (by rfl) (by assumption) ?_ ?_
      rotate_left
      · intro wS hSw; (try dsimp only at hSw); go_simp; try with_reducible rfl
      try simp only [Act.put, List.setIfInBounds_toArray, List.set_cons_zero, List.set_cons_succ]
      refine Ro.take_on (i := 15) (v := ?_) rfl (by kernel_rfl) (by kernel_rfl) (by kernel_rfl) (fun _ _ _ h => h) (by rfl) (by assumption) ?_ ?_
      rotate_left
      · intro wS hSw; (try dsimp only at hSw); go_simp; try with_reducible rfl
      try simp only [Act.put, List.setIfInBounds_toArray, List.set_cons_zero, List.set_cons_succ]
      refine Ro.one_on (i := 16) rfl (by kernel_rfl) (by rfl) (fun K hK => ?_)
      go_simp
      go_at_call 29
      refine (AWK.out _ hHeld).mono ?_
      rintro e wS ⟨rfl, sS⟩
      refine hK.out _ _ ?_ (fun hNew => ?_)
      · exact hHeld.trans sS
      clear hK K hHeld; have hHeld := hNew; clear hNew
      try simp only [Act.put, List.setIfInBounds_toArray, List.set_cons_zero, List.set_cons_succ]
      refine Ro.take_on (i := 17) (v := ?_) rfl (by kernel_rfl) (by kernel_rfl) (by kernel_rfl) (fun _ _ _ h => h) (by rfl) (by assumption) ?_ ?_
      rotate_left
      · intro wS hSw; (try dsimp only at hSw); go_simp; try with_reducible rfl
      try simp only [Act.put, List.setIfInBounds_toArray, List.set_cons_zero, List.set_cons_succ]
      refine Ro.take_on (i := 18) (v := ?_) rfl (by kernel_rfl) (by kernel_rfl) (by kernel_rfl) (fun _ _ _ h => h) (by rfl) (by assumption) ?_ ?_
      rotate_left
      · intro wS hSw; (try dsimp only at hSw); go_simp; try with_reducible rfl
      try simp only [Act.put, List.setIfInBounds_toArray, List.set_cons_zero, List.set_cons_succ]
      refine wpAnyH_done (by kernel_rfl) ?_ _
      go_wp2_with fail
      go_ret
      exact ⟨rfl, HS10.out.trans hHeld⟩
end Go.Proofs.YtgimelpjklnjmaaDoor.Fr
