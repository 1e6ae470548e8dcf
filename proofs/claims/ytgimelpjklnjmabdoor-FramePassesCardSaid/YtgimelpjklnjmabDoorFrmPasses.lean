/-

  The law FramePasses.
-/
import Derived.Test.YtgimelpjklnjmabDoorFrmCase
import Derived.Test.YtgimelpjklnjmabDoorFrmPass
import Derived.Test.YtgimelpjklnjmabDoorFrmRef
set_option linter.unusedVariables false
set_option linter.unusedSimpArgs false
namespace Go.Proofs.YtgimelpjklnjmabDoor.Fr
open Go.ChangeShapes Go.WideShapes Go.ChangeAt Go.RowKit Ws
open Go.Proofs.YtgimelpjklnjmabDoor.Fp (Ins at_ Fine at_some)
open Go.Proofs.YtgimelpjklnjmabDoor.Fw (Prg okB ckE check_any okB_fine rightI)
open Go.Proofs.YtgimelpjklnjmabDoor.Is (Tabs)

theorem callV_no {x : Ins} (h : callB x = false) : Is.callV x.op = 0 := by
  unfold callB at h
  unfold Is.callV
  rw [if_neg (of_decide_eq_false h)]
theorem callV_yes {x : Ins} (h : callB x = true) : (Is.callV x.op == 0) = false := by
  have h2 := of_decide_eq_true h
  unfold Is.callV
  rw [if_pos h2]
  simp
  omega
theorem frm_rg {w : World} {bf : Nat} {f : FS} {T : Option Addr} {n c : Nat} {t : TypeId} (h : Blk w bf t #[.int .i64 f.pc, .int .u32 (rk f 0), .int .u32 (rk f 1), .int .u32 (rk f 2), .int .u32 (rk f 3), .int .u32 (rk f 4), .int .u32 (rk f 5), .int .u32 (rk f 6), .int .u32 (rk f 7), .slice T n c]) {k : Nat} (hk : k < 8) : w.cell? ⟨bf, 1 + k, none⟩ = some (.int .u32 (rk f k)) := by
  have h2 := h.cell (1 + k)
  rw [h2]
  rcases (show k = 0 ∨ k = 1 ∨ k = 2 ∨ k = 3 ∨ k = 4 ∨ k = 5 ∨ k = 6 ∨ k = 7 by omega) with rfl | rfl | rfl | rfl | rfl | rfl | rfl | rfl <;> rfl
theorem frm_st {w : World} {bf : Nat} {f : FS} {T : Option Addr} {n c : Nat} {t : TypeId} (h : Blk w bf t #[.int .i64 f.pc, .int .u32 (rk f 0), .int .u32 (rk f 1), .int .u32 (rk f 2), .int .u32 (rk f 3), .int .u32 (rk f 4), .int .u32 (rk f 5), .int .u32 (rk f 6), .int .u32 (rk f 7), .slice T n c]) (h8 : f.rg.length = 8) {k : Nat} (hk : k < 8) (v : Nat) : Blk (w.setCell ⟨bf, 1 + k, none⟩ (.int .u32 (v : Int))) bf t #[.int .i64 { f with rg := f.rg.set k v }.pc, .int .u32 (rk { f with rg := f.rg.set k v } 0), .int .u32 (rk { f with rg := f.rg.set k v } 1), .int .u32 (rk { f with rg := f.rg.set k v } 2), .int .u32 (rk { f with rg := f.rg.set k v } 3), .int .u32 (rk { f with rg := f.rg.set k v } 4), .int .u32 (rk { f with rg := f.rg.set k v } 5), .int .u32 (rk { f with rg := f.rg.set k v } 6), .int .u32 (rk { f with rg := f.rg.set k v } 7), .slice T n c] := by
  have h2 := h.put (1 + k) (.int .u32 (v : Int))
  have h3 : ∀ j : Nat, rk { f with rg := f.rg.set k v } j = if j = k then (v : Int) else rk f j := fun j => by
    unfold rk
    simp only [List.getD_eq_getElem?_getD, List.getElem?_set]
    by_cases hj : j = k
    · subst hj; simp [h8, hk]
    · rw [if_neg (Ne.symm hj), if_neg hj]
  simp only [h3]
  rcases (show k = 0 ∨ k = 1 ∨ k = 2 ∨ k = 3 ∨ k = 4 ∨ k = 5 ∨ k = 6 ∨ k = 7 by omega) with rfl | rfl | rfl | rfl | rfl | rfl | rfl | rfl <;> simpa using h2
set_option maxRecDepth 100000 in
set_option maxHeartbeats 8000000 in
theorem passes_walk (f : FS) (T : Option Addr) (nT cT : Nat) (A : Option Addr) (m cA : Nat) (L : Option Addr) (nL cL : Nat) (oa ol : Int) (ws : List Nat) (p : List Ins) (code : Nat) (w : World) (hT : Row w T (f.tn.map (Value.int .i64))) (hn : f.tn.length = nT) (hp : Prg w A p) (hl : p.length = m) (h8 : f.rg.length = 8) (ht : Tabs w) :
    Calls Tryd.prog 3 #[.agg #[.int .i64 f.pc, .int .u32 (rk f 0), .int .u32 (rk f 1), .int .u32 (rk f 2), .int .u32 (rk f 3), .int .u32 (rk f 4), .int .u32 (rk f 5), .int .u32 (rk f 6), .int .u32 (rk f 7), .slice T nT cT, .slice A m cA, .slice L nL cL, .int .i64 oa, .int .i64 ol], .int .u32 (code : Int)] w fun e w' => e = .returned (.bool true) ∧ Same w w' := by
  obtain ⟨w1, hw1⟩ : ∃ w1, w1 = w.alloc (.cells #[.int .i64 f.pc, .int .u32 (rk f 0), .int .u32 (rk f 1), .int .u32 (rk f 2), .int .u32 (rk f 3), .int .u32 (rk f 4), .int .u32 (rk f 5), .int .u32 (rk f 6), .int .u32 (rk f 7), .slice T nT cT, .slice A m cA, .slice L nL cL, .int .i64 oa, .int .i64 ol] 32) := ⟨_, rfl⟩
  have hs1 : Same w w1 := hw1 ▸ (Same.refl w).alloc _
  have hb1 : Blk w1 w.heap.size 32 #[.int .i64 f.pc, .int .u32 (rk f 0), .int .u32 (rk f 1), .int .u32 (rk f 2), .int .u32 (rk f 3), .int .u32 (rk f 4), .int .u32 (rk f 5), .int .u32 (rk f 6), .int .u32 (rk f 7), .slice T nT cT, .slice A m cA, .slice L nL cL, .int .i64 oa, .int .i64 ol] := hw1 ▸ Blk.new w _ _
  have E1 := Lib.hid hw1
  have HS1 := Lib.hid hs1
  have HB1 := Lib.hid hb1
  have HT := Lib.hid hT
  have HN := Lib.hid hn
  have HP := Lib.hid hp
  have HL := Lib.hid hl
  have H8 := Lib.hid h8
  have HTB := Lib.hid ht
  obtain ⟨z0, z1, z2, z3, z4, z5, z6, z7, z8, z9, z10, z11, z12, z13⟩ := (⟨hb1.cell 0, hb1.cell 1, hb1.cell 2, hb1.cell 3, hb1.cell 4, hb1.cell 5, hb1.cell 6, hb1.cell 7, hb1.cell 8, hb1.cell 9, hb1.cell 10, hb1.cell 11, hb1.cell 12, hb1.cell 13⟩ : _ ∧ _ ∧ _ ∧ _ ∧ _ ∧ _ ∧ _ ∧ _ ∧ _ ∧ _ ∧ _ ∧ _ ∧ _ ∧ _)
  simp only [List.getElem?_toArray, List.getElem?_cons_zero, List.getElem?_cons_succ] at z0 z1 z2 z3 z4 z5 z6 z7 z8 z9 z10 z11 z12 z13
  clear hw1 hs1 hb1 hT hn hp hl h8 ht
  go_enter Tryd.func3, Tryd.ntmps3
  go_wp2_with fail
  rw [← E1.out]
  clear E1
  refine (light_any f T nT cT A m cA L nL cL oa ol w1).mono ?_
  rintro e w2 ⟨rfl, s2⟩
  cases hlb : lightB m nL nT with
  | false =>
    have AW := Lib.hid (awake13 w2 (HTB.out.same (HS1.out.trans s2)))
    have HS2 := Lib.hid (HS1.out.trans s2)
    clear hlb s2
    go_wp2_with fail
    refine AW.out.mono ?_
    rintro e w3 ⟨rfl, s3⟩
    go_wp2_with fail
    go_ret
    exact ⟨rfl, HS2.out.trans s3⟩
  | true =>
    have hli : (m : Int) ≤ 200 ∧ (nL : Int) ≤ 300 ∧ (nT : Int) ≤ 200 := of_decide_eq_true hlb
    obtain ⟨hm2, hl2, ht2⟩ := hli
    have HS2 := Lib.hid (HS1.out.trans s2)
    have HB2 := Lib.hid (HB1.out.same s2)
    clear hlb s2 z0 z1 z2 z3 z4 z5 z6 z7 z8 z9 z10 z11 z12 z13 HB1
    obtain ⟨z0, z1, z2, z3, z4, z5, z6, z7, z8, z9, z10, z11, z12, z13⟩ := (⟨HB2.out.cell 0, HB2.out.cell 1, HB2.out.cell 2, HB2.out.cell 3, HB2.out.cell 4, HB2.out.cell 5, HB2.out.cell 6, HB2.out.cell 7, HB2.out.cell 8, HB2.out.cell 9, HB2.out.cell 10, HB2.out.cell 11, HB2.out.cell 12, HB2.out.cell 13⟩ : _ ∧ _ ∧ _ ∧ _ ∧ _ ∧ _ ∧ _ ∧ _ ∧ _ ∧ _ ∧ _ ∧ _ ∧ _ ∧ _)
    simp only [List.getElem?_toArray, List.getElem?_cons_zero, List.getElem?_cons_succ] at z0 z1 z2 z3 z4 z5 z6 z7 z8 z9 z10 z11 z12 z13
    go_wp2_with fail
    refine (pass_any f T nT cT A m cA p code w2 (HT.out.same HS2.out) HN.out (by omega) (HP.out.same HS2.out) (HTB.out.same HS2.out) HL.out (by omega) H8.out).mono ?_
    rintro e w3 ⟨T', c', rfl, ho, s3⟩
    obtain ⟨⟨g, ok⟩, hr⟩ : ∃ r, r = passR p f code := ⟨_, rfl⟩
    rw [← hr] at ho ⊢
    simp only
    simp only at ho
    have HR := Lib.hid hr
    obtain ⟨w4, hw4⟩ : ∃ w4, w4 = w3.alloc (.cells #[.int .i64 g.pc, .int .u32 (rk g 0), .int .u32 (rk g 1), .int .u32 (rk g 2), .int .u32 (rk g 3), .int .u32 (rk g 4), .int .u32 (rk g 5), .int .u32 (rk g 6), .int .u32 (rk g 7), .slice T' nT c'] 26) := ⟨_, rfl⟩
    have hs4 : Same w3 w4 := hw4 ▸ (Same.refl w3).alloc _
    have E4 := Lib.hid hw4
    have HQ4 := Lib.hid (show Blk w4 w3.heap.size 26 #[.int .i64 g.pc, .int .u32 (rk g 0), .int .u32 (rk g 1), .int .u32 (rk g 2), .int .u32 (rk g 3), .int .u32 (rk g 4), .int .u32 (rk g 5), .int .u32 (rk g 6), .int .u32 (rk g 7), .slice T' nT c'] from hw4 ▸ Blk.new w3 _ _)
    have HO4 := Lib.hid (ho.same hs4)
    have HS4 := Lib.hid ((HS2.out.trans s3).trans hs4)
    have HB4 := Lib.hid (HB2.out.same (s3.trans hs4))
    clear hr ho s3 hs4 hw4 z0 z1 z2 z3 z4 z5 z6 z7 z8 z9 z10 z11 z12 z13 HB2
    go_upto_region 4 with fail
    rw [← E4.out]
    clear E4
    generalize w3.heap.size = q4 at *
    have HLQ := Lib.hid (show w.heap.size < w4.heap.size from HB4.out.lt)
    obtain ⟨z0, z1, z2, z3, z4, z5, z6, z7, z8, z9, z10, z11, z12, z13⟩ := (⟨HB4.out.cell 0, HB4.out.cell 1, HB4.out.cell 2, HB4.out.cell 3, HB4.out.cell 4, HB4.out.cell 5, HB4.out.cell 6, HB4.out.cell 7, HB4.out.cell 8, HB4.out.cell 9, HB4.out.cell 10, HB4.out.cell 11, HB4.out.cell 12, HB4.out.cell 13⟩ : _ ∧ _ ∧ _ ∧ _ ∧ _ ∧ _ ∧ _ ∧ _ ∧ _ ∧ _ ∧ _ ∧ _ ∧ _ ∧ _)
    simp only [List.getElem?_toArray, List.getElem?_cons_zero, List.getElem?_cons_succ] at z0 z1 z2 z3 z4 z5 z6 z7 z8 z9 z10 z11 z12 z13
    have RR := Lib.hid (rright_any f T nT cT A m cA p w4 HL.out (by omega) (HP.out.same HS4.out) (HT.out.same HS4.out) HN.out (by omega))
    have HPR := Lib.hid (show passR p f code = if (rightF (okB p) p f && callB (curI p f)) = true then (⟨f.pc + 1, f.rg.set (curI p f).a.toNat code, f.tn⟩, true) else (f, false) from rfl)
    cases hr : rightF (okB p) p f with
    | false =>
      have HE : (g, ok) = (f, false) := by rw [HR.out, HPR.out, hr]; rfl
      injection HE with e1 e2
      subst e1 e2
      rw [hr] at RR
      clear hr HPR HR
      go_wp2_with fail
      refine RR.out.mono ?_
      rintro e w5 ⟨rfl, s5⟩
      have HS5 := Lib.hid (HS4.out.trans s5)
      have HQ5 := Lib.hid (HQ4.out.same s5)
      have HB5 := Lib.hid (HB4.out.same s5)
      have HO5 := Lib.hid (HO4.out.same s5)
      clear s5 z0 z1 z2 z3 z4 z5 z6 z7 z8 z9 z10 z11 z12 z13
      obtain ⟨y0, y1, y2, y3, y4, y5, y6, y7, y8, y9⟩ := (⟨HQ5.out.cell 0, HQ5.out.cell 1, HQ5.out.cell 2, HQ5.out.cell 3, HQ5.out.cell 4, HQ5.out.cell 5, HQ5.out.cell 6, HQ5.out.cell 7, HQ5.out.cell 8, HQ5.out.cell 9⟩ : _ ∧ _ ∧ _ ∧ _ ∧ _ ∧ _ ∧ _ ∧ _ ∧ _ ∧ _)
      simp only [List.getElem?_toArray, List.getElem?_cons_zero, List.getElem?_cons_succ] at y0 y1 y2 y3 y4 y5 y6 y7 y8 y9
      obtain ⟨z0, z1, z2, z3, z4, z5, z6, z7, z8, z9, z10, z11, z12, z13⟩ := (⟨HB5.out.cell 0, HB5.out.cell 1, HB5.out.cell 2, HB5.out.cell 3, HB5.out.cell 4, HB5.out.cell 5, HB5.out.cell 6, HB5.out.cell 7, HB5.out.cell 8, HB5.out.cell 9, HB5.out.cell 10, HB5.out.cell 11, HB5.out.cell 12, HB5.out.cell 13⟩ : _ ∧ _ ∧ _ ∧ _ ∧ _ ∧ _ ∧ _ ∧ _ ∧ _ ∧ _ ∧ _ ∧ _ ∧ _ ∧ _)
      simp only [List.getElem?_toArray, List.getElem?_cons_zero, List.getElem?_cons_succ] at z0 z1 z2 z3 z4 z5 z6 z7 z8 z9 z10 z11 z12 z13
      go_wp2_with fail
      refine (rsame_yes g T' T nT c' cT _ HO5.out.row (HT.out.same HS5.out) HN.out (by omega)).mono ?_
      rintro e w7 ⟨rfl, s7⟩
      have HS7 := Lib.hid (HS5.out.trans s7)
      have AW := Lib.hid (awake13 w7 (HTB.out.same HS7.out))
      clear s7
      go_wp2_with fail
      refine AW.out.mono ?_
      rintro e w8 ⟨rfl, s8⟩
      go_wp2_with fail
      go_ret
      exact ⟨rfl, HS7.out.trans s8⟩
    | true =>
      obtain ⟨_, ⟨p0, p1, p2⟩, _⟩ := right_iff.1 hr
      obtain ⟨k, hkk⟩ : ∃ k : Nat, f.pc = (k : Int) := ⟨f.pc.toNat, by omega⟩
      have hkp : k < p.length := by omega
      have hkm : k < m := by have := HL.out; omega
      have hcur : curI p f = at_ p k := by unfold curI; rw [hkk, Int.toNat_natCast]
      have hrx : rightI (at_ p k) = true := (okB_fine (right_iff.1 hr).1).right k hkp
      have HRO := Lib.hid (regs_ok hrx)
      rw [hr] at RR
      have HRT := Lib.hid hr
      have HKK := Lib.hid hkk
      have HCUR := Lib.hid hcur
      clear p0 p1 p2 hrx hr hkk hcur
      go_wp2_with fail
      refine RR.out.mono ?_
      rintro e w5 ⟨rfl, s5⟩
      have HS5 := Lib.hid (HS4.out.trans s5)
      have z0' := s5.cell z0
      have z10' := s5.cell z10
      rw [HKK.out] at z0'
      obtain ⟨hok, b, o, hA, i0, i1, i2, i3, i4⟩ := (HP.out.same HS5.out).at_ hkp
      obtain ⟨x, hx⟩ : ∃ x, x = at_ p k := ⟨_, rfl⟩
      have HX := Lib.hid hx
      rw [← hx] at i0 i1 i2 i3 i4 HRO
      subst hA
      have k0 : (0 : Int) ≤ k := by omega
      have k1 : (k : Int) < m := by omega
      have RC := Lib.hid (fun (w' : World) => Is.rcalls_any x.op w')
      clear hx hok z0 z1 z2 z3 z4 z5 z6 z7 z8 z9 z10 z11 z12 z13
      cases hc : callB x with
      | false =>
        have HE : (g, ok) = (f, false) := by rw [HR.out, HPR.out, HCUR.out, ← HX.out, hc, HRT.out]; rfl
        injection HE with e1 e2
        subst e1 e2
        rw [callV_no hc] at RC
        clear hc HPR HR
        go_wp2_with fail
        refine (RC.out _).mono ?_
        rintro e w6 ⟨rfl, rfl⟩
        clear z0' z10' i0 i1 i2 i3 i4 k0 k1
        have HQ5 := Lib.hid (HQ4.out.same s5)
        have HB5 := Lib.hid (HB4.out.same s5)
        have HO5 := Lib.hid (HO4.out.same s5)
        clear s5
        obtain ⟨y0, y1, y2, y3, y4, y5, y6, y7, y8, y9⟩ := (⟨HQ5.out.cell 0, HQ5.out.cell 1, HQ5.out.cell 2, HQ5.out.cell 3, HQ5.out.cell 4, HQ5.out.cell 5, HQ5.out.cell 6, HQ5.out.cell 7, HQ5.out.cell 8, HQ5.out.cell 9⟩ : _ ∧ _ ∧ _ ∧ _ ∧ _ ∧ _ ∧ _ ∧ _ ∧ _ ∧ _)
        simp only [List.getElem?_toArray, List.getElem?_cons_zero, List.getElem?_cons_succ] at y0 y1 y2 y3 y4 y5 y6 y7 y8 y9
        obtain ⟨z0, z1, z2, z3, z4, z5, z6, z7, z8, z9, z10, z11, z12, z13⟩ := (⟨HB5.out.cell 0, HB5.out.cell 1, HB5.out.cell 2, HB5.out.cell 3, HB5.out.cell 4, HB5.out.cell 5, HB5.out.cell 6, HB5.out.cell 7, HB5.out.cell 8, HB5.out.cell 9, HB5.out.cell 10, HB5.out.cell 11, HB5.out.cell 12, HB5.out.cell 13⟩ : _ ∧ _ ∧ _ ∧ _ ∧ _ ∧ _ ∧ _ ∧ _ ∧ _ ∧ _ ∧ _ ∧ _ ∧ _ ∧ _)
        simp only [List.getElem?_toArray, List.getElem?_cons_zero, List.getElem?_cons_succ] at z0 z1 z2 z3 z4 z5 z6 z7 z8 z9 z10 z11 z12 z13
        go_wp2_with fail
        refine (rsame_yes g T' T nT c' cT _ HO5.out.row (HT.out.same HS5.out) HN.out (by omega)).mono ?_
        rintro e w7 ⟨rfl, s7⟩
        have HS7 := Lib.hid (HS5.out.trans s7)
        have AW := Lib.hid (awake13 w7 (HTB.out.same HS7.out))
        clear s7
        go_wp2_with fail
        refine AW.out.mono ?_
        rintro e w8 ⟨rfl, s8⟩
        go_wp2_with fail
        go_ret
        exact ⟨rfl, HS7.out.trans s8⟩
      | true =>
        have hcv := callV_yes hc
        have hop : 17 ≤ x.op := (of_decide_eq_true hc).1
        have ha := HRO.out.2.2.1 (.inr hop)
        obtain ⟨ka, hka⟩ : ∃ ka : Nat, x.a = (ka : Int) := ⟨x.a.toNat, by omega⟩
        have hka8 : ka < 8 := by omega
        have HE : (g, ok) = (⟨f.pc + 1, f.rg.set ka code, f.tn⟩, true) := by rw [HR.out, HPR.out, HCUR.out, ← HX.out, hc, HRT.out, hka, Int.toNat_natCast]; rfl
        injection HE with e1 e2
        have HG := Lib.hid e1
        subst e2
        rw [hka] at i1
        clear hc HPR HR hop ha hka e1
        generalize Is.callV x.op = cv at *
        go_wp2_with fail
        refine (RC.out _).mono ?_
        rintro e w6 ⟨rfl, rfl⟩
        have HQ6 := Lib.hid (HQ4.out.same s5)
        have HB6 := Lib.hid (HB4.out.same s5)
        have HO6 := Lib.hid (HO4.out.same s5)
        clear s5 z0' z10' i0 i2 i3 i4 HQ4 HB4 HO4
        obtain ⟨z0, z1, z2, z3, z4, z5, z6, z7, z8, z9, z10, z11, z12, z13⟩ := (⟨HB6.out.cell 0, HB6.out.cell 1, HB6.out.cell 2, HB6.out.cell 3, HB6.out.cell 4, HB6.out.cell 5, HB6.out.cell 6, HB6.out.cell 7, HB6.out.cell 8, HB6.out.cell 9, HB6.out.cell 10, HB6.out.cell 11, HB6.out.cell 12, HB6.out.cell 13⟩ : _ ∧ _ ∧ _ ∧ _ ∧ _ ∧ _ ∧ _ ∧ _ ∧ _ ∧ _ ∧ _ ∧ _ ∧ _ ∧ _)
        simp only [List.getElem?_toArray, List.getElem?_cons_zero, List.getElem?_cons_succ] at z0 z1 z2 z3 z4 z5 z6 z7 z8 z9 z10 z11 z12 z13
        go_wp2_with fail
        refine (rcopy_any f T nT cT w5 (HT.out.same HS5.out) HN.out (by omega)).mono ?_
        rintro e w7 ⟨Tw, cw, rfl, how, s7⟩
        obtain ⟨w8, hw8⟩ : ∃ w8, w8 = w7.alloc (.cells #[.int .i64 f.pc, .int .u32 (rk f 0), .int .u32 (rk f 1), .int .u32 (rk f 2), .int .u32 (rk f 3), .int .u32 (rk f 4), .int .u32 (rk f 5), .int .u32 (rk f 6), .int .u32 (rk f 7), .slice Tw nT cw] 26) := ⟨_, rfl⟩
        have hs8 : Same w7 w8 := hw8 ▸ (Same.refl w7).alloc _
        have E8 := Lib.hid hw8
        have HW8 := Lib.hid (show Blk w8 w7.heap.size 26 #[.int .i64 f.pc, .int .u32 (rk f 0), .int .u32 (rk f 1), .int .u32 (rk f 2), .int .u32 (rk f 3), .int .u32 (rk f 4), .int .u32 (rk f 5), .int .u32 (rk f 6), .int .u32 (rk f 7), .slice Tw nT cw] from hw8 ▸ Blk.new w7 _ _)
        have HOW8 := Lib.hid (how.same hs8)
        have HS8 := Lib.hid (HS5.out.trans (s7.trans hs8))
        have HQ8 := Lib.hid (HQ6.out.same (s7.trans hs8))
        have HB8 := Lib.hid (HB6.out.same (s7.trans hs8))
        have HO8 := Lib.hid (HO6.out.same (s7.trans hs8))
        have HQL := Lib.hid (Nat.lt_of_lt_of_le HQ6.out.lt s7.size)
        have HBL := Lib.hid (Nat.lt_of_lt_of_le HB6.out.lt s7.size)
        have i1' := (s7.trans hs8).cell i1
        clear how s7 hs8 hw8 z0 z1 z2 z3 z4 z5 z6 z7 z8 z9 z10 z11 z12 z13 i1 HQ6 HB6 HO6
        go_upto_region 7 with fail
        rw [← E8.out]
        clear E8
        generalize w7.heap.size = q7 at *
        have z0 : w8.cell? ⟨w.heap.size, 0, none⟩ = some (.int .i64 f.pc) := HB8.out.cell 0
        have z10 : w8.cell? ⟨w.heap.size, 10, none⟩ = some (.slice (some ⟨b, o, none⟩) m cA) := HB8.out.cell 10
        rw [HKK.out] at z0
        have a0 : (0 : Int) ≤ (ka : Int) := by omega
        have a8 : (ka : Int) < 8 := by omega
        have hc1 := frm_rg HW8.out hka8
        have hf1 := HW8.out.thaw (1 + ka)
        obtain ⟨w9, hw9⟩ : ∃ w9, w9 = w8.setCell ⟨q7, 1 + ka, none⟩ (.int .u32 (code : Int)) := ⟨_, rfl⟩
        have hq9 : Chg (fun i => i = q7) w8 w9 := hw9 ▸ (Chg.refl (fun i => i = q7) w8).set (p := ⟨q7, 1 + ka, none⟩) (.inl rfl) _
        have HW9 := Lib.hid (hw9 ▸ frm_st HW8.out H8.out hka8 code)
        have HQ9 := Lib.hid (HQ8.out.chg hq9 (fun he => by have := HQL.out; omega))
        have HB9 := Lib.hid (HB8.out.chg hq9 (fun he => by have := HBL.out; omega))
        have HO9 := Lib.hid (HO8.out.chg hq9 (fun i hi he => HO8.out.ne HW8.out (by decide) i hi he))
        have HOW9 := Lib.hid (HOW8.out.chg hq9 (fun i hi he => HOW8.out.ne HW8.out (by decide) i hi he))
        have HS9 := Lib.hid (chg_nw HS8.out hq9 (by have := HBL.out; omega))
        have E9 := Lib.hid hw9
        clear hw9 hq9
        go_upto_region 8 with fail
        rw [← E9.out]
        clear E9 hc1 hf1 z0 z10 i1' a0 a8
        have x0 : w9.cell? ⟨q7, 0, none⟩ = some (.int .i64 (k : Int)) := by
          rw [← HKK.out]
          exact HW9.out.cell 0
        have fx := HW9.out.thaw 0
        have k2 : (k : Int) < 200 := by omega
        obtain ⟨wa, hwa⟩ : ∃ wa, wa = w9.setCell ⟨q7, 0, none⟩ (.int .i64 ((k : Int) + 1)) := ⟨_, rfl⟩
        have hqa : Chg (fun i => i = q7) w9 wa := hwa ▸ (Chg.refl (fun i => i = q7) w9).set (p := ⟨q7, 0, none⟩) (.inl rfl) _
        have HWA := Lib.hid (show Blk wa q7 26 #[.int .i64 g.pc, .int .u32 (rk g 0), .int .u32 (rk g 1), .int .u32 (rk g 2), .int .u32 (rk g 3), .int .u32 (rk g 4), .int .u32 (rk g 5), .int .u32 (rk g 6), .int .u32 (rk g 7), .slice Tw nT cw] by
          have h := HW9.out.put 0 (.int .i64 ((k : Int) + 1))
          rw [← hwa] at h
          rw [HG.out]
          simpa [rk, HKK.out] using h)
        have HQA := Lib.hid (HQ9.out.chg hqa (fun he => by have := HQL.out; omega))
        have HOA := Lib.hid (HO9.out.chg hqa (fun i hi he => HO9.out.ne HW9.out (by decide) i hi he))
        have HOWA := Lib.hid (show Own wa _ 3 Tw cw (g.tn.map (Value.int .i64)) by rw [HG.out]; exact HOW9.out.chg hqa (fun i hi he => HOW9.out.ne HW9.out (by decide) i hi he))
        have HSA := Lib.hid (chg_nw HS9.out hqa (by have := HBL.out; omega))
        have HGN := Lib.hid (show g.tn.length = nT by rw [HG.out]; exact HN.out)
        have EA := Lib.hid hwa
        clear hwa hqa HG
        go_upto_region 9 with fail
        rw [← EA.out]
        clear EA x0 fx
        obtain ⟨y0, y1, y2, y3, y4, y5, y6, y7, y8, y9⟩ := (⟨HQA.out.cell 0, HQA.out.cell 1, HQA.out.cell 2, HQA.out.cell 3, HQA.out.cell 4, HQA.out.cell 5, HQA.out.cell 6, HQA.out.cell 7, HQA.out.cell 8, HQA.out.cell 9⟩ : _ ∧ _ ∧ _ ∧ _ ∧ _ ∧ _ ∧ _ ∧ _ ∧ _ ∧ _)
        simp only [List.getElem?_toArray, List.getElem?_cons_zero, List.getElem?_cons_succ] at y0 y1 y2 y3 y4 y5 y6 y7 y8 y9
        obtain ⟨u0, u1, u2, u3, u4, u5, u6, u7, u8, u9⟩ := (⟨HWA.out.cell 0, HWA.out.cell 1, HWA.out.cell 2, HWA.out.cell 3, HWA.out.cell 4, HWA.out.cell 5, HWA.out.cell 6, HWA.out.cell 7, HWA.out.cell 8, HWA.out.cell 9⟩ : _ ∧ _ ∧ _ ∧ _ ∧ _ ∧ _ ∧ _ ∧ _ ∧ _ ∧ _)
        simp only [List.getElem?_toArray, List.getElem?_cons_zero, List.getElem?_cons_succ] at u0 u1 u2 u3 u4 u5 u6 u7 u8 u9
        go_wp2_with fail
        refine (rsame_yes g T' Tw nT c' cw _ HOA.out.row HOWA.out.row HGN.out (by omega)).mono ?_
        rintro e wb ⟨rfl, sb⟩
        have HSB := Lib.hid (HSA.out.trans sb)
        have AW := Lib.hid (awake13 wb (HTB.out.same HSB.out))
        clear sb
        go_wp2_with fail
        refine AW.out.mono ?_
        rintro e wc ⟨rfl, sc⟩
        go_wp2_with fail
        go_ret
        exact ⟨rfl, HSB.out.trans sc⟩

theorem passes_int (f : FS) (T : Option Addr) (nT cT : Nat) (A : Option Addr) (m cA : Nat) (L : Option Addr) (nL cL : Nat) (oa ol : Int) (ws : List Nat) (p : List Ins) (code : Int) (w : World) (hT : Row w T (f.tn.map (Value.int .i64))) (hn : f.tn.length = nT) (hp : Prg w A p) (hl : p.length = m) (h8 : f.rg.length = 8) (hc : (Lit.int .u32 code).wf = true) (ht : Tabs w) :
    Calls Tryd.prog 3 #[.agg #[.int .i64 f.pc, .int .u32 (rk f 0), .int .u32 (rk f 1), .int .u32 (rk f 2), .int .u32 (rk f 3), .int .u32 (rk f 4), .int .u32 (rk f 5), .int .u32 (rk f 6), .int .u32 (rk f 7), .slice T nT cT, .slice A m cA, .slice L nL cL, .int .i64 oa, .int .i64 ol], .int .u32 code] w fun e w' => e = .returned (.bool true) ∧ Same w w' := by
  obtain ⟨n, rfl, _⟩ := Al.nat_of hc
  exact passes_walk f T nT cT A m cA L nL cL oa ol ws p n w hT hn hp hl h8 ht
end Go.Proofs.YtgimelpjklnjmabDoor.Fr
