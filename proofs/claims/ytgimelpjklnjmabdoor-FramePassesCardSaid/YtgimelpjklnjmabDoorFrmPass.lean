/-

  Layer 13: on behind a call (frame.Pass).
-/
import Derived.Test.YtgimelpjklnjmabDoorFrmRun
import Derived.Test.YtgimelpjklnjmabDoorFrmStep
import Derived.Deep.CutBlock
set_option linter.unusedVariables false
set_option linter.unusedSimpArgs false
namespace Go.Proofs.YtgimelpjklnjmabDoor.Fr
open Go.ChangeShapes Go.WideShapes Go.ChangeAt Go.RowKit Ws
open Go.Proofs.YtgimelpjklnjmabDoor.Fp (Ins at_ Fine at_some)
open Go.Proofs.YtgimelpjklnjmabDoor.Fw (Prg okB ckE check_any okB_fine rightI)
open Go.Proofs.YtgimelpjklnjmabDoor.Is (Tabs)

def passR (p : List Ins) (f : FS) (code : Nat) : FS × Bool := if (rightF (okB p) p f && callB (curI p f)) = true then (⟨f.pc + 1, f.rg.set (curI p f).a.toNat code, f.tn⟩, true) else (f, false)
def PassP (w : World) (nT : Nat) (r : FS × Bool) (e : Ending) (w' : World) : Prop := ∃ T' c', e = .returned (.tuple #[.agg #[.int .i64 r.1.pc, .int .u32 (rk r.1 0), .int .u32 (rk r.1 1), .int .u32 (rk r.1 2), .int .u32 (rk r.1 3), .int .u32 (rk r.1 4), .int .u32 (rk r.1 5), .int .u32 (rk r.1 6), .int .u32 (rk r.1 7), .slice T' nT c'], .bool r.2]) ∧ Own w' w.heap.size 3 T' c' (r.1.tn.map (Value.int .i64)) ∧ Same w w'
set_option maxRecDepth 100000 in
set_option maxHeartbeats 8000000 in
theorem pass_any (f : FS) (T : Option Addr) (nT cT : Nat) (A : Option Addr) (m cA : Nat) (p : List Ins) (code : Nat) (w : World) (hT : Row w T (f.tn.map (Value.int .i64))) (hn : f.tn.length = nT) (hb : nT ≤ 5000) (hp : Prg w A p) (ht : Tabs w) (hl : p.length = m) (hm : m ≤ 5000) (h8 : f.rg.length = 8) :
    Calls Tryd.prog 9 #[.agg #[.int .i64 f.pc, .int .u32 (rk f 0), .int .u32 (rk f 1), .int .u32 (rk f 2), .int .u32 (rk f 3), .int .u32 (rk f 4), .int .u32 (rk f 5), .int .u32 (rk f 6), .int .u32 (rk f 7), .slice T nT cT], .slice A m cA, .int .u32 (code : Int)] w (PassP w nT (passR p f code)) := by
  obtain ⟨w1, hw1⟩ : ∃ w1, w1 = (w.alloc (.cells #[.int .i64 f.pc, .int .u32 (rk f 0), .int .u32 (rk f 1), .int .u32 (rk f 2), .int .u32 (rk f 3), .int .u32 (rk f 4), .int .u32 (rk f 5), .int .u32 (rk f 6), .int .u32 (rk f 7), .slice T nT cT] 26)).alloc (.cells #[.int .i64 0, .int .u32 0, .int .u32 0, .int .u32 0, .int .u32 0, .int .u32 0, .int .u32 0, .int .u32 0, .int .u32 0, .slice none 0 0] 26) := ⟨_, rfl⟩
  have hs1 : Same w w1 := hw1 ▸ ((Same.refl w).alloc _).alloc _
  have hbb : Blk w1 w.heap.size 26 #[.int .i64 f.pc, .int .u32 (rk f 0), .int .u32 (rk f 1), .int .u32 (rk f 2), .int .u32 (rk f 3), .int .u32 (rk f 4), .int .u32 (rk f 5), .int .u32 (rk f 6), .int .u32 (rk f 7), .slice T nT cT] := hw1 ▸ (Blk.new w _ _).same ((Same.refl _).alloc _)
  have hbz : Blk w1 (w.heap.size + 1) 26 #[.int .i64 0, .int .u32 0, .int .u32 0, .int .u32 0, .int .u32 0, .int .u32 0, .int .u32 0, .int .u32 0, .int .u32 0, .slice none 0 0] := by
    have h := Blk.new (w.alloc (.cells #[.int .i64 f.pc, .int .u32 (rk f 0), .int .u32 (rk f 1), .int .u32 (rk f 2), .int .u32 (rk f 3), .int .u32 (rk f 4), .int .u32 (rk f 5), .int .u32 (rk f 6), .int .u32 (rk f 7), .slice T nT cT] 26)) 26 #[.int .i64 0, .int .u32 0, .int .u32 0, .int .u32 0, .int .u32 0, .int .u32 0, .int .u32 0, .int .u32 0, .int .u32 0, .slice none 0 0]
    rw [hw1]
    simpa using h
  have E1 := Lib.hid hw1
  have HS1 := Lib.hid hs1
  have HBZ := Lib.hid hbz
  have HN := Lib.hid hn
  have H8 := Lib.hid h8
  have AP := Lib.hid (apart_any f T nT cT w1 (hT.same hs1) hn hb)
  have HP := Lib.hid hp
  have HTB := Lib.hid ht
  have HL := Lib.hid hl
  obtain ⟨x0, x1, x2, x3, x4, x5, x6, x7, x8, x9⟩ := (⟨hbb.cell 0, hbb.cell 1, hbb.cell 2, hbb.cell 3, hbb.cell 4, hbb.cell 5, hbb.cell 6, hbb.cell 7, hbb.cell 8, hbb.cell 9⟩ : _ ∧ _ ∧ _ ∧ _ ∧ _ ∧ _ ∧ _ ∧ _ ∧ _ ∧ _)
  simp only [List.getElem?_toArray, List.getElem?_cons_zero, List.getElem?_cons_succ] at x0 x1 x2 x3 x4 x5 x6 x7 x8 x9
  clear hw1 hs1 hbb hbz hT hn hp ht hl h8
  go_enter Tryd.func9, Tryd.ntmps9
  go_upto_region 1 with fail
  rw [← E1.out]
  clear E1
  generalize hq0 : w.heap.size = b0 at *
  have HQ0 := Lib.hid hq0
  clear hq0
  go_wp2_with fail
  refine AP.out.mono ?_
  rintro e w2 ⟨T', c', rfl, ho, s2⟩
  obtain ⟨w3, hw3⟩ : ∃ w3, w3 = w2.alloc (.cells #[.int .i64 f.pc, .int .u32 (rk f 0), .int .u32 (rk f 1), .int .u32 (rk f 2), .int .u32 (rk f 3), .int .u32 (rk f 4), .int .u32 (rk f 5), .int .u32 (rk f 6), .int .u32 (rk f 7), .slice T' nT c', .slice A m cA, .pointer none, .int .i64 0, .int .i64 0] 67) := ⟨_, rfl⟩
  have hs3 : Same w2 w3 := hw3 ▸ (Same.refl w2).alloc _
  have HB3 := Lib.hid (show Blk w3 w2.heap.size 67 #[.int .i64 f.pc, .int .u32 (rk f 0), .int .u32 (rk f 1), .int .u32 (rk f 2), .int .u32 (rk f 3), .int .u32 (rk f 4), .int .u32 (rk f 5), .int .u32 (rk f 6), .int .u32 (rk f 7), .slice T' nT c', .slice A m cA, .pointer none, .int .i64 0, .int .i64 0] from hw3 ▸ Blk.new w2 _ _)
  have HO3 := Lib.hid ((ho.same hs3).base (B' := w.heap.size) HS1.out.size)
  have HS3 := Lib.hid ((HS1.out.trans s2).trans hs3)
  have HBZ3 := Lib.hid (HBZ.out.same (s2.trans hs3))
  have HGZ := Lib.hid (show b0 + 1 < w2.heap.size from Nat.lt_of_lt_of_le HBZ.out.lt s2.size)
  have HG := Lib.hid (show w1.heap.size ≤ w2.heap.size from s2.size)
  have E3 := Lib.hid hw3
  clear ho s2 hs3 hw3 x0 x1 x2 x3 x4 x5 x6 x7 x8 x9 AP
  go_upto_region 2 with fail
  rw [← E3.out]
  clear E3
  generalize w2.heap.size = g3 at *
  obtain ⟨x0, x1, x2, x3, x4, x5, x6, x7, x8, x9⟩ := (⟨HB3.out.cell 0, HB3.out.cell 1, HB3.out.cell 2, HB3.out.cell 3, HB3.out.cell 4, HB3.out.cell 5, HB3.out.cell 6, HB3.out.cell 7, HB3.out.cell 8, HB3.out.cell 9⟩ : _ ∧ _ ∧ _ ∧ _ ∧ _ ∧ _ ∧ _ ∧ _ ∧ _ ∧ _)
  simp only [List.getElem?_toArray, List.getElem?_cons_zero, List.getElem?_cons_succ] at x0 x1 x2 x3 x4 x5 x6 x7 x8 x9
  have RT := Lib.hid (fright_any f T' nT c' A m cA p w3 HL.out hm (HP.out.same HS3.out) (HTB.out.same HS3.out) HO3.out.row HN.out hb)
  have HPR := Lib.hid (show passR p f code = if (rightF (okB p) p f && callB (curI p f)) = true then (⟨f.pc + 1, f.rg.set (curI p f).a.toNat code, f.tn⟩, true) else (f, false) from rfl)
  cases hr : rightF (okB p) p f with
  | false =>
    have HE := Lib.hid (show passR p f code = (f, false) by rw [HPR.out, hr]; rfl)
    rw [hr] at RT
    clear hr HPR
    go_wp2_with fail
    refine RT.out.mono ?_
    rintro e w4 ⟨rfl, s4⟩
    have HB4 := Lib.hid (HB3.out.same s4)
    have HBZ4 := Lib.hid (HBZ3.out.same s4)
    have HO4 := Lib.hid (HO3.out.same s4)
    have HS4 := Lib.hid (HS3.out.trans s4)
    clear s4 x0 x1 x2 x3 x4 x5 x6 x7 x8 x9 RT
    obtain ⟨x0, x1, x2, x3, x4, x5, x6, x7, x8, x9⟩ := (⟨HB4.out.cell 0, HB4.out.cell 1, HB4.out.cell 2, HB4.out.cell 3, HB4.out.cell 4, HB4.out.cell 5, HB4.out.cell 6, HB4.out.cell 7, HB4.out.cell 8, HB4.out.cell 9⟩ : _ ∧ _ ∧ _ ∧ _ ∧ _ ∧ _ ∧ _ ∧ _ ∧ _ ∧ _)
    simp only [List.getElem?_toArray, List.getElem?_cons_zero, List.getElem?_cons_succ] at x0 x1 x2 x3 x4 x5 x6 x7 x8 x9
    obtain ⟨y0, y1, y2, y3, y4, y5, y6, y7, y8, y9⟩ := (⟨HBZ4.out.cell 0, HBZ4.out.cell 1, HBZ4.out.cell 2, HBZ4.out.cell 3, HBZ4.out.cell 4, HBZ4.out.cell 5, HBZ4.out.cell 6, HBZ4.out.cell 7, HBZ4.out.cell 8, HBZ4.out.cell 9⟩ : _ ∧ _ ∧ _ ∧ _ ∧ _ ∧ _ ∧ _ ∧ _ ∧ _ ∧ _)
    simp only [List.getElem?_toArray, List.getElem?_cons_zero, List.getElem?_cons_succ] at y0 y1 y2 y3 y4 y5 y6 y7 y8 y9
    obtain ⟨u0, u1, u2, u3, u4, u5, u6, u7, u8, u9⟩ := (⟨HBZ4.out.thaw 0, HBZ4.out.thaw 1, HBZ4.out.thaw 2, HBZ4.out.thaw 3, HBZ4.out.thaw 4, HBZ4.out.thaw 5, HBZ4.out.thaw 6, HBZ4.out.thaw 7, HBZ4.out.thaw 8, HBZ4.out.thaw 9⟩ : _ ∧ _ ∧ _ ∧ _ ∧ _ ∧ _ ∧ _ ∧ _ ∧ _ ∧ _)
    go_wp2_with fail
    obtain ⟨p1, p2⟩ := puts10 (v0 := .int .i64 f.pc) (v1 := .int .u32 (rk f 0)) (v2 := .int .u32 (rk f 1)) (v3 := .int .u32 (rk f 2)) (v4 := .int .u32 (rk f 3)) (v5 := .int .u32 (rk f 4)) (v6 := .int .u32 (rk f 5)) (v7 := .int .u32 (rk f 6)) (v8 := .int .u32 (rk f 7)) (v9 := .slice T' nT c') (w := w4) HBZ4.out
    refine bodyPost_ret (v := .tuple #[.agg #[.int .i64 f.pc, .int .u32 (rk f 0), .int .u32 (rk f 1), .int .u32 (rk f 2), .int .u32 (rk f 3), .int .u32 (rk f 4), .int .u32 (rk f 5), .int .u32 (rk f 6), .int .u32 (rk f 7), .slice T' nT c'], .bool false]) (results_cell_tmp Tryd.results9 _ _ (b0 + 1) 26 #[.int .i64 f.pc, .int .u32 (rk f 0), .int .u32 (rk f 1), .int .u32 (rk f 2), .int .u32 (rk f 3), .int .u32 (rk f 4), .int .u32 (rk f 5), .int .u32 (rk f 6), .int .u32 (rk f 7), .slice T' nT c'] (0, 0) _ rfl p1 Tryd.underlying26 rfl frm_size) rfl ?_
    rw [HE.out]
    exact ⟨T', c', rfl, HO4.out.chg p2 (fun i hi he => HO4.out.ne HBZ4.out (by decide) i hi he), chg_nw HS4.out p2 (by have := HQ0.out; omega)⟩
  | true =>
    obtain ⟨_, ⟨p0, p1, p2⟩, _⟩ := right_iff.1 hr
    obtain ⟨k, hkk⟩ : ∃ k : Nat, f.pc = (k : Int) := ⟨f.pc.toNat, by omega⟩
    have hkp : k < p.length := by omega
    have hkm : k < m := by have := HL.out; omega
    have hcur : curI p f = at_ p k := by unfold curI; rw [hkk, Int.toNat_natCast]
    have hrx : rightI (at_ p k) = true := (okB_fine (right_iff.1 hr).1).right k hkp
    have HRO := Lib.hid (regs_ok hrx)
    rw [hr] at RT
    have HR := Lib.hid hr
    have HKK := Lib.hid hkk
    have HCUR := Lib.hid hcur
    clear p0 p1 p2 hrx hr hkk hcur
    go_wp2_with fail
    refine RT.out.mono ?_
    rintro e w4 ⟨rfl, s4⟩
    have HB4 := Lib.hid (HB3.out.same s4)
    have HBZ4 := Lib.hid (HBZ3.out.same s4)
    have HO4 := Lib.hid (HO3.out.same s4)
    have HS4 := Lib.hid (HS3.out.trans s4)
    have x0' := s4.cell x0
    rw [HKK.out] at x0'
    clear s4 x0 x1 x2 x3 x4 x5 x6 x7 x8 x9 RT
    obtain ⟨hok, b, o, hA, i0, i1, i2, i3, i4⟩ := (HP.out.same HS4.out).at_ hkp
    obtain ⟨x, hx⟩ : ∃ x, x = at_ p k := ⟨_, rfl⟩
    have HX := Lib.hid hx
    rw [← hx] at i0 i1 i2 i3 i4 HRO
    subst hA
    have CA := Lib.hid (fun w' => calls_any x w')
    have k0 : (0 : Int) ≤ k := by omega
    have k1 : (k : Int) < m := by omega
    clear hx hok
    go_wp2_with fail
    refine (CA.out _).mono ?_
    rintro e w5 ⟨rfl, s5⟩
    have HB5 := Lib.hid (HB4.out.same s5)
    have HBZ5 := Lib.hid (HBZ4.out.same s5)
    have HO5 := Lib.hid (HO4.out.same s5)
    have HS5 := Lib.hid (HS4.out.trans s5)
    have x0 := s5.cell x0'
    have i1' := s5.cell i1
    clear s5 i0 i1 i2 i3 i4 x0' CA
    cases hc : callB x with
    | false =>
      have HE := Lib.hid (show passR p f code = (f, false) by rw [HPR.out, HCUR.out, ← HX.out, hc, HR.out]; rfl)
      clear hc HPR x0 i1' k0 k1
      obtain ⟨x0, x1, x2, x3, x4, x5, x6, x7, x8, x9⟩ := (⟨HB5.out.cell 0, HB5.out.cell 1, HB5.out.cell 2, HB5.out.cell 3, HB5.out.cell 4, HB5.out.cell 5, HB5.out.cell 6, HB5.out.cell 7, HB5.out.cell 8, HB5.out.cell 9⟩ : _ ∧ _ ∧ _ ∧ _ ∧ _ ∧ _ ∧ _ ∧ _ ∧ _ ∧ _)
      simp only [List.getElem?_toArray, List.getElem?_cons_zero, List.getElem?_cons_succ] at x0 x1 x2 x3 x4 x5 x6 x7 x8 x9
      obtain ⟨y0, y1, y2, y3, y4, y5, y6, y7, y8, y9⟩ := (⟨HBZ5.out.cell 0, HBZ5.out.cell 1, HBZ5.out.cell 2, HBZ5.out.cell 3, HBZ5.out.cell 4, HBZ5.out.cell 5, HBZ5.out.cell 6, HBZ5.out.cell 7, HBZ5.out.cell 8, HBZ5.out.cell 9⟩ : _ ∧ _ ∧ _ ∧ _ ∧ _ ∧ _ ∧ _ ∧ _ ∧ _ ∧ _)
      simp only [List.getElem?_toArray, List.getElem?_cons_zero, List.getElem?_cons_succ] at y0 y1 y2 y3 y4 y5 y6 y7 y8 y9
      obtain ⟨u0, u1, u2, u3, u4, u5, u6, u7, u8, u9⟩ := (⟨HBZ5.out.thaw 0, HBZ5.out.thaw 1, HBZ5.out.thaw 2, HBZ5.out.thaw 3, HBZ5.out.thaw 4, HBZ5.out.thaw 5, HBZ5.out.thaw 6, HBZ5.out.thaw 7, HBZ5.out.thaw 8, HBZ5.out.thaw 9⟩ : _ ∧ _ ∧ _ ∧ _ ∧ _ ∧ _ ∧ _ ∧ _ ∧ _ ∧ _)
      go_wp2_with fail
      obtain ⟨p1, p2⟩ := puts10 (v0 := .int .i64 f.pc) (v1 := .int .u32 (rk f 0)) (v2 := .int .u32 (rk f 1)) (v3 := .int .u32 (rk f 2)) (v4 := .int .u32 (rk f 3)) (v5 := .int .u32 (rk f 4)) (v6 := .int .u32 (rk f 5)) (v7 := .int .u32 (rk f 6)) (v8 := .int .u32 (rk f 7)) (v9 := .slice T' nT c') (w := w5) HBZ5.out
      refine bodyPost_ret (v := .tuple #[.agg #[.int .i64 f.pc, .int .u32 (rk f 0), .int .u32 (rk f 1), .int .u32 (rk f 2), .int .u32 (rk f 3), .int .u32 (rk f 4), .int .u32 (rk f 5), .int .u32 (rk f 6), .int .u32 (rk f 7), .slice T' nT c'], .bool false]) (results_cell_tmp Tryd.results9 _ _ (b0 + 1) 26 #[.int .i64 f.pc, .int .u32 (rk f 0), .int .u32 (rk f 1), .int .u32 (rk f 2), .int .u32 (rk f 3), .int .u32 (rk f 4), .int .u32 (rk f 5), .int .u32 (rk f 6), .int .u32 (rk f 7), .slice T' nT c'] (0, 0) _ rfl p1 Tryd.underlying26 rfl frm_size) rfl ?_
      rw [HE.out]
      exact ⟨T', c', rfl, HO5.out.chg p2 (fun i hi he => HO5.out.ne HBZ5.out (by decide) i hi he), chg_nw HS5.out p2 (by have := HQ0.out; omega)⟩
    | true =>
      have hop : 17 ≤ x.op := (of_decide_eq_true hc).1
      have ha := HRO.out.2.2.1 (.inr hop)
      obtain ⟨ka, hka⟩ : ∃ ka : Nat, x.a = (ka : Int) := ⟨x.a.toNat, by omega⟩
      have hka8 : ka < 8 := by omega
      obtain ⟨f', hf'⟩ : ∃ f' : FS, f' = ⟨f.pc + 1, f.rg.set ka code, f.tn⟩ := ⟨_, rfl⟩
      have HE := Lib.hid (show passR p f code = (f', true) by rw [HPR.out, HCUR.out, ← HX.out, hc, HR.out, hf', hka, Int.toNat_natCast]; rfl)
      rw [hka] at i1'
      have HF := Lib.hid hf'
      clear hc HPR hop ha hka hf'
      have a0 : (0 : Int) ≤ (ka : Int) := by omega
      have a8 : (ka : Int) < 8 := by omega
      have hc1 := wk_reg HB5.out hka8
      have hf1 := HB5.out.thaw (1 + ka)
      obtain ⟨w6, hw6⟩ : ∃ w6, w6 = w5.setCell ⟨g3, 1 + ka, none⟩ (.int .u32 (code : Int)) := ⟨_, rfl⟩
      have hq6 : Chg (fun i => i = g3) w5 w6 := hw6 ▸ (Chg.refl (fun i => i = g3) w5).set (p := ⟨g3, 1 + ka, none⟩) (.inl rfl) _
      have HB6 := Lib.hid (hw6 ▸ wk_set HB5.out H8.out hka8 code)
      have HBZ6 := Lib.hid (HBZ5.out.chg hq6 (fun he => by have := HGZ.out; omega))
      have HO6 := Lib.hid (HO5.out.chg hq6 (fun i hi he => HO5.out.ne HB5.out (by decide) i hi he))
      have HS6 := Lib.hid (chg_nw HS5.out hq6 (by have := HGZ.out; have := HQ0.out; omega))
      have E6 := Lib.hid hw6
      clear hw6 hq6
      go_upto_region 5 with fail
      rw [← E6.out]
      clear E6 hc1 hf1 x0 i1' k0 k1
      have x0 := HB6.out.cell 0
      have fx := HB6.out.thaw 0
      simp only [List.getElem?_toArray, List.getElem?_cons_zero, List.getElem?_cons_succ] at x0
      rw [HKK.out] at x0
      obtain ⟨w7, hw7⟩ : ∃ w7, w7 = w6.setCell ⟨g3, 0, none⟩ (.int .i64 ((k : Int) + 1)) := ⟨_, rfl⟩
      have hq7 : Chg (fun i => i = g3) w6 w7 := hw7 ▸ (Chg.refl (fun i => i = g3) w6).set (p := ⟨g3, 0, none⟩) (.inl rfl) _
      have HB7 := Lib.hid (show Blk w7 g3 67 #[.int .i64 f'.pc, .int .u32 (rk f' 0), .int .u32 (rk f' 1), .int .u32 (rk f' 2), .int .u32 (rk f' 3), .int .u32 (rk f' 4), .int .u32 (rk f' 5), .int .u32 (rk f' 6), .int .u32 (rk f' 7), .slice T' nT c', .slice (some ⟨b, o, none⟩) m cA, .pointer none, .int .i64 0, .int .i64 0] by
        have h := HB6.out.put 0 (.int .i64 ((k : Int) + 1))
        rw [← hw7] at h
        rw [HF.out]
        simpa [rk, HKK.out] using h)
      have HBZ7 := Lib.hid (HBZ6.out.chg hq7 (fun he => by have := HGZ.out; omega))
      have HO7 := Lib.hid (show Own w7 w.heap.size 3 T' c' (f'.tn.map (Value.int .i64)) by rw [HF.out]; exact HO6.out.chg hq7 (fun i hi he => HO6.out.ne HB6.out (by decide) i hi he))
      have HS7 := Lib.hid (chg_nw HS6.out hq7 (by have := HGZ.out; have := HQ0.out; omega))
      have E7 := Lib.hid hw7
      clear hw7 hq7
      go_upto_region 6 with fail
      rw [← E7.out]
      clear E7 x0 fx
      obtain ⟨x0, x1, x2, x3, x4, x5, x6, x7, x8, x9⟩ := (⟨HB7.out.cell 0, HB7.out.cell 1, HB7.out.cell 2, HB7.out.cell 3, HB7.out.cell 4, HB7.out.cell 5, HB7.out.cell 6, HB7.out.cell 7, HB7.out.cell 8, HB7.out.cell 9⟩ : _ ∧ _ ∧ _ ∧ _ ∧ _ ∧ _ ∧ _ ∧ _ ∧ _ ∧ _)
      simp only [List.getElem?_toArray, List.getElem?_cons_zero, List.getElem?_cons_succ] at x0 x1 x2 x3 x4 x5 x6 x7 x8 x9
      obtain ⟨y0, y1, y2, y3, y4, y5, y6, y7, y8, y9⟩ := (⟨HBZ7.out.cell 0, HBZ7.out.cell 1, HBZ7.out.cell 2, HBZ7.out.cell 3, HBZ7.out.cell 4, HBZ7.out.cell 5, HBZ7.out.cell 6, HBZ7.out.cell 7, HBZ7.out.cell 8, HBZ7.out.cell 9⟩ : _ ∧ _ ∧ _ ∧ _ ∧ _ ∧ _ ∧ _ ∧ _ ∧ _ ∧ _)
      simp only [List.getElem?_toArray, List.getElem?_cons_zero, List.getElem?_cons_succ] at y0 y1 y2 y3 y4 y5 y6 y7 y8 y9
      obtain ⟨u0, u1, u2, u3, u4, u5, u6, u7, u8, u9⟩ := (⟨HBZ7.out.thaw 0, HBZ7.out.thaw 1, HBZ7.out.thaw 2, HBZ7.out.thaw 3, HBZ7.out.thaw 4, HBZ7.out.thaw 5, HBZ7.out.thaw 6, HBZ7.out.thaw 7, HBZ7.out.thaw 8, HBZ7.out.thaw 9⟩ : _ ∧ _ ∧ _ ∧ _ ∧ _ ∧ _ ∧ _ ∧ _ ∧ _ ∧ _)
      go_wp2_with fail
      obtain ⟨p1, p2⟩ := puts10 (v0 := .int .i64 f'.pc) (v1 := .int .u32 (rk f' 0)) (v2 := .int .u32 (rk f' 1)) (v3 := .int .u32 (rk f' 2)) (v4 := .int .u32 (rk f' 3)) (v5 := .int .u32 (rk f' 4)) (v6 := .int .u32 (rk f' 5)) (v7 := .int .u32 (rk f' 6)) (v8 := .int .u32 (rk f' 7)) (v9 := .slice T' nT c') (w := w7) HBZ7.out
      refine bodyPost_ret (v := .tuple #[.agg #[.int .i64 f'.pc, .int .u32 (rk f' 0), .int .u32 (rk f' 1), .int .u32 (rk f' 2), .int .u32 (rk f' 3), .int .u32 (rk f' 4), .int .u32 (rk f' 5), .int .u32 (rk f' 6), .int .u32 (rk f' 7), .slice T' nT c'], .bool true]) (results_cell_tmp Tryd.results9 _ _ (b0 + 1) 26 #[.int .i64 f'.pc, .int .u32 (rk f' 0), .int .u32 (rk f' 1), .int .u32 (rk f' 2), .int .u32 (rk f' 3), .int .u32 (rk f' 4), .int .u32 (rk f' 5), .int .u32 (rk f' 6), .int .u32 (rk f' 7), .slice T' nT c'] (0, 0) _ rfl p1 Tryd.underlying26 rfl frm_size) rfl ?_
      rw [HE.out]
      exact ⟨T', c', rfl, HO7.out.chg p2 (fun i hi he => HO7.out.ne HBZ7.out (by decide) i hi he), chg_nw HS7.out p2 (by have := HQ0.out; omega)⟩
end Go.Proofs.YtgimelpjklnjmabDoor.Fr
