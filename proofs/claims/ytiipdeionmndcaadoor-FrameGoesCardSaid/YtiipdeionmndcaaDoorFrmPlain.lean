/-

  Layer 13: an instruction behind which the next one comes (work.plain).
-/
import Derived.Test.YtiipdeionmndcaaDoorFrmLead
import Derived.Test.YtiipdeionmndcaaDoorAluLaws
set_option linter.unusedVariables false
set_option linter.unusedSimpArgs false
namespace Go.Proofs.YtiipdeionmndcaaDoor.Fr
open Go.ChangeShapes Go.WideShapes Go.ChangeAt Go.RowKit Ws
open Go.Proofs.YtiipdeionmndcaaDoor.Fp (Ins at_ Fine at_some)
open Go.Proofs.YtiipdeionmndcaaDoor.Fw (Prg okB ckE check_any okB_fine rightI)
open Go.Proofs.YtiipdeionmndcaaDoor.Is (Tabs)
section
variable {w0 w : World} {R : Nat → Prop} {g gm : Nat} {s : SS} {T : Option Addr} {nT cT : Nat} {A : Option Addr} {m cA : Nat} {oa ol : Int}

theorem off_cast (v xn : Nat) (oa ol : Int) (ho : 0 ≤ oa) (hl : 0 < ol) : oa + ((v : Int) + (xn : Int)) % 4294967296 % ol = ((oa.toNat + (v + xn) % 4294967296 % ol.toNat : Nat) : Int) := by
  obtain ⟨a, rfl⟩ : ∃ a : Nat, oa = a := ⟨oa.toNat, by omega⟩
  obtain ⟨b, rfl⟩ : ∃ b : Nat, ol = b := ⟨ol.toNat, by omega⟩
  simp only [Int.toNat_natCast]
  rw [Int.natCast_add a, Int.natCast_emod _ b, Int.natCast_emod _ 4294967296, Int.natCast_add]
  rfl
set_option maxRecDepth 100000 in
set_option maxHeartbeats 2000000 in
theorem plain_1 (xn ka kb kc va vb vc : Nat) (hva : va = s.f.rg.getD ka 0) (hvb : vb = s.f.rg.getD kb 0) (hvc : vc = s.f.rg.getD kc 0) (h : W13 w0 w R g gm s T nT cT A m cA oa ol) (hR : ∀ i, R i → i < w.heap.size) (hxn : xn < 4294967296) (ha : ka < 8) (hb : kb < 8) (hc : kc < 8) (ho : 0 ≤ oa ∧ oa ≤ 4096) (hl : 0 < ol ∧ ol ≤ 4096) (hr : ∀ k, s.f.rg.getD k 0 < 4294967296) (h8 : s.f.rg.length = 8) :
    Calls Tryd.prog 77 #[.pointer (some ⟨g, 0, none⟩), .agg #[.int .i64 1, .int .i64 (ka : Int), .int .i64 (kb : Int), .int .i64 (kc : Int), .int .u32 (xn : Int)]] w (Post13 w0 w R g gm ⟨{ s.f with rg := s.f.rg.set ka xn }, s.ws, s.st⟩ T nT cT A m cA oa ol (.tuple #[])) := by
  obtain ⟨w1, hw1⟩ : ∃ w1, w1 = w.alloc (.cells #[.int .i64 1, .int .i64 (ka : Int), .int .i64 (kb : Int), .int .i64 (kc : Int), .int .u32 (xn : Int)] 67) := ⟨_, rfl⟩
  have hs1 : Same w w1 := hw1 ▸ (Same.refl w).alloc _
  have hb1 : Blk w1 w.heap.size 67 #[.int .i64 1, .int .i64 (ka : Int), .int .i64 (kb : Int), .int .i64 (kc : Int), .int .u32 (xn : Int)] := hw1 ▸ Blk.new w _ _
  have H1 := Lib.hid (h.of_same hs1)
  have HS1 := Lib.hid hs1
  have E1 := Lib.hid hw1
  have HB1 := Lib.hid hb1
  have HQ := Lib.hid (show g < w.heap.size from h.wk.lt)
  obtain ⟨y0, y1, y2, y3, y4⟩ := (⟨hb1.cell 0, hb1.cell 1, hb1.cell 2, hb1.cell 3, hb1.cell 4⟩ : _ ∧ _ ∧ _ ∧ _ ∧ _)
  simp only [List.getElem?_toArray, List.getElem?_cons_zero, List.getElem?_cons_succ] at y0 y1 y2 y3 y4
  clear hs1 hw1 hb1
  have HNE := Lib.hid (h13_lt H1.out (fun i hi => Nat.lt_of_lt_of_le (hR i hi) HS1.out.size))
  have HNW := Lib.hid (h13_lt h hR)
  have hra := H1.out.reg ha
  have hrb := H1.out.reg hb
  have hrc := H1.out.reg hc
  have hra2 := hr ka
  have hrb2 := hr kb
  have hrc2 := hr kc
  rw [← hva] at hra hra2
  rw [← hvb] at hrb hrb2
  rw [← hvc] at hrc hrc2
  have hj := off_cast vb xn oa ol ho.1 hl.1
  have hatn : atN oa ol ⟨1, ka, kb, kc, xn⟩ s.f = oa.toNat + (vb + xn) % 4294967296 % ol.toNat := by
    unfold atN offN rgv
    simp only [Int.toNat_natCast, ← hvb]
  have HVA := Lib.hid hva
  have HVB := Lib.hid hvb
  have HVC := Lib.hid hvc
  clear hva hvb hvc
  have PA := Lib.hid (fun (w' : World) (h' : W13 w0 w' R g gm s T nT cT A m cA oa ol) => by
    have h2 := place_any g s.f T nT cT A m cA (some ⟨gm, 0, none⟩) oa ol ((vb + xn) % 4294967296) w' h'.wk ho hl (Nat.mod_lt _ (by decide))
    have e2 : (((vb + xn) % 4294967296 : Nat) : Int) = ((vb : Int) + (xn : Int)) % 4294967296 := by rw [Int.natCast_emod _ 4294967296, Int.natCast_add]; rfl
    rw [e2, hj, ← hatn] at h2
    exact h2)
  have HATN := Lib.hid hatn
  generalize atN oa ol ⟨1, ka, kb, kc, xn⟩ s.f = j at *
  have a0 : (0 : Int) ≤ (ka : Int) := by omega
  have a8 : (ka : Int) < 8 := by omega
  have b0 : (0 : Int) ≤ (kb : Int) := by omega
  have b8 : (kb : Int) < 8 := by omega
  have c0 : (0 : Int) ≤ (kc : Int) := by omega
  have c8 : (kc : Int) < 8 := by omega
  have H8 := Lib.hid h8
  have HR := Lib.hid hr
  clear hj hatn h8 hr HNW h
  go_enter Tryd.func77, Tryd.ntmps77
  go_wp2_with fail
  rw [← E1.out]
  go_quiet ((go_at_call 98; exact Calls.quiet_of (PA.out _ (H1.out.of_same ((Same.refl w1).drewN _)))))
  have s2 : Same w1 (w1.drewN nq) := (Same.refl w1).drewN nq
  have S2 := Lib.hid (HS1.out.trans s2)
  have H2 := Lib.hid (H1.out.of_same s2)
  have HQ2 := Lib.hid (Nat.lt_of_lt_of_le (show w.heap.size < w1.heap.size from HB1.out.lt) s2.size)
  obtain ⟨x0, x1, x2, x3, x4⟩ := (⟨s2.cell y0, s2.cell y1, s2.cell y2, s2.cell y3, s2.cell y4⟩ : _ ∧ _ ∧ _ ∧ _ ∧ _)
  obtain ⟨ra, rb, rc⟩ := (⟨s2.cell hra, s2.cell hrb, s2.cell hrc⟩ : _ ∧ _ ∧ _)
  clear s2 y0 y1 y2 y3 y4 hra hrb hrc PA E1 HB1
  generalize w1.drewN nq = w2 at *
  have z11 := H2.out.cs.2.2.2.1
  generalize w.heap.size = q at *
  go_wp2_with fail
  go_still_tail 9, (by kernel_rfl)
  change wpList _ _ _ _ _ w2.drew
  have h3 := H2.out.of_same ((Same.refl w2).drew)
  obtain ⟨h4, c4⟩ := h3.set_rg H8.out ha (xn)
  have HH := Lib.hid h4
  have HC := Lib.hid ((S2.out.chg (S13 R g T)).trans (((Same.refl w2).drew.chg _).trans c4))
  have hc1 := h3.reg ha
  have hf1 := h3.fz (1 + ka)
  clear h3 h4 c4 ra rb rc x0 x1 x2 x3 x4 z11
  generalize w2.drew = w3 at *
  go_wp2_with fail
  go_end0
  exact ⟨rfl, HH.out, HC.out⟩
set_option maxRecDepth 100000 in
set_option maxHeartbeats 2000000 in
theorem plain_2 (xn ka kb kc va vb vc : Nat) (hva : va = s.f.rg.getD ka 0) (hvb : vb = s.f.rg.getD kb 0) (hvc : vc = s.f.rg.getD kc 0) (h : W13 w0 w R g gm s T nT cT A m cA oa ol) (hR : ∀ i, R i → i < w.heap.size) (hxn : xn < 4294967296) (ha : ka < 8) (hb : kb < 8) (hc : kc < 8) (ho : 0 ≤ oa ∧ oa ≤ 4096) (hl : 0 < ol ∧ ol ≤ 4096) (hr : ∀ k, s.f.rg.getD k 0 < 4294967296) (h8 : s.f.rg.length = 8) :
    Calls Tryd.prog 77 #[.pointer (some ⟨g, 0, none⟩), .agg #[.int .i64 2, .int .i64 (ka : Int), .int .i64 (kb : Int), .int .i64 (kc : Int), .int .u32 (xn : Int)]] w (Post13 w0 w R g gm ⟨{ s.f with rg := s.f.rg.set ka vb }, s.ws, s.st⟩ T nT cT A m cA oa ol (.tuple #[])) := by
  obtain ⟨w1, hw1⟩ : ∃ w1, w1 = w.alloc (.cells #[.int .i64 2, .int .i64 (ka : Int), .int .i64 (kb : Int), .int .i64 (kc : Int), .int .u32 (xn : Int)] 67) := ⟨_, rfl⟩
  have hs1 : Same w w1 := hw1 ▸ (Same.refl w).alloc _
  have hb1 : Blk w1 w.heap.size 67 #[.int .i64 2, .int .i64 (ka : Int), .int .i64 (kb : Int), .int .i64 (kc : Int), .int .u32 (xn : Int)] := hw1 ▸ Blk.new w _ _
  have H1 := Lib.hid (h.of_same hs1)
  have HS1 := Lib.hid hs1
  have E1 := Lib.hid hw1
  have HB1 := Lib.hid hb1
  have HQ := Lib.hid (show g < w.heap.size from h.wk.lt)
  obtain ⟨y0, y1, y2, y3, y4⟩ := (⟨hb1.cell 0, hb1.cell 1, hb1.cell 2, hb1.cell 3, hb1.cell 4⟩ : _ ∧ _ ∧ _ ∧ _ ∧ _)
  simp only [List.getElem?_toArray, List.getElem?_cons_zero, List.getElem?_cons_succ] at y0 y1 y2 y3 y4
  clear hs1 hw1 hb1
  have HNE := Lib.hid (h13_lt H1.out (fun i hi => Nat.lt_of_lt_of_le (hR i hi) HS1.out.size))
  have HNW := Lib.hid (h13_lt h hR)
  have hra := H1.out.reg ha
  have hrb := H1.out.reg hb
  have hrc := H1.out.reg hc
  have hra2 := hr ka
  have hrb2 := hr kb
  have hrc2 := hr kc
  rw [← hva] at hra hra2
  rw [← hvb] at hrb hrb2
  rw [← hvc] at hrc hrc2
  have hj := off_cast vb xn oa ol ho.1 hl.1
  have hatn : atN oa ol ⟨2, ka, kb, kc, xn⟩ s.f = oa.toNat + (vb + xn) % 4294967296 % ol.toNat := by
    unfold atN offN rgv
    simp only [Int.toNat_natCast, ← hvb]
  have HVA := Lib.hid hva
  have HVB := Lib.hid hvb
  have HVC := Lib.hid hvc
  clear hva hvb hvc
  have PA := Lib.hid (fun (w' : World) (h' : W13 w0 w' R g gm s T nT cT A m cA oa ol) => by
    have h2 := place_any g s.f T nT cT A m cA (some ⟨gm, 0, none⟩) oa ol ((vb + xn) % 4294967296) w' h'.wk ho hl (Nat.mod_lt _ (by decide))
    have e2 : (((vb + xn) % 4294967296 : Nat) : Int) = ((vb : Int) + (xn : Int)) % 4294967296 := by rw [Int.natCast_emod _ 4294967296, Int.natCast_add]; rfl
    rw [e2, hj, ← hatn] at h2
    exact h2)
  have HATN := Lib.hid hatn
  generalize atN oa ol ⟨2, ka, kb, kc, xn⟩ s.f = j at *
  have a0 : (0 : Int) ≤ (ka : Int) := by omega
  have a8 : (ka : Int) < 8 := by omega
  have b0 : (0 : Int) ≤ (kb : Int) := by omega
  have b8 : (kb : Int) < 8 := by omega
  have c0 : (0 : Int) ≤ (kc : Int) := by omega
  have c8 : (kc : Int) < 8 := by omega
  have H8 := Lib.hid h8
  have HR := Lib.hid hr
  clear hj hatn h8 hr HNW h
  go_enter Tryd.func77, Tryd.ntmps77
  go_wp2_with fail
  rw [← E1.out]
  go_quiet ((go_at_call 98; exact Calls.quiet_of (PA.out _ (H1.out.of_same ((Same.refl w1).drewN _)))))
  have s2 : Same w1 (w1.drewN nq) := (Same.refl w1).drewN nq
  have S2 := Lib.hid (HS1.out.trans s2)
  have H2 := Lib.hid (H1.out.of_same s2)
  have HQ2 := Lib.hid (Nat.lt_of_lt_of_le (show w.heap.size < w1.heap.size from HB1.out.lt) s2.size)
  obtain ⟨x0, x1, x2, x3, x4⟩ := (⟨s2.cell y0, s2.cell y1, s2.cell y2, s2.cell y3, s2.cell y4⟩ : _ ∧ _ ∧ _ ∧ _ ∧ _)
  obtain ⟨ra, rb, rc⟩ := (⟨s2.cell hra, s2.cell hrb, s2.cell hrc⟩ : _ ∧ _ ∧ _)
  clear s2 y0 y1 y2 y3 y4 hra hrb hrc PA E1 HB1
  generalize w1.drewN nq = w2 at *
  have z11 := H2.out.cs.2.2.2.1
  generalize w.heap.size = q at *
  go_wp2_with fail
  go_still_tail 15, (by kernel_rfl)
  change wpList _ _ _ _ _ w2.drew
  have h3 := H2.out.of_same ((Same.refl w2).drew)
  obtain ⟨h4, c4⟩ := h3.set_rg H8.out ha (vb)
  have HH := Lib.hid h4
  have HC := Lib.hid ((S2.out.chg (S13 R g T)).trans (((Same.refl w2).drew.chg _).trans c4))
  have hc1 := h3.reg ha
  have hf1 := h3.fz (1 + ka)
  clear h3 h4 c4 ra rb rc x0 x1 x2 x3 x4 z11
  generalize w2.drew = w3 at *
  go_wp2_with fail
  go_end0
  exact ⟨rfl, HH.out, HC.out⟩
set_option maxRecDepth 100000 in
set_option maxHeartbeats 2000000 in
theorem plain_12 (xn ka kb kc va vb vc : Nat) (hva : va = s.f.rg.getD ka 0) (hvb : vb = s.f.rg.getD kb 0) (hvc : vc = s.f.rg.getD kc 0) (h : W13 w0 w R g gm s T nT cT A m cA oa ol) (hR : ∀ i, R i → i < w.heap.size) (hxn : xn < 4294967296) (ha : ka < 8) (hb : kb < 8) (hc : kc < 8) (ho : 0 ≤ oa ∧ oa ≤ 4096) (hl : 0 < ol ∧ ol ≤ 4096) (hr : ∀ k, s.f.rg.getD k 0 < 4294967296) (h8 : s.f.rg.length = 8) (hjw : atN oa ol ⟨12, ka, kb, kc, xn⟩ s.f < s.ws.length) (hst : 0 ≤ s.st ∧ s.st ≤ 4611686018427387904) :
    Calls Tryd.prog 77 #[.pointer (some ⟨g, 0, none⟩), .agg #[.int .i64 12, .int .i64 (ka : Int), .int .i64 (kb : Int), .int .i64 (kc : Int), .int .u32 (xn : Int)]] w (Post13 w0 w R g gm ⟨s.f, s.ws.set (atN oa ol ⟨12, ka, kb, kc, xn⟩ s.f) va, s.st + 1⟩ T nT cT A m cA oa ol (.tuple #[])) := by
  obtain ⟨w1, hw1⟩ : ∃ w1, w1 = w.alloc (.cells #[.int .i64 12, .int .i64 (ka : Int), .int .i64 (kb : Int), .int .i64 (kc : Int), .int .u32 (xn : Int)] 67) := ⟨_, rfl⟩
  have hs1 : Same w w1 := hw1 ▸ (Same.refl w).alloc _
  have hb1 : Blk w1 w.heap.size 67 #[.int .i64 12, .int .i64 (ka : Int), .int .i64 (kb : Int), .int .i64 (kc : Int), .int .u32 (xn : Int)] := hw1 ▸ Blk.new w _ _
  have H1 := Lib.hid (h.of_same hs1)
  have HS1 := Lib.hid hs1
  have E1 := Lib.hid hw1
  have HB1 := Lib.hid hb1
  have HQ := Lib.hid (show g < w.heap.size from h.wk.lt)
  obtain ⟨y0, y1, y2, y3, y4⟩ := (⟨hb1.cell 0, hb1.cell 1, hb1.cell 2, hb1.cell 3, hb1.cell 4⟩ : _ ∧ _ ∧ _ ∧ _ ∧ _)
  simp only [List.getElem?_toArray, List.getElem?_cons_zero, List.getElem?_cons_succ] at y0 y1 y2 y3 y4
  clear hs1 hw1 hb1
  have HNE := Lib.hid (h13_lt H1.out (fun i hi => Nat.lt_of_lt_of_le (hR i hi) HS1.out.size))
  have HNW := Lib.hid (h13_lt h hR)
  have hra := H1.out.reg ha
  have hrb := H1.out.reg hb
  have hrc := H1.out.reg hc
  have hra2 := hr ka
  have hrb2 := hr kb
  have hrc2 := hr kc
  rw [← hva] at hra hra2
  rw [← hvb] at hrb hrb2
  rw [← hvc] at hrc hrc2
  have hj := off_cast vb xn oa ol ho.1 hl.1
  have hatn : atN oa ol ⟨12, ka, kb, kc, xn⟩ s.f = oa.toNat + (vb + xn) % 4294967296 % ol.toNat := by
    unfold atN offN rgv
    simp only [Int.toNat_natCast, ← hvb]
  have HVA := Lib.hid hva
  have HVB := Lib.hid hvb
  have HVC := Lib.hid hvc
  clear hva hvb hvc
  have PA := Lib.hid (fun (w' : World) (h' : W13 w0 w' R g gm s T nT cT A m cA oa ol) => by
    have h2 := place_any g s.f T nT cT A m cA (some ⟨gm, 0, none⟩) oa ol ((vb + xn) % 4294967296) w' h'.wk ho hl (Nat.mod_lt _ (by decide))
    have e2 : (((vb + xn) % 4294967296 : Nat) : Int) = ((vb : Int) + (xn : Int)) % 4294967296 := by rw [Int.natCast_emod _ 4294967296, Int.natCast_add]; rfl
    rw [e2, hj, ← hatn] at h2
    exact h2)
  have HATN := Lib.hid hatn
  generalize atN oa ol ⟨12, ka, kb, kc, xn⟩ s.f = j at *
  have a0 : (0 : Int) ≤ (ka : Int) := by omega
  have a8 : (ka : Int) < 8 := by omega
  have b0 : (0 : Int) ≤ (kb : Int) := by omega
  have b8 : (kb : Int) < 8 := by omega
  have c0 : (0 : Int) ≤ (kc : Int) := by omega
  have c8 : (kc : Int) < 8 := by omega
  have H8 := Lib.hid h8
  have HR := Lib.hid hr
  clear hj hatn h8 hr HNW h
  go_enter Tryd.func77, Tryd.ntmps77
  go_wp2_with fail
  rw [← E1.out]
  go_quiet ((go_at_call 98; exact Calls.quiet_of (PA.out _ (H1.out.of_same ((Same.refl w1).drewN _)))))
  have s2 : Same w1 (w1.drewN nq) := (Same.refl w1).drewN nq
  have S2 := Lib.hid (HS1.out.trans s2)
  have H2 := Lib.hid (H1.out.of_same s2)
  have HQ2 := Lib.hid (Nat.lt_of_lt_of_le (show w.heap.size < w1.heap.size from HB1.out.lt) s2.size)
  obtain ⟨x0, x1, x2, x3, x4⟩ := (⟨s2.cell y0, s2.cell y1, s2.cell y2, s2.cell y3, s2.cell y4⟩ : _ ∧ _ ∧ _ ∧ _ ∧ _)
  obtain ⟨ra, rb, rc⟩ := (⟨s2.cell hra, s2.cell hrb, s2.cell hrc⟩ : _ ∧ _ ∧ _)
  clear s2 y0 y1 y2 y3 y4 hra hrb hrc PA E1 HB1
  generalize w1.drewN nq = w2 at *
  have z11 := H2.out.cs.2.2.2.1
  generalize w.heap.size = q at *
  have hjl : j < (cst s.ws).length := by unfold cst; simpa using hjw
  have hw : wrap64 (s.st + 1) = s.st + 1 := Go.IntWalk.wrap64_in _ (by omega)
  go_wp2_with fail
  go_still_tail 13, (by kernel_rfl)
  change wpList _ _ _ _ _ w2.drew
  have h3 := H2.out.of_same ((Same.refl w2).drew)
  have H3 := Lib.hid h3
  have WR := Lib.hid (Mm.write_in w2.drew h3.mem j hjl (va : Int))
  rw [hw, cst_set] at WR
  have C3 := Lib.hid ((S2.out.drew).chg (S13 R g T))
  clear h3 ra rb rc x0 x1 x2 x3 x4 z11 hw hjl
  generalize w2.drew = w3 at *
  go_wp2_with fail
  refine WR.out.mono ?_
  rintro e w4 ⟨rfl, hm, hc⟩
  obtain ⟨h4, c4⟩ := H3.out.set_mem hm hc
  have HH := Lib.hid h4
  have HC := Lib.hid (C3.out.trans c4)
  clear hm hc h4 c4
  go_wp2_with fail
  go_end0
  exact ⟨rfl, HH.out, HC.out⟩
set_option maxRecDepth 100000 in
set_option maxHeartbeats 2000000 in
theorem plain_0 (xn ka kb kc va vb vc : Nat) (hva : va = s.f.rg.getD ka 0) (hvb : vb = s.f.rg.getD kb 0) (hvc : vc = s.f.rg.getD kc 0) (h : W13 w0 w R g gm s T nT cT A m cA oa ol) (hR : ∀ i, R i → i < w.heap.size) (hxn : xn < 4294967296) (ha : ka < 8) (hb : kb < 8) (hc : kc < 8) (ho : 0 ≤ oa ∧ oa ≤ 4096) (hl : 0 < ol ∧ ol ≤ 4096) (hr : ∀ k, s.f.rg.getD k 0 < 4294967296) (h8 : s.f.rg.length = 8) :
    Calls Tryd.prog 77 #[.pointer (some ⟨g, 0, none⟩), .agg #[.int .i64 0, .int .i64 (ka : Int), .int .i64 (kb : Int), .int .i64 (kc : Int), .int .u32 (xn : Int)]] w (Post13 w0 w R g gm s T nT cT A m cA oa ol (.tuple #[])) := by
  obtain ⟨w1, hw1⟩ : ∃ w1, w1 = w.alloc (.cells #[.int .i64 0, .int .i64 (ka : Int), .int .i64 (kb : Int), .int .i64 (kc : Int), .int .u32 (xn : Int)] 67) := ⟨_, rfl⟩
  have hs1 : Same w w1 := hw1 ▸ (Same.refl w).alloc _
  have hb1 : Blk w1 w.heap.size 67 #[.int .i64 0, .int .i64 (ka : Int), .int .i64 (kb : Int), .int .i64 (kc : Int), .int .u32 (xn : Int)] := hw1 ▸ Blk.new w _ _
  have H1 := Lib.hid (h.of_same hs1)
  have HS1 := Lib.hid hs1
  have E1 := Lib.hid hw1
  have HB1 := Lib.hid hb1
  have HQ := Lib.hid (show g < w.heap.size from h.wk.lt)
  obtain ⟨y0, y1, y2, y3, y4⟩ := (⟨hb1.cell 0, hb1.cell 1, hb1.cell 2, hb1.cell 3, hb1.cell 4⟩ : _ ∧ _ ∧ _ ∧ _ ∧ _)
  simp only [List.getElem?_toArray, List.getElem?_cons_zero, List.getElem?_cons_succ] at y0 y1 y2 y3 y4
  clear hs1 hw1 hb1
  have HNE := Lib.hid (h13_lt H1.out (fun i hi => Nat.lt_of_lt_of_le (hR i hi) HS1.out.size))
  have HNW := Lib.hid (h13_lt h hR)
  have hra := H1.out.reg ha
  have hrb := H1.out.reg hb
  have hrc := H1.out.reg hc
  have hra2 := hr ka
  have hrb2 := hr kb
  have hrc2 := hr kc
  rw [← hva] at hra hra2
  rw [← hvb] at hrb hrb2
  rw [← hvc] at hrc hrc2
  have hj := off_cast vb xn oa ol ho.1 hl.1
  have hatn : atN oa ol ⟨0, ka, kb, kc, xn⟩ s.f = oa.toNat + (vb + xn) % 4294967296 % ol.toNat := by
    unfold atN offN rgv
    simp only [Int.toNat_natCast, ← hvb]
  have HVA := Lib.hid hva
  have HVB := Lib.hid hvb
  have HVC := Lib.hid hvc
  clear hva hvb hvc
  have PA := Lib.hid (fun (w' : World) (h' : W13 w0 w' R g gm s T nT cT A m cA oa ol) => by
    have h2 := place_any g s.f T nT cT A m cA (some ⟨gm, 0, none⟩) oa ol ((vb + xn) % 4294967296) w' h'.wk ho hl (Nat.mod_lt _ (by decide))
    have e2 : (((vb + xn) % 4294967296 : Nat) : Int) = ((vb : Int) + (xn : Int)) % 4294967296 := by rw [Int.natCast_emod _ 4294967296, Int.natCast_add]; rfl
    rw [e2, hj, ← hatn] at h2
    exact h2)
  have HATN := Lib.hid hatn
  generalize atN oa ol ⟨0, ka, kb, kc, xn⟩ s.f = j at *
  have a0 : (0 : Int) ≤ (ka : Int) := by omega
  have a8 : (ka : Int) < 8 := by omega
  have b0 : (0 : Int) ≤ (kb : Int) := by omega
  have b8 : (kb : Int) < 8 := by omega
  have c0 : (0 : Int) ≤ (kc : Int) := by omega
  have c8 : (kc : Int) < 8 := by omega
  have H8 := Lib.hid h8
  have HR := Lib.hid hr
  clear hj hatn h8 hr HNW h
  go_enter Tryd.func77, Tryd.ntmps77
  go_wp2_with fail
  rw [← E1.out]
  go_quiet ((go_at_call 98; exact Calls.quiet_of (PA.out _ (H1.out.of_same ((Same.refl w1).drewN _)))))
  have s2 : Same w1 (w1.drewN nq) := (Same.refl w1).drewN nq
  have S2 := Lib.hid (HS1.out.trans s2)
  have H2 := Lib.hid (H1.out.of_same s2)
  have HQ2 := Lib.hid (Nat.lt_of_lt_of_le (show w.heap.size < w1.heap.size from HB1.out.lt) s2.size)
  obtain ⟨x0, x1, x2, x3, x4⟩ := (⟨s2.cell y0, s2.cell y1, s2.cell y2, s2.cell y3, s2.cell y4⟩ : _ ∧ _ ∧ _ ∧ _ ∧ _)
  obtain ⟨ra, rb, rc⟩ := (⟨s2.cell hra, s2.cell hrb, s2.cell hrc⟩ : _ ∧ _ ∧ _)
  clear s2 y0 y1 y2 y3 y4 hra hrb hrc PA E1 HB1
  generalize w1.drewN nq = w2 at *
  have z11 := H2.out.cs.2.2.2.1
  generalize w.heap.size = q at *
  have DA := Lib.hid (fun (w' : World) => Al.ado_any 0 vb vc hrb2 hrc2 w')
  rw [show Al.isV 0 = false by rfl] at DA
  generalize Al.doN 0 vb vc = dn at *
  go_wp2_with fail
  go_quiet ((go_at_call 101; exact Calls.quiet_of_same ((DA.out _).mono fun e w' h => ⟨h.1, h.2.symm⟩)))
  have s2 : Same w2 (w2.drewN nq) := (Same.refl w2).drewN nq
  have H3 := Lib.hid (H2.out.of_same s2)
  have S3 := Lib.hid (S2.out.trans s2)
  obtain ⟨u0, u1, u2, u3, u4⟩ := (⟨s2.cell x0, s2.cell x1, s2.cell x2, s2.cell x3, s2.cell x4⟩ : _ ∧ _ ∧ _ ∧ _ ∧ _)
  clear s2 x0 x1 x2 x3 x4 ra rb rc z11 S2 H2
  generalize w2.drewN nq = w5 at *
  go_wp2_with fail
  go_end0
  exact ⟨rfl, H3.out, S3.out.chg _⟩
end
end Go.Proofs.YtiipdeionmndcaaDoor.Fr
