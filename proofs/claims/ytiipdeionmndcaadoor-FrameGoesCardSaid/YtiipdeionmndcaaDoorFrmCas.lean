/-

  Layer 13: a word loaded, a word swapped (work.plain).
-/
import Derived.Test.YtiipdeionmndcaaDoorFrmAlu
import Derived.Test.YtiipdeionmndcaaDoorOperApp
set_option linter.unusedVariables false
set_option linter.unusedSimpArgs false
namespace Go.Proofs.YtiipdeionmndcaaDoor.Fr
open Go.ChangeShapes Go.WideShapes Go.ChangeAt Go.RowKit Ws
open Go.Proofs.YtiipdeionmndcaaDoor.Fp (Ins at_ Fine at_some)
open Go.Proofs.YtiipdeionmndcaaDoor.Fw (Prg okB ckE check_any okB_fine rightI)
open Go.Proofs.YtiipdeionmndcaaDoor.Is (Tabs)
section
variable {w0 w : World} {R : Nat → Prop} {g gm : Nat} {s : SS} {T : Option Addr} {nT cT : Nat} {A : Option Addr} {m cA : Nat} {oa ol : Int}
set_option maxRecDepth 100000 in
set_option maxHeartbeats 2000000 in
theorem plain_11 (xn ka kb kc va vb vc : Nat) (hva : va = s.f.rg.getD ka 0) (hvb : vb = s.f.rg.getD kb 0) (hvc : vc = s.f.rg.getD kc 0) (h : W13 w0 w R g gm s T nT cT A m cA oa ol) (hR : ∀ i, R i → i < w.heap.size) (hxn : xn < 4294967296) (ha : ka < 8) (hb : kb < 8) (hc : kc < 8) (ho : 0 ≤ oa ∧ oa ≤ 4096) (hl : 0 < ol ∧ ol ≤ 4096) (hr : ∀ k, s.f.rg.getD k 0 < 4294967296) (h8 : s.f.rg.length = 8) (wv : Nat) (hwv : wv = s.ws.getD (atN oa ol ⟨11, ka, kb, kc, xn⟩ s.f) 0) (hjw : atN oa ol ⟨11, ka, kb, kc, xn⟩ s.f < s.ws.length) (hst : 0 ≤ s.st ∧ s.st ≤ 4611686018427387904) :
    Calls Tryd.prog 77 #[.pointer (some ⟨g, 0, none⟩), .agg #[.int .i64 11, .int .i64 (ka : Int), .int .i64 (kb : Int), .int .i64 (kc : Int), .int .u32 (xn : Int)]] w (Post13 w0 w R g gm ⟨{ s.f with rg := s.f.rg.set ka wv }, s.ws, s.st + 1⟩ T nT cT A m cA oa ol (.tuple #[])) := by
  obtain ⟨w1, hw1⟩ : ∃ w1, w1 = w.alloc (.cells #[.int .i64 11, .int .i64 (ka : Int), .int .i64 (kb : Int), .int .i64 (kc : Int), .int .u32 (xn : Int)] 67) := ⟨_, rfl⟩
  have hs1 : Same w w1 := hw1 ▸ (Same.refl w).alloc _
  have hb1 : Blk w1 w.heap.size 67 #[.int .i64 11, .int .i64 (ka : Int), .int .i64 (kb : Int), .int .i64 (kc : Int), .int .u32 (xn : Int)] := hw1 ▸ Blk.new w _ _
  have H1 := Lib.hid (h.of_same hs1)
  have HS1 := Lib.hid hs1
  have E1 := Lib.hid hw1
  have HB1 := Lib.hid hb1
  have HQ := Lib.hid (show g < w.heap.size from h.wk.lt)
  obtain ⟨y0, y1, y2, y3, y4⟩ := (⟨hb1.cell 0, hb1.cell 1, hb1.cell 2, hb1.cell 3, hb1.cell 4⟩ : _ ∧ _ ∧ _ ∧ _ ∧ _)
  simp only [List.getElem?_toArray, List.getElem?_cons_zero, List.getElem?_cons_succ] at y0 y1 y2 y3 y4
  clear hs1 hw1 hb1
  have HNE := Lib.hid (h13_lt H1.out (fun i hi => Nat.lt_of_lt_of_le (hR i hi) HS1.out.size))
  have HNE4 := Lib.hid (h13_lt h hR)
  have hra := H1.out.reg ha
  have hrb := H1.out.reg hb
  have hrc := H1.out.reg hc
  have hra2 := hr ka
  have hrb2 := hr kb
  have hrc2 := hr kc
  rw [← hva] at hra hra2
  rw [← hvb] at hrb hrb2
  rw [← hvc] at hrc hrc2
  have hj := off_cast vb xn oa ol ho.1 hl.1
  have hatn : atN oa ol ⟨11, ka, kb, kc, xn⟩ s.f = oa.toNat + (vb + xn) % 4294967296 % ol.toNat := by
    unfold atN offN rgv
    simp only [Int.toNat_natCast, ← hvb]
  have HVA := Lib.hid hva
  have HVB := Lib.hid hvb
  have HVC := Lib.hid hvc
  clear hva hvb hvc
  have PA := Lib.hid (fun (w' : World) (h' : W13 w0 w' R g gm s T nT cT A m cA oa ol) => by
    have h2 := place_any g s.f T nT cT A m cA (some ⟨gm, 0, none⟩) oa ol ((vb + xn) % 4294967296) w' h'.wk ho hl (Nat.mod_lt _ (by decide))
    have e2 : (((vb + xn) % 4294967296 : Nat) : Int) = ((vb : Int) + (xn : Int)) % 4294967296 := by rw [Int.natCast_emod _ 4294967296, Int.natCast_add]; rfl
    rw [e2, hj, ← hatn] at h2
    exact h2)
  have HATN := Lib.hid hatn
  generalize atN oa ol ⟨11, ka, kb, kc, xn⟩ s.f = j at *
  have a0 : (0 : Int) ≤ (ka : Int) := by omega
  have a8 : (ka : Int) < 8 := by omega
  have b0 : (0 : Int) ≤ (kb : Int) := by omega
  have b8 : (kb : Int) < 8 := by omega
  have c0 : (0 : Int) ≤ (kc : Int) := by omega
  have c8 : (kc : Int) < 8 := by omega
  have H8 := Lib.hid h8
  have HR := Lib.hid hr
  clear hj hatn h8 hr h
  go_enter Tryd.func77, Tryd.ntmps77
  go_wp2_with fail
  rw [← E1.out]
  go_quiet ((go_at_call 98; exact Calls.quiet_of (PA.out _ (H1.out.of_same ((Same.refl w1).drewN _)))))
  have s2 : Same w1 (w1.drewN nq) := (Same.refl w1).drewN nq
  have S2 := Lib.hid (HS1.out.trans s2)
  have H2 := Lib.hid (H1.out.of_same s2)
  have HQ2 := Lib.hid (Nat.lt_of_lt_of_le (show w.heap.size < w1.heap.size from HB1.out.lt) s2.size)
  obtain ⟨x0, x1, x2, x3, x4⟩ := (⟨s2.cell y0, s2.cell y1, s2.cell y2, s2.cell y3, s2.cell y4⟩ : _ ∧ _ ∧ _ ∧ _ ∧ _)
  obtain ⟨ra, rb, rc⟩ := (⟨s2.cell hra, s2.cell hrb, s2.cell hrc⟩ : _ ∧ _ ∧ _)
  clear s2 y0 y1 y2 y3 y4 hra hrb hrc PA E1 HB1
  generalize w1.drewN nq = w2 at *
  have z11 := H2.out.cs.2.2.2.1
  generalize w.heap.size = q at *
  have hjl : j < (cst s.ws).length := by unfold cst; simpa using hjw
  have hw : wrap64 (s.st + 1) = s.st + 1 := Go.IntWalk.wrap64_in _ (by omega)
  have hmg := mem_get s.ws j hjl
  have H3 := Lib.hid (H2.out.of_same ((Same.refl w2).drew))
  have RD := Lib.hid (Mm.read_in w2.drew H3.out.mem j hjl)
  rw [hw, hmg] at RD
  rw [← hwv] at RD
  clear hw hmg hwv ra rb rc
  go_wp2_with fail
  refine wp_region_held_drew (S := (fun w' => w'.cell? ⟨q, 0, none⟩ = some (.int .i64 11) ∧ w'.cell? ⟨q, 1, none⟩ = some (.int .i64 (ka : Int)) ∧ w'.cell? ⟨q, 2, none⟩ = some (.int .i64 (kb : Int)) ∧ w'.cell? ⟨q, 3, none⟩ = some (.int .i64 (kc : Int)) ∧ w'.cell? ⟨q, 4, none⟩ = some (.int .u32 (xn : Int)) ∧ w'.cell? ⟨g, 11, none⟩ = some (.pointer (some ⟨gm, 0, none⟩)))) (by kernel_rfl) ?_ (fun hHeld => ?_)
  · exact ⟨x0, x1, x2, x3, x4, z11⟩
  refine Ro.take_on (i := 0) (v := ?_) rfl (by kernel_rfl) (by kernel_rfl) (by kernel_rfl) (fun _ _ _ h => h) (by rfl) (by assumption) ?_ ?_
  rotate_left
  · intro wS hSw; (try dsimp only at hSw); go_simp; try with_reducible rfl
  try simp only [Act.put, List.setIfInBounds_toArray, List.set_cons_zero, List.set_cons_succ]
  refine Ro.take_on (i := 1) (v := ?_) rfl (by kernel_rfl) (by kernel_rfl) (by kernel_rfl) (fun _ _ _ h => h) (by rfl) (by assumption) ?_ ?_
  rotate_left
  · intro wS hSw; (try dsimp only at hSw); go_simp; try with_reducible rfl
  try simp only [Act.put, List.setIfInBounds_toArray, List.set_cons_zero, List.set_cons_succ]
  refine Ro.take_on (i := 2) (v := ?_) rfl (by kernel_rfl) (by kernel_rfl) (by kernel_rfl) (fun _ _ _ h => h) (by rfl) (by assumption) ?_ ?_
  rotate_left
  · intro wS hSw; (try dsimp only at hSw); go_simp; try with_reducible rfl
  try simp only [Act.put, List.setIfInBounds_toArray, List.set_cons_zero, List.set_cons_succ]
  refine Ro.take_on (i := 3) (v := ?_) rfl (by kernel_rfl) (by kernel_rfl) (by kernel_rfl) (fun _ _ _ h => h) (by rfl) (by assumption) ?_ ?_
  rotate_left
  · intro wS hSw; (try dsimp only at hSw); go_simp; try with_reducible rfl
  try simp only [Act.put, List.setIfInBounds_toArray, List.set_cons_zero, List.set_cons_succ]
  refine Ro.take_on (i := 4) (v := ?_) rfl (by kernel_rfl) (by kernel_rfl) (by kernel_rfl) (fun _ _ _ h => h) (by rfl) (by assumption) ?_ ?_
  rotate_left
  · intro wS hSw; (try dsimp only at hSw); go_simp; try with_reducible rfl
  try simp only [Act.put, List.setIfInBounds_toArray, List.set_cons_zero, List.set_cons_succ]
  refine Ro.take_on (i := 5) (v := ?_) rfl (by kernel_rfl) (by kernel_rfl) (by kernel_rfl) (fun _ _ _ h => h) (by rfl) (by assumption) ?_ ?_
  rotate_left
  · intro wS hSw; (try dsimp only at hSw); go_simp; try with_reducible rfl
  try simp only [Act.put, List.setIfInBounds_toArray, List.set_cons_zero, List.set_cons_succ]
  refine Ro.take_on (i := 6) (v := ?_) rfl (by kernel_rfl) (by kernel_rfl) (by kernel_rfl) (fun _ _ _ h => h) (by rfl) (by assumption) ?_ ?_
  rotate_left
  · intro wS hSw; (try dsimp only at hSw); go_simp; try with_reducible rfl
  try simp only [Act.put, List.setIfInBounds_toArray, List.set_cons_zero, List.set_cons_succ]
  refine Ro.take_on (i := 7) (v := ?_) rfl (by kernel_rfl) (by kernel_rfl) (by kernel_rfl) (fun _ _ _ h => h) (by rfl) (by assumption) ?_ ?_
  rotate_left
  · intro wS hSw; (try dsimp only at hSw); go_simp; try with_reducible rfl
  try simp only [Act.put, List.setIfInBounds_toArray, List.set_cons_zero, List.set_cons_succ]
  refine Ro.take_on (i := 12) (v := ?_) rfl (by kernel_rfl) (by kernel_rfl) (by kernel_rfl) (fun _ _ _ h => h) (by rfl) (by assumption) ?_ ?_
  rotate_left
  · intro wS hSw; (try dsimp only at hSw); go_simp; try with_reducible rfl
  try simp only [Act.put, List.setIfInBounds_toArray, List.set_cons_zero, List.set_cons_succ]
  refine Ro.take_on (i := 13) (v := ?_) rfl (by kernel_rfl) (by kernel_rfl) (by kernel_rfl) (fun _ _ _ h => h) (by rfl) (by assumption) ?_ ?_
  rotate_left
  · intro wS hSw; (try dsimp only at hSw); go_simp; try with_reducible rfl
  try simp only [Act.put, List.setIfInBounds_toArray, List.set_cons_zero, List.set_cons_succ]
  refine Ro.take_on (i := 14) (v := ?_) rfl (by kernel_rfl) (by kernel_rfl) (by kernel_rfl) (fun _ _ _ h => h) (by rfl) (by assumption) ?_ ?_
  rotate_left
  · intro wS hSw; (try dsimp only at hSw); go_simp; try with_reducible rfl
  try simp only [Act.put, List.setIfInBounds_toArray, List.set_cons_zero, List.set_cons_succ]
  refine Ro.one_on (i := 8) rfl (by kernel_rfl) (by rfl) (fun K hK => ?_)
  go_simp
  go_at_call 45
  refine RD.out.mono ?_
  rintro e w4 ⟨rfl, hm, hc⟩
  obtain ⟨h4, c4⟩ := H3.out.set_mem hm hc
  have H4 := Lib.hid h4
  have C4 := Lib.hid c4
  clear hm hc h4 c4
  refine hK.out _ _ ?_ (fun hNew => ?_)
  · exact ⟨C4.out.cell hHeld.1 HNE4.out, C4.out.cell hHeld.2.1 HNE4.out, C4.out.cell hHeld.2.2.1 HNE4.out, C4.out.cell hHeld.2.2.2.1 HNE4.out, C4.out.cell hHeld.2.2.2.2.1 HNE4.out, H4.out.cs.2.2.2.1⟩
  clear hK K hHeld; have hHeld := hNew; clear hNew
  try simp only [Act.put, List.setIfInBounds_toArray, List.set_cons_zero, List.set_cons_succ]
  refine Ro.take_on (i := 9) (v := ?_) rfl (by kernel_rfl) (by kernel_rfl) (by kernel_rfl) (fun _ _ _ h => h) (by rfl) (by assumption) ?_ ?_
  rotate_left
  · intro wS hSw; (try dsimp only at hSw); go_simp; try with_reducible rfl
  try simp only [Act.put, List.setIfInBounds_toArray, List.set_cons_zero, List.set_cons_succ]
  refine Ro.take_on (i := 10) (v := ?_) rfl (by kernel_rfl) (by kernel_rfl) (by kernel_rfl) (fun _ _ _ h => h) (by rfl) (by assumption) ?_ ?_
  rotate_left
  · intro wS hSw; (try dsimp only at hSw); go_simp; try with_reducible rfl
  try simp only [Act.put, List.setIfInBounds_toArray, List.set_cons_zero, List.set_cons_succ]
  refine Ro.take_on (i := 11) (v := ?_) rfl (by kernel_rfl) (by kernel_rfl) (by kernel_rfl) (fun _ _ _ h => h) (by rfl) (by assumption) ?_ ?_
  rotate_left
  · intro wS hSw; (try dsimp only at hSw); go_simp; try with_reducible rfl
  try simp only [Act.put, List.setIfInBounds_toArray, List.set_cons_zero, List.set_cons_succ]
  refine Ro.take_on (i := 15) (v := ?_) rfl (by kernel_rfl) (by kernel_rfl) (by kernel_rfl) (fun _ _ _ h => h) (by rfl) (by assumption) ?_ ?_
  rotate_left
  · intro wS hSw; (try dsimp only at hSw); go_simp; try with_reducible rfl
  try simp only [Act.put, List.setIfInBounds_toArray, List.set_cons_zero, List.set_cons_succ]
  refine Ro.one_on (i := 16) rfl (by kernel_rfl) (by rfl) (fun K hK => ?_)
  have hc1 := H4.out.reg ha
  have hf1 := H4.out.fz (1 + ka)
  obtain ⟨h5, c5⟩ := H4.out.set_rg H8.out ha (wv)
  have H5 := Lib.hid h5
  have C5 := Lib.hid c5
  clear h5 c5
  go_wp2_with fail
  clear hc1 hf1
  refine hK.out _ _ ?_ (fun hNew => ?_)
  · exact ⟨C5.out.cell hHeld.1 HNE4.out, C5.out.cell hHeld.2.1 HNE4.out, C5.out.cell hHeld.2.2.1 HNE4.out, C5.out.cell hHeld.2.2.2.1 HNE4.out, C5.out.cell hHeld.2.2.2.2.1 HNE4.out, H5.out.cs.2.2.2.1⟩
  clear hK K hHeld; have hHeld := hNew; clear hNew
  try simp only [Act.put, List.setIfInBounds_toArray, List.set_cons_zero, List.set_cons_succ]
  refine wpAnyH_done (by kernel_rfl) ?_ _
  clear hHeld
  have HC := Lib.hid (((S2.out.drew).chg (S13 R g T)).trans (C4.out.trans C5.out))
  have HH := H5
  generalize w4.setCell _ _ = w6 at *
  go_wp2_with fail
  go_end0
  exact ⟨rfl, HH.out, HC.out⟩
set_option maxRecDepth 100000 in
set_option maxHeartbeats 2000000 in
theorem plain_13 (xn ka kb kc va vb vc : Nat) (hva : va = s.f.rg.getD ka 0) (hvb : vb = s.f.rg.getD kb 0) (hvc : vc = s.f.rg.getD kc 0) (h : W13 w0 w R g gm s T nT cT A m cA oa ol) (hR : ∀ i, R i → i < w.heap.size) (hxn : xn < 4294967296) (ha : ka < 8) (hb : kb < 8) (hc : kc < 8) (ho : 0 ≤ oa ∧ oa ≤ 4096) (hl : 0 < ol ∧ ol ≤ 4096) (hr : ∀ k, s.f.rg.getD k 0 < 4294967296) (h8 : s.f.rg.length = 8) (b1 : Nat) (hb1 : b1 = if s.ws.getD (atN oa ol ⟨13, ka, kb, kc, xn⟩ s.f) 0 = va then 1 else 0) (ws' : List Nat) (hws : ws' = if s.ws.getD (atN oa ol ⟨13, ka, kb, kc, xn⟩ s.f) 0 = va then s.ws.set (atN oa ol ⟨13, ka, kb, kc, xn⟩ s.f) vc else s.ws) (hjw : atN oa ol ⟨13, ka, kb, kc, xn⟩ s.f < s.ws.length) (hst : 0 ≤ s.st ∧ s.st ≤ 4611686018427387904) :
    Calls Tryd.prog 77 #[.pointer (some ⟨g, 0, none⟩), .agg #[.int .i64 13, .int .i64 (ka : Int), .int .i64 (kb : Int), .int .i64 (kc : Int), .int .u32 (xn : Int)]] w (Post13 w0 w R g gm ⟨{ s.f with rg := s.f.rg.set ka b1 }, ws', s.st + 1⟩ T nT cT A m cA oa ol (.tuple #[])) := by
  obtain ⟨w1, hw1⟩ : ∃ w1, w1 = w.alloc (.cells #[.int .i64 13, .int .i64 (ka : Int), .int .i64 (kb : Int), .int .i64 (kc : Int), .int .u32 (xn : Int)] 67) := ⟨_, rfl⟩
  have hs1 : Same w w1 := hw1 ▸ (Same.refl w).alloc _
  have hb1 : Blk w1 w.heap.size 67 #[.int .i64 13, .int .i64 (ka : Int), .int .i64 (kb : Int), .int .i64 (kc : Int), .int .u32 (xn : Int)] := hw1 ▸ Blk.new w _ _
  have H1 := Lib.hid (h.of_same hs1)
  have HS1 := Lib.hid hs1
  have E1 := Lib.hid hw1
  have HB1 := Lib.hid hb1
  have HQ := Lib.hid (show g < w.heap.size from h.wk.lt)
  obtain ⟨y0, y1, y2, y3, y4⟩ := (⟨hb1.cell 0, hb1.cell 1, hb1.cell 2, hb1.cell 3, hb1.cell 4⟩ : _ ∧ _ ∧ _ ∧ _ ∧ _)
  simp only [List.getElem?_toArray, List.getElem?_cons_zero, List.getElem?_cons_succ] at y0 y1 y2 y3 y4
  clear hs1 hw1 hb1
  have HNE := Lib.hid (h13_lt H1.out (fun i hi => Nat.lt_of_lt_of_le (hR i hi) HS1.out.size))
  have HNE4 := Lib.hid (h13_lt h hR)
  have hra := H1.out.reg ha
  have hrb := H1.out.reg hb
  have hrc := H1.out.reg hc
  have hra2 := hr ka
  have hrb2 := hr kb
  have hrc2 := hr kc
  rw [← hva] at hra hra2
  rw [← hvb] at hrb hrb2
  rw [← hvc] at hrc hrc2
  have hj := off_cast vb xn oa ol ho.1 hl.1
  have hatn : atN oa ol ⟨13, ka, kb, kc, xn⟩ s.f = oa.toNat + (vb + xn) % 4294967296 % ol.toNat := by
    unfold atN offN rgv
    simp only [Int.toNat_natCast, ← hvb]
  have HVA := Lib.hid hva
  have HVB := Lib.hid hvb
  have HVC := Lib.hid hvc
  clear hva hvb hvc
  have PA := Lib.hid (fun (w' : World) (h' : W13 w0 w' R g gm s T nT cT A m cA oa ol) => by
    have h2 := place_any g s.f T nT cT A m cA (some ⟨gm, 0, none⟩) oa ol ((vb + xn) % 4294967296) w' h'.wk ho hl (Nat.mod_lt _ (by decide))
    have e2 : (((vb + xn) % 4294967296 : Nat) : Int) = ((vb : Int) + (xn : Int)) % 4294967296 := by rw [Int.natCast_emod _ 4294967296, Int.natCast_add]; rfl
    rw [e2, hj, ← hatn] at h2
    exact h2)
  have HATN := Lib.hid hatn
  generalize atN oa ol ⟨13, ka, kb, kc, xn⟩ s.f = j at *
  have a0 : (0 : Int) ≤ (ka : Int) := by omega
  have a8 : (ka : Int) < 8 := by omega
  have b0 : (0 : Int) ≤ (kb : Int) := by omega
  have b8 : (kb : Int) < 8 := by omega
  have c0 : (0 : Int) ≤ (kc : Int) := by omega
  have c8 : (kc : Int) < 8 := by omega
  have H8 := Lib.hid h8
  have HR := Lib.hid hr
  clear hj hatn h8 hr h
  go_enter Tryd.func77, Tryd.ntmps77
  go_wp2_with fail
  rw [← E1.out]
  go_quiet ((go_at_call 98; exact Calls.quiet_of (PA.out _ (H1.out.of_same ((Same.refl w1).drewN _)))))
  have s2 : Same w1 (w1.drewN nq) := (Same.refl w1).drewN nq
  have S2 := Lib.hid (HS1.out.trans s2)
  have H2 := Lib.hid (H1.out.of_same s2)
  have HQ2 := Lib.hid (Nat.lt_of_lt_of_le (show w.heap.size < w1.heap.size from HB1.out.lt) s2.size)
  obtain ⟨x0, x1, x2, x3, x4⟩ := (⟨s2.cell y0, s2.cell y1, s2.cell y2, s2.cell y3, s2.cell y4⟩ : _ ∧ _ ∧ _ ∧ _ ∧ _)
  obtain ⟨ra, rb, rc⟩ := (⟨s2.cell hra, s2.cell hrb, s2.cell hrc⟩ : _ ∧ _ ∧ _)
  clear s2 y0 y1 y2 y3 y4 hra hrb hrc PA E1 HB1
  generalize w1.drewN nq = w2 at *
  have z11 := H2.out.cs.2.2.2.1
  generalize w.heap.size = q at *
  have H3 := Lib.hid (H2.out.of_same ((Same.refl w2).drew))
  have SW := Lib.hid (swap_any j va vc H3.out hjw hst)
  have hb2 : ((if s.ws.getD j 0 = va then (1 : Int) else 0)) = (b1 : Int) := by rw [hb1]; split <;> rfl
  rw [hb2, ← hws] at SW
  clear hb1 hb2 hws
  go_wp2_with fail
  refine wp_region_held_drew (S := (fun w' => w'.cell? ⟨q, 0, none⟩ = some (.int .i64 13) ∧ w'.cell? ⟨q, 1, none⟩ = some (.int .i64 (ka : Int)) ∧ w'.cell? ⟨q, 2, none⟩ = some (.int .i64 (kb : Int)) ∧ w'.cell? ⟨q, 3, none⟩ = some (.int .i64 (kc : Int)) ∧ w'.cell? ⟨q, 4, none⟩ = some (.int .u32 (xn : Int)) ∧ w'.cell? ⟨g, 11, none⟩ = some (.pointer (some ⟨gm, 0, none⟩)))) (by kernel_rfl) ?_ (fun hHeld => ?_)
  · exact ⟨x0, x1, x2, x3, x4, z11⟩
  refine Ro.take_on (i := 0) (v := ?_) rfl (by kernel_rfl) (by kernel_rfl) (by kernel_rfl) (fun _ _ _ h => h) (by rfl) (by assumption) ?_ ?_
  rotate_left
  · intro wS hSw; (try dsimp only at hSw); go_simp; try with_reducible rfl
  try simp only [Act.put, List.setIfInBounds_toArray, List.set_cons_zero, List.set_cons_succ]
  refine Ro.take_on (i := 1) (v := ?_) rfl (by kernel_rfl) (by kernel_rfl) (by kernel_rfl) (fun _ _ _ h => h) (by rfl) (by assumption) ?_ ?_
  rotate_left
  · intro wS hSw; (try dsimp only at hSw); go_simp; try with_reducible rfl
  try simp only [Act.put, List.setIfInBounds_toArray, List.set_cons_zero, List.set_cons_succ]
  refine Ro.take_on (i := 2) (v := ?_) rfl (by kernel_rfl) (by kernel_rfl) (by kernel_rfl) (fun _ _ _ h => h) (by rfl) (by assumption) ?_ ?_
  rotate_left
  · intro wS hSw; (try dsimp only at hSw); go_simp; try with_reducible rfl
  try simp only [Act.put, List.setIfInBounds_toArray, List.set_cons_zero, List.set_cons_succ]
  refine Ro.take_on (i := 3) (v := ?_) rfl (by kernel_rfl) (by kernel_rfl) (by kernel_rfl) (fun _ _ _ h => h) (by rfl) (by assumption) ?_ ?_
  rotate_left
  · intro wS hSw; (try dsimp only at hSw); go_simp; try with_reducible rfl
  try simp only [Act.put, List.setIfInBounds_toArray, List.set_cons_zero, List.set_cons_succ]
  refine Ro.take_on (i := 4) (v := ?_) rfl (by kernel_rfl) (by kernel_rfl) (by kernel_rfl) (fun _ _ _ h => h) (by rfl) (by assumption) ?_ ?_
  rotate_left
  · intro wS hSw; (try dsimp only at hSw); go_simp; try with_reducible rfl
  try simp only [Act.put, List.setIfInBounds_toArray, List.set_cons_zero, List.set_cons_succ]
  refine Ro.take_on (i := 5) (v := ?_) rfl (by kernel_rfl) (by kernel_rfl) (by kernel_rfl) (fun _ _ _ h => h) (by rfl) (by assumption) ?_ ?_
  rotate_left
  · intro wS hSw; (try dsimp only at hSw); go_simp; try with_reducible rfl
  try simp only [Act.put, List.setIfInBounds_toArray, List.set_cons_zero, List.set_cons_succ]
  refine Ro.take_on (i := 6) (v := ?_) rfl (by kernel_rfl) (by kernel_rfl) (by kernel_rfl) (fun _ _ _ h => h) (by rfl) (by assumption) ?_ ?_
  rotate_left
  · intro wS hSw; (try dsimp only at hSw); go_simp; try with_reducible rfl
  try simp only [Act.put, List.setIfInBounds_toArray, List.set_cons_zero, List.set_cons_succ]
  refine Ro.take_on (i := 7) (v := ?_) rfl (by kernel_rfl) (by kernel_rfl) (by kernel_rfl) (fun _ _ _ h => h) (by rfl) (by assumption) ?_ ?_
  rotate_left
  · intro wS hSw; (try dsimp only at hSw); go_simp; try with_reducible rfl
  try simp only [Act.put, List.setIfInBounds_toArray, List.set_cons_zero, List.set_cons_succ]
  refine Ro.take_on (i := 8) (v := ?_) rfl (by kernel_rfl) (by kernel_rfl) (by kernel_rfl) (fun _ _ _ h => h) (by rfl) (by assumption) ?_ ?_
  rotate_left
  · intro wS hSw; (try dsimp only at hSw); go_simp; try with_reducible rfl
  try simp only [Act.put, List.setIfInBounds_toArray, List.set_cons_zero, List.set_cons_succ]
  refine Ro.take_on (i := 9) (v := ?_) rfl (by kernel_rfl) (by kernel_rfl) (by kernel_rfl) (fun _ _ _ h => h) (by rfl) (by assumption) ?_ ?_
  rotate_left
  · intro wS hSw; (try dsimp only at hSw); go_simp; try with_reducible rfl
  try simp only [Act.put, List.setIfInBounds_toArray, List.set_cons_zero, List.set_cons_succ]
  refine Ro.take_on (i := 10) (v := ?_) rfl (by kernel_rfl) (by kernel_rfl) (by kernel_rfl) (fun _ _ _ h => h) (by rfl) (by assumption) ?_ ?_
  rotate_left
  · intro wS hSw; (try dsimp only at hSw); go_simp; try with_reducible rfl
  try simp only [Act.put, List.setIfInBounds_toArray, List.set_cons_zero, List.set_cons_succ]
  refine Ro.take_on (i := 11) (v := ?_) rfl (by kernel_rfl) (by kernel_rfl) (by kernel_rfl) (fun _ _ _ h => h) (by rfl) (by assumption) ?_ ?_
  rotate_left
  · intro wS hSw; (try dsimp only at hSw); go_simp; try with_reducible rfl
  try simp only [Act.put, List.setIfInBounds_toArray, List.set_cons_zero, List.set_cons_succ]
  refine Ro.take_on (i := 13) (v := ?_) rfl (by kernel_rfl) (by kernel_rfl) (by kernel_rfl) (fun _ _ _ h => h) (by rfl) (by assumption) ?_ ?_
  rotate_left
  · intro wS hSw; (try dsimp only at hSw); go_simp; try with_reducible rfl
  try simp only [Act.put, List.setIfInBounds_toArray, List.set_cons_zero, List.set_cons_succ]
  refine Ro.take_on (i := 14) (v := ?_) rfl (by kernel_rfl) (by kernel_rfl) (by kernel_rfl) (fun _ _ _ h => h) (by rfl) (by assumption) ?_ ?_
  rotate_left
  · intro wS hSw; (try dsimp only at hSw); go_simp; try with_reducible rfl
  try simp only [Act.put, List.setIfInBounds_toArray, List.set_cons_zero, List.set_cons_succ]
  refine Ro.take_on (i := 15) (v := ?_) rfl (by kernel_rfl) (by kernel_rfl) (by kernel_rfl) (fun _ _ _ h => h) (by rfl) (by assumption) ?_ ?_
  rotate_left
  · intro wS hSw; (try dsimp only at hSw); go_simp; try with_reducible rfl
  try simp only [Act.put, List.setIfInBounds_toArray, List.set_cons_zero, List.set_cons_succ]
  refine Ro.take_on (i := 16) (v := ?_) rfl (by kernel_rfl) (by kernel_rfl) (by kernel_rfl) (fun _ _ _ h => h) (by rfl) (by assumption) ?_ ?_
  rotate_left
  · intro wS hSw; (try dsimp only at hSw); go_simp; try with_reducible rfl
  try simp only [Act.put, List.setIfInBounds_toArray, List.set_cons_zero, List.set_cons_succ]
  refine Ro.take_on (i := 17) (v := ?_) rfl (by kernel_rfl) (by kernel_rfl) (by kernel_rfl) (fun _ _ _ h => h) (by rfl) (by assumption) ?_ ?_
  rotate_left
  · intro wS hSw; (try dsimp only at hSw); go_simp; try with_reducible rfl
  try simp only [Act.put, List.setIfInBounds_toArray, List.set_cons_zero, List.set_cons_succ]
  refine Ro.take_on (i := 18) (v := ?_) rfl (by kernel_rfl) (by kernel_rfl) (by kernel_rfl) (fun _ _ _ h => h) (by rfl) (by assumption) ?_ ?_
  rotate_left
  · intro wS hSw; (try dsimp only at hSw); go_simp; try with_reducible rfl
  try simp only [Act.put, List.setIfInBounds_toArray, List.set_cons_zero, List.set_cons_succ]
  refine Ro.take_on (i := 19) (v := ?_) rfl (by kernel_rfl) (by kernel_rfl) (by kernel_rfl) (fun _ _ _ h => h) (by rfl) (by assumption) ?_ ?_
  rotate_left
  · intro wS hSw; (try dsimp only at hSw); go_simp; try with_reducible rfl
  try simp only [Act.put, List.setIfInBounds_toArray, List.set_cons_zero, List.set_cons_succ]
  refine Ro.take_on (i := 22) (v := ?_) rfl (by kernel_rfl) (by kernel_rfl) (by kernel_rfl) (fun _ _ _ h => h) (by rfl) (by assumption) ?_ ?_
  rotate_left
  · intro wS hSw; (try dsimp only at hSw); go_simp; try with_reducible rfl
  try simp only [Act.put, List.setIfInBounds_toArray, List.set_cons_zero, List.set_cons_succ]
  refine Ro.take_on (i := 23) (v := ?_) rfl (by kernel_rfl) (by kernel_rfl) (by kernel_rfl) (fun _ _ _ h => h) (by rfl) (by assumption) ?_ ?_
  rotate_left
  · intro wS hSw; (try dsimp only at hSw); go_simp; try with_reducible rfl
  try simp only [Act.put, List.setIfInBounds_toArray, List.set_cons_zero, List.set_cons_succ]
  refine Ro.take_on (i := 24) (v := ?_) rfl (by kernel_rfl) (by kernel_rfl) (by kernel_rfl) (fun _ _ _ h => h) (by rfl) (by assumption) ?_ ?_
  rotate_left
  · intro wS hSw; (try dsimp only at hSw); go_simp; try with_reducible rfl
  try simp only [Act.put, List.setIfInBounds_toArray, List.set_cons_zero, List.set_cons_succ]
  have ra2 := H3.out.reg ha
  have rc2 := H3.out.reg hc
  rw [← HVA.out] at ra2
  rw [← HVC.out] at rc2
  refine Ra.two_on (i := 12) (j := 20) rfl rfl (by kernel_rfl) (by rfl) (by rfl) (fun K hK => ?_) (fun K hK => ?_)
  · go_simp
    refine hK.out _ _ ?_ (fun hNew => ?_)
    · exact hHeld
    clear hK K hHeld; have hHeld := hNew; clear hNew
    try simp only [Act.put, List.setIfInBounds_toArray, List.set_cons_zero, List.set_cons_succ]
    refine Ro.one_on (i := 20) rfl (by kernel_rfl) (by rfl) (fun K hK => ?_)
    go_simp
    refine hK.out _ _ ?_ (fun hNew => ?_)
    · exact hHeld
    clear hK K hHeld; have hHeld := hNew; clear hNew
    try simp only [Act.put, List.setIfInBounds_toArray, List.set_cons_zero, List.set_cons_succ]
    clear ra2 rc2
    refine Ro.one_on (i := 21) rfl (by kernel_rfl) (by rfl) (fun K hK => ?_)
    go_simp
    go_at_call 100
    refine SW.out.mono ?_
    rintro e w4 ⟨rfl, h4, c4⟩
    have H4 := Lib.hid h4
    have C4 := Lib.hid c4
    clear h4 c4
    refine hK.out _ _ ?_ (fun hNew => ?_)
    · exact ⟨C4.out.cell hHeld.1 HNE4.out, C4.out.cell hHeld.2.1 HNE4.out, C4.out.cell hHeld.2.2.1 HNE4.out, C4.out.cell hHeld.2.2.2.1 HNE4.out, C4.out.cell hHeld.2.2.2.2.1 HNE4.out, H4.out.cs.2.2.2.1⟩
    clear hK K hHeld; have hHeld := hNew; clear hNew
    try simp only [Act.put, List.setIfInBounds_toArray, List.set_cons_zero, List.set_cons_succ]
    refine Ro.take_on (i := 25) (v := ?_) rfl (by kernel_rfl) (by kernel_rfl) (by kernel_rfl) (fun _ _ _ h => h) (by rfl) (by assumption) ?_ ?_
    rotate_left
    · intro wS hSw; (try dsimp only at hSw); go_simp; try with_reducible rfl
    try simp only [Act.put, List.setIfInBounds_toArray, List.set_cons_zero, List.set_cons_succ]
    refine Ro.one_on (i := 26) rfl (by kernel_rfl) (by rfl) (fun K hK => ?_)
    have hc1 := H4.out.reg ha
    have hf1 := H4.out.fz (1 + ka)
    obtain ⟨h5, c5⟩ := H4.out.set_rg H8.out ha (b1)
    have H5 := Lib.hid h5
    have C5 := Lib.hid c5
    clear h5 c5
    go_wp2_with fail
    clear hc1 hf1
    refine hK.out _ _ ?_ (fun hNew => ?_)
    · exact ⟨C5.out.cell hHeld.1 HNE4.out, C5.out.cell hHeld.2.1 HNE4.out, C5.out.cell hHeld.2.2.1 HNE4.out, C5.out.cell hHeld.2.2.2.1 HNE4.out, C5.out.cell hHeld.2.2.2.2.1 HNE4.out, H5.out.cs.2.2.2.1⟩
    clear hK K hHeld; have hHeld := hNew; clear hNew
    try simp only [Act.put, List.setIfInBounds_toArray, List.set_cons_zero, List.set_cons_succ]
    refine wpAnyH_done (by kernel_rfl) ?_ _
    clear hHeld
    have HC := Lib.hid (((S2.out.drew).chg (S13 R g T)).trans (C4.out.trans C5.out))
    have HH := H5
    generalize w4.setCell _ _ = w6 at *
    go_wp2_with fail
    go_end0
    exact ⟨rfl, HH.out, HC.out⟩
  · go_simp
    refine hK.out _ _ ?_ (fun hNew => ?_)
    · exact hHeld
    clear hK K hHeld; have hHeld := hNew; clear hNew
    try simp only [Act.put, List.setIfInBounds_toArray, List.set_cons_zero, List.set_cons_succ]
    refine Ro.one_on (i := 12) rfl (by kernel_rfl) (by rfl) (fun K hK => ?_)
    go_simp
    refine hK.out _ _ ?_ (fun hNew => ?_)
    · exact hHeld
    clear hK K hHeld; have hHeld := hNew; clear hNew
    try simp only [Act.put, List.setIfInBounds_toArray, List.set_cons_zero, List.set_cons_succ]
    clear ra2 rc2
    refine Ro.one_on (i := 21) rfl (by kernel_rfl) (by rfl) (fun K hK => ?_)
    go_simp
    go_at_call 100
    refine SW.out.mono ?_
    rintro e w4 ⟨rfl, h4, c4⟩
    have H4 := Lib.hid h4
    have C4 := Lib.hid c4
    clear h4 c4
    refine hK.out _ _ ?_ (fun hNew => ?_)
    · exact ⟨C4.out.cell hHeld.1 HNE4.out, C4.out.cell hHeld.2.1 HNE4.out, C4.out.cell hHeld.2.2.1 HNE4.out, C4.out.cell hHeld.2.2.2.1 HNE4.out, C4.out.cell hHeld.2.2.2.2.1 HNE4.out, H4.out.cs.2.2.2.1⟩
    clear hK K hHeld; have hHeld := hNew; clear hNew
    try simp only [Act.put, List.setIfInBounds_toArray, List.set_cons_zero, List.set_cons_succ]
    refine Ro.take_on (i := 25) (v := ?_) rfl (by kernel_rfl) (by kernel_rfl) (by kernel_rfl) (fun _ _ _ h => h) (by rfl) (by assumption) ?_ ?_
    rotate_left
    · intro wS hSw; (try dsimp only at hSw); go_simp; try with_reducible rfl
    try simp only [Act.put, List.setIfInBounds_toArray, List.set_cons_zero, List.set_cons_succ]
    refine Ro.one_on (i := 26) rfl (by kernel_rfl) (by rfl) (fun K hK => ?_)
    have hc1 := H4.out.reg ha
    have hf1 := H4.out.fz (1 + ka)
    obtain ⟨h5, c5⟩ := H4.out.set_rg H8.out ha (b1)
    have H5 := Lib.hid h5
    have C5 := Lib.hid c5
    clear h5 c5
    go_wp2_with fail
    clear hc1 hf1
    refine hK.out _ _ ?_ (fun hNew => ?_)
    · exact ⟨C5.out.cell hHeld.1 HNE4.out, C5.out.cell hHeld.2.1 HNE4.out, C5.out.cell hHeld.2.2.1 HNE4.out, C5.out.cell hHeld.2.2.2.1 HNE4.out, C5.out.cell hHeld.2.2.2.2.1 HNE4.out, H5.out.cs.2.2.2.1⟩
    clear hK K hHeld; have hHeld := hNew; clear hNew
    try simp only [Act.put, List.setIfInBounds_toArray, List.set_cons_zero, List.set_cons_succ]
    refine wpAnyH_done (by kernel_rfl) ?_ _
    clear hHeld
    have HC := Lib.hid (((S2.out.drew).chg (S13 R g T)).trans (C4.out.trans C5.out))
    have HH := H5
    generalize w4.setCell _ _ = w6 at *
    go_wp2_with fail
    go_end0
    exact ⟨rfl, HH.out, HC.out⟩
end
end Go.Proofs.YtiipdeionmndcaaDoor.Fr
