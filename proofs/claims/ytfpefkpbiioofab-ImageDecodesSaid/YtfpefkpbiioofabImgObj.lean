/-
  Layer 33: an object read (image.object).
-/
import Derived.Test.YtfpefkpbiioofabImgTask
set_option linter.unusedVariables false
set_option linter.unusedSimpArgs false
namespace Go.Proofs.Ytfpefkpbiioofab.Im
open Go.ChangeShapes Go.WideShapes Go.ChangeAt Go.RowKit Ws Cd

set_option maxRecDepth 100000 in
set_option maxHeartbeats 4000000 in
theorem objr_any {R : Nat → Prop} {g : Nat} {l : List Int} {r : Rs} (w : World) (h : RSt w R g l r) (hb : By l) (hR : ∀ i, R i → i < w.heap.size) :
    Calls Try.prog 35 #[.pointer (some ⟨g, 0, none⟩)] w fun e w' => ∃ d : DO, e = .returned (.agg d.cells.toArray) ∧ d.p = (rO l r).1 ∧ d.ok w' w.heap.size ∧ RSt w' R g l (rO l r).2 ∧ Chg R w w' := by
  have hs1 := (Same.refl w).alloc (.cells #[.int .i64 0, .int .i64 0, .int .i64 0, .int .i64 0, .int .u32 0, .slice none 0 0, .int .i64 0, .slice none 0 0] 56)
  have HB0 := Lib.hid (Blk.new w 56 #[.int .i64 0, .int .i64 0, .int .i64 0, .int .i64 0, .int .u32 0, .slice none 0 0, .int .i64 0, .slice none 0 0])
  have HR0 := Lib.hid (show RSt _ R g l r from Rd.same h hs1)
  have HC0 := Lib.hid (hs1.chg R)
  have HNR := Lib.hid (show ¬ R w.heap.size from fun hi => Nat.lt_irrefl _ (hR _ hi))
  have HZ0 := Lib.hid (fun i (hi : R i) => Nat.lt_of_lt_of_le (hR i hi) hs1.size)
  have HRB := Lib.hid hR
  have HBY := Lib.hid hb
  clear h hb hs1 hR
  go_enter Try.func35, Try.ntmps35
  go_wp2_with fail
  refine (u8r _ HR0.out HBY.out).mono ?_
  rintro e w1 ⟨rfl, h1, s1⟩
  obtain ⟨⟨x1, r1⟩, hx1⟩ : ∃ p, p = rU l 1 r := ⟨_, rfl⟩
  rw [← hx1] at h1 ⊢
  have E1 := Lib.hid hx1
  have HR1 := Lib.hid h1
  have HC1 := Lib.hid (HC0.out.trans s1)
  have HB1 := Lib.hid (HB0.out.chg s1 HNR.out)
  have HZ1 := Lib.hid (fun i (hi : R i) => Nat.lt_of_lt_of_le (HZ0.out i hi) s1.size)
  clear hx1 h1 s1 HR0 HC0 HB0 HZ0
  dsimp only
  go_wp2_with fail
  refine (u8r _ HR1.out HBY.out).mono ?_
  rintro e w2 ⟨rfl, h2, s2⟩
  obtain ⟨⟨x2, r2⟩, hx2⟩ : ∃ p, p = rU l 1 r1 := ⟨_, rfl⟩
  rw [← hx2] at h2 ⊢
  have E2 := Lib.hid hx2
  have HR2 := Lib.hid h2
  have HC2 := Lib.hid (HC1.out.trans s2)
  have HB2 := Lib.hid (HB1.out.chg s2 HNR.out)
  have HZ2 := Lib.hid (fun i (hi : R i) => Nat.lt_of_lt_of_le (HZ1.out i hi) s2.size)
  clear hx2 h2 s2 HR1 HC1 HB1 HZ1
  dsimp only
  go_wp2_with fail
  refine (u8r _ HR2.out HBY.out).mono ?_
  rintro e w3 ⟨rfl, h3, s3⟩
  obtain ⟨⟨x3, r3⟩, hx3⟩ : ∃ p, p = rU l 1 r2 := ⟨_, rfl⟩
  rw [← hx3] at h3 ⊢
  have E3 := Lib.hid hx3
  have HR3 := Lib.hid h3
  have HC3 := Lib.hid (HC2.out.trans s3)
  have HB3 := Lib.hid (HB2.out.chg s3 HNR.out)
  have HZ3 := Lib.hid (fun i (hi : R i) => Nat.lt_of_lt_of_le (HZ2.out i hi) s3.size)
  clear hx3 h3 s3 HR2 HC2 HB2 HZ2
  dsimp only
  go_wp2_with fail
  refine (u8r _ HR3.out HBY.out).mono ?_
  rintro e w4 ⟨rfl, h4, s4⟩
  obtain ⟨⟨x4, r4⟩, hx4⟩ : ∃ p, p = rU l 1 r3 := ⟨_, rfl⟩
  rw [← hx4] at h4 ⊢
  have E4 := Lib.hid hx4
  have HR4 := Lib.hid h4
  have HC4 := Lib.hid (HC3.out.trans s4)
  have HB4 := Lib.hid (HB3.out.chg s4 HNR.out)
  have HZ4 := Lib.hid (fun i (hi : R i) => Nat.lt_of_lt_of_le (HZ3.out i hi) s4.size)
  clear hx4 h4 s4 HR3 HC3 HB3 HZ3
  dsimp only
  go_wp2_with fail
  refine (u32r _ HR4.out HBY.out).mono ?_
  rintro e w5 ⟨rfl, h5, s5⟩
  obtain ⟨⟨x5, r5⟩, hx5⟩ : ∃ p, p = rU l 4 r4 := ⟨_, rfl⟩
  rw [← hx5] at h5 ⊢
  have E5 := Lib.hid hx5
  have HR5 := Lib.hid h5
  have HC5 := Lib.hid (HC4.out.trans s5)
  have HB5 := Lib.hid (HB4.out.chg s5 HNR.out)
  have HZ5 := Lib.hid (fun i (hi : R i) => Nat.lt_of_lt_of_le (HZ4.out i hi) s5.size)
  clear hx5 h5 s5 HR4 HC4 HB4 HZ4
  dsimp only
  go_wp2_with fail
  refine (u8r _ HR5.out HBY.out).mono ?_
  rintro e w6 ⟨rfl, h6, s6⟩
  obtain ⟨⟨x6, r6⟩, hx6⟩ : ∃ p, p = rU l 1 r5 := ⟨_, rfl⟩
  rw [← hx6] at h6 ⊢
  have E6 := Lib.hid hx6
  have HR6 := Lib.hid h6
  have HC6 := Lib.hid (HC5.out.trans s6)
  have HB6 := Lib.hid (HB5.out.chg s6 HNR.out)
  have HZ6 := Lib.hid (fun i (hi : R i) => Nat.lt_of_lt_of_le (HZ5.out i hi) s6.size)
  clear hx6 h6 s6 HR5 HC5 HB5 HZ5
  dsimp only
  go_wp2_with fail
  refine (u8r _ HR6.out HBY.out).mono ?_
  rintro e w7 ⟨rfl, h7, s7⟩
  obtain ⟨⟨x7, r7⟩, hx7⟩ : ∃ p, p = rU l 1 r6 := ⟨_, rfl⟩
  rw [← hx7] at h7 ⊢
  have E7 := Lib.hid hx7
  have HR7 := Lib.hid h7
  have HC7 := Lib.hid (HC6.out.trans s7)
  have HB7 := Lib.hid (HB6.out.chg s7 HNR.out)
  have HZ7 := Lib.hid (fun i (hi : R i) => Nat.lt_of_lt_of_le (HZ6.out i hi) s7.size)
  clear hx7 h7 s7 HR6 HC6 HB6 HZ6
  dsimp only
  obtain ⟨N, hN, hN2⟩ := nat_of (x := x7) (by have := tld1_bd HBY.out r6; have h := congrArg Prod.fst E7.out; simp only [rU] at h; omega)
  subst hN
  go_wp2_with fail
  refine (listN N hN2 _ HR7.out HBY.out HZ7.out).mono ?_
  rintro e w8 ⟨A8, c8, rfl, o8, h8, s8⟩
  have HSZ7 := Lib.hid HC7.out.size
  obtain ⟨⟨x8, r8⟩, hx8⟩ : ∃ p, p = rL (rU l 1) N r7 := ⟨_, rfl⟩
  rw [← hx8] at h8 o8
  have E8 := Lib.hid hx8
  have HR8 := Lib.hid h8
  have HC8 := Lib.hid (HC7.out.trans s8)
  have HB8 := Lib.hid (HB7.out.chg s8 HNR.out)
  have HZ8 := Lib.hid (fun i (hi : R i) => Nat.lt_of_lt_of_le (HZ7.out i hi) s8.size)
  clear hx8 h8 s8 HR7 HC7 HB7 HZ7
  dsimp only
  have HO8 := Lib.hid o8
  clear o8
  go_wp2_with fail
  refine (u8r _ HR8.out HBY.out).mono ?_
  rintro e w9 ⟨rfl, h9, s9⟩
  obtain ⟨⟨x9, r9⟩, hx9⟩ : ∃ p, p = rU l 1 r8 := ⟨_, rfl⟩
  rw [← hx9] at h9 ⊢
  have E9 := Lib.hid hx9
  have HR9 := Lib.hid h9
  have HC9 := Lib.hid (HC8.out.trans s9)
  have HB9 := Lib.hid (HB8.out.chg s9 HNR.out)
  have HZ9 := Lib.hid (fun i (hi : R i) => Nat.lt_of_lt_of_le (HZ8.out i hi) s9.size)
  have HP9 := Lib.hid (HO8.out.chg s9 fun i hi hS => by have := ownK_ge HO8.out hi; have := HRB.out i hS; have := HSZ7.out; omega)
  clear hx9 h9 s9 HR8 HC8 HB8 HZ8
  dsimp only
  clear HO8
  obtain ⟨M, hM, hM2⟩ := nat_of (x := x9) (by have := tld1_bd HBY.out r8; have h := congrArg Prod.fst E9.out; simp only [rU] at h; omega)
  subst hM
  go_wp2_with fail
  refine (listW M hM2 _ HR9.out HBY.out HZ9.out).mono ?_
  rintro e w10 ⟨A10, c10, rfl, o10, h10, s10⟩
  have HSZ9 := Lib.hid HC9.out.size
  obtain ⟨⟨x10, r10⟩, hx10⟩ : ∃ p, p = rL (rU l 4) M r9 := ⟨_, rfl⟩
  rw [← hx10] at h10 o10
  have E10 := Lib.hid hx10
  have HR10 := Lib.hid h10
  have HC10 := Lib.hid (HC9.out.trans s10)
  have HB10 := Lib.hid (HB9.out.chg s10 HNR.out)
  have HZ10 := Lib.hid (fun i (hi : R i) => Nat.lt_of_lt_of_le (HZ9.out i hi) s10.size)
  have HP10 := Lib.hid (HP9.out.chg s10 fun i hi hS => by have := ownK_ge HP9.out hi; have := HRB.out i hS; have := HSZ7.out; omega)
  clear hx10 h10 s10 HR9 HC9 HB9 HZ9
  dsimp only
  have HO10 := Lib.hid o10
  clear o10 HP9
  obtain ⟨y0, y1, y2, y3, y4, y5, y6, y7⟩ := (⟨HB10.out.thaw 0, HB10.out.thaw 1, HB10.out.thaw 2, HB10.out.thaw 3, HB10.out.thaw 4, HB10.out.thaw 5, HB10.out.thaw 6, HB10.out.thaw 7⟩ : _ ∧ _ ∧ _ ∧ _ ∧ _ ∧ _ ∧ _ ∧ _)
  obtain ⟨z0, z1, z2, z3, z4, z5, z6, z7⟩ := (⟨HB10.out.cell 0, HB10.out.cell 1, HB10.out.cell 2, HB10.out.cell 3, HB10.out.cell 4, HB10.out.cell 5, HB10.out.cell 6, HB10.out.cell 7⟩ : _ ∧ _ ∧ _ ∧ _ ∧ _ ∧ _ ∧ _ ∧ _)
  simp only [List.getElem?_toArray, List.getElem?_cons_zero, List.getElem?_cons_succ] at z0 z1 z2 z3 z4 z5 z6 z7
  go_wp2_with fail
  clear y0 y1 y2 y3 y4 y5 y6 y7 z0 z1 z2 z3 z4 z5 z6 z7
  obtain ⟨p1, p2⟩ := puts8 (v0 := .int .i64 x1) (v1 := .int .i64 x2) (v2 := .int .i64 x3) (v3 := .int .i64 x4) (v4 := .int .u32 x5) (v5 := .slice A10 M c10) (v6 := .int .i64 x6) (v7 := .slice A8 N c8) HB10.out
  refine bodyPost_ret (v := .agg #[.int .i64 x1, .int .i64 x2, .int .i64 x3, .int .i64 x4, .int .u32 x5, .slice A10 M c10, .int .i64 x6, .slice A8 N c8]) (results_cell_row Try.results35 _ _ w.heap.size 56 #[.int .i64 x1, .int .i64 x2, .int .i64 x3, .int .i64 x4, .int .u32 x5, .slice A10 M c10, .int .i64 x6, .slice A8 N c8] (0, 0) _ rfl p1 Try.underlying56 rfl obj_size) rfl ?_
  have hl8 : x8.length = N := by have h := congrArg (fun p => p.1.length) E8.out; simp only [rL_len] at h; exact h
  have hl10 : x10.length = M := by have h := congrArg (fun p => p.1.length) E10.out; simp only [rL_len] at h; exact h
  have hO : rO l r = (⟨x1, x2, x3, x4, x5, x6, x8, x10⟩, r10) := by
    simp only [rO, ← E1.out, ← E2.out, ← E3.out, ← E4.out, ← E5.out, ← E6.out, ← E7.out, Int.toNat_natCast, ← E8.out, ← E9.out, ← E10.out]
  refine ⟨⟨⟨x1, x2, x3, x4, x5, x6, x8, x10⟩, A10, c10, A8, c8⟩, by simp only [DO.cells, ocells, hl8, hl10], by rw [hO], ⟨?_, ?_⟩, by rw [hO]; exact Rd.chg HR10.out p2 (fun i hi he => HNR.out (he ▸ hi)), chg_new HC10.out p2 (Nat.le_refl _)⟩
  · show OwnK _ w.heap.size 50 1 A10 x10.length c10 (x10.flatMap words1)
    rw [hl10]
    exact OwnK.chg (HO10.out.base HSZ9.out) p2 (fun i hi he => HO10.out.ne HB10.out (by decide) i hi he)
  · show OwnK _ w.heap.size 3 1 A8 x8.length c8 (x8.flatMap ints1)
    rw [hl8]
    exact OwnK.chg (HP10.out.base HSZ7.out) p2 (fun i hi he => HP10.out.ne HB10.out (by decide) i hi he)
end Go.Proofs.Ytfpefkpbiioofab.Im
