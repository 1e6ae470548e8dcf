/-
  Layer 33: a task read, an object read (image.task, image.object).
-/
import Derived.Test.YtfpefkpbiioofabImgList
set_option linter.unusedVariables false
set_option linter.unusedSimpArgs false
namespace Go.Proofs.Ytfpefkpbiioofab.Im
open Go.ChangeShapes Go.WideShapes Go.ChangeAt Go.RowKit Ws Cd

theorem task_size : (Try.prog.info? 49).map (·.size) = some 7 := by kernel_rfl
theorem obj_size : (Try.prog.info? 56).map (·.size) = some 8 := by kernel_rfl
/-- a task, and where its program stands -/
structure DT where
  p : PT
  X : Option Addr
  c : Nat
def DT.cells (d : DT) : List Value := tcells d.p d.X d.c
def DT.ok (w : World) (H : Nat) (d : DT) : Prop := OwnK w H 52 5 d.X d.p.code.length d.c (d.p.code.flatMap icells)
structure DO where
  p : PO
  X : Option Addr
  c : Nat
  Y : Option Addr
  d : Nat
def DO.cells (d : DO) : List Value := ocells d.p d.X d.c d.Y d.d
def DO.ok (w : World) (H : Nat) (d : DO) : Prop := OwnK w H 50 1 d.X d.p.ini.length d.c (d.p.ini.flatMap words1) ∧ OwnK w H 3 1 d.Y d.p.rd.length d.d (d.p.rd.flatMap ints1)
theorem nat_of {x : Int} (h : 0 ≤ x ∧ x < 256) : ∃ n : Nat, x = n ∧ n ≤ 255 := ⟨x.toNat, by omega, by omega⟩
theorem DT.ok.chg {S : Nat → Prop} {w w' : World} {H : Nat} {d : DT} (h : d.ok w H) (hc : Chg S w w') (hn : ∀ i, H ≤ i → i < w.heap.size → w.heap[i]? ≠ none → S i → False) : d.ok w' H := by
  unfold DT.ok at h ⊢
  refine OwnK.chg h hc fun g hg hS => ?_
  have h2 := h
  rw [hg] at h2
  exact hn g h2.lt.1 h2.lt.2.1 (by simp [h2.lt.2.1]) hS
theorem chg_up {S : Nat → Prop} {a b c : World} {T : Nat → Prop} (h : Chg S a b) (k : Chg T b c) (hn : ∀ i, T i → a.heap.size ≤ i) : Chg S a c :=
  ⟨k.os.trans h.os, k.tape.trans h.tape, k.output.trans h.output, Nat.le_trans h.size k.size, fun i hi hs =>
    (k.block i (Nat.lt_of_lt_of_le hi h.size) (fun ht => by have := hn i ht; omega)).trans (h.block i hi hs)⟩
set_option maxRecDepth 100000 in
set_option maxHeartbeats 4000000 in
theorem taskr_any {R : Nat → Prop} {g : Nat} {l : List Int} {r : Rs} (w : World) (h : RSt w R g l r) (hb : By l) (hR : ∀ i, R i → i < w.heap.size) :
    Calls Try.prog 32 #[.pointer (some ⟨g, 0, none⟩)] w fun e w' => ∃ d : DT, e = .returned (.agg d.cells.toArray) ∧ d.p = (rT l r).1 ∧ d.ok w' w.heap.size ∧ RSt w' R g l (rT l r).2 ∧ Chg R w w' := by
  have hs1 := (Same.refl w).alloc (.cells #[.pointer (some ⟨g, 0, none⟩)] 37)
  have hs2 := (Same.refl (w.alloc (.cells #[.pointer (some ⟨g, 0, none⟩)] 37))).alloc (.cells #[.int .i64 0, .int .i64 0, .int .i64 0, .int .i64 0, .int .i64 0, .int .i64 0, .slice none 0 0] 49)
  have he1 : (w.alloc (.cells #[.pointer (some ⟨g, 0, none⟩)] 37)).heap.size = w.heap.size + 1 := by simp
  have hb0 := Blk.new (w.alloc (.cells #[.pointer (some ⟨g, 0, none⟩)] 37)) 49 #[.int .i64 0, .int .i64 0, .int .i64 0, .int .i64 0, .int .i64 0, .int .i64 0, .slice none 0 0]
  rw [he1] at hb0
  have hs2 := hs2.drew
  have HX0 := Lib.hid ((Blk.new w 37 #[.pointer (some ⟨g, 0, none⟩)]).same hs2)
  have hb0 := hb0.same ((Same.refl _).drew)
  have HB0 := Lib.hid hb0
  have HR0 := Lib.hid (show RSt _ R g l r from Rd.same h (hs1.trans hs2))
  have HC0 := Lib.hid ((hs1.trans hs2).chg R)
  have HNR := Lib.hid (show ¬ R (w.heap.size + 1) from fun hi => by have := hR _ hi; omega)
  have HNX := Lib.hid (show ¬ R w.heap.size from fun hi => Nat.lt_irrefl _ (hR _ hi))
  have HZ0 := Lib.hid (fun i (hi : R i) => Nat.lt_of_lt_of_le (hR i hi) (hs1.trans hs2).size)
  have HBY := Lib.hid hb
  clear h hb hs1 hs2 hb0 he1
  go_enter Try.func32, Try.ntmps32
  go_wp2_with fail
  refine wp_region_held_drew (S := fun w' => w'.cell? ⟨w.heap.size, 0, none⟩ = some (.pointer (some ⟨g, 0, none⟩))) (by kernel_rfl) ?_ (fun hHeld => ?_)
  · exact HX0.out.cell 0
  refine Ro.take_on (i := 0) (v := ?_) rfl (by kernel_rfl) (by kernel_rfl) (by kernel_rfl) (fun _ _ _ h => h) (by rfl) hHeld ?_ ?_
  rotate_left
  · intro wS hSw; (try dsimp only at hSw); go_simp; try with_reducible rfl
  try simp only [Act.put, List.setIfInBounds_toArray, List.set_cons_zero, List.set_cons_succ]
  refine Ro.take_on (i := 2) (v := ?_) rfl (by kernel_rfl) (by kernel_rfl) (by kernel_rfl) (fun _ _ _ h => h) (by rfl) hHeld ?_ ?_
  rotate_left
  · intro wS hSw; (try dsimp only at hSw); go_simp; try with_reducible rfl
  try simp only [Act.put, List.setIfInBounds_toArray, List.set_cons_zero, List.set_cons_succ]
  refine Ro.take_on (i := 4) (v := ?_) rfl (by kernel_rfl) (by kernel_rfl) (by kernel_rfl) (fun _ _ _ h => h) (by rfl) hHeld ?_ ?_
  rotate_left
  · intro wS hSw; (try dsimp only at hSw); go_simp; try with_reducible rfl
  try simp only [Act.put, List.setIfInBounds_toArray, List.set_cons_zero, List.set_cons_succ]
  refine Ro.take_on (i := 7) (v := ?_) rfl (by kernel_rfl) (by kernel_rfl) (by kernel_rfl) (fun _ _ _ h => h) (by rfl) hHeld ?_ ?_
  rotate_left
  · intro wS hSw; (try dsimp only at hSw); go_simp; try with_reducible rfl
  try simp only [Act.put, List.setIfInBounds_toArray, List.set_cons_zero, List.set_cons_succ]
  refine Ro.take_on (i := 10) (v := ?_) rfl (by kernel_rfl) (by kernel_rfl) (by kernel_rfl) (fun _ _ _ h => h) (by rfl) hHeld ?_ ?_
  rotate_left
  · intro wS hSw; (try dsimp only at hSw); go_simp; try with_reducible rfl
  try simp only [Act.put, List.setIfInBounds_toArray, List.set_cons_zero, List.set_cons_succ]
  refine Ro.take_on (i := 13) (v := ?_) rfl (by kernel_rfl) (by kernel_rfl) (by kernel_rfl) (fun _ _ _ h => h) (by rfl) hHeld ?_ ?_
  rotate_left
  · intro wS hSw; (try dsimp only at hSw); go_simp; try with_reducible rfl
  try simp only [Act.put, List.setIfInBounds_toArray, List.set_cons_zero, List.set_cons_succ]
  refine Ro.take_on (i := 15) (v := ?_) rfl (by kernel_rfl) (by kernel_rfl) (by kernel_rfl) (fun _ _ _ h => h) (by rfl) hHeld ?_ ?_
  rotate_left
  · intro wS hSw; (try dsimp only at hSw); go_simp; try with_reducible rfl
  try simp only [Act.put, List.setIfInBounds_toArray, List.set_cons_zero, List.set_cons_succ]
  refine Ro.take_on (i := 17) (v := ?_) rfl (by kernel_rfl) (by kernel_rfl) (by kernel_rfl) (fun _ _ _ h => h) (by rfl) hHeld ?_ ?_
  rotate_left
  · intro wS hSw; (try dsimp only at hSw); go_simp; try with_reducible rfl
  try simp only [Act.put, List.setIfInBounds_toArray, List.set_cons_zero, List.set_cons_succ]
  refine Ro.one_on (i := 1) rfl (by kernel_rfl) (by rfl) (fun K hK => ?_)
  go_simp
  go_at_call 29
  refine (u8r _ HR0.out HBY.out).mono ?_
  rintro e w1 ⟨rfl, h1, s1⟩
  obtain ⟨⟨x1, r1⟩, hx1⟩ : ∃ p, p = rU l 1 r := ⟨_, rfl⟩
  rw [← hx1] at h1 ⊢
  have E1 := Lib.hid hx1
  have HR1 := Lib.hid h1
  have HC1 := Lib.hid (HC0.out.trans s1)
  have HB1 := Lib.hid (HB0.out.chg s1 HNR.out)
  have HX1 := Lib.hid (HX0.out.chg s1 HNX.out)
  have HZ1 := Lib.hid (fun i (hi : R i) => Nat.lt_of_lt_of_le (HZ0.out i hi) s1.size)
  clear hx1 h1 s1 HR0 HC0 HB0 HX0 HZ0
  dsimp only
  refine hK.out _ _ ?_ (fun hNew => ?_)
  · exact HX1.out.cell 0
  clear hK K hHeld
  have hHeld := hNew
  clear hNew
  try simp only [Act.put, List.setIfInBounds_toArray, List.set_cons_zero, List.set_cons_succ]
  refine Ro.one_on (i := 3) rfl (by kernel_rfl) (by rfl) (fun K hK => ?_)
  go_simp
  go_at_call 29
  refine (u8r _ HR1.out HBY.out).mono ?_
  rintro e w2 ⟨rfl, h2, s2⟩
  obtain ⟨⟨x2, r2⟩, hx2⟩ : ∃ p, p = rU l 1 r1 := ⟨_, rfl⟩
  rw [← hx2] at h2 ⊢
  have E2 := Lib.hid hx2
  have HR2 := Lib.hid h2
  have HC2 := Lib.hid (HC1.out.trans s2)
  have HB2 := Lib.hid (HB1.out.chg s2 HNR.out)
  have HX2 := Lib.hid (HX1.out.chg s2 HNX.out)
  have HZ2 := Lib.hid (fun i (hi : R i) => Nat.lt_of_lt_of_le (HZ1.out i hi) s2.size)
  clear hx2 h2 s2 HR1 HC1 HB1 HX1 HZ1
  dsimp only
  refine hK.out _ _ ?_ (fun hNew => ?_)
  · exact HX2.out.cell 0
  clear hK K hHeld
  have hHeld := hNew
  clear hNew
  try simp only [Act.put, List.setIfInBounds_toArray, List.set_cons_zero, List.set_cons_succ]
  refine Ro.one_on (i := 5) rfl (by kernel_rfl) (by rfl) (fun K hK => ?_)
  go_simp
  go_at_call 45
  refine (u32r _ HR2.out HBY.out).mono ?_
  rintro e w3 ⟨rfl, h3, s3⟩
  obtain ⟨⟨x3, r3⟩, hx3⟩ : ∃ p, p = rU l 4 r2 := ⟨_, rfl⟩
  rw [← hx3] at h3 ⊢
  have E3 := Lib.hid hx3
  have HR3 := Lib.hid h3
  have HC3 := Lib.hid (HC2.out.trans s3)
  have HB3 := Lib.hid (HB2.out.chg s3 HNR.out)
  have HX3 := Lib.hid (HX2.out.chg s3 HNX.out)
  have HZ3 := Lib.hid (fun i (hi : R i) => Nat.lt_of_lt_of_le (HZ2.out i hi) s3.size)
  clear hx3 h3 s3 HR2 HC2 HB2 HX2 HZ2
  dsimp only
  have hb3 : 0 ≤ x3 ∧ x3 < 4294967296 := by have := tld_bd HBY.out (n := 4) (by omega) r2; have h := congrArg Prod.fst E3.out; simp only [rU] at h; omega
  refine hK.out _ _ ?_ (fun hNew => ?_)
  · exact HX3.out.cell 0
  clear hK K hHeld
  have hHeld := hNew
  clear hNew
  try simp only [Act.put, List.setIfInBounds_toArray, List.set_cons_zero, List.set_cons_succ]
  refine Ro.take_on (i := 6) (v := ?_) rfl (by kernel_rfl) (by kernel_rfl) (by kernel_rfl) (fun _ _ _ h => h) (by rfl) hHeld ?_ ?_
  rotate_left
  · intro wS hSw; (try dsimp only at hSw); go_simp; try with_reducible rfl
  try simp only [Act.put, List.setIfInBounds_toArray, List.set_cons_zero, List.set_cons_succ]
  refine Ro.one_on (i := 8) rfl (by kernel_rfl) (by rfl) (fun K hK => ?_)
  go_simp
  go_at_call 45
  refine (u32r _ HR3.out HBY.out).mono ?_
  rintro e w4 ⟨rfl, h4, s4⟩
  obtain ⟨⟨x4, r4⟩, hx4⟩ : ∃ p, p = rU l 4 r3 := ⟨_, rfl⟩
  rw [← hx4] at h4 ⊢
  have E4 := Lib.hid hx4
  have HR4 := Lib.hid h4
  have HC4 := Lib.hid (HC3.out.trans s4)
  have HB4 := Lib.hid (HB3.out.chg s4 HNR.out)
  have HX4 := Lib.hid (HX3.out.chg s4 HNX.out)
  have HZ4 := Lib.hid (fun i (hi : R i) => Nat.lt_of_lt_of_le (HZ3.out i hi) s4.size)
  clear hx4 h4 s4 HR3 HC3 HB3 HX3 HZ3
  dsimp only
  have hb4 : 0 ≤ x4 ∧ x4 < 4294967296 := by have := tld_bd HBY.out (n := 4) (by omega) r3; have h := congrArg Prod.fst E4.out; simp only [rU] at h; omega
  refine hK.out _ _ ?_ (fun hNew => ?_)
  · exact HX4.out.cell 0
  clear hK K hHeld
  have hHeld := hNew
  clear hNew
  try simp only [Act.put, List.setIfInBounds_toArray, List.set_cons_zero, List.set_cons_succ]
  refine Ro.take_on (i := 9) (v := ?_) rfl (by kernel_rfl) (by kernel_rfl) (by kernel_rfl) (fun _ _ _ h => h) (by rfl) hHeld ?_ ?_
  rotate_left
  · intro wS hSw; (try dsimp only at hSw); go_simp; try with_reducible rfl
  try simp only [Act.put, List.setIfInBounds_toArray, List.set_cons_zero, List.set_cons_succ]
  refine Ro.one_on (i := 11) rfl (by kernel_rfl) (by rfl) (fun K hK => ?_)
  go_simp
  go_at_call 45
  refine (u32r _ HR4.out HBY.out).mono ?_
  rintro e w5 ⟨rfl, h5, s5⟩
  obtain ⟨⟨x5, r5⟩, hx5⟩ : ∃ p, p = rU l 4 r4 := ⟨_, rfl⟩
  rw [← hx5] at h5 ⊢
  have E5 := Lib.hid hx5
  have HR5 := Lib.hid h5
  have HC5 := Lib.hid (HC4.out.trans s5)
  have HB5 := Lib.hid (HB4.out.chg s5 HNR.out)
  have HX5 := Lib.hid (HX4.out.chg s5 HNX.out)
  have HZ5 := Lib.hid (fun i (hi : R i) => Nat.lt_of_lt_of_le (HZ4.out i hi) s5.size)
  clear hx5 h5 s5 HR4 HC4 HB4 HX4 HZ4
  dsimp only
  have hb5 : 0 ≤ x5 ∧ x5 < 4294967296 := by have := tld_bd HBY.out (n := 4) (by omega) r4; have h := congrArg Prod.fst E5.out; simp only [rU] at h; omega
  refine hK.out _ _ ?_ (fun hNew => ?_)
  · exact HX5.out.cell 0
  clear hK K hHeld
  have hHeld := hNew
  clear hNew
  try simp only [Act.put, List.setIfInBounds_toArray, List.set_cons_zero, List.set_cons_succ]
  refine Ro.take_on (i := 12) (v := ?_) rfl (by kernel_rfl) (by kernel_rfl) (by kernel_rfl) (fun _ _ _ h => h) (by rfl) hHeld ?_ ?_
  rotate_left
  · intro wS hSw; (try dsimp only at hSw); go_simp; try with_reducible rfl
  try simp only [Act.put, List.setIfInBounds_toArray, List.set_cons_zero, List.set_cons_succ]
  refine Ro.one_on (i := 14) rfl (by kernel_rfl) (by rfl) (fun K hK => ?_)
  go_simp
  go_at_call 29
  refine (u8r _ HR5.out HBY.out).mono ?_
  rintro e w6 ⟨rfl, h6, s6⟩
  obtain ⟨⟨x6, r6⟩, hx6⟩ : ∃ p, p = rU l 1 r5 := ⟨_, rfl⟩
  rw [← hx6] at h6 ⊢
  have E6 := Lib.hid hx6
  have HR6 := Lib.hid h6
  have HC6 := Lib.hid (HC5.out.trans s6)
  have HB6 := Lib.hid (HB5.out.chg s6 HNR.out)
  have HX6 := Lib.hid (HX5.out.chg s6 HNX.out)
  have HZ6 := Lib.hid (fun i (hi : R i) => Nat.lt_of_lt_of_le (HZ5.out i hi) s6.size)
  clear hx6 h6 s6 HR5 HC5 HB5 HX5 HZ5
  dsimp only
  refine hK.out _ _ ?_ (fun hNew => ?_)
  · exact HX6.out.cell 0
  clear hK K hHeld
  have hHeld := hNew
  clear hNew
  try simp only [Act.put, List.setIfInBounds_toArray, List.set_cons_zero, List.set_cons_succ]
  refine Ro.one_on (i := 16) rfl (by kernel_rfl) (by rfl) (fun K hK => ?_)
  go_simp
  go_at_call 29
  refine (u8r _ HR6.out HBY.out).mono ?_
  rintro e w7 ⟨rfl, h7, s7⟩
  obtain ⟨⟨x7, r7⟩, hx7⟩ : ∃ p, p = rU l 1 r6 := ⟨_, rfl⟩
  rw [← hx7] at h7 ⊢
  have E7 := Lib.hid hx7
  have HR7 := Lib.hid h7
  have HC7 := Lib.hid (HC6.out.trans s7)
  have HB7 := Lib.hid (HB6.out.chg s7 HNR.out)
  have HX7 := Lib.hid (HX6.out.chg s7 HNX.out)
  have HZ7 := Lib.hid (fun i (hi : R i) => Nat.lt_of_lt_of_le (HZ6.out i hi) s7.size)
  clear hx7 h7 s7 HR6 HC6 HB6 HX6 HZ6
  dsimp only
  obtain ⟨N, hN, hN2⟩ := nat_of (x := x7) (by have := tld1_bd HBY.out r6; have h := congrArg Prod.fst E7.out; simp only [rU] at h; omega)
  subst hN
  refine hK.out _ _ ?_ (fun hNew => ?_)
  · exact HX7.out.cell 0
  clear hK K hHeld
  have hHeld := hNew
  clear hNew
  try simp only [Act.put, List.setIfInBounds_toArray, List.set_cons_zero, List.set_cons_succ]
  refine Ro.one_on (i := 18) rfl (by kernel_rfl) (by rfl) (fun K hK => ?_)
  go_simp
  go_at_call 46
  refine (listI w.heap.size N hN2 _ HR7.out HBY.out HZ7.out HX7.out HNX.out).mono ?_
  rintro e w8 ⟨A8, c8, rfl, o8, h8, s8⟩
  have HSZ7 := Lib.hid HC7.out.size
  obtain ⟨⟨x8, r8⟩, hx8⟩ : ∃ p, p = rL (rI l) N r7 := ⟨_, rfl⟩
  rw [← hx8] at h8 o8
  have E8 := Lib.hid hx8
  have HR8 := Lib.hid h8
  have HC8 := Lib.hid (HC7.out.trans s8)
  have HB8 := Lib.hid (HB7.out.chg s8 HNR.out)
  have HX8 := Lib.hid (HX7.out.chg s8 HNX.out)
  have HZ8 := Lib.hid (fun i (hi : R i) => Nat.lt_of_lt_of_le (HZ7.out i hi) s8.size)
  clear hx8 h8 s8 HR7 HC7 HB7 HX7 HZ7
  dsimp only
  have HO8 := Lib.hid o8
  clear o8
  refine hK.out _ _ ?_ (fun hNew => ?_)
  · exact HX8.out.cell 0
  clear hK K hHeld
  have hHeld := hNew
  clear hNew
  try simp only [Act.put, List.setIfInBounds_toArray, List.set_cons_zero, List.set_cons_succ]
  refine Ro.take_on (i := 19) (v := ?_) rfl (by kernel_rfl) (by kernel_rfl) (by kernel_rfl) (fun _ _ _ h => h) (by rfl) hHeld ?_ ?_
  rotate_left
  · intro wS hSw; (try dsimp only at hSw); go_simp; try with_reducible rfl
  try simp only [Act.put, List.setIfInBounds_toArray, List.set_cons_zero, List.set_cons_succ]
  refine Ro.one_on (i := 20) rfl (by kernel_rfl) (by rfl) (fun K hK => ?_)
  obtain ⟨y0, y1, y2, y3, y4, y5, y6⟩ := (⟨HB8.out.thaw 0, HB8.out.thaw 1, HB8.out.thaw 2, HB8.out.thaw 3, HB8.out.thaw 4, HB8.out.thaw 5, HB8.out.thaw 6⟩ : _ ∧ _ ∧ _ ∧ _ ∧ _ ∧ _ ∧ _)
  obtain ⟨z0, z1, z2, z3, z4, z5, z6⟩ := (⟨HB8.out.cell 0, HB8.out.cell 1, HB8.out.cell 2, HB8.out.cell 3, HB8.out.cell 4, HB8.out.cell 5, HB8.out.cell 6⟩ : _ ∧ _ ∧ _ ∧ _ ∧ _ ∧ _ ∧ _)
  simp only [List.getElem?_toArray, List.getElem?_cons_zero, List.getElem?_cons_succ] at z0 z1 z2 z3 z4 z5 z6
  go_wp2_with fail
  refine hK.out _ _ ?_ (fun hNew => ?_)
  · exact (HX8.out.chg (puts7 HB8.out).2 (by omega)).cell 0
  clear hK K hHeld
  have hHeld := hNew
  clear hNew
  try simp only [Act.put, List.setIfInBounds_toArray, List.set_cons_zero, List.set_cons_succ]
  refine wpAnyH_done (by kernel_rfl) ?_ _
  clear y0 y1 y2 y3 y4 y5 y6 z0 z1 z2 z3 z4 z5 z6
  go_wp2_with fail
  obtain ⟨p1, p2⟩ := puts7 (v0 := .int .i64 x1) (v1 := .int .i64 x2) (v2 := .int .i64 x3) (v3 := .int .i64 x4) (v4 := .int .i64 x5) (v5 := .int .i64 x6) (v6 := .slice A8 N c8) HB8.out
  refine bodyPost_ret (v := .agg #[.int .i64 x1, .int .i64 x2, .int .i64 x3, .int .i64 x4, .int .i64 x5, .int .i64 x6, .slice A8 N c8]) (results_cell_row Try.results32 _ _ (w.heap.size + 1) 49 #[.int .i64 x1, .int .i64 x2, .int .i64 x3, .int .i64 x4, .int .i64 x5, .int .i64 x6, .slice A8 N c8] (0, 0) _ rfl p1 Try.underlying49 rfl task_size) rfl ?_
  have hl8 : x8.length = N := by have h := congrArg (fun p => p.1.length) E8.out; simp only [rL_len] at h; exact h
  have hT : rT l r = (⟨x1, x2, x3, x4, x5, x6, x8⟩, r8) := by
    simp only [rT, ← E1.out, ← E2.out, ← E3.out, ← E4.out, ← E5.out, ← E6.out, ← E7.out, Int.toNat_natCast, ← E8.out]
  refine ⟨⟨⟨x1, x2, x3, x4, x5, x6, x8⟩, A8, c8⟩, by simp only [DT.cells, tcells, hl8], by rw [hT], ?_, by rw [hT]; exact Rd.chg HR8.out p2 (fun i hi he => HNR.out (he ▸ hi)), chg_new HC8.out p2 (by omega)⟩
  unfold DT.ok
  rw [hl8]
  exact OwnK.chg (HO8.out.base (by have := HSZ7.out; omega)) p2 (fun i hi he => HO8.out.ne HB8.out (by decide) i hi he)
end Go.Proofs.Ytfpefkpbiioofab.Im
