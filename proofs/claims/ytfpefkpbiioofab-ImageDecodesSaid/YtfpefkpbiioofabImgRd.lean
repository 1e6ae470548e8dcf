/-
  Layer 33: what is read of a reader: numbers, an instruction, and lists (image.list) of numbers and of instructions.
-/
import Derived.Test.YtfpefkpbiioofabImgIn
import Derived.Test.YtfpefkpbiioofabCodecMore
import Derived.Test.YtfpefkpbiioofabWordsK
import Derived.Test.YtfpefkpbiioofabRegionOff
import Derived.Deep.LoopGhost
import Derived.WalkKit
import Derived.WalkLawsBesides
import Derived.BigQuiet
set_option linter.unusedVariables false
set_option linter.unusedSimpArgs false
namespace Go.Proofs.Ytfpefkpbiioofab.Im
open Go.ChangeShapes Go.WideShapes Go.ChangeAt Go.RowKit Ws Cd

theorem nu_num : ∀ l : List Int, nu l = num l
  | [] => rfl
  | x :: l => by
    show x + 256 * nu l = x + 256 * num l
    rw [nu_num l]
theorem tld_told (l : List Int) (n : Nat) (r : Rs) : num (told l r.k n r.bad) = tld l n r := by
  unfold told tld
  split
  · rw [nu_num]
  · rfl
theorem aft_after (l : List Int) (n : Nat) (r : Rs) : after l r.k n r.bad = ((aft l n r).k, (aft l n r).bad) := by
  unfold after aft
  split <;> rfl
/-- the reader stands so -/
def RSt (w : World) (R : Nat → Prop) (g : Nat) (l : List Int) (r : Rs) : Prop := Rd w R g l r.k r.bad
theorem tld_bd {l : List Int} (h : By l) {n : Nat} (hn : n ≤ 4) (r : Rs) : 0 ≤ tld l n r ∧ tld l n r < 4294967296 := by
  rw [← tld_told]
  exact num_lt (told_by h _ _ _) (told_len _ _ _ _) hn
theorem tld1_bd {l : List Int} (h : By l) (r : Rs) : 0 ≤ tld l 1 r ∧ tld l 1 r < 256 := by
  rw [← tld_told]
  have h1 := num_bd _ (told_by h r.k 1 r.bad)
  have h2 := told_len l r.k 1 r.bad
  have h3 : (256 : Int) ^ (told l r.k 1 r.bad).length ≤ 256 ^ 1 := by
    rcases Nat.lt_or_ge 0 (told l r.k 1 r.bad).length with h | h
    · rw [show (told l r.k 1 r.bad).length = 1 by omega]; exact Int.le_refl _
    · rw [show (told l r.k 1 r.bad).length = 0 by omega]; decide
  omega
theorem u8r {R : Nat → Prop} {g : Nat} {l : List Int} {r : Rs} (w : World) (h : RSt w R g l r) (hb : By l) :
    Calls Try.prog 29 #[.pointer (some ⟨g, 0, none⟩)] w fun e w' => e = .returned (.int .i64 (rU l 1 r).1) ∧ RSt w' R g l (rU l 1 r).2 ∧ Chg R w w' := by
  refine (u8_any w h hb).mono ?_
  rintro e w' ⟨rfl, h2, h3⟩
  rw [aft_after] at h2
  exact ⟨by rw [tld_told]; rfl, h2, h3⟩
theorem u16r {R : Nat → Prop} {g : Nat} {l : List Int} {r : Rs} (w : World) (h : RSt w R g l r) (hb : By l) :
    Calls Try.prog 16 #[.pointer (some ⟨g, 0, none⟩)] w fun e w' => e = .returned (.int .i64 (rU l 2 r).1) ∧ RSt w' R g l (rU l 2 r).2 ∧ Chg R w w' := by
  refine (u16_any w h hb).mono ?_
  rintro e w' ⟨rfl, h2, h3⟩
  rw [aft_after] at h2
  exact ⟨by rw [tld_told]; rfl, h2, h3⟩
theorem u32r {R : Nat → Prop} {g : Nat} {l : List Int} {r : Rs} (w : World) (h : RSt w R g l r) (hb : By l) :
    Calls Try.prog 45 #[.pointer (some ⟨g, 0, none⟩)] w fun e w' => e = .returned (.int .u32 (rU l 4 r).1) ∧ RSt w' R g l (rU l 4 r).2 ∧ Chg R w w' := by
  refine (u32_any w h hb).mono ?_
  rintro e w' ⟨rfl, h2, h3⟩
  rw [aft_after] at h2
  exact ⟨by rw [tld_told]; rfl, h2, h3⟩
theorem instr_size : (Try.prog.info? 52).map (·.size) = some 5 := by kernel_rfl
theorem int_info : (Try.prog.info? 3).map (fun i => (i.zero, i.size, i.bytes)) = some (some (.int .i64 0), 1, 8) := by kernel_rfl
theorem u32_info : (Try.prog.info? 50).map (fun i => (i.zero, i.size, i.bytes)) = some (some (.int .u32 0), 1, 4) := by kernel_rfl
theorem ins_info : (Try.prog.info? 52).map (fun i => (i.zero, i.size, i.bytes)) = some (some (.agg #[.int .i64 0, .int .i64 0, .int .i64 0, .int .i64 0, .int .u32 0]), 5, 40) := by kernel_rfl
theorem puts5 {w : World} {b : Nat} {T : TypeId} {z0  z1  z2  z3  z4 v0  v1  v2  v3  v4 : Value} (h : Blk w b T #[z0, z1, z2, z3, z4]) : Blk (((((w.setCell ⟨b, 0, none⟩ v0).setCell ⟨b, 1, none⟩ v1).setCell ⟨b, 2, none⟩ v2).setCell ⟨b, 3, none⟩ v3).setCell ⟨b, 4, none⟩ v4) b T #[v0, v1, v2, v3, v4] ∧ Chg (fun i => i = b) w (((((w.setCell ⟨b, 0, none⟩ v0).setCell ⟨b, 1, none⟩ v1).setCell ⟨b, 2, none⟩ v2).setCell ⟨b, 3, none⟩ v3).setCell ⟨b, 4, none⟩ v4) :=
  ⟨by simpa using (((((h.put 0 v0).put 1 v1).put 2 v2).put 3 v3).put 4 v4), ((((((Chg.refl (fun i => i = b) w).set (p := ⟨b, 0, none⟩) (.inl rfl) v0).set (p := ⟨b, 1, none⟩) (.inl rfl) v1).set (p := ⟨b, 2, none⟩) (.inl rfl) v2).set (p := ⟨b, 3, none⟩) (.inl rfl) v3).set (p := ⟨b, 4, none⟩) (.inl rfl) v4)⟩
theorem puts7 {w : World} {b : Nat} {T : TypeId} {z0  z1  z2  z3  z4  z5  z6 v0  v1  v2  v3  v4  v5  v6 : Value} (h : Blk w b T #[z0, z1, z2, z3, z4, z5, z6]) : Blk (((((((w.setCell ⟨b, 0, none⟩ v0).setCell ⟨b, 1, none⟩ v1).setCell ⟨b, 2, none⟩ v2).setCell ⟨b, 3, none⟩ v3).setCell ⟨b, 4, none⟩ v4).setCell ⟨b, 5, none⟩ v5).setCell ⟨b, 6, none⟩ v6) b T #[v0, v1, v2, v3, v4, v5, v6] ∧ Chg (fun i => i = b) w (((((((w.setCell ⟨b, 0, none⟩ v0).setCell ⟨b, 1, none⟩ v1).setCell ⟨b, 2, none⟩ v2).setCell ⟨b, 3, none⟩ v3).setCell ⟨b, 4, none⟩ v4).setCell ⟨b, 5, none⟩ v5).setCell ⟨b, 6, none⟩ v6) :=
  ⟨by simpa using (((((((h.put 0 v0).put 1 v1).put 2 v2).put 3 v3).put 4 v4).put 5 v5).put 6 v6), ((((((((Chg.refl (fun i => i = b) w).set (p := ⟨b, 0, none⟩) (.inl rfl) v0).set (p := ⟨b, 1, none⟩) (.inl rfl) v1).set (p := ⟨b, 2, none⟩) (.inl rfl) v2).set (p := ⟨b, 3, none⟩) (.inl rfl) v3).set (p := ⟨b, 4, none⟩) (.inl rfl) v4).set (p := ⟨b, 5, none⟩) (.inl rfl) v5).set (p := ⟨b, 6, none⟩) (.inl rfl) v6)⟩
theorem puts8 {w : World} {b : Nat} {T : TypeId} {z0  z1  z2  z3  z4  z5  z6  z7 v0  v1  v2  v3  v4  v5  v6  v7 : Value} (h : Blk w b T #[z0, z1, z2, z3, z4, z5, z6, z7]) : Blk ((((((((w.setCell ⟨b, 0, none⟩ v0).setCell ⟨b, 1, none⟩ v1).setCell ⟨b, 2, none⟩ v2).setCell ⟨b, 3, none⟩ v3).setCell ⟨b, 4, none⟩ v4).setCell ⟨b, 5, none⟩ v5).setCell ⟨b, 6, none⟩ v6).setCell ⟨b, 7, none⟩ v7) b T #[v0, v1, v2, v3, v4, v5, v6, v7] ∧ Chg (fun i => i = b) w ((((((((w.setCell ⟨b, 0, none⟩ v0).setCell ⟨b, 1, none⟩ v1).setCell ⟨b, 2, none⟩ v2).setCell ⟨b, 3, none⟩ v3).setCell ⟨b, 4, none⟩ v4).setCell ⟨b, 5, none⟩ v5).setCell ⟨b, 6, none⟩ v6).setCell ⟨b, 7, none⟩ v7) :=
  ⟨by simpa using ((((((((h.put 0 v0).put 1 v1).put 2 v2).put 3 v3).put 4 v4).put 5 v5).put 6 v6).put 7 v7), (((((((((Chg.refl (fun i => i = b) w).set (p := ⟨b, 0, none⟩) (.inl rfl) v0).set (p := ⟨b, 1, none⟩) (.inl rfl) v1).set (p := ⟨b, 2, none⟩) (.inl rfl) v2).set (p := ⟨b, 3, none⟩) (.inl rfl) v3).set (p := ⟨b, 4, none⟩) (.inl rfl) v4).set (p := ⟨b, 5, none⟩) (.inl rfl) v5).set (p := ⟨b, 6, none⟩) (.inl rfl) v6).set (p := ⟨b, 7, none⟩) (.inl rfl) v7)⟩
theorem puts2 {w : World} {b : Nat} {T : TypeId} {z0  z1 v0  v1 : Value} (h : Blk w b T #[z0, z1]) : Blk ((w.setCell ⟨b, 0, none⟩ v0).setCell ⟨b, 1, none⟩ v1) b T #[v0, v1] ∧ Chg (fun i => i = b) w ((w.setCell ⟨b, 0, none⟩ v0).setCell ⟨b, 1, none⟩ v1) :=
  ⟨by simpa using ((h.put 0 v0).put 1 v1), (((Chg.refl (fun i => i = b) w).set (p := ⟨b, 0, none⟩) (.inl rfl) v0).set (p := ⟨b, 1, none⟩) (.inl rfl) v1)⟩
/-- what is changed besides is new -/
theorem chg_new {S : Nat → Prop} {a b c : World} {n : Nat} (h : Chg S a b) (k : Chg (fun i => i = n) b c) (hn : a.heap.size ≤ n) : Chg S a c :=
  ⟨k.os.trans h.os, k.tape.trans h.tape, k.output.trans h.output, Nat.le_trans h.size k.size, fun i hi hs =>
    (k.block i (Nat.lt_of_lt_of_le hi h.size) (fun (ht : i = n) => by omega)).trans (h.block i hi hs)⟩
set_option maxRecDepth 100000 in
set_option maxHeartbeats 1000000 in
theorem instr_any {R : Nat → Prop} {g : Nat} {l : List Int} {r : Rs} (w : World) (h : RSt w R g l r) (hb : By l) (hR : ∀ i, R i → i < w.heap.size) :
    Calls Try.prog 48 #[.pointer (some ⟨g, 0, none⟩)] w fun e w' => e = .returned (.agg (icells (rI l r).1).toArray) ∧ RSt w' R g l (rI l r).2 ∧ Chg R w w' := by
  have hs0 := (Same.refl w).alloc (.cells #[.int .i64 0, .int .i64 0, .int .i64 0, .int .i64 0, .int .u32 0] 52)
  have HB0 := Lib.hid (Blk.new w 52 #[.int .i64 0, .int .i64 0, .int .i64 0, .int .i64 0, .int .u32 0])
  have HR0 := Lib.hid (show RSt _ R g l r from Rd.same h hs0)
  have HC0 := Lib.hid (hs0.chg R)
  have HNR := Lib.hid (fun hi : R w.heap.size => Nat.lt_irrefl _ (hR _ hi))
  have HBY := Lib.hid hb
  clear h hb hs0
  go_enter Try.func48, Try.ntmps48
  go_wp2_with fail
  refine (u8r _ HR0.out HBY.out).mono ?_
  rintro e w1 ⟨rfl, h1, s1⟩
  obtain ⟨⟨x1, r1⟩, hx1⟩ : ∃ p, p = rU l 1 r := ⟨_, rfl⟩
  rw [← hx1] at h1 ⊢
  have E1 := Lib.hid hx1
  have HR1 := Lib.hid h1
  have HC1 := Lib.hid (HC0.out.trans s1)
  have HB1 := Lib.hid (HB0.out.chg s1 HNR.out)
  clear hx1 h1 s1 HR0 HC0 HB0
  dsimp only
  go_wp2_with fail
  refine (u8r _ HR1.out HBY.out).mono ?_
  rintro e w2 ⟨rfl, h2, s2⟩
  obtain ⟨⟨x2, r2⟩, hx2⟩ : ∃ p, p = rU l 1 r1 := ⟨_, rfl⟩
  rw [← hx2] at h2 ⊢
  have E2 := Lib.hid hx2
  have HR2 := Lib.hid h2
  have HC2 := Lib.hid (HC1.out.trans s2)
  have HB2 := Lib.hid (HB1.out.chg s2 HNR.out)
  clear hx2 h2 s2 HR1 HC1 HB1
  dsimp only
  go_wp2_with fail
  refine (u8r _ HR2.out HBY.out).mono ?_
  rintro e w3 ⟨rfl, h3, s3⟩
  obtain ⟨⟨x3, r3⟩, hx3⟩ : ∃ p, p = rU l 1 r2 := ⟨_, rfl⟩
  rw [← hx3] at h3 ⊢
  have E3 := Lib.hid hx3
  have HR3 := Lib.hid h3
  have HC3 := Lib.hid (HC2.out.trans s3)
  have HB3 := Lib.hid (HB2.out.chg s3 HNR.out)
  clear hx3 h3 s3 HR2 HC2 HB2
  dsimp only
  go_wp2_with fail
  refine (u8r _ HR3.out HBY.out).mono ?_
  rintro e w4 ⟨rfl, h4, s4⟩
  obtain ⟨⟨x4, r4⟩, hx4⟩ : ∃ p, p = rU l 1 r3 := ⟨_, rfl⟩
  rw [← hx4] at h4 ⊢
  have E4 := Lib.hid hx4
  have HR4 := Lib.hid h4
  have HC4 := Lib.hid (HC3.out.trans s4)
  have HB4 := Lib.hid (HB3.out.chg s4 HNR.out)
  clear hx4 h4 s4 HR3 HC3 HB3
  dsimp only
  go_wp2_with fail
  refine (u32r _ HR4.out HBY.out).mono ?_
  rintro e w5 ⟨rfl, h5, s5⟩
  obtain ⟨⟨x5, r5⟩, hx5⟩ : ∃ p, p = rU l 4 r4 := ⟨_, rfl⟩
  rw [← hx5] at h5 ⊢
  have E5 := Lib.hid hx5
  have HR5 := Lib.hid h5
  have HC5 := Lib.hid (HC4.out.trans s5)
  have HB5 := Lib.hid (HB4.out.chg s5 HNR.out)
  clear hx5 h5 s5 HR4 HC4 HB4
  dsimp only
  obtain ⟨y0, y1, y2, y3, y4⟩ := (⟨HB5.out.thaw 0, HB5.out.thaw 1, HB5.out.thaw 2, HB5.out.thaw 3, HB5.out.thaw 4⟩ : _ ∧ _ ∧ _ ∧ _ ∧ _)
  obtain ⟨z0, z1, z2, z3, z4⟩ := (⟨HB5.out.cell 0, HB5.out.cell 1, HB5.out.cell 2, HB5.out.cell 3, HB5.out.cell 4⟩ : _ ∧ _ ∧ _ ∧ _ ∧ _)
  simp only [List.getElem?_toArray, List.getElem?_cons_zero, List.getElem?_cons_succ] at z0 z1 z2 z3 z4
  have hI : rI l r = (⟨x1, x2, x3, x4, x5⟩, r5) := by
    simp only [rI, ← E1.out, ← E2.out, ← E3.out, ← E4.out, ← E5.out]
  have HI := Lib.hid hI
  clear hI
  go_wp2_with fail
  obtain ⟨p1, p2⟩ := puts5 (v0 := .int .i64 x1) (v1 := .int .i64 x2) (v2 := .int .i64 x3) (v3 := .int .i64 x4) (v4 := .int .u32 x5) HB5.out
  refine bodyPost_ret (v := .agg #[.int .i64 x1, .int .i64 x2, .int .i64 x3, .int .i64 x4, .int .u32 x5]) (results_cell_row Try.results48 _ _ w.heap.size 52 #[.int .i64 x1, .int .i64 x2, .int .i64 x3, .int .i64 x4, .int .u32 x5] (0, 0) _ rfl p1 Try.underlying52 rfl instr_size) rfl ?_
  rw [HI.out]
  exact ⟨rfl, Rd.chg HR5.out p2 (fun i hi he => HNR.out (he ▸ hi)), chg_new HC5.out p2 (Nat.le_refl _)⟩
end Go.Proofs.Ytfpefkpbiioofab.Im
