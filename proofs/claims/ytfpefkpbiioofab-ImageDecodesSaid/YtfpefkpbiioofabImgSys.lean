/-
  Layer 33: a system read (image.system), and how it stands in memory.
-/
import Derived.Test.YtfpefkpbiioofabImgDeep
set_option linter.unusedVariables false
set_option linter.unusedSimpArgs false
namespace Go.Proofs.Ytfpefkpbiioofab.Im
open Go.ChangeShapes Go.WideShapes Go.ChangeAt Go.RowKit Ws Cd

theorem fm_get {α : Type} {f : α → List Value} {s : Nat} (hf : ∀ a, (f a).length = s) : ∀ (l : List α) (i : Nat) (x : α), l[i]? = some x → ∀ j v, (f x)[j]? = some v → (l.flatMap f)[i * s + j]? = some v
  | [], i, x, h, _, _, _ => by simp at h
  | y :: l, 0, x, h, j, v, hv => by
    simp at h
    subst h
    have hj : j < (f y).length := by
      rcases Nat.lt_or_ge j (f y).length with h | h
      · exact h
      · rw [List.getElem?_eq_none h] at hv; cases hv
    rw [List.flatMap_cons, Nat.zero_mul, Nat.zero_add, List.getElem?_append_left hj]
    exact hv
  | y :: l, i + 1, x, h, j, v, hv => by
    have h2 := fm_get hf l i x (by simpa using h) j v hv
    have hl := hf y
    rw [List.flatMap_cons, List.getElem?_append_right (by rw [hl, Nat.succ_mul]; omega), hl, show (i + 1) * s + j - s = i * s + j by rw [Nat.succ_mul]; omega]
    exact h2
theorem fm_row {α : Type} {f : α → List Value} {s : Nat} (hs : 0 < s) (hf : ∀ a, (f a).length = s) {w : World} {A : Option Addr} {l : List α} (h : Row w A (l.flatMap f)) {i : Nat} {x : α} (hx : l[i]? = some x) : ∃ b o, A = some ⟨b, o, none⟩ ∧ ∀ j v, (f x)[j]? = some v → w.cell? ⟨b, o + i * s + j, none⟩ = some v := by
  have hl := hf x
  obtain ⟨v0, hv0⟩ : ∃ v, (f x)[0]? = some v := ⟨_, List.getElem?_eq_getElem (by omega)⟩
  obtain ⟨b, o, hA, _⟩ := h _ _ (fm_get hf l i x hx 0 v0 hv0)
  refine ⟨b, o, hA, fun j v hv => ?_⟩
  obtain ⟨b', o', hA', hc⟩ := h _ _ (fm_get hf l i x hx j v hv)
  rw [hA] at hA'
  injection hA' with hA'
  injection hA' with e1 e2
  subst e1
  subst e2
  rw [Nat.add_assoc]
  exact hc
theorem words1_eq (l : List Int) : l.flatMap words1 = l.map (Value.int .u32) := by
  induction l with
  | nil => rfl
  | cons x l ih => rw [List.flatMap_cons, ih]; rfl
theorem ints1_eq (l : List Int) : l.flatMap ints1 = l.map (Value.int .i64) := by
  induction l with
  | nil => rfl
  | cons x l ih => rw [List.flatMap_cons, ih]; rfl
theorem ownK_max {w : World} {B : Nat} {e : TypeId} {s : Nat} {A : Option Addr} {n c : Nat} {l : List Value} (h : OwnK w B e s A n c l) : n ≤ maxLen := by
  rcases h.2 with ⟨hv, hn⟩ | ⟨g, cap, cur, hv, _, _, hcap, hmax, _⟩
  · omega
  · injection hv with _ _ hv
    omega
/-- all words are words -/
structure Wok (s : PS) : Prop where
  ins : ∀ t ∈ s.ts, ∀ i ∈ t.code, 0 ≤ i.n ∧ i.n < 4294967296
  sa : ∀ o ∈ s.os, 0 ≤ o.sa ∧ o.sa < 4294967296
  ini : ∀ o ∈ s.os, ∀ y ∈ o.ini, 0 ≤ y ∧ y < 4294967296
theorem rL_all {α : Type} {f : Rdr α} {Q : α → Prop} (h : ∀ r, Q (f r).1) : ∀ (n : Nat) (r : Rs), ∀ x ∈ (rL f n r).1, Q x
  | 0, _, x, hx => by cases hx
  | n + 1, r, x, hx => by
    rcases List.mem_append.1 hx with hx | hx
    · exact rL_all h n r x hx
    · rw [List.mem_singleton] at hx
      subst hx
      exact h _
theorem rS_ok {l : List Int} (h : By l) (r : Rs) : Wok (rS l r).1 :=
  ⟨rL_all (fun r => rL_all (fun r => tld_bd h (by omega) _) _ _) _ _, rL_all (fun r => tld_bd h (by omega) _) _ _, rL_all (fun r => rL_all (fun r => tld_bd h (by omega) _) _ _) _ _⟩
/-- how a system that was read stands in memory -/
structure SysR (w : World) (H : Nat) (A : Option Addr) (n c : Nat) (B : Option Addr) (m d : Nat) (s : PS) (ds : List DT) (es : List DO) : Prop where
  ts : ds.map (·.p) = s.ts
  os : es.map (·.p) = s.os
  tr : OwnK w H 49 7 A n c (ds.flatMap DT.cells)
  or : OwnK w H 56 8 B m d (es.flatMap DO.cells)
  tk : ∀ x ∈ ds, x.ok w H
  ok : ∀ x ∈ es, x.ok w H
theorem SysR.keep {S : Nat → Prop} {w w' : World} {H n c m d : Nat} {A B : Option Addr} {s : PS} {ds : List DT} {es : List DO} (h : SysR w H A n c B m d s ds es) (hc : Chg S w w') (hn : ∀ i, H ≤ i → ¬ S i) : SysR w' H A n c B m d s ds es :=
  ⟨h.ts, h.os, h.tr.chg hc fun i hi => hn i (ownK_ge h.tr hi), h.or.chg hc fun i hi => hn i (ownK_ge h.or hi), fun x hx => (h.tk x hx).keep hc hn, fun x hx => (h.ok x hx).keep hc hn⟩
theorem tcells_len (d : DT) : d.cells.length = 7 := rfl
theorem ocells_len (d : DO) : d.cells.length = 8 := rfl
theorem icells_len (d : Ins) : (icells d).length = 5 := rfl
theorem SysR.lens {w : World} {H n c m d : Nat} {A B : Option Addr} {s : PS} {ds : List DT} {es : List DO} (h : SysR w H A n c B m d s ds es) : s.ts.length = n ∧ s.os.length = m := by
  have h1 := h.tr.len
  have h2 := h.or.len
  have f1 : (ds.flatMap DT.cells).length = ds.length * 7 := by
    generalize ds = l
    induction l with
    | nil => rfl
    | cons x l ih => rw [List.flatMap_cons, List.length_append, ih, tcells_len, List.length_cons]; omega
  have f2 : (es.flatMap DO.cells).length = es.length * 8 := by
    generalize es = l
    induction l with
    | nil => rfl
    | cons x l ih => rw [List.flatMap_cons, List.length_append, ih, ocells_len, List.length_cons]; omega
  rw [← h.ts, ← h.os, List.length_map, List.length_map]
  omega
theorem code_of {w : World} {H : Nat} {d : DT} (h : d.ok w H) (hn : ∀ i ∈ d.p.code, 0 ≤ i.n ∧ i.n < 4294967296) : Code w d.X d.p.code := by
  intro i x hx
  refine ⟨hn x (List.mem_of_getElem? hx), ?_⟩
  exact fm_row (by omega) icells_len (OwnK.row h) hx
theorem SysR.at_ {w : World} {H n c m d : Nat} {A B : Option Addr} {s : PS} {ds : List DT} {es : List DO} (h : SysR w H A n c B m d s ds es) (hw : Wok s) : SysAt w A n B m s := by
  obtain ⟨l1, l2⟩ := h.lens
  refine ⟨l1, l2, ?_, ?_⟩
  · intro i p hp
    rw [← h.ts, List.getElem?_map] at hp
    obtain ⟨x, hx, rfl⟩ := Option.map_eq_some_iff.1 hp
    obtain ⟨b, o, hA, hc⟩ := fm_row (by omega) tcells_len h.tr.row hx
    have hm := List.mem_of_getElem? hx
    exact ⟨b, o, hA, x.X, x.c, hc, code_of (h.tk x hm) (fun y hy => hw.ins x.p (by rw [← h.ts]; exact List.mem_map.2 ⟨x, hm, rfl⟩) y hy), ownK_max (h.tk x hm)⟩
  · intro i p hp
    rw [← h.os, List.getElem?_map] at hp
    obtain ⟨x, hx, rfl⟩ := Option.map_eq_some_iff.1 hp
    obtain ⟨b, o, hA, hc⟩ := fm_row (by omega) ocells_len h.or.row hx
    have hm := List.mem_of_getElem? hx
    have hm2 : x.p ∈ s.os := by rw [← h.os]; exact List.mem_map.2 ⟨x, hm, rfl⟩
    have r1 := (h.ok x hm).1.row
    have r2 := (h.ok x hm).2.row
    rw [words1_eq] at r1
    rw [ints1_eq] at r2
    exact ⟨b, o, hA, x.X, x.c, x.Y, x.d, hc, hw.sa _ hm2, r1, hw.ini _ hm2, r2, ownK_max (h.ok x hm).1, ownK_max (h.ok x hm).2⟩
theorem sys_size : (Try.prog.info? 27).map (·.size) = some 2 := by kernel_rfl
def SysP (w : World) (R : Nat → Prop) (g : Nat) (l : List Int) (r : Rs) (e : Ending) (w' : World) : Prop := ∃ A n c B m d ds es, e = .returned (.agg #[.slice A n c, .slice B m d]) ∧ SysR w' w.heap.size A n c B m d (rS l r).1 ds es ∧ (n ≤ 255 ∧ m ≤ 255) ∧ RSt w' R g l (rS l r).2 ∧ Chg R w w'
set_option maxRecDepth 100000 in
set_option maxHeartbeats 4000000 in
theorem sysr_any {R : Nat → Prop} {g : Nat} {l : List Int} {r : Rs} (w : World) (h : RSt w R g l r) (hb : By l) (hR : ∀ i, R i → i < w.heap.size) :
    Calls Try.prog 14 #[.pointer (some ⟨g, 0, none⟩)] w (SysP w R g l r) := by
  have hs1 := (Same.refl w).alloc (.cells #[.pointer (some ⟨g, 0, none⟩)] 37)
  have hs2 := (Same.refl (w.alloc (.cells #[.pointer (some ⟨g, 0, none⟩)] 37))).alloc (.cells #[.slice none 0 0, .slice none 0 0] 27)
  have he1 : (w.alloc (.cells #[.pointer (some ⟨g, 0, none⟩)] 37)).heap.size = w.heap.size + 1 := by simp
  have hb0 := Blk.new (w.alloc (.cells #[.pointer (some ⟨g, 0, none⟩)] 37)) 27 #[.slice none 0 0, .slice none 0 0]
  rw [he1] at hb0
  have hs2 := hs2.drew
  have HX0 := Lib.hid ((Blk.new w 37 #[.pointer (some ⟨g, 0, none⟩)]).same hs2)
  have hb0 := hb0.same ((Same.refl _).drew)
  have HB0 := Lib.hid hb0
  have HR0 := Lib.hid (show RSt _ R g l r from Rd.same h (hs1.trans hs2))
  have HC0 := Lib.hid ((hs1.trans hs2).chg R)
  have HNR := Lib.hid (show ¬ R (w.heap.size + 1) from fun hi => by have := hR _ hi; omega)
  have HNX := Lib.hid (show ¬ R w.heap.size from fun hi => Nat.lt_irrefl _ (hR _ hi))
  have HZ0 := Lib.hid (fun i (hi : R i) => Nat.lt_of_lt_of_le (hR i hi) (hs1.trans hs2).size)
  have HRB := Lib.hid hR
  have HBY := Lib.hid hb
  clear h hb hs1 hs2 hb0 he1 hR
  go_enter Try.func14, Try.ntmps14
  go_wp2_with fail
  refine wp_region_held_drew (S := fun w' => w'.cell? ⟨w.heap.size, 0, none⟩ = some (.pointer (some ⟨g, 0, none⟩))) (by kernel_rfl) ?_ (fun hHeld => ?_)
  · exact HX0.out.cell 0
  refine Ro.take_on (i := 0) (v := ?_) rfl (by kernel_rfl) (by kernel_rfl) (by kernel_rfl) (fun _ _ _ h => h) (by rfl) hHeld ?_ ?_
  rotate_left
  · intro wS hSw; (try dsimp only at hSw); go_simp; try with_reducible rfl
  try simp only [Act.put, List.setIfInBounds_toArray, List.set_cons_zero, List.set_cons_succ]
  refine Ro.take_on (i := 2) (v := ?_) rfl (by kernel_rfl) (by kernel_rfl) (by kernel_rfl) (fun _ _ _ h => h) (by rfl) hHeld ?_ ?_
  rotate_left
  · intro wS hSw; (try dsimp only at hSw); go_simp; try with_reducible rfl
  try simp only [Act.put, List.setIfInBounds_toArray, List.set_cons_zero, List.set_cons_succ]
  refine Ro.one_on (i := 1) rfl (by kernel_rfl) (by rfl) (fun K hK => ?_)
  go_simp
  go_at_call 29
  refine (u8r _ HR0.out HBY.out).mono ?_
  rintro e w1 ⟨rfl, h1, s1⟩
  obtain ⟨⟨x1, r1⟩, hx1⟩ : ∃ p, p = rU l 1 r := ⟨_, rfl⟩
  rw [← hx1] at h1 ⊢
  have E1 := Lib.hid hx1
  have HR1 := Lib.hid h1
  have HC1 := Lib.hid (HC0.out.trans s1)
  have HB1 := Lib.hid (HB0.out.chg s1 HNR.out)
  have HX1 := Lib.hid (HX0.out.chg s1 HNX.out)
  have HZ1 := Lib.hid (fun i (hi : R i) => Nat.lt_of_lt_of_le (HZ0.out i hi) s1.size)
  clear hx1 h1 s1 HR0 HC0 HB0 HX0 HZ0
  dsimp only
  obtain ⟨N1, hN, hN1b⟩ := nat_of (x := x1) (by have := tld1_bd HBY.out r; have h := congrArg Prod.fst E1.out; simp only [rU] at h; omega)
  subst hN
  refine hK.out _ _ ?_ (fun hNew => ?_)
  · exact HX1.out.cell 0
  clear hK K hHeld
  have hHeld := hNew
  clear hNew
  try simp only [Act.put, List.setIfInBounds_toArray, List.set_cons_zero, List.set_cons_succ]
  refine Ro.one_on (i := 3) rfl (by kernel_rfl) (by rfl) (fun K hK => ?_)
  go_simp
  go_at_call 29
  refine (u8r _ HR1.out HBY.out).mono ?_
  rintro e w2 ⟨rfl, h2, s2⟩
  obtain ⟨⟨x2, r2⟩, hx2⟩ : ∃ p, p = rU l 1 r1 := ⟨_, rfl⟩
  rw [← hx2] at h2 ⊢
  have E2 := Lib.hid hx2
  have HR2 := Lib.hid h2
  have HC2 := Lib.hid (HC1.out.trans s2)
  have HB2 := Lib.hid (HB1.out.chg s2 HNR.out)
  have HX2 := Lib.hid (HX1.out.chg s2 HNX.out)
  have HZ2 := Lib.hid (fun i (hi : R i) => Nat.lt_of_lt_of_le (HZ1.out i hi) s2.size)
  clear hx2 h2 s2 HR1 HC1 HB1 HX1 HZ1
  dsimp only
  obtain ⟨N2, hN, hN2b⟩ := nat_of (x := x2) (by have := tld1_bd HBY.out r1; have h := congrArg Prod.fst E2.out; simp only [rU] at h; omega)
  subst hN
  refine hK.out _ _ ?_ (fun hNew => ?_)
  · exact HX2.out.cell 0
  clear hK K hHeld
  have hHeld := hNew
  clear hNew
  try simp only [Act.put, List.setIfInBounds_toArray, List.set_cons_zero, List.set_cons_succ]
  refine Ro.take_on (i := 4) (v := ?_) rfl (by kernel_rfl) (by kernel_rfl) (by kernel_rfl) (fun _ _ _ h => h) (by rfl) hHeld ?_ ?_
  rotate_left
  · intro wS hSw; (try dsimp only at hSw); go_simp; try with_reducible rfl
  try simp only [Act.put, List.setIfInBounds_toArray, List.set_cons_zero, List.set_cons_succ]
  refine Ro.take_on (i := 5) (v := ?_) rfl (by kernel_rfl) (by kernel_rfl) (by kernel_rfl) (fun _ _ _ h => h) (by rfl) hHeld ?_ ?_
  rotate_left
  · intro wS hSw; (try dsimp only at hSw); go_simp; try with_reducible rfl
  try simp only [Act.put, List.setIfInBounds_toArray, List.set_cons_zero, List.set_cons_succ]
  refine wpAnyH_done (by kernel_rfl) ?_ _
  have a0 : w2.cell? ⟨w.heap.size, 0, none⟩ = some (.pointer (some ⟨g, 0, none⟩)) := hHeld
  clear hHeld
  go_wp2_with fail
  refine (listT w.heap.size N1 hN1b _ HR2.out HBY.out HZ2.out HX2.out HNX.out).mono ?_
  rintro e w3 ⟨A3, c3, rfl, ⟨ds, d3, o3, k3⟩, h3, s3⟩
  have HSZ2 := Lib.hid HC2.out.size
  obtain ⟨⟨x3, r3⟩, hx3⟩ : ∃ p, p = rL (rT l) N1 r2 := ⟨_, rfl⟩
  rw [← hx3] at h3 d3
  have E3 := Lib.hid hx3
  have HR3 := Lib.hid h3
  have HC3 := Lib.hid (HC2.out.trans s3)
  have HB3 := Lib.hid (HB2.out.chg s3 HNR.out)
  have HX3 := Lib.hid (HX2.out.chg s3 HNX.out)
  have HZ3 := Lib.hid (fun i (hi : R i) => Nat.lt_of_lt_of_le (HZ2.out i hi) s3.size)
  clear hx3 h3 s3 HR2 HC2 HB2 HX2 HZ2
  dsimp only
  have HO3 := Lib.hid o3
  have HK3 := Lib.hid k3
  have HD3 := Lib.hid d3
  clear o3 k3 d3 a0
  have a0 : w3.cell? ⟨w.heap.size, 0, none⟩ = some (.pointer (some ⟨g, 0, none⟩)) := HX3.out.cell 0
  go_wp2_with fail
  refine (listO w.heap.size N2 hN2b _ HR3.out HBY.out HZ3.out HX3.out HNX.out).mono ?_
  rintro e w4 ⟨A4, c4, rfl, ⟨es, d4, o4, k4⟩, h4, s4⟩
  have HSZ3 := Lib.hid HC3.out.size
  obtain ⟨⟨x4, r4⟩, hx4⟩ : ∃ p, p = rL (rO l) N2 r3 := ⟨_, rfl⟩
  rw [← hx4] at h4 d4
  have E4 := Lib.hid hx4
  have HR4 := Lib.hid h4
  have HC4 := Lib.hid (HC3.out.trans s4)
  have HB4 := Lib.hid (HB3.out.chg s4 HNR.out)
  have HX4 := Lib.hid (HX3.out.chg s4 HNX.out)
  have HZ4 := Lib.hid (fun i (hi : R i) => Nat.lt_of_lt_of_le (HZ3.out i hi) s4.size)
  have HO3' := Lib.hid (HO3.out.chg s4 fun i hi hS => by have := ownK_ge HO3.out hi; have := HRB.out i hS; have := HSZ2.out; omega)
  have HK3' := Lib.hid (fun x hx => (HK3.out x hx).keep s4 fun i hi hS => by have := HRB.out i hS; have := HSZ2.out; omega)
  clear hx4 h4 s4 HR3 HC3 HB3 HX3 HZ3
  dsimp only
  have HO4 := Lib.hid o4
  have HK4 := Lib.hid k4
  have HD4 := Lib.hid d4
  clear o4 k4 d4 a0 HO3 HK3
  obtain ⟨y0, y1⟩ := (⟨HB4.out.thaw 0, HB4.out.thaw 1⟩ : _ ∧ _)
  obtain ⟨z0, z1⟩ := (⟨HB4.out.cell 0, HB4.out.cell 1⟩ : _ ∧ _)
  simp only [List.getElem?_toArray, List.getElem?_cons_zero, List.getElem?_cons_succ] at z0 z1
  go_wp2_with fail
  clear y0 y1 z0 z1
  obtain ⟨p1, p2⟩ := puts2 (v0 := .slice A3 N1 c3) (v1 := .slice A4 N2 c4) HB4.out
  refine bodyPost_ret (v := .agg #[.slice A3 N1 c3, .slice A4 N2 c4]) (results_cell_row Try.results14 _ _ (w.heap.size + 1) 27 #[.slice A3 N1 c3, .slice A4 N2 c4] (0, 0) _ rfl p1 Try.underlying27 rfl sys_size) rfl ?_
  have hS : rS l r = (⟨x3, x4⟩, r4) := by
    simp only [rS, ← E1.out, ← E2.out, Int.toNat_natCast, ← E3.out, ← E4.out]
  unfold SysP
  refine ⟨A3, N1, c3, A4, N2, c4, ds, es, rfl, ?_, ⟨hN1b, hN2b⟩, by rw [hS]; exact Rd.chg HR4.out p2 (fun i hi he => HNR.out (he ▸ hi)), chg_new HC4.out p2 (by omega)⟩
  rw [hS]
  exact ⟨HD3.out, HD4.out, OwnK.chg (HO3'.out.base HSZ2.out) p2 (fun i hi he => HO3'.out.ne HB4.out (by decide) i hi he), OwnK.chg (HO4.out.base HSZ3.out) p2 (fun i hi he => HO4.out.ne HB4.out (by decide) i hi he), fun x hx => ((HK3'.out x hx).base HSZ2.out).blk HB4.out p2 (by decide), fun x hx => ((HK4.out x hx).base HSZ3.out).blk HB4.out p2 (by decide) (by decide)⟩
end Go.Proofs.Ytfpefkpbiioofab.Im
