/-

  slices.Clone of words and numbers; apart
-/
import Derived.Test.YtaclphhbdfoaeaaDoorSysEach
set_option linter.unusedVariables false
set_option linter.unusedSimpArgs false
namespace Go.Proofs.YtaclphhbdfoaeaaDoor.Im
open Go.ChangeShapes Go.WideShapes Go.ChangeAt Go.RowKit Ws

def ClP (e : TypeId) (w : World) (l : List Value) (n : Nat) (en : Ending) (w' : World) : Prop := ∃ (X : Option Addr) (d : Nat), en = .returned (.slice X n d) ∧ OwnK w' w.heap.size e 1 X n d l ∧ Same w w'
theorem clp_mk {e : TypeId} {w w' : World} {l : List Value} {n : Nat} {X : Option Addr} {d : Nat} (h : OwnK w' w.heap.size e 1 X n d l) (s : Same w w') : ClP e w l n (.returned (.slice X n d)) w' := ⟨X, d, rfl, h, s⟩
theorem cl32_info : (Tryd.prog.info? 33).map (fun i => (i.zero, i.size, i.bytes)) = some (some (.int .u32 0), 1, 4) := by kernel_rfl
set_option maxRecDepth 100000 in
theorem cl32 (A : Option Addr) (n c : Nat) (l : List Int) (w : World) (h : Row w A (l.map (Value.int .u32))) (hn : l.length = n) (hl : n ≤ 4096) :
    Calls Tryd.prog 29 #[.slice A n c] w (ClP 33 w (l.flatMap words1) n) := by
  obtain ⟨i0, hi, hz0, hz1, hz2⟩ := info_parts cl32_info
  have HN := Lib.hid hn
  have HR := Lib.hid h
  rw [words1_eq]
  clear hn h
  have hq : ∀ (w : World) (a : Option Addr) (n c n' c' : Nat), (binOp .eql 36 (.slice a n c) (.slice none n' c')).run Tryd.prog w = .ok (.bool a.isNone) w := fun w a n c n' c' => Lib.run_eql_slice_nil w _ _ a n c n' c' Tryd.underlying36
  cases A with
  | none =>
    have h0 : l = [] := by
      cases l with
      | nil => rfl
      | cons x l =>
        obtain ⟨b, o, h1, _⟩ := HR.out 0 _ rfl
        cases h1
    subst h0
    obtain rfl : n = 0 := HN.out.symm
    go_enter Tryd.func29, Tryd.ntmps29
    go_wp2_with fail
    go_ret
    exact clp_mk (OwnK.none _ _ _ _) (Same.refl _)
  | some ad =>
    go_enter Tryd.func29, Tryd.ntmps29
    go_wp2_with (at_builtin; go_loud (refine wpList_appK rfl (.tmp 5) (.tmp 6) 36 rfl w.heap.size 33 i0 _ 1 4 Tryd.underlying36 hi hz0 hz1 hz2 rfl (by omega) (some ⟨w.heap.size, 0, none⟩) 0 0 [] rfl (World.ownsRow_made w #[] 0 (Nat.le_refl _) (Nat.zero_le _) rfl) ad n c (l.map (Value.int .u32)) rfl ?c1 (HR.out.same ((Same.refl _).alloc _)) (by intro u hu; obtain ⟨y, _, rfl⟩ := List.mem_map.1 hu; rfl) (by omega) (by omega) (by simp) ?_))
    case c1 => rw [List.length_map, HN.out, Nat.mul_one]
    intro A2 c2 w2 ho2 hc2
    have HS2 := Lib.hid (Same.more ((Same.refl w).alloc (.cells #[] 33)) hc2 fun g hg => by
      have hg : w.heap.size = g := by
        first
          | exact hg
          | (have hg : (some ⟨w.heap.size, 0, none⟩ : Option Addr) = some ⟨g, 0, none⟩ := hg
             injection hg with hg
             injection hg)
      omega)
    have HO2 := Lib.hid ho2
    clear ho2 hc2
    go_wp2_with fail
    go_ret
    exact clp_mk (by have h := HO2.out; simpa using h) HS2.out
theorem cl64_info : (Tryd.prog.info? 3).map (fun i => (i.zero, i.size, i.bytes)) = some (some (.int .i64 0), 1, 8) := by kernel_rfl
set_option maxRecDepth 100000 in
theorem cl64 (A : Option Addr) (n c : Nat) (l : List Int) (w : World) (h : Row w A (l.map (Value.int .i64))) (hn : l.length = n) (hl : n ≤ 4096) :
    Calls Tryd.prog 30 #[.slice A n c] w (ClP 3 w (l.flatMap ints1) n) := by
  obtain ⟨i0, hi, hz0, hz1, hz2⟩ := info_parts cl64_info
  have HN := Lib.hid hn
  have HR := Lib.hid h
  rw [ints1_eq]
  clear hn h
  have hq : ∀ (w : World) (a : Option Addr) (n c n' c' : Nat), (binOp .eql 37 (.slice a n c) (.slice none n' c')).run Tryd.prog w = .ok (.bool a.isNone) w := fun w a n c n' c' => Lib.run_eql_slice_nil w _ _ a n c n' c' Tryd.underlying37
  cases A with
  | none =>
    have h0 : l = [] := by
      cases l with
      | nil => rfl
      | cons x l =>
        obtain ⟨b, o, h1, _⟩ := HR.out 0 _ rfl
        cases h1
    subst h0
    obtain rfl : n = 0 := HN.out.symm
    go_enter Tryd.func30, Tryd.ntmps30
    go_wp2_with fail
    go_ret
    exact clp_mk (OwnK.none _ _ _ _) (Same.refl _)
  | some ad =>
    go_enter Tryd.func30, Tryd.ntmps30
    go_wp2_with (at_builtin; go_loud (refine wpList_appK rfl (.tmp 5) (.tmp 6) 37 rfl w.heap.size 3 i0 _ 1 8 Tryd.underlying37 hi hz0 hz1 hz2 rfl (by omega) (some ⟨w.heap.size, 0, none⟩) 0 0 [] rfl (World.ownsRow_made w #[] 0 (Nat.le_refl _) (Nat.zero_le _) rfl) ad n c (l.map (Value.int .i64)) rfl ?c1 (HR.out.same ((Same.refl _).alloc _)) (by intro u hu; obtain ⟨y, _, rfl⟩ := List.mem_map.1 hu; rfl) (by omega) (by omega) (by simp) ?_))
    case c1 => rw [List.length_map, HN.out, Nat.mul_one]
    intro A2 c2 w2 ho2 hc2
    have HS2 := Lib.hid (Same.more ((Same.refl w).alloc (.cells #[] 3)) hc2 fun g hg => by
      have hg : w.heap.size = g := by
        first
          | exact hg
          | (have hg : (some ⟨w.heap.size, 0, none⟩ : Option Addr) = some ⟨g, 0, none⟩ := hg
             injection hg with hg
             injection hg)
      omega)
    have HO2 := Lib.hid ho2
    clear ho2 hc2
    go_wp2_with fail
    go_ret
    exact clp_mk (by have h := HO2.out; simpa using h) HS2.out
theorem obj_size8 : (Tryd.prog.info? 39).map (·.size) = some 8 := by kernel_rfl
def ApP (w : World) (x : PO) (e : Ending) (w' : World) : Prop := ∃ (X : Option Addr) (c : Nat) (Y : Option Addr) (d : Nat), e = .returned (.agg #[.int .i64 x.k, .int .i64 x.wd, .int .i64 x.sl, .int .i64 x.cp, .int .u32 x.sa, .slice X x.ini.length c, .int .i64 x.ow, .slice Y x.rd.length d]) ∧ DO.ok w' w.heap.size ⟨x, X, c, Y, d⟩ ∧ Same w w'
theorem app_mk {w w' : World} {x : PO} {X Y : Option Addr} {c d : Nat} (h : DO.ok w' w.heap.size ⟨x, X, c, Y, d⟩) (s : Same w w') : ApP w x (.returned (.agg #[.int .i64 x.k, .int .i64 x.wd, .int .i64 x.sl, .int .i64 x.cp, .int .u32 x.sa, .slice X x.ini.length c, .int .i64 x.ow, .slice Y x.rd.length d])) w' := ⟨X, c, Y, d, rfl, h, s⟩
set_option maxRecDepth 100000 in
set_option maxHeartbeats 2000000 in
theorem apart_any (x : PO) (X Y : Option Addr) (cX cY : Nat) (w : World) (h1 : Row w X (x.ini.map (Value.int .u32))) (h2 : Row w Y (x.rd.map (Value.int .i64))) (hl : x.ini.length ≤ 100 ∧ x.rd.length ≤ 100) :
    Calls Tryd.prog 15 #[.agg #[.int .i64 x.k, .int .i64 x.wd, .int .i64 x.sl, .int .i64 x.cp, .int .u32 x.sa, .slice X x.ini.length cX, .int .i64 x.ow, .slice Y x.rd.length cY]] w (ApP w x) := by
  have hs1 := (Same.refl w).alloc (.cells #[.int .i64 x.k, .int .i64 x.wd, .int .i64 x.sl, .int .i64 x.cp, .int .u32 x.sa, .slice X x.ini.length cX, .int .i64 x.ow, .slice Y x.rd.length cY] 39)
  have hb1 := Blk.new w 39 #[.int .i64 x.k, .int .i64 x.wd, .int .i64 x.sl, .int .i64 x.cp, .int .u32 x.sa, .slice X x.ini.length cX, .int .i64 x.ow, .slice Y x.rd.length cY]
  obtain ⟨w1, hw1⟩ : ∃ w1, w1 = w.alloc (.cells #[.int .i64 x.k, .int .i64 x.wd, .int .i64 x.sl, .int .i64 x.cp, .int .u32 x.sa, .slice X x.ini.length cX, .int .i64 x.ow, .slice Y x.rd.length cY] 39) := ⟨_, rfl⟩
  rw [← hw1] at hs1 hb1
  have hs2 := (Same.refl w1).alloc (.cells #[.int .i64 0, .int .i64 0, .int .i64 0, .int .i64 0, .int .u32 0, .slice none 0 0, .int .i64 0, .slice none 0 0] 39)
  have hb2 := Blk.new w1 39 #[.int .i64 0, .int .i64 0, .int .i64 0, .int .i64 0, .int .u32 0, .slice none 0 0, .int .i64 0, .slice none 0 0]
  rw [show w1.heap.size = w.heap.size + 1 by rw [hw1, World.size_alloc]] at hb2
  obtain ⟨w2, hw2⟩ : ∃ w2, w2 = w1.alloc (.cells #[.int .i64 0, .int .i64 0, .int .i64 0, .int .i64 0, .int .u32 0, .slice none 0 0, .int .i64 0, .slice none 0 0] 39) := ⟨_, rfl⟩
  rw [← hw2] at hs2 hb2
  have HW1 := Lib.hid hw1
  have HW2 := Lib.hid hw2
  have HB1 := Lib.hid (hb1.same hs2)
  have HB2 := Lib.hid hb2
  have HS := Lib.hid (hs1.trans hs2)
  have C1 := Lib.hid (fun w' (h : Same w w') => cl32 X x.ini.length cX x.ini w' (h1.same h) rfl (by omega))
  have C2 := Lib.hid (fun w' (h : Same w w') => cl64 Y x.rd.length cY x.rd w' (h2.same h) rfl (by omega))
  obtain ⟨q, hq⟩ : ∃ q, q = w.heap.size := ⟨_, rfl⟩
  have h5 : w2.cell? ⟨q, 5, none⟩ = some (.slice X x.ini.length cX) := by rw [hq]; exact HB1.out.cell 5
  have h7 : w2.cell? ⟨q, 7, none⟩ = some (.slice Y x.rd.length cY) := by rw [hq]; exact HB1.out.cell 7
  rw [← hq] at HB1 HB2
  have HSZ := Lib.hid (show q + 1 + 1 ≤ w2.heap.size by rw [hw2, World.size_alloc, hw1, World.size_alloc, hq]; exact Nat.le_refl _)
  have HQ := Lib.hid hq
  have H5 := Lib.hid h5
  have H7 := Lib.hid h7
  clear hs1 hb1 hs2 hb2 hw1 hw2 h1 h2 h5 h7
  go_enter Tryd.func15, Tryd.ntmps15
  go_upto_region 1 with fail
  rw [← HW1.out, ← HW2.out, ← HQ.out]
  clear hq
  have SD := Lib.hid (Same.drew (Same.refl w2))
  refine wp_region_held_drew (S := fun _ => True) (by kernel_rfl) trivial (fun hH => ?_)
  clear hH
  refine Ro.take_on (i := 0) (v := ?_) rfl (by kernel_rfl) (by kernel_rfl) (by kernel_rfl) (fun _ _ _ h => h) (by rfl) (trivial) ?_ ?_
  rotate_left
  · intro wS hSw; (try dsimp only at hSw); go_simp; try with_reducible rfl
  try simp only [Act.put, List.setIfInBounds_toArray, List.set_cons_zero, List.set_cons_succ]
  refine Ro.take_on (i := 3) (v := ?_) rfl (by kernel_rfl) (by kernel_rfl) (by kernel_rfl) (fun _ _ _ h => h) (by rfl) (trivial) ?_ ?_
  rotate_left
  · intro wS hSw; (try dsimp only at hSw); go_simp; try with_reducible rfl
  try simp only [Act.put, List.setIfInBounds_toArray, List.set_cons_zero, List.set_cons_succ]
  refine Ra.two_on (i := 1) (j := 4) rfl rfl (by kernel_rfl) (by rfl) (by rfl) (fun K hK => ?_) (fun K hK => ?_)
  · have hld := SD.out.cell H5.out
    go_simp
    refine hK.out _ _ trivial (fun hNew => ?_)
    clear hK K
    try simp only [Act.put, List.setIfInBounds_toArray, List.set_cons_zero, List.set_cons_succ]
    clear hld
    refine Ra.two_on (i := 2) (j := 4) rfl rfl (by kernel_rfl) (by rfl) (by rfl) (fun K hK => ?_) (fun K hK => ?_)
    · have NX := Lib.hid (Nat.le_trans HSZ.out SD.out.size)
      go_simp
      go_at_call 29
      refine (C1.out _ (HS.out.trans SD.out)).mono ?_
      rintro e wA ⟨X2, cX2, rfl, oA, sA⟩
      have SA := Lib.hid (SD.out.trans sA)
      have OA := Lib.hid oA
      have ZA := Lib.hid sA
      clear oA sA
      refine hK.out _ _ trivial (fun hNew => ?_)
      clear hK K
      try simp only [Act.put, List.setIfInBounds_toArray, List.set_cons_zero, List.set_cons_succ]
      have hld := SA.out.cell H7.out
      refine Ro.one_on (i := 4) rfl (by kernel_rfl) (by rfl) (fun K hK => ?_)
      go_simp
      refine hK.out _ _ trivial (fun hNew => ?_)
      clear hK K
      try simp only [Act.put, List.setIfInBounds_toArray, List.set_cons_zero, List.set_cons_succ]
      clear hld
      have NY := Lib.hid (Nat.le_trans HSZ.out SA.out.size)
      refine Ro.take_on (i := 6) (v := ?_) rfl (by kernel_rfl) (by kernel_rfl) (by kernel_rfl) (fun _ _ _ h => h) (by rfl) (trivial) ?_ ?_
      rotate_left
      · intro wS hSw; (try dsimp only at hSw); go_simp; try with_reducible rfl
      try simp only [Act.put, List.setIfInBounds_toArray, List.set_cons_zero, List.set_cons_succ]
      refine Ro.one_on (i := 5) rfl (by kernel_rfl) (by rfl) (fun K hK => ?_)
      go_simp
      go_at_call 30
      refine (C2.out _ (HS.out.trans SA.out)).mono ?_
      rintro e wB ⟨Y2, cY2, rfl, oB, sB⟩
      have SB := Lib.hid (SA.out.trans sB)
      have OB := Lib.hid oB
      have ZB := Lib.hid sB
      clear oB sB
      refine hK.out _ _ trivial (fun hNew => ?_)
      clear hK K
      try simp only [Act.put, List.setIfInBounds_toArray, List.set_cons_zero, List.set_cons_succ]
      have OX := Lib.hid (OA.out.same ZB.out)
      have hb1 := HB1.out.same SB.out
      have hb2 := HB2.out.same SB.out
      have t5 := hb1.thaw 5
      have t7 := hb1.thaw 7
      have q5 : wB.cell? ⟨q, 5, none⟩ = some _ := hb1.cell 5
      have q7 : wB.cell? ⟨q, 7, none⟩ = some _ := hb1.cell 7
      refine Ro.one_on (i := 7) rfl (by kernel_rfl) (by rfl) (fun K hK => ?_)
      go_simp
      refine hK.out _ _ trivial (fun hNew => ?_)
      clear hK K
      try simp only [Act.put, List.setIfInBounds_toArray, List.set_cons_zero, List.set_cons_succ]
      refine Ro.take_on (i := 8) (v := ?_) rfl (by kernel_rfl) (by kernel_rfl) (by kernel_rfl) (fun _ _ _ h => h) (by rfl) (trivial) ?_ ?_
      rotate_left
      · intro wS hSw; (try dsimp only at hSw); go_simp; try with_reducible rfl
      try simp only [Act.put, List.setIfInBounds_toArray, List.set_cons_zero, List.set_cons_succ]
      refine Ro.one_on (i := 9) rfl (by kernel_rfl) (by rfl) (fun K hK => ?_)
      go_simp
      refine hK.out _ _ trivial (fun hNew => ?_)
      clear hK K
      try simp only [Act.put, List.setIfInBounds_toArray, List.set_cons_zero, List.set_cons_succ]
      refine wpAnyH_done (by kernel_rfl) ?_ _
      have hb3 := (hb1.put 5 (.slice X2 x.ini.length cX2)).put 7 (.slice Y2 x.rd.length cY2)
      have hcc : Chg (fun i => i = q ∨ i = q + 1) wB ((wB.setCell ⟨q, 5, none⟩ (.slice X2 x.ini.length cX2)).setCell ⟨q, 7, none⟩ (.slice Y2 x.rd.length cY2)) := ((Chg.refl (fun i => i = q ∨ i = q + 1) wB).set (p := ⟨q, 5, none⟩) (.inl (.inl rfl)) _).set (p := ⟨q, 7, none⟩) (.inl (.inl rfl)) _
      have hc1 : Chg (fun i => i = q) wB ((wB.setCell ⟨q, 5, none⟩ (.slice X2 x.ini.length cX2)).setCell ⟨q, 7, none⟩ (.slice Y2 x.rd.length cY2)) := ((Chg.refl (fun i => i = q) wB).set (p := ⟨q, 5, none⟩) (.inl rfl) _).set (p := ⟨q, 7, none⟩) (.inl rfl) _
      have hb4 := hb2.chg hc1 (by omega)
      simp only [List.setIfInBounds_toArray, List.set_cons_zero, List.set_cons_succ] at hb3
      have HB3 := Lib.hid hb3
      have HB4 := Lib.hid hb4
      have HCC := Lib.hid hcc
      clear hb1 hc1 hcc t5 t7 q5 q7
      generalize (wB.setCell ⟨q, 5, none⟩ (.slice X2 x.ini.length cX2)).setCell ⟨q, 7, none⟩ (.slice Y2 x.rd.length cY2) = wC at *
      obtain ⟨a0, a1, a2, a3, a4, a5, a6, a7⟩ := (⟨hb3.cell 0, hb3.cell 1, hb3.cell 2, hb3.cell 3, hb3.cell 4, hb3.cell 5, hb3.cell 6, hb3.cell 7⟩ : _ ∧ _ ∧ _ ∧ _ ∧ _ ∧ _ ∧ _ ∧ _)
      obtain ⟨z0, z1, z2, z3, z4, z5, z6, z7⟩ := (⟨hb4.cell 0, hb4.cell 1, hb4.cell 2, hb4.cell 3, hb4.cell 4, hb4.cell 5, hb4.cell 6, hb4.cell 7⟩ : _ ∧ _ ∧ _ ∧ _ ∧ _ ∧ _ ∧ _ ∧ _)
      simp only [List.getElem?_toArray, List.getElem?_cons_zero, List.getElem?_cons_succ] at a0 a1 a2 a3 a4 a5 a6 a7 z0 z1 z2 z3 z4 z5 z6 z7
      obtain ⟨y0, y1, y2, y3, y4, y5, y6, y7⟩ := (⟨hb4.thaw 0, hb4.thaw 1, hb4.thaw 2, hb4.thaw 3, hb4.thaw 4, hb4.thaw 5, hb4.thaw 6, hb4.thaw 7⟩ : _ ∧ _ ∧ _ ∧ _ ∧ _ ∧ _ ∧ _ ∧ _)
      clear hb3 hb4 hb2
      go_wp2_with fail
      refine bodyPost_ret (v := .agg #[.int .i64 x.k, .int .i64 x.wd, .int .i64 x.sl, .int .i64 x.cp, .int .u32 x.sa, .slice X2 x.ini.length cX2, .int .i64 x.ow, .slice Y2 x.rd.length cY2]) (results_cell_row Tryd.results15 _ _ (q + 1) 39 #[.int .i64 x.k, .int .i64 x.wd, .int .i64 x.sl, .int .i64 x.cp, .int .u32 x.sa, .slice X2 x.ini.length cX2, .int .i64 x.ow, .slice Y2 x.rd.length cY2] (0, 0) _ rfl (((((((((HB4.out.put 0 (.int .i64 x.k)).put 1 (.int .i64 x.wd)).put 2 (.int .i64 x.sl)).put 3 (.int .i64 x.cp)).put 4 (.int .u32 x.sa)).put 5 (.slice X2 x.ini.length cX2)).put 6 (.int .i64 x.ow)).put 7 (.slice Y2 x.rd.length cY2))) Tryd.underlying39 rfl obj_size8) rfl ?_
      have hce : Chg (fun i => i = q ∨ i = q + 1) wB _ := HCC.out.trans (((((((((Chg.refl (fun i => i = q ∨ i = q + 1) wC).set (p := ⟨q + 1, 0, none⟩) (.inl (.inr rfl)) (.int .i64 x.k)).set (p := ⟨q + 1, 1, none⟩) (.inl (.inr rfl)) (.int .i64 x.wd)).set (p := ⟨q + 1, 2, none⟩) (.inl (.inr rfl)) (.int .i64 x.sl)).set (p := ⟨q + 1, 3, none⟩) (.inl (.inr rfl)) (.int .i64 x.cp)).set (p := ⟨q + 1, 4, none⟩) (.inl (.inr rfl)) (.int .u32 x.sa)).set (p := ⟨q + 1, 5, none⟩) (.inl (.inr rfl)) (.slice X2 x.ini.length cX2)).set (p := ⟨q + 1, 6, none⟩) (.inl (.inr rfl)) (.int .i64 x.ow)).set (p := ⟨q + 1, 7, none⟩) (.inl (.inr rfl)) (.slice Y2 x.rd.length cY2))
      have n1 : ∀ g, X2 = some ⟨g, 0, none⟩ → ¬ (g = q ∨ g = q + 1) := fun g hg hh => by have := ownK_ge OX.out hg; have := NX.out; omega
      have n2 : ∀ g, Y2 = some ⟨g, 0, none⟩ → ¬ (g = q ∨ g = q + 1) := fun g hg hh => by have := ownK_ge OB.out hg; have := NY.out; omega
      refine app_mk ⟨(OX.out.chg hce n1).base (by have := NX.out; have := HQ.out; omega), (OB.out.chg hce n2).base (by have := NY.out; have := HQ.out; omega)⟩ ((HS.out.trans SB.out).more hce (fun i hi => by have := HQ.out; omega))
    · have hld := SD.out.cell H7.out
      go_simp
      refine hK.out _ _ trivial (fun hNew => ?_)
      clear hK K
      try simp only [Act.put, List.setIfInBounds_toArray, List.set_cons_zero, List.set_cons_succ]
      clear hld
      have NX := Lib.hid (Nat.le_trans HSZ.out SD.out.size)
      refine Ro.one_on (i := 2) rfl (by kernel_rfl) (by rfl) (fun K hK => ?_)
      go_simp
      go_at_call 29
      refine (C1.out _ (HS.out.trans SD.out)).mono ?_
      rintro e wA ⟨X2, cX2, rfl, oA, sA⟩
      have SA := Lib.hid (SD.out.trans sA)
      have OA := Lib.hid oA
      have ZA := Lib.hid sA
      clear oA sA
      refine hK.out _ _ trivial (fun hNew => ?_)
      clear hK K
      try simp only [Act.put, List.setIfInBounds_toArray, List.set_cons_zero, List.set_cons_succ]
      have NY := Lib.hid (Nat.le_trans HSZ.out SA.out.size)
      refine Ro.take_on (i := 6) (v := ?_) rfl (by kernel_rfl) (by kernel_rfl) (by kernel_rfl) (fun _ _ _ h => h) (by rfl) (trivial) ?_ ?_
      rotate_left
      · intro wS hSw; (try dsimp only at hSw); go_simp; try with_reducible rfl
      try simp only [Act.put, List.setIfInBounds_toArray, List.set_cons_zero, List.set_cons_succ]
      refine Ro.one_on (i := 5) rfl (by kernel_rfl) (by rfl) (fun K hK => ?_)
      go_simp
      go_at_call 30
      refine (C2.out _ (HS.out.trans SA.out)).mono ?_
      rintro e wB ⟨Y2, cY2, rfl, oB, sB⟩
      have SB := Lib.hid (SA.out.trans sB)
      have OB := Lib.hid oB
      have ZB := Lib.hid sB
      clear oB sB
      refine hK.out _ _ trivial (fun hNew => ?_)
      clear hK K
      try simp only [Act.put, List.setIfInBounds_toArray, List.set_cons_zero, List.set_cons_succ]
      have OX := Lib.hid (OA.out.same ZB.out)
      have hb1 := HB1.out.same SB.out
      have hb2 := HB2.out.same SB.out
      have t5 := hb1.thaw 5
      have t7 := hb1.thaw 7
      have q5 : wB.cell? ⟨q, 5, none⟩ = some _ := hb1.cell 5
      have q7 : wB.cell? ⟨q, 7, none⟩ = some _ := hb1.cell 7
      refine Ro.one_on (i := 7) rfl (by kernel_rfl) (by rfl) (fun K hK => ?_)
      go_simp
      refine hK.out _ _ trivial (fun hNew => ?_)
      clear hK K
      try simp only [Act.put, List.setIfInBounds_toArray, List.set_cons_zero, List.set_cons_succ]
      refine Ro.take_on (i := 8) (v := ?_) rfl (by kernel_rfl) (by kernel_rfl) (by kernel_rfl) (fun _ _ _ h => h) (by rfl) (trivial) ?_ ?_
      rotate_left
      · intro wS hSw; (try dsimp only at hSw); go_simp; try with_reducible rfl
      try simp only [Act.put, List.setIfInBounds_toArray, List.set_cons_zero, List.set_cons_succ]
      refine Ro.one_on (i := 9) rfl (by kernel_rfl) (by rfl) (fun K hK => ?_)
      go_simp
      refine hK.out _ _ trivial (fun hNew => ?_)
      clear hK K
      try simp only [Act.put, List.setIfInBounds_toArray, List.set_cons_zero, List.set_cons_succ]
      refine wpAnyH_done (by kernel_rfl) ?_ _
      have hb3 := (hb1.put 5 (.slice X2 x.ini.length cX2)).put 7 (.slice Y2 x.rd.length cY2)
      have hcc : Chg (fun i => i = q ∨ i = q + 1) wB ((wB.setCell ⟨q, 5, none⟩ (.slice X2 x.ini.length cX2)).setCell ⟨q, 7, none⟩ (.slice Y2 x.rd.length cY2)) := ((Chg.refl (fun i => i = q ∨ i = q + 1) wB).set (p := ⟨q, 5, none⟩) (.inl (.inl rfl)) _).set (p := ⟨q, 7, none⟩) (.inl (.inl rfl)) _
      have hc1 : Chg (fun i => i = q) wB ((wB.setCell ⟨q, 5, none⟩ (.slice X2 x.ini.length cX2)).setCell ⟨q, 7, none⟩ (.slice Y2 x.rd.length cY2)) := ((Chg.refl (fun i => i = q) wB).set (p := ⟨q, 5, none⟩) (.inl rfl) _).set (p := ⟨q, 7, none⟩) (.inl rfl) _
      have hb4 := hb2.chg hc1 (by omega)
      simp only [List.setIfInBounds_toArray, List.set_cons_zero, List.set_cons_succ] at hb3
      have HB3 := Lib.hid hb3
      have HB4 := Lib.hid hb4
      have HCC := Lib.hid hcc
      clear hb1 hc1 hcc t5 t7 q5 q7
      generalize (wB.setCell ⟨q, 5, none⟩ (.slice X2 x.ini.length cX2)).setCell ⟨q, 7, none⟩ (.slice Y2 x.rd.length cY2) = wC at *
      obtain ⟨a0, a1, a2, a3, a4, a5, a6, a7⟩ := (⟨hb3.cell 0, hb3.cell 1, hb3.cell 2, hb3.cell 3, hb3.cell 4, hb3.cell 5, hb3.cell 6, hb3.cell 7⟩ : _ ∧ _ ∧ _ ∧ _ ∧ _ ∧ _ ∧ _ ∧ _)
      obtain ⟨z0, z1, z2, z3, z4, z5, z6, z7⟩ := (⟨hb4.cell 0, hb4.cell 1, hb4.cell 2, hb4.cell 3, hb4.cell 4, hb4.cell 5, hb4.cell 6, hb4.cell 7⟩ : _ ∧ _ ∧ _ ∧ _ ∧ _ ∧ _ ∧ _ ∧ _)
      simp only [List.getElem?_toArray, List.getElem?_cons_zero, List.getElem?_cons_succ] at a0 a1 a2 a3 a4 a5 a6 a7 z0 z1 z2 z3 z4 z5 z6 z7
      obtain ⟨y0, y1, y2, y3, y4, y5, y6, y7⟩ := (⟨hb4.thaw 0, hb4.thaw 1, hb4.thaw 2, hb4.thaw 3, hb4.thaw 4, hb4.thaw 5, hb4.thaw 6, hb4.thaw 7⟩ : _ ∧ _ ∧ _ ∧ _ ∧ _ ∧ _ ∧ _ ∧ _)
      clear hb3 hb4 hb2
      go_wp2_with fail
      refine bodyPost_ret (v := .agg #[.int .i64 x.k, .int .i64 x.wd, .int .i64 x.sl, .int .i64 x.cp, .int .u32 x.sa, .slice X2 x.ini.length cX2, .int .i64 x.ow, .slice Y2 x.rd.length cY2]) (results_cell_row Tryd.results15 _ _ (q + 1) 39 #[.int .i64 x.k, .int .i64 x.wd, .int .i64 x.sl, .int .i64 x.cp, .int .u32 x.sa, .slice X2 x.ini.length cX2, .int .i64 x.ow, .slice Y2 x.rd.length cY2] (0, 0) _ rfl (((((((((HB4.out.put 0 (.int .i64 x.k)).put 1 (.int .i64 x.wd)).put 2 (.int .i64 x.sl)).put 3 (.int .i64 x.cp)).put 4 (.int .u32 x.sa)).put 5 (.slice X2 x.ini.length cX2)).put 6 (.int .i64 x.ow)).put 7 (.slice Y2 x.rd.length cY2))) Tryd.underlying39 rfl obj_size8) rfl ?_
      have hce : Chg (fun i => i = q ∨ i = q + 1) wB _ := HCC.out.trans (((((((((Chg.refl (fun i => i = q ∨ i = q + 1) wC).set (p := ⟨q + 1, 0, none⟩) (.inl (.inr rfl)) (.int .i64 x.k)).set (p := ⟨q + 1, 1, none⟩) (.inl (.inr rfl)) (.int .i64 x.wd)).set (p := ⟨q + 1, 2, none⟩) (.inl (.inr rfl)) (.int .i64 x.sl)).set (p := ⟨q + 1, 3, none⟩) (.inl (.inr rfl)) (.int .i64 x.cp)).set (p := ⟨q + 1, 4, none⟩) (.inl (.inr rfl)) (.int .u32 x.sa)).set (p := ⟨q + 1, 5, none⟩) (.inl (.inr rfl)) (.slice X2 x.ini.length cX2)).set (p := ⟨q + 1, 6, none⟩) (.inl (.inr rfl)) (.int .i64 x.ow)).set (p := ⟨q + 1, 7, none⟩) (.inl (.inr rfl)) (.slice Y2 x.rd.length cY2))
      have n1 : ∀ g, X2 = some ⟨g, 0, none⟩ → ¬ (g = q ∨ g = q + 1) := fun g hg hh => by have := ownK_ge OX.out hg; have := NX.out; omega
      have n2 : ∀ g, Y2 = some ⟨g, 0, none⟩ → ¬ (g = q ∨ g = q + 1) := fun g hg hh => by have := ownK_ge OB.out hg; have := NY.out; omega
      refine app_mk ⟨(OX.out.chg hce n1).base (by have := NX.out; have := HQ.out; omega), (OB.out.chg hce n2).base (by have := NY.out; have := HQ.out; omega)⟩ ((HS.out.trans SB.out).more hce (fun i hi => by have := HQ.out; omega))
  · have hld := SD.out.cell H7.out
    go_simp
    refine hK.out _ _ trivial (fun hNew => ?_)
    clear hK K
    try simp only [Act.put, List.setIfInBounds_toArray, List.set_cons_zero, List.set_cons_succ]
    clear hld
    have hld := SD.out.cell H5.out
    refine Ro.one_on (i := 1) rfl (by kernel_rfl) (by rfl) (fun K hK => ?_)
    go_simp
    refine hK.out _ _ trivial (fun hNew => ?_)
    clear hK K
    try simp only [Act.put, List.setIfInBounds_toArray, List.set_cons_zero, List.set_cons_succ]
    clear hld
    have NX := Lib.hid (Nat.le_trans HSZ.out SD.out.size)
    refine Ro.one_on (i := 2) rfl (by kernel_rfl) (by rfl) (fun K hK => ?_)
    go_simp
    go_at_call 29
    refine (C1.out _ (HS.out.trans SD.out)).mono ?_
    rintro e wA ⟨X2, cX2, rfl, oA, sA⟩
    have SA := Lib.hid (SD.out.trans sA)
    have OA := Lib.hid oA
    have ZA := Lib.hid sA
    clear oA sA
    refine hK.out _ _ trivial (fun hNew => ?_)
    clear hK K
    try simp only [Act.put, List.setIfInBounds_toArray, List.set_cons_zero, List.set_cons_succ]
    have NY := Lib.hid (Nat.le_trans HSZ.out SA.out.size)
    refine Ro.take_on (i := 6) (v := ?_) rfl (by kernel_rfl) (by kernel_rfl) (by kernel_rfl) (fun _ _ _ h => h) (by rfl) (trivial) ?_ ?_
    rotate_left
    · intro wS hSw; (try dsimp only at hSw); go_simp; try with_reducible rfl
    try simp only [Act.put, List.setIfInBounds_toArray, List.set_cons_zero, List.set_cons_succ]
    refine Ro.one_on (i := 5) rfl (by kernel_rfl) (by rfl) (fun K hK => ?_)
    go_simp
    go_at_call 30
    refine (C2.out _ (HS.out.trans SA.out)).mono ?_
    rintro e wB ⟨Y2, cY2, rfl, oB, sB⟩
    have SB := Lib.hid (SA.out.trans sB)
    have OB := Lib.hid oB
    have ZB := Lib.hid sB
    clear oB sB
    refine hK.out _ _ trivial (fun hNew => ?_)
    clear hK K
    try simp only [Act.put, List.setIfInBounds_toArray, List.set_cons_zero, List.set_cons_succ]
    have OX := Lib.hid (OA.out.same ZB.out)
    have hb1 := HB1.out.same SB.out
    have hb2 := HB2.out.same SB.out
    have t5 := hb1.thaw 5
    have t7 := hb1.thaw 7
    have q5 : wB.cell? ⟨q, 5, none⟩ = some _ := hb1.cell 5
    have q7 : wB.cell? ⟨q, 7, none⟩ = some _ := hb1.cell 7
    refine Ro.one_on (i := 7) rfl (by kernel_rfl) (by rfl) (fun K hK => ?_)
    go_simp
    refine hK.out _ _ trivial (fun hNew => ?_)
    clear hK K
    try simp only [Act.put, List.setIfInBounds_toArray, List.set_cons_zero, List.set_cons_succ]
    refine Ro.take_on (i := 8) (v := ?_) rfl (by kernel_rfl) (by kernel_rfl) (by kernel_rfl) (fun _ _ _ h => h) (by rfl) (trivial) ?_ ?_
    rotate_left
    · intro wS hSw; (try dsimp only at hSw); go_simp; try with_reducible rfl
    try simp only [Act.put, List.setIfInBounds_toArray, List.set_cons_zero, List.set_cons_succ]
    refine Ro.one_on (i := 9) rfl (by kernel_rfl) (by rfl) (fun K hK => ?_)
    go_simp
    refine hK.out _ _ trivial (fun hNew => ?_)
    clear hK K
    try simp only [Act.put, List.setIfInBounds_toArray, List.set_cons_zero, List.set_cons_succ]
    refine wpAnyH_done (by kernel_rfl) ?_ _
    have hb3 := (hb1.put 5 (.slice X2 x.ini.length cX2)).put 7 (.slice Y2 x.rd.length cY2)
    have hcc : Chg (fun i => i = q ∨ i = q + 1) wB ((wB.setCell ⟨q, 5, none⟩ (.slice X2 x.ini.length cX2)).setCell ⟨q, 7, none⟩ (.slice Y2 x.rd.length cY2)) := ((Chg.refl (fun i => i = q ∨ i = q + 1) wB).set (p := ⟨q, 5, none⟩) (.inl (.inl rfl)) _).set (p := ⟨q, 7, none⟩) (.inl (.inl rfl)) _
    have hc1 : Chg (fun i => i = q) wB ((wB.setCell ⟨q, 5, none⟩ (.slice X2 x.ini.length cX2)).setCell ⟨q, 7, none⟩ (.slice Y2 x.rd.length cY2)) := ((Chg.refl (fun i => i = q) wB).set (p := ⟨q, 5, none⟩) (.inl rfl) _).set (p := ⟨q, 7, none⟩) (.inl rfl) _
    have hb4 := hb2.chg hc1 (by omega)
    simp only [List.setIfInBounds_toArray, List.set_cons_zero, List.set_cons_succ] at hb3
    have HB3 := Lib.hid hb3
    have HB4 := Lib.hid hb4
    have HCC := Lib.hid hcc
    clear hb1 hc1 hcc t5 t7 q5 q7
    generalize (wB.setCell ⟨q, 5, none⟩ (.slice X2 x.ini.length cX2)).setCell ⟨q, 7, none⟩ (.slice Y2 x.rd.length cY2) = wC at *
    obtain ⟨a0, a1, a2, a3, a4, a5, a6, a7⟩ := (⟨hb3.cell 0, hb3.cell 1, hb3.cell 2, hb3.cell 3, hb3.cell 4, hb3.cell 5, hb3.cell 6, hb3.cell 7⟩ : _ ∧ _ ∧ _ ∧ _ ∧ _ ∧ _ ∧ _ ∧ _)
    obtain ⟨z0, z1, z2, z3, z4, z5, z6, z7⟩ := (⟨hb4.cell 0, hb4.cell 1, hb4.cell 2, hb4.cell 3, hb4.cell 4, hb4.cell 5, hb4.cell 6, hb4.cell 7⟩ : _ ∧ _ ∧ _ ∧ _ ∧ _ ∧ _ ∧ _ ∧ _)
    simp only [List.getElem?_toArray, List.getElem?_cons_zero, List.getElem?_cons_succ] at a0 a1 a2 a3 a4 a5 a6 a7 z0 z1 z2 z3 z4 z5 z6 z7
    obtain ⟨y0, y1, y2, y3, y4, y5, y6, y7⟩ := (⟨hb4.thaw 0, hb4.thaw 1, hb4.thaw 2, hb4.thaw 3, hb4.thaw 4, hb4.thaw 5, hb4.thaw 6, hb4.thaw 7⟩ : _ ∧ _ ∧ _ ∧ _ ∧ _ ∧ _ ∧ _ ∧ _)
    clear hb3 hb4 hb2
    go_wp2_with fail
    refine bodyPost_ret (v := .agg #[.int .i64 x.k, .int .i64 x.wd, .int .i64 x.sl, .int .i64 x.cp, .int .u32 x.sa, .slice X2 x.ini.length cX2, .int .i64 x.ow, .slice Y2 x.rd.length cY2]) (results_cell_row Tryd.results15 _ _ (q + 1) 39 #[.int .i64 x.k, .int .i64 x.wd, .int .i64 x.sl, .int .i64 x.cp, .int .u32 x.sa, .slice X2 x.ini.length cX2, .int .i64 x.ow, .slice Y2 x.rd.length cY2] (0, 0) _ rfl (((((((((HB4.out.put 0 (.int .i64 x.k)).put 1 (.int .i64 x.wd)).put 2 (.int .i64 x.sl)).put 3 (.int .i64 x.cp)).put 4 (.int .u32 x.sa)).put 5 (.slice X2 x.ini.length cX2)).put 6 (.int .i64 x.ow)).put 7 (.slice Y2 x.rd.length cY2))) Tryd.underlying39 rfl obj_size8) rfl ?_
    have hce : Chg (fun i => i = q ∨ i = q + 1) wB _ := HCC.out.trans (((((((((Chg.refl (fun i => i = q ∨ i = q + 1) wC).set (p := ⟨q + 1, 0, none⟩) (.inl (.inr rfl)) (.int .i64 x.k)).set (p := ⟨q + 1, 1, none⟩) (.inl (.inr rfl)) (.int .i64 x.wd)).set (p := ⟨q + 1, 2, none⟩) (.inl (.inr rfl)) (.int .i64 x.sl)).set (p := ⟨q + 1, 3, none⟩) (.inl (.inr rfl)) (.int .i64 x.cp)).set (p := ⟨q + 1, 4, none⟩) (.inl (.inr rfl)) (.int .u32 x.sa)).set (p := ⟨q + 1, 5, none⟩) (.inl (.inr rfl)) (.slice X2 x.ini.length cX2)).set (p := ⟨q + 1, 6, none⟩) (.inl (.inr rfl)) (.int .i64 x.ow)).set (p := ⟨q + 1, 7, none⟩) (.inl (.inr rfl)) (.slice Y2 x.rd.length cY2))
    have n1 : ∀ g, X2 = some ⟨g, 0, none⟩ → ¬ (g = q ∨ g = q + 1) := fun g hg hh => by have := ownK_ge OX.out hg; have := NX.out; omega
    have n2 : ∀ g, Y2 = some ⟨g, 0, none⟩ → ¬ (g = q ∨ g = q + 1) := fun g hg hh => by have := ownK_ge OB.out hg; have := NY.out; omega
    refine app_mk ⟨(OX.out.chg hce n1).base (by have := NX.out; have := HQ.out; omega), (OB.out.chg hce n2).base (by have := NY.out; have := HQ.out; omega)⟩ ((HS.out.trans SB.out).more hce (fun i hi => by have := HQ.out; omega))
end Go.Proofs.YtaclphhbdfoaeaaDoor.Im
