/-

  Layer 13: a frame apart (frame.apart, the document's Copy); where a job begins (frame.Start).
-/
import Derived.Test.YtgimelpjklnjmabDoorFrmStepAll
import Derived.Deep.CutBlock
set_option linter.unusedVariables false
set_option linter.unusedSimpArgs false
namespace Go.Proofs.YtgimelpjklnjmabDoor.Fr
open Go.ChangeShapes Go.WideShapes Go.ChangeAt Go.RowKit Ws
open Go.Proofs.YtgimelpjklnjmabDoor.Fp (Ins at_ Fine at_some)
open Go.Proofs.YtgimelpjklnjmabDoor.Fw (Prg okB ckE check_any okB_fine rightI)
open Go.Proofs.YtgimelpjklnjmabDoor.Is (Tabs)

theorem puts10 {w : World} {b : Nat} {T : TypeId} {z0 z1 z2 z3 z4 z5 z6 z7 z8 z9 v0 v1 v2 v3 v4 v5 v6 v7 v8 v9 : Value} (h : Blk w b T #[z0, z1, z2, z3, z4, z5, z6, z7, z8, z9]) : Blk ((((((((((w.setCell ⟨b, 0, none⟩ v0).setCell ⟨b, 1, none⟩ v1).setCell ⟨b, 2, none⟩ v2).setCell ⟨b, 3, none⟩ v3).setCell ⟨b, 4, none⟩ v4).setCell ⟨b, 5, none⟩ v5).setCell ⟨b, 6, none⟩ v6).setCell ⟨b, 7, none⟩ v7).setCell ⟨b, 8, none⟩ v8).setCell ⟨b, 9, none⟩ v9) b T #[v0, v1, v2, v3, v4, v5, v6, v7, v8, v9] ∧ Chg (fun i => i = b) w ((((((((((w.setCell ⟨b, 0, none⟩ v0).setCell ⟨b, 1, none⟩ v1).setCell ⟨b, 2, none⟩ v2).setCell ⟨b, 3, none⟩ v3).setCell ⟨b, 4, none⟩ v4).setCell ⟨b, 5, none⟩ v5).setCell ⟨b, 6, none⟩ v6).setCell ⟨b, 7, none⟩ v7).setCell ⟨b, 8, none⟩ v8).setCell ⟨b, 9, none⟩ v9) :=
  ⟨by simpa using ((((((((((h.put 0 v0).put 1 v1).put 2 v2).put 3 v3).put 4 v4).put 5 v5).put 6 v6).put 7 v7).put 8 v8).put 9 v9), (((((((((((Chg.refl (fun i => i = b) w).set (p := ⟨b, 0, none⟩) (.inl rfl) v0).set (p := ⟨b, 1, none⟩) (.inl rfl) v1).set (p := ⟨b, 2, none⟩) (.inl rfl) v2).set (p := ⟨b, 3, none⟩) (.inl rfl) v3).set (p := ⟨b, 4, none⟩) (.inl rfl) v4).set (p := ⟨b, 5, none⟩) (.inl rfl) v5).set (p := ⟨b, 6, none⟩) (.inl rfl) v6).set (p := ⟨b, 7, none⟩) (.inl rfl) v7).set (p := ⟨b, 8, none⟩) (.inl rfl) v8).set (p := ⟨b, 9, none⟩) (.inl rfl) v9)⟩
theorem chg_nw {S : Nat → Prop} {a b c : World} {n : Nat} (h : Chg S a b) (k : Chg (fun i => i = n) b c) (hn : a.heap.size ≤ n) : Chg S a c :=
  ⟨k.os.trans h.os, k.tape.trans h.tape, k.output.trans h.output, Nat.le_trans h.size k.size, fun i hi hs =>
    (k.block i (Nat.lt_of_lt_of_le hi h.size) (fun (ht : i = n) => by omega)).trans (h.block i hi hs)⟩
theorem int_info : (Tryd.prog.info? 3).map (fun i => (i.zero, i.size, i.bytes)) = some (some (.int .i64 0), 1, 8) := by kernel_rfl
theorem frm_size : (Tryd.prog.info? 26).map (·.size) = some 10 := by kernel_rfl
theorem ints_one (l : List Int) : ∀ u ∈ l.map (Value.int .i64), u.oneCell' = true := by
  intro u hu
  obtain ⟨x, _, rfl⟩ := List.mem_map.1 hu
  rfl
def ClP (w : World) (n : Nat) (l : List Int) (e : Ending) (w' : World) : Prop := ∃ A' c', e = .returned (.slice A' n c') ∧ Own w' w.heap.size 3 A' c' (l.map (Value.int .i64)) ∧ Same w w'
theorem own_nil (w : World) (B : Nat) (e : TypeId) : Own w B e none 0 [] := ⟨rfl, .inl ⟨rfl, rfl⟩⟩
set_option maxRecDepth 100000 in
theorem iclone_any (A : Option Addr) (n c : Nat) (l : List Int) (w : World) (h : Row w A (l.map (Value.int .i64))) (hn : l.length = n) (hl : n ≤ 5000) :
    Calls Tryd.prog 51 #[.slice A n c] w (ClP w n l) := by
  obtain ⟨i0, hi, hz0, hz1, hz2⟩ := info_parts int_info
  have HN := Lib.hid hn
  clear hn
  have hq : ∀ (w : World) (a : Option Addr) (n c n' c' : Nat), (binOp .eql 24 (.slice a n c) (.slice none n' c')).run Tryd.prog w = .ok (.bool a.isNone) w := fun w a n c n' c' => Lib.run_eql_slice_nil w _ _ a n c n' c' Tryd.underlying24
  cases A with
  | none =>
    have hl0 : l = [] := by
      cases l with
      | nil => rfl
      | cons x r =>
        obtain ⟨b, o, hA, _⟩ := h 0 (.int .i64 x) rfl
        cases hA
    subst hl0
    have hn0 : n = 0 := HN.out.symm
    subst hn0
    clear h HN
    go_enter Tryd.func51, Tryd.ntmps51
    go_wp2
    go_ret
    exact ⟨none, 0, rfl, own_nil _ _ _, Same.refl _⟩
  | some ad =>
    go_enter Tryd.func51, Tryd.ntmps51
    go_wp2_with (at_builtin; refine wpList_app rfl _ _ 24 rfl w.heap.size 3 i0 _ 8 Tryd.underlying24 hi hz0 hz1 hz2 rfl _ _ _ [] rfl rfl (Mm.own_none w 3) _ _ _ (l.map (Value.int .i64)) rfl ?c1 ?c2 (ints_one l) ?c3 (by omega) ?c4 ?c5)
    case c1 => rw [List.length_map]; exact HN.out
    case c2 => exact h.same ((Same.refl _).alloc _)
    case c3 => have := HN.out; simp; omega
    case c4 => simp
    intro A' c' w1 ho hc hA
    have hs : Same w w1 := Same.more ((Same.refl w).alloc (.cells #[] 3)) hc (fun i hi => by
      have hi : w.heap.size = i := by simpa using hi
      omega)
    go_wp2
    go_ret
    exact ⟨A', c', by simp, by simpa using ho, hs⟩
def CpP (w : World) (f : FS) (nT : Nat) (e : Ending) (w' : World) : Prop := ∃ T' c', e = .returned (.agg #[.int .i64 f.pc, .int .u32 (rk f 0), .int .u32 (rk f 1), .int .u32 (rk f 2), .int .u32 (rk f 3), .int .u32 (rk f 4), .int .u32 (rk f 5), .int .u32 (rk f 6), .int .u32 (rk f 7), .slice T' nT c']) ∧ Own w' w.heap.size 3 T' c' (f.tn.map (Value.int .i64)) ∧ Same w w'
set_option maxRecDepth 100000 in
set_option maxHeartbeats 1000000 in
theorem apart_any (f : FS) (T : Option Addr) (nT cT : Nat) (w : World) (hT : Row w T (f.tn.map (Value.int .i64))) (hn : f.tn.length = nT) (hb : nT ≤ 5000) :
    Calls Tryd.prog 28 #[.agg #[.int .i64 f.pc, .int .u32 (rk f 0), .int .u32 (rk f 1), .int .u32 (rk f 2), .int .u32 (rk f 3), .int .u32 (rk f 4), .int .u32 (rk f 5), .int .u32 (rk f 6), .int .u32 (rk f 7), .slice T nT cT]] w (CpP w f nT) := by
  obtain ⟨w1, hw1⟩ : ∃ w1, w1 = (w.alloc (.cells #[.int .i64 f.pc, .int .u32 (rk f 0), .int .u32 (rk f 1), .int .u32 (rk f 2), .int .u32 (rk f 3), .int .u32 (rk f 4), .int .u32 (rk f 5), .int .u32 (rk f 6), .int .u32 (rk f 7), .slice T nT cT] 26)).alloc (.cells #[.int .i64 0, .int .u32 0, .int .u32 0, .int .u32 0, .int .u32 0, .int .u32 0, .int .u32 0, .int .u32 0, .int .u32 0, .slice none 0 0] 26) := ⟨_, rfl⟩
  have hs1 : Same w w1 := hw1 ▸ ((Same.refl w).alloc _).alloc _
  have hb1 : Blk w1 w.heap.size 26 #[.int .i64 f.pc, .int .u32 (rk f 0), .int .u32 (rk f 1), .int .u32 (rk f 2), .int .u32 (rk f 3), .int .u32 (rk f 4), .int .u32 (rk f 5), .int .u32 (rk f 6), .int .u32 (rk f 7), .slice T nT cT] := hw1 ▸ (Blk.new w _ _).same ((Same.refl _).alloc _)
  have hb2 : Blk w1 (w.heap.size + 1) 26 #[.int .i64 0, .int .u32 0, .int .u32 0, .int .u32 0, .int .u32 0, .int .u32 0, .int .u32 0, .int .u32 0, .int .u32 0, .slice none 0 0] := by
    have h := Blk.new (w.alloc (.cells #[.int .i64 f.pc, .int .u32 (rk f 0), .int .u32 (rk f 1), .int .u32 (rk f 2), .int .u32 (rk f 3), .int .u32 (rk f 4), .int .u32 (rk f 5), .int .u32 (rk f 6), .int .u32 (rk f 7), .slice T nT cT] 26)) 26 #[.int .i64 0, .int .u32 0, .int .u32 0, .int .u32 0, .int .u32 0, .int .u32 0, .int .u32 0, .int .u32 0, .int .u32 0, .slice none 0 0]
    rw [hw1]
    simpa using h
  have E1 := Lib.hid hw1
  have HS1 := Lib.hid hs1
  have HB1 := Lib.hid hb1
  have HB2 := Lib.hid hb2
  have CL := Lib.hid (iclone_any T nT cT f.tn w1 (hT.same hs1) hn hb)
  have z9 := hb1.cell 9
  simp only [List.getElem?_toArray, List.getElem?_cons_zero, List.getElem?_cons_succ] at z9
  clear hw1 hs1 hb1 hb2 hT hn
  go_enter Tryd.func28, Tryd.ntmps28
  go_wp2_with fail
  rw [← E1.out]
  refine CL.out.mono ?_
  rintro e w2 ⟨T', c', rfl, ho, s2⟩
  have HSZ := Lib.hid (show w.heap.size + 1 < w1.heap.size from HB2.out.lt)
  have HO := Lib.hid (ho.base (B' := w.heap.size) (by have := HSZ.out; omega))
  have HB1' := Lib.hid (HB1.out.same s2)
  have HB2' := Lib.hid (HB2.out.same s2)
  have HS2 := Lib.hid (HS1.out.trans s2)
  clear ho s2 z9 CL HB1 HB2 HS1 E1
  obtain ⟨x0, x1, x2, x3, x4, x5, x6, x7, x8, x9⟩ := (⟨HB1'.out.cell 0, HB1'.out.cell 1, HB1'.out.cell 2, HB1'.out.cell 3, HB1'.out.cell 4, HB1'.out.cell 5, HB1'.out.cell 6, HB1'.out.cell 7, HB1'.out.cell 8, HB1'.out.cell 9⟩ : _ ∧ _ ∧ _ ∧ _ ∧ _ ∧ _ ∧ _ ∧ _ ∧ _ ∧ _)
  simp only [List.getElem?_toArray, List.getElem?_cons_zero, List.getElem?_cons_succ] at x0 x1 x2 x3 x4 x5 x6 x7 x8 x9
  obtain ⟨y0, y1, y2, y3, y4, y5, y6, y7, y8, y9⟩ := (⟨HB2'.out.cell 0, HB2'.out.cell 1, HB2'.out.cell 2, HB2'.out.cell 3, HB2'.out.cell 4, HB2'.out.cell 5, HB2'.out.cell 6, HB2'.out.cell 7, HB2'.out.cell 8, HB2'.out.cell 9⟩ : _ ∧ _ ∧ _ ∧ _ ∧ _ ∧ _ ∧ _ ∧ _ ∧ _ ∧ _)
  simp only [List.getElem?_toArray, List.getElem?_cons_zero, List.getElem?_cons_succ] at y0 y1 y2 y3 y4 y5 y6 y7 y8 y9
  obtain ⟨t0, t1, t2, t3, t4, t5, t6, t7, t8, t9⟩ := (⟨HB1'.out.thaw 0, HB1'.out.thaw 1, HB1'.out.thaw 2, HB1'.out.thaw 3, HB1'.out.thaw 4, HB1'.out.thaw 5, HB1'.out.thaw 6, HB1'.out.thaw 7, HB1'.out.thaw 8, HB1'.out.thaw 9⟩ : _ ∧ _ ∧ _ ∧ _ ∧ _ ∧ _ ∧ _ ∧ _ ∧ _ ∧ _)
  obtain ⟨u0, u1, u2, u3, u4, u5, u6, u7, u8, u9⟩ := (⟨HB2'.out.thaw 0, HB2'.out.thaw 1, HB2'.out.thaw 2, HB2'.out.thaw 3, HB2'.out.thaw 4, HB2'.out.thaw 5, HB2'.out.thaw 6, HB2'.out.thaw 7, HB2'.out.thaw 8, HB2'.out.thaw 9⟩ : _ ∧ _ ∧ _ ∧ _ ∧ _ ∧ _ ∧ _ ∧ _ ∧ _ ∧ _)
  go_wp2_with fail
  clear x0 x1 x2 x3 x4 x5 x6 x7 x8 x9 y0 y1 y2 y3 y4 y5 y6 y7 y8 y9 t0 t1 t2 t3 t4 t5 t6 t7 t8 t9 u0 u1 u2 u3 u4 u5 u6 u7 u8 u9
  obtain ⟨p1, p2⟩ := puts10 (v0 := .int .i64 f.pc) (v1 := .int .u32 (rk f 0)) (v2 := .int .u32 (rk f 1)) (v3 := .int .u32 (rk f 2)) (v4 := .int .u32 (rk f 3)) (v5 := .int .u32 (rk f 4)) (v6 := .int .u32 (rk f 5)) (v7 := .int .u32 (rk f 6)) (v8 := .int .u32 (rk f 7)) (v9 := .slice T' nT c') (w := w2.setCell ⟨w.heap.size, 9, none⟩ (.slice T' nT c')) (HB2'.out.chg ((Chg.refl (fun i => i = w.heap.size) w2).set (p := ⟨w.heap.size, 9, none⟩) (.inl rfl) _) (by omega))
  refine bodyPost_ret (v := .agg #[.int .i64 f.pc, .int .u32 (rk f 0), .int .u32 (rk f 1), .int .u32 (rk f 2), .int .u32 (rk f 3), .int .u32 (rk f 4), .int .u32 (rk f 5), .int .u32 (rk f 6), .int .u32 (rk f 7), .slice T' nT c']) (results_cell_row Tryd.results28 _ _ (w.heap.size + 1) 26 #[.int .i64 f.pc, .int .u32 (rk f 0), .int .u32 (rk f 1), .int .u32 (rk f 2), .int .u32 (rk f 3), .int .u32 (rk f 4), .int .u32 (rk f 5), .int .u32 (rk f 6), .int .u32 (rk f 7), .slice T' nT c'] (0, 0) _ rfl p1 Tryd.underlying26 rfl frm_size) rfl ?_
  have hc9 : Chg (fun i => i = w.heap.size) w2 (w2.setCell ⟨w.heap.size, 9, none⟩ (.slice T' nT c')) := (Chg.refl (fun i => i = w.heap.size) w2).set (p := ⟨w.heap.size, 9, none⟩) (.inl rfl) _
  refine ⟨T', c', rfl, ?_, chg_nw (chg_nw HS2.out hc9 (Nat.le_refl _)) p2 (Nat.le_succ _)⟩
  refine (HO.out.chg hc9 fun g hg he => ?_).chg p2 fun g hg he => ?_
  · exact HO.out.ne HB1'.out (by decide) g hg he
  · exact HO.out.ne HB2'.out (by decide) g hg he
set_option maxRecDepth 100000 in
set_option maxHeartbeats 1000000 in
theorem rcopy_any (f : FS) (T : Option Addr) (nT cT : Nat) (w : World) (hT : Row w T (f.tn.map (Value.int .i64))) (hn : f.tn.length = nT) (hb : nT ≤ 5000) :
    Calls Tryd.prog 13 #[.agg #[.int .i64 f.pc, .int .u32 (rk f 0), .int .u32 (rk f 1), .int .u32 (rk f 2), .int .u32 (rk f 3), .int .u32 (rk f 4), .int .u32 (rk f 5), .int .u32 (rk f 6), .int .u32 (rk f 7), .slice T nT cT]] w (CpP w f nT) := by
  obtain ⟨w1, hw1⟩ : ∃ w1, w1 = (w.alloc (.cells #[.int .i64 f.pc, .int .u32 (rk f 0), .int .u32 (rk f 1), .int .u32 (rk f 2), .int .u32 (rk f 3), .int .u32 (rk f 4), .int .u32 (rk f 5), .int .u32 (rk f 6), .int .u32 (rk f 7), .slice T nT cT] 26)).alloc (.cells #[.int .i64 0, .int .u32 0, .int .u32 0, .int .u32 0, .int .u32 0, .int .u32 0, .int .u32 0, .int .u32 0, .int .u32 0, .slice none 0 0] 26) := ⟨_, rfl⟩
  have hs1 : Same w w1 := hw1 ▸ ((Same.refl w).alloc _).alloc _
  have hb1 : Blk w1 w.heap.size 26 #[.int .i64 f.pc, .int .u32 (rk f 0), .int .u32 (rk f 1), .int .u32 (rk f 2), .int .u32 (rk f 3), .int .u32 (rk f 4), .int .u32 (rk f 5), .int .u32 (rk f 6), .int .u32 (rk f 7), .slice T nT cT] := hw1 ▸ (Blk.new w _ _).same ((Same.refl _).alloc _)
  have hb2 : Blk w1 (w.heap.size + 1) 26 #[.int .i64 0, .int .u32 0, .int .u32 0, .int .u32 0, .int .u32 0, .int .u32 0, .int .u32 0, .int .u32 0, .int .u32 0, .slice none 0 0] := by
    have h := Blk.new (w.alloc (.cells #[.int .i64 f.pc, .int .u32 (rk f 0), .int .u32 (rk f 1), .int .u32 (rk f 2), .int .u32 (rk f 3), .int .u32 (rk f 4), .int .u32 (rk f 5), .int .u32 (rk f 6), .int .u32 (rk f 7), .slice T nT cT] 26)) 26 #[.int .i64 0, .int .u32 0, .int .u32 0, .int .u32 0, .int .u32 0, .int .u32 0, .int .u32 0, .int .u32 0, .int .u32 0, .slice none 0 0]
    rw [hw1]
    simpa using h
  have E1 := Lib.hid hw1
  have HS1 := Lib.hid hs1
  have HB1 := Lib.hid hb1
  have HB2 := Lib.hid hb2
  obtain ⟨i0, hi, hz0, hz1, hz2⟩ := info_parts int_info
  have HT := Lib.hid (hT.same hs1)
  have HN := Lib.hid hn
  have z9 := hb1.cell 9
  simp only [List.getElem?_toArray, List.getElem?_cons_zero, List.getElem?_cons_succ] at z9
  clear hw1 hs1 hb1 hb2 hT hn
  go_enter Tryd.func13, Tryd.ntmps13
  go_upto_region 1 with fail
  rw [← E1.out]
  have z9' := ((Same.refl w1).alloc (.cells #[] 3)).cell z9
  go_wp2_with (at_builtin; refine wpList_app rfl _ _ 24 rfl w1.heap.size 3 i0 _ 8 Tryd.underlying24 hi hz0 hz1 hz2 rfl _ _ _ [] rfl rfl (Mm.own_none w1 3) _ _ _ (f.tn.map (Value.int .i64)) rfl ?c1 ?c2 (ints_one f.tn) ?c3 (by omega) ?c4 ?c5)
  case c1 => rw [List.length_map]; exact HN.out
  case c2 => exact HT.out.same ((Same.refl _).alloc _)
  case c3 => have := HN.out; simp; omega
  case c4 => simp
  intro T' c' w2 ho hc hA
  have s2 : Same w1 w2 := Same.more ((Same.refl w1).alloc (.cells #[] 3)) hc (fun i hi => by
    have hi : w1.heap.size = i := by simpa using hi
    omega)
  try rw [List.nil_append] at ho
  try simp only [List.length_nil, Nat.zero_add]
  have HSZ := Lib.hid (show w.heap.size + 1 < w1.heap.size from HB2.out.lt)
  have HO := Lib.hid (ho.base (B' := w.heap.size) (by have := HSZ.out; omega))
  have HB1' := Lib.hid (HB1.out.same s2)
  have HB2' := Lib.hid (HB2.out.same s2)
  have HS2 := Lib.hid (HS1.out.trans s2)
  clear ho hc hA s2 z9 z9' HB1 HB2 HS1 E1
  obtain ⟨x0, x1, x2, x3, x4, x5, x6, x7, x8, x9⟩ := (⟨HB1'.out.cell 0, HB1'.out.cell 1, HB1'.out.cell 2, HB1'.out.cell 3, HB1'.out.cell 4, HB1'.out.cell 5, HB1'.out.cell 6, HB1'.out.cell 7, HB1'.out.cell 8, HB1'.out.cell 9⟩ : _ ∧ _ ∧ _ ∧ _ ∧ _ ∧ _ ∧ _ ∧ _ ∧ _ ∧ _)
  simp only [List.getElem?_toArray, List.getElem?_cons_zero, List.getElem?_cons_succ] at x0 x1 x2 x3 x4 x5 x6 x7 x8 x9
  obtain ⟨y0, y1, y2, y3, y4, y5, y6, y7, y8, y9⟩ := (⟨HB2'.out.cell 0, HB2'.out.cell 1, HB2'.out.cell 2, HB2'.out.cell 3, HB2'.out.cell 4, HB2'.out.cell 5, HB2'.out.cell 6, HB2'.out.cell 7, HB2'.out.cell 8, HB2'.out.cell 9⟩ : _ ∧ _ ∧ _ ∧ _ ∧ _ ∧ _ ∧ _ ∧ _ ∧ _ ∧ _)
  simp only [List.getElem?_toArray, List.getElem?_cons_zero, List.getElem?_cons_succ] at y0 y1 y2 y3 y4 y5 y6 y7 y8 y9
  obtain ⟨t0, t1, t2, t3, t4, t5, t6, t7, t8, t9⟩ := (⟨HB1'.out.thaw 0, HB1'.out.thaw 1, HB1'.out.thaw 2, HB1'.out.thaw 3, HB1'.out.thaw 4, HB1'.out.thaw 5, HB1'.out.thaw 6, HB1'.out.thaw 7, HB1'.out.thaw 8, HB1'.out.thaw 9⟩ : _ ∧ _ ∧ _ ∧ _ ∧ _ ∧ _ ∧ _ ∧ _ ∧ _ ∧ _)
  obtain ⟨u0, u1, u2, u3, u4, u5, u6, u7, u8, u9⟩ := (⟨HB2'.out.thaw 0, HB2'.out.thaw 1, HB2'.out.thaw 2, HB2'.out.thaw 3, HB2'.out.thaw 4, HB2'.out.thaw 5, HB2'.out.thaw 6, HB2'.out.thaw 7, HB2'.out.thaw 8, HB2'.out.thaw 9⟩ : _ ∧ _ ∧ _ ∧ _ ∧ _ ∧ _ ∧ _ ∧ _ ∧ _ ∧ _)
  go_wp2_with fail
  clear x0 x1 x2 x3 x4 x5 x6 x7 x8 x9 y0 y1 y2 y3 y4 y5 y6 y7 y8 y9 t0 t1 t2 t3 t4 t5 t6 t7 t8 t9 u0 u1 u2 u3 u4 u5 u6 u7 u8 u9
  obtain ⟨p1, p2⟩ := puts10 (v0 := .int .i64 f.pc) (v1 := .int .u32 (rk f 0)) (v2 := .int .u32 (rk f 1)) (v3 := .int .u32 (rk f 2)) (v4 := .int .u32 (rk f 3)) (v5 := .int .u32 (rk f 4)) (v6 := .int .u32 (rk f 5)) (v7 := .int .u32 (rk f 6)) (v8 := .int .u32 (rk f 7)) (v9 := .slice T' nT c') (w := w2.setCell ⟨w.heap.size, 9, none⟩ (.slice T' nT c')) (HB2'.out.chg ((Chg.refl (fun i => i = w.heap.size) w2).set (p := ⟨w.heap.size, 9, none⟩) (.inl rfl) _) (by omega))
  refine bodyPost_ret (v := .agg #[.int .i64 f.pc, .int .u32 (rk f 0), .int .u32 (rk f 1), .int .u32 (rk f 2), .int .u32 (rk f 3), .int .u32 (rk f 4), .int .u32 (rk f 5), .int .u32 (rk f 6), .int .u32 (rk f 7), .slice T' nT c']) (results_cell_row Tryd.results13 _ _ (w.heap.size + 1) 26 #[.int .i64 f.pc, .int .u32 (rk f 0), .int .u32 (rk f 1), .int .u32 (rk f 2), .int .u32 (rk f 3), .int .u32 (rk f 4), .int .u32 (rk f 5), .int .u32 (rk f 6), .int .u32 (rk f 7), .slice T' nT c'] (0, 0) _ rfl p1 Tryd.underlying26 rfl frm_size) rfl ?_
  have hc9 : Chg (fun i => i = w.heap.size) w2 (w2.setCell ⟨w.heap.size, 9, none⟩ (.slice T' nT c')) := (Chg.refl (fun i => i = w.heap.size) w2).set (p := ⟨w.heap.size, 9, none⟩) (.inl rfl) _
  refine ⟨T', c', rfl, ?_, chg_nw (chg_nw HS2.out hc9 (Nat.le_refl _)) p2 (Nat.le_succ _)⟩
  refine (HO.out.chg hc9 fun g hg he => ?_).chg p2 fun g hg he => ?_
  · exact HO.out.ne HB1'.out (by decide) g hg he
  · exact HO.out.ne HB2'.out (by decide) g hg he
end Go.Proofs.YtgimelpjklnjmabDoor.Fr
