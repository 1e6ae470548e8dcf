/-

  Layer 11, the document: a spot as a value (a place, and how often each Back went back), and the next one.
-/
import Derived.Test.YtnlndkpjfgpodaaDoorWlkLive
import Derived.Test.YtnlndkpjfgpodaaDoorFlow
import Derived.Deep.CutBlock
set_option linter.unusedVariables false
set_option linter.unusedSimpArgs false
namespace Go.Proofs.YtnlndkpjfgpodaaDoor.Wk
open Go.ChangeShapes Go.WideShapes Go.ChangeAt Go.RowKit Ws
open Go.Proofs.YtnlndkpjfgpodaaDoor.Fp (Ins at_ Fine at_some lp loopsL nextL hasB)
open Go.Proofs.YtnlndkpjfgpodaaDoor.Fw (Prg Spn spanCells spn_of)

theorem chg_setRow {S : Nat → Prop} {a b : World} (h : Chg S a b) {g : Nat} (hg : S g ∨ a.heap.size ≤ g) (cs : Array Value) : Chg S a (b.setRow g cs) := by
  refine ⟨h.os, h.tape, h.output, by simpa [World.setRow] using h.size, fun i hi hn => ?_⟩
  rw [← h.block i hi hn]
  unfold World.setRow
  simp only [Array.getElem?_modify]
  rw [if_neg]
  rintro rfl
  rcases hg with hg | hg
  · exact hn hg
  · omega
theorem row_blk {w : World} {g : Nat} {T : TypeId} {old cs : Array Value} (h : Blk w g T old) : Blk (w.setRow g cs) g T cs := setRow_heap w g old cs T (0, 0) h
def spL (s : Sp) : List Value := .int .i64 s.pc :: (List.range 64).map fun u => .int .i64 (s.tn u)
def spC (s : Sp) : Array Value := (spL s).toArray
theorem spC_size (s : Sp) : (spC s).size = 65 := by simp [spC, spL]
theorem spC_zero (s : Sp) : (spC s)[0]? = some (.int .i64 s.pc) := by simp [spC, spL]
theorem spC_at (s : Sp) {u : Nat} (h : u < 64) : (spC s)[1 + u]? = some (.int .i64 (s.tn u)) := by
  unfold spC spL
  rw [List.getElem?_toArray, Nat.add_comm, List.getElem?_cons_succ, List.getElem?_map, List.getElem?_range h]
  rfl
theorem spC_pc (s : Sp) (k : Nat) : (spC s).setIfInBounds 0 (.int .i64 k) = spC ⟨k, s.tn⟩ := by simp [spC, spL]
theorem spC_tn (s : Sp) {u : Nat} (h : u < 64) (v : Int) : (spC s).setIfInBounds (1 + u) (.int .i64 v) = spC ⟨s.pc, up s.tn u v⟩ := by
  unfold spC spL
  rw [List.setIfInBounds_toArray, Nat.add_comm, List.set_cons_succ]
  congr 2
  apply List.ext_getElem
  · simp
  · intro i h1 h2
    simp only [List.getElem_set, List.getElem_map, List.getElem_range]
    by_cases e : u = i
    · subst e
      rw [if_pos rfl, up_at]
    · rw [if_neg e, up_off _ _ (fun h => e h.symm)]
theorem spC_one (s : Sp) : (spC s).all (·.oneCell') = true := by
  unfold spC spL
  rw [List.all_toArray]
  simp [Value.oneCell']
theorem spot_info : (Tryd.prog.info? 84).map (·.size) = some 65 := by kernel_rfl
theorem spC_start : spC Sp0 = (List.replicate 65 (Value.int .i64 0)).toArray := by
  unfold spC spL Sp0
  congr 1
theorem spC_pcI (s : Sp) (v : Int) (hv : 0 ≤ v) : (spC s).setIfInBounds 0 (.int .i64 v) = spC ⟨v.toNat, s.tn⟩ := by
  have h := spC_pc s v.toNat
  rw [show ((v.toNat : Nat) : Int) = v by omega] at h
  exact h
theorem zeros_size : (Tryd.zeroCells84).size = 65 := by kernel_rfl
set_option maxRecDepth 100000 in
set_option maxHeartbeats 8000000 in
theorem next_any (A : Option Addr) (m c : Nat) (p : List Ins) (s : Sp) (jump : Bool) (w : World) (hl : p.length = m) (hm : m ≤ 64) (hp : Prg w A p) (hk : s.pc < m) (ht : (at_ p s.pc).op = 16 → 0 ≤ s.tn s.pc ∧ s.tn s.pc < 1099511627776) :
    Calls Tryd.prog 44 #[.slice A m c, .agg (spC s), .bool jump] w fun e w' => e = .returned (.agg (spC (nx p s jump))) ∧ Same w w' := by
  obtain ⟨w1, hw1⟩ : ∃ w1, w1 = (w.alloc (.cells (spC s) 84)).alloc (.cells Tryd.zeroCells84 84) := ⟨_, rfl⟩
  have hb0 : Blk w1 w.heap.size 84 (spC s) := hw1 ▸ (Blk.new w _ _).same ((Same.refl _).alloc _)
  have hb1 : Blk w1 (w.heap.size + 1) 84 Tryd.zeroCells84 := by
    have h := Blk.new (w.alloc (.cells (spC s) 84)) 84 Tryd.zeroCells84
    rw [hw1]
    simpa using h
  have hs1 : Same w w1 := hw1 ▸ ((Same.refl w).alloc _).alloc _
  obtain ⟨hok, bI, oI, rfl, z0, z1, z2, z3, z4⟩ := (hp.same hs1).at_ (k := s.pc) (by omega)
  have hn : 0 ≤ (at_ p s.pc).n := hok.1
  obtain ⟨N, hN⟩ : ∃ N, nx p s jump = N := ⟨_, rfl⟩
  rw [hN]
  unfold nx at hN
  generalize at_ p s.pc = x at *
  obtain ⟨w2, hw2⟩ : ∃ w2, w2 = w1.alloc (.cells #[.int .i64 x.op, .int .i64 x.a, .int .i64 x.b, .int .i64 x.c, .int .u32 x.n] 67) := ⟨_, rfl⟩
  have hs2 : Same w1 w2 := hw2 ▸ (Same.refl w1).alloc _
  have hb2 : Blk w2 w1.heap.size 67 #[.int .i64 x.op, .int .i64 x.a, .int .i64 x.b, .int .i64 x.c, .int .u32 x.n] := hw2 ▸ Blk.new w1 _ _
  have hz1 : w1.heap.size = w.heap.size + 2 := by rw [hw1]; show ((w.heap.push _).push _).size = _; rw [Array.size_push, Array.size_push]
  obtain ⟨i0, i3, i4⟩ := (⟨hb2.cell 0, hb2.cell 3, hb2.cell 4⟩ : _ ∧ _ ∧ _)
  simp only [List.getElem?_toArray, List.getElem?_cons_zero, List.getElem?_cons_succ] at i0 i3 i4
  have c0 : w1.cell? ⟨w.heap.size, 0, none⟩ = some (.int .i64 s.pc) := (hb0.cell 0).trans (spC_zero s)
  have d0 := hs2.cell c0
  have dt : w2.cell? ⟨w.heap.size, 1 + s.pc, none⟩ = some (.int .i64 (s.tn s.pc)) := ((hb0.same hs2).cell _).trans (spC_at s (by omega))
  have HB0 := Lib.hid (hb0.same hs2)
  have HB1 := Lib.hid (hb1.same hs2)
  have HS2 := Lib.hid (hs1.trans hs2)
  have E1 := Lib.hid hw1
  have E2 := Lib.hid hw2
  have HOK := Lib.hid hok
  have HK := Lib.hid (show s.pc < 64 by omega)
  have hk1 : (s.pc : Int) < m := by omega
  have hk2 : (s.pc : Int) < 64 := by omega
  have hk0 : (0 : Int) ≤ s.pc := by omega
  have HZ := Lib.hid (show w.heap.size ≤ w.heap.size + 1 by omega)
  have HX := Lib.hid (show ((x.n.toNat : Nat) : Int) = x.n by omega)
  have HM := Lib.hid (show m ≤ 64 from hm)
  obtain ⟨q1, hq1⟩ : ∃ q1, q1 = w.heap.size + 1 := ⟨_, rfl⟩
  obtain ⟨q2, hq2⟩ : ∃ q2, q2 = w1.heap.size := ⟨_, rfl⟩
  have HQ1 := Lib.hid hq1
  have HQ2 := Lib.hid hq2
  have HQ3 := Lib.hid (show q2 = w.heap.size + 2 by omega)
  rw [← hq2] at i0 i3 i4
  rw [← hq1] at HB1
  clear hw1 hw2 hb0 hb1 hb2 hs1 hs2 hp hl hok hz1 hq1 hq2 hm hn
  go_enter Tryd.func44, Tryd.ntmps44
  go_upto_region 1 with fail
  rw [← E1.out, ← HQ1.out]
  go_upto_region 2 with fail
  rw [← E2.out, ← HQ2.out]
  clear E1 E2 c0 z0 z1 z2 z3 z4 HQ2
  generalize hq : w.heap.size = q0 at *
  have HSZ := Lib.hid (show w.heap.size ≤ q0 ∧ q0 < q1 ∧ q1 < q2 by have := HQ1.out; have := HQ3.out; omega)
  clear HQ1 HQ3 HZ hq
  have hxn : 0 ≤ x.n ∧ x.n < 4294967296 := HOK.out
  have HXN := Lib.hid hxn.1
  have ek : s.pc + 1 = ((s.pc : Int) + 1).toNat := by omega
  rw [ek] at hN
  clear ek
  by_cases h16 : x.op = 16
  · have e16 : (x.op == 16) = true := by simpa using h16
    by_cases hlt : s.tn s.pc < x.c
    · have dlt : decide (s.tn s.pc < x.c) = true := decide_eq_true hlt
      rw [if_pos h16, if_pos hlt] at hN
      have HN := Lib.hid hN
      have ht := ht h16
      clear h16 hN
      go_quiet (fail)
      have HD := Lib.hid ((Same.refl w2).drewN nq)
      have HB0 := Lib.hid (HB0.out.same HD.out)
      have HB1 := Lib.hid (HB1.out.same HD.out)
      have HS2 := Lib.hid (HS2.out.trans HD.out)
      have i0 := HD.out.cell i0
      have i4 := HD.out.cell i4
      have d0 := HD.out.cell d0
      have dt := HD.out.cell dt
      generalize w2.drewN nq = w3 at *
      clear HD i3
      have t0 := HB0.out.thaw (1 + s.pc)
      have hov : s.tn s.pc + 1 < 9223372036854775808 := by omega
      go_upto_region 4 with fail
      have HC := Lib.hid (Chg.set (S := fun i => i = q0) (Chg.refl _ w3) (p := ⟨q0, 1 + s.pc, none⟩) (.inl rfl) (.int .i64 (s.tn s.pc + 1)))
      have HB0 := Lib.hid (show Blk (w3.setCell ⟨q0, 1 + s.pc, none⟩ (.int .i64 (s.tn s.pc + 1))) q0 84 (spC ⟨s.pc, up s.tn s.pc (s.tn s.pc + 1)⟩) from (spC_tn s HK.out (s.tn s.pc + 1)) ▸ HB0.out.put (1 + s.pc) (.int .i64 (s.tn s.pc + 1)))
      have HB1 := Lib.hid (HB1.out.chg HC.out (by have := HSZ.out; omega))
      have HS2 := Lib.hid (HS2.out.set (p := ⟨q0, 1 + s.pc, none⟩) (.inr (by have := HSZ.out; simp only; omega)) (.int .i64 (s.tn s.pc + 1)))
      have i4 := HC.out.cell i4 (by have := HSZ.out; simp only; omega)
      generalize w3.setCell ⟨q0, 1 + s.pc, none⟩ (.int .i64 (s.tn s.pc + 1)) = w4 at *
      clear HC
      have d0 := (HB0.out.cell 0).trans (spC_zero _)
      have t0 := HB0.out.thaw 0
      simp only at d0
      go_upto_region 5 with fail
      have HC := Lib.hid (Chg.set (S := fun i => i = q0) (Chg.refl _ w4) (p := ⟨q0, 0, none⟩) (.inl rfl) (.int .i64 (x.n)))
      have HB0 := Lib.hid (show Blk (w4.setCell ⟨q0, 0, none⟩ (.int .i64 (x.n))) q0 84 (spC ⟨x.n.toNat, up s.tn s.pc (s.tn s.pc + 1)⟩) from (spC_pcI ⟨s.pc, up s.tn s.pc (s.tn s.pc + 1)⟩ x.n HXN.out) ▸ HB0.out.put (0) (.int .i64 (x.n)))
      have HB1 := Lib.hid (HB1.out.chg HC.out (by have := HSZ.out; omega))
      have HS2 := Lib.hid (HS2.out.set (p := ⟨q0, 0, none⟩) (.inr (by have := HSZ.out; simp only; omega)) (.int .i64 (x.n)))
      generalize w4.setCell ⟨q0, 0, none⟩ (.int .i64 (x.n)) = w5 at *
      clear HC
      have HIF := Lib.hid (show (Tryd.prog.info? 84).map (·.size) = some (spC ⟨x.n.toNat, up s.tn s.pc (s.tn s.pc + 1)⟩).size by rw [spC_size]; exact spot_info)
      have HOLD := Lib.hid (show (Tryd.zeroCells84).size = (spC ⟨x.n.toNat, up s.tn s.pc (s.tn s.pc + 1)⟩).size by rw [spC_size]; exact zeros_size)
      have HON := Lib.hid (spC_one ⟨x.n.toNat, up s.tn s.pc (s.tn s.pc + 1)⟩)
      go_wp2_with (first | (refine wpList_load_row rfl 84 (.tmp 4) rfl q0 rfl 84 (spC ⟨x.n.toNat, up s.tn s.pc (s.tn s.pc + 1)⟩) (0, 0) _ HB0.out Tryd.underlying84 rfl HIF.out ?_) | (refine wpList_store_row rfl 84 (.tmp 6) (.tmp 38) rfl q1 (spC ⟨x.n.toNat, up s.tn s.pc (s.tn s.pc + 1)⟩) rfl rfl 84 Tryd.zeroCells84 HB1.out HIF.out HOLD.out HON.out ?_))
      refine bodyPost_ret (v := .agg (spC ⟨x.n.toNat, up s.tn s.pc (s.tn s.pc + 1)⟩)) (results_cell_row Tryd.results44 _ _ q1 84 (spC ⟨x.n.toNat, up s.tn s.pc (s.tn s.pc + 1)⟩) (0, 0) _ rfl (row_blk HB1.out) Tryd.underlying84 rfl HIF.out) rfl ⟨by rw [← HN.out], ?_⟩
      exact chg_setRow HS2.out (.inr (by have := HSZ.out; omega)) _
    · have dlt : decide (s.tn s.pc < x.c) = false := decide_eq_false hlt
      rw [if_pos h16, if_neg hlt] at hN
      have HN := Lib.hid hN
      have e14 : (x.op == 14) = false := by simp [h16]
      have e15 : (x.op == 15) = false := by simp [h16]
      clear h16 hN ht
      go_quiet (fail)
      have HD := Lib.hid ((Same.refl w2).drewN nq)
      have HB0 := Lib.hid (HB0.out.same HD.out)
      have HB1 := Lib.hid (HB1.out.same HD.out)
      have HS2 := Lib.hid (HS2.out.trans HD.out)
      have i0 := HD.out.cell i0
      have i4 := HD.out.cell i4
      have d0 := HD.out.cell d0
      have dt := HD.out.cell dt
      generalize w2.drewN nq = w3 at *
      clear HD i3
      have t0 := HB0.out.thaw (1 + s.pc)
      go_upto_region 8 with fail
      have HC := Lib.hid (Chg.set (S := fun i => i = q0) (Chg.refl _ w3) (p := ⟨q0, 1 + s.pc, none⟩) (.inl rfl) (.int .i64 (0)))
      have HB0 := Lib.hid (show Blk (w3.setCell ⟨q0, 1 + s.pc, none⟩ (.int .i64 (0))) q0 84 (spC ⟨s.pc, up s.tn s.pc 0⟩) from (spC_tn s HK.out 0) ▸ HB0.out.put (1 + s.pc) (.int .i64 (0)))
      have HB1 := Lib.hid (HB1.out.chg HC.out (by have := HSZ.out; omega))
      have HS2 := Lib.hid (HS2.out.set (p := ⟨q0, 1 + s.pc, none⟩) (.inr (by have := HSZ.out; simp only; omega)) (.int .i64 (0)))
      have i0 := HC.out.cell i0 (by have := HSZ.out; simp only; omega)
      generalize w3.setCell ⟨q0, 1 + s.pc, none⟩ (.int .i64 (0)) = w4 at *
      clear HC
      have d0 := (HB0.out.cell 0).trans (spC_zero _)
      have t0 := HB0.out.thaw 0
      simp only at d0
      go_upto_region 12 with fail
      have HC := Lib.hid (Chg.set (S := fun i => i = q0) (Chg.refl _ w4) (p := ⟨q0, 0, none⟩) (.inl rfl) (.int .i64 ((s.pc : Int) + 1)))
      have HB0 := Lib.hid (show Blk (w4.setCell ⟨q0, 0, none⟩ (.int .i64 ((s.pc : Int) + 1))) q0 84 (spC ⟨((s.pc : Int) + 1).toNat, up s.tn s.pc 0⟩) from (spC_pcI ⟨s.pc, up s.tn s.pc 0⟩ ((s.pc : Int) + 1) (by omega)) ▸ HB0.out.put (0) (.int .i64 ((s.pc : Int) + 1)))
      have HB1 := Lib.hid (HB1.out.chg HC.out (by have := HSZ.out; omega))
      have HS2 := Lib.hid (HS2.out.set (p := ⟨q0, 0, none⟩) (.inr (by have := HSZ.out; simp only; omega)) (.int .i64 ((s.pc : Int) + 1)))
      generalize w4.setCell ⟨q0, 0, none⟩ (.int .i64 ((s.pc : Int) + 1)) = w5 at *
      clear HC
      have HIF := Lib.hid (show (Tryd.prog.info? 84).map (·.size) = some (spC ⟨((s.pc : Int) + 1).toNat, up s.tn s.pc 0⟩).size by rw [spC_size]; exact spot_info)
      have HOLD := Lib.hid (show (Tryd.zeroCells84).size = (spC ⟨((s.pc : Int) + 1).toNat, up s.tn s.pc 0⟩).size by rw [spC_size]; exact zeros_size)
      have HON := Lib.hid (spC_one ⟨((s.pc : Int) + 1).toNat, up s.tn s.pc 0⟩)
      go_wp2_with (first | (refine wpList_load_row rfl 84 (.tmp 4) rfl q0 rfl 84 (spC ⟨((s.pc : Int) + 1).toNat, up s.tn s.pc 0⟩) (0, 0) _ HB0.out Tryd.underlying84 rfl HIF.out ?_) | (refine wpList_store_row rfl 84 (.tmp 6) (.tmp 66) rfl q1 (spC ⟨((s.pc : Int) + 1).toNat, up s.tn s.pc 0⟩) rfl rfl 84 Tryd.zeroCells84 HB1.out HIF.out HOLD.out HON.out ?_))
      refine bodyPost_ret (v := .agg (spC ⟨((s.pc : Int) + 1).toNat, up s.tn s.pc 0⟩)) (results_cell_row Tryd.results44 _ _ q1 84 (spC ⟨((s.pc : Int) + 1).toNat, up s.tn s.pc 0⟩) (0, 0) _ rfl (row_blk HB1.out) Tryd.underlying84 rfl HIF.out) rfl ⟨by rw [← HN.out], ?_⟩
      exact chg_setRow HS2.out (.inr (by have := HSZ.out; omega)) _
  · have e16 : (x.op == 16) = false := by simpa using h16
    rw [if_neg h16] at hN
    by_cases h14 : x.op = 14
    · have e14 : (x.op == 14) = true := by simpa using h14
      rw [if_pos (.inl h14)] at hN
      have HN := Lib.hid hN
      clear h16 h14 hN ht
      go_quiet (fail)
      have HD := Lib.hid ((Same.refl w2).drewN nq)
      have HB0 := Lib.hid (HB0.out.same HD.out)
      have HB1 := Lib.hid (HB1.out.same HD.out)
      have HS2 := Lib.hid (HS2.out.trans HD.out)
      have i0 := HD.out.cell i0
      have i4 := HD.out.cell i4
      have d0 := HD.out.cell d0
      have dt := HD.out.cell dt
      generalize w2.drewN nq = w3 at *
      clear HD i3
      have t0 := HB0.out.thaw 0
      go_upto_region 10 with fail
      have HC := Lib.hid (Chg.set (S := fun i => i = q0) (Chg.refl _ w3) (p := ⟨q0, 0, none⟩) (.inl rfl) (.int .i64 (x.n)))
      have HB0 := Lib.hid (show Blk (w3.setCell ⟨q0, 0, none⟩ (.int .i64 (x.n))) q0 84 (spC ⟨x.n.toNat, s.tn⟩) from (spC_pcI s x.n HXN.out) ▸ HB0.out.put (0) (.int .i64 (x.n)))
      have HB1 := Lib.hid (HB1.out.chg HC.out (by have := HSZ.out; omega))
      have HS2 := Lib.hid (HS2.out.set (p := ⟨q0, 0, none⟩) (.inr (by have := HSZ.out; simp only; omega)) (.int .i64 (x.n)))
      generalize w3.setCell ⟨q0, 0, none⟩ (.int .i64 (x.n)) = w4 at *
      clear HC
      have HIF := Lib.hid (show (Tryd.prog.info? 84).map (·.size) = some (spC ⟨x.n.toNat, s.tn⟩).size by rw [spC_size]; exact spot_info)
      have HOLD := Lib.hid (show (Tryd.zeroCells84).size = (spC ⟨x.n.toNat, s.tn⟩).size by rw [spC_size]; exact zeros_size)
      have HON := Lib.hid (spC_one ⟨x.n.toNat, s.tn⟩)
      go_wp2_with (first | (refine wpList_load_row rfl 84 (.tmp 4) rfl q0 rfl 84 (spC ⟨x.n.toNat, s.tn⟩) (0, 0) _ HB0.out Tryd.underlying84 rfl HIF.out ?_) | (refine wpList_store_row rfl 84 (.tmp 6) (.tmp 61) rfl q1 (spC ⟨x.n.toNat, s.tn⟩) rfl rfl 84 Tryd.zeroCells84 HB1.out HIF.out HOLD.out HON.out ?_))
      refine bodyPost_ret (v := .agg (spC ⟨x.n.toNat, s.tn⟩)) (results_cell_row Tryd.results44 _ _ q1 84 (spC ⟨x.n.toNat, s.tn⟩) (0, 0) _ rfl (row_blk HB1.out) Tryd.underlying84 rfl HIF.out) rfl ⟨by rw [← HN.out], ?_⟩
      exact chg_setRow HS2.out (.inr (by have := HSZ.out; omega)) _
    · have e14 : (x.op == 14) = false := by simpa using h14
      by_cases h15 : x.op = 15
      · have e15 : (x.op == 15) = true := by simpa using h15
        cases jump with
        | true =>
          rw [if_pos (.inr ⟨h15, rfl⟩)] at hN
          have HN := Lib.hid hN
          clear h16 h14 h15 hN ht
          go_quiet (fail)
          have HD := Lib.hid ((Same.refl w2).drewN nq)
          have HB0 := Lib.hid (HB0.out.same HD.out)
          have HB1 := Lib.hid (HB1.out.same HD.out)
          have HS2 := Lib.hid (HS2.out.trans HD.out)
          have i0 := HD.out.cell i0
          have i4 := HD.out.cell i4
          have d0 := HD.out.cell d0
          have dt := HD.out.cell dt
          generalize w2.drewN nq = w3 at *
          clear HD i3
          have t0 := HB0.out.thaw 0
          go_upto_region 10 with fail
          have HC := Lib.hid (Chg.set (S := fun i => i = q0) (Chg.refl _ w3) (p := ⟨q0, 0, none⟩) (.inl rfl) (.int .i64 (x.n)))
          have HB0 := Lib.hid (show Blk (w3.setCell ⟨q0, 0, none⟩ (.int .i64 (x.n))) q0 84 (spC ⟨x.n.toNat, s.tn⟩) from (spC_pcI s x.n HXN.out) ▸ HB0.out.put (0) (.int .i64 (x.n)))
          have HB1 := Lib.hid (HB1.out.chg HC.out (by have := HSZ.out; omega))
          have HS2 := Lib.hid (HS2.out.set (p := ⟨q0, 0, none⟩) (.inr (by have := HSZ.out; simp only; omega)) (.int .i64 (x.n)))
          generalize w3.setCell ⟨q0, 0, none⟩ (.int .i64 (x.n)) = w4 at *
          clear HC
          have HIF := Lib.hid (show (Tryd.prog.info? 84).map (·.size) = some (spC ⟨x.n.toNat, s.tn⟩).size by rw [spC_size]; exact spot_info)
          have HOLD := Lib.hid (show (Tryd.zeroCells84).size = (spC ⟨x.n.toNat, s.tn⟩).size by rw [spC_size]; exact zeros_size)
          have HON := Lib.hid (spC_one ⟨x.n.toNat, s.tn⟩)
          go_wp2_with (first | (refine wpList_load_row rfl 84 (.tmp 4) rfl q0 rfl 84 (spC ⟨x.n.toNat, s.tn⟩) (0, 0) _ HB0.out Tryd.underlying84 rfl HIF.out ?_) | (refine wpList_store_row rfl 84 (.tmp 6) (.tmp 61) rfl q1 (spC ⟨x.n.toNat, s.tn⟩) rfl rfl 84 Tryd.zeroCells84 HB1.out HIF.out HOLD.out HON.out ?_))
          refine bodyPost_ret (v := .agg (spC ⟨x.n.toNat, s.tn⟩)) (results_cell_row Tryd.results44 _ _ q1 84 (spC ⟨x.n.toNat, s.tn⟩) (0, 0) _ rfl (row_blk HB1.out) Tryd.underlying84 rfl HIF.out) rfl ⟨by rw [← HN.out], ?_⟩
          exact chg_setRow HS2.out (.inr (by have := HSZ.out; omega)) _
        | false =>
          rw [if_neg (by simp [h14])] at hN
          have HN := Lib.hid hN
          clear h16 h14 h15 hN ht
          go_quiet (fail)
          have HD := Lib.hid ((Same.refl w2).drewN nq)
          have HB0 := Lib.hid (HB0.out.same HD.out)
          have HB1 := Lib.hid (HB1.out.same HD.out)
          have HS2 := Lib.hid (HS2.out.trans HD.out)
          have i0 := HD.out.cell i0
          have i4 := HD.out.cell i4
          have d0 := HD.out.cell d0
          have dt := HD.out.cell dt
          generalize w2.drewN nq = w3 at *
          clear HD i3
          have t0 := HB0.out.thaw 0
          go_upto_region 12 with fail
          have HC := Lib.hid (Chg.set (S := fun i => i = q0) (Chg.refl _ w3) (p := ⟨q0, 0, none⟩) (.inl rfl) (.int .i64 ((s.pc : Int) + 1)))
          have HB0 := Lib.hid (show Blk (w3.setCell ⟨q0, 0, none⟩ (.int .i64 ((s.pc : Int) + 1))) q0 84 (spC ⟨((s.pc : Int) + 1).toNat, s.tn⟩) from (spC_pcI s ((s.pc : Int) + 1) (by omega)) ▸ HB0.out.put (0) (.int .i64 ((s.pc : Int) + 1)))
          have HB1 := Lib.hid (HB1.out.chg HC.out (by have := HSZ.out; omega))
          have HS2 := Lib.hid (HS2.out.set (p := ⟨q0, 0, none⟩) (.inr (by have := HSZ.out; simp only; omega)) (.int .i64 ((s.pc : Int) + 1)))
          generalize w3.setCell ⟨q0, 0, none⟩ (.int .i64 ((s.pc : Int) + 1)) = w4 at *
          clear HC
          have HIF := Lib.hid (show (Tryd.prog.info? 84).map (·.size) = some (spC ⟨((s.pc : Int) + 1).toNat, s.tn⟩).size by rw [spC_size]; exact spot_info)
          have HOLD := Lib.hid (show (Tryd.zeroCells84).size = (spC ⟨((s.pc : Int) + 1).toNat, s.tn⟩).size by rw [spC_size]; exact zeros_size)
          have HON := Lib.hid (spC_one ⟨((s.pc : Int) + 1).toNat, s.tn⟩)
          go_wp2_with (first | (refine wpList_load_row rfl 84 (.tmp 4) rfl q0 rfl 84 (spC ⟨((s.pc : Int) + 1).toNat, s.tn⟩) (0, 0) _ HB0.out Tryd.underlying84 rfl HIF.out ?_) | (refine wpList_store_row rfl 84 (.tmp 6) (.tmp 66) rfl q1 (spC ⟨((s.pc : Int) + 1).toNat, s.tn⟩) rfl rfl 84 Tryd.zeroCells84 HB1.out HIF.out HOLD.out HON.out ?_))
          refine bodyPost_ret (v := .agg (spC ⟨((s.pc : Int) + 1).toNat, s.tn⟩)) (results_cell_row Tryd.results44 _ _ q1 84 (spC ⟨((s.pc : Int) + 1).toNat, s.tn⟩) (0, 0) _ rfl (row_blk HB1.out) Tryd.underlying84 rfl HIF.out) rfl ⟨by rw [← HN.out], ?_⟩
          exact chg_setRow HS2.out (.inr (by have := HSZ.out; omega)) _
      · have e15 : (x.op == 15) = false := by simpa using h15
        rw [if_neg (by simp [h14, h15])] at hN
        have HN := Lib.hid hN
        clear h16 h14 h15 hN ht
        go_quiet (fail)
        have HD := Lib.hid ((Same.refl w2).drewN nq)
        have HB0 := Lib.hid (HB0.out.same HD.out)
        have HB1 := Lib.hid (HB1.out.same HD.out)
        have HS2 := Lib.hid (HS2.out.trans HD.out)
        have i0 := HD.out.cell i0
        have i4 := HD.out.cell i4
        have d0 := HD.out.cell d0
        have dt := HD.out.cell dt
        generalize w2.drewN nq = w3 at *
        clear HD i3
        have t0 := HB0.out.thaw 0
        go_upto_region 12 with fail
        have HC := Lib.hid (Chg.set (S := fun i => i = q0) (Chg.refl _ w3) (p := ⟨q0, 0, none⟩) (.inl rfl) (.int .i64 ((s.pc : Int) + 1)))
        have HB0 := Lib.hid (show Blk (w3.setCell ⟨q0, 0, none⟩ (.int .i64 ((s.pc : Int) + 1))) q0 84 (spC ⟨((s.pc : Int) + 1).toNat, s.tn⟩) from (spC_pcI s ((s.pc : Int) + 1) (by omega)) ▸ HB0.out.put (0) (.int .i64 ((s.pc : Int) + 1)))
        have HB1 := Lib.hid (HB1.out.chg HC.out (by have := HSZ.out; omega))
        have HS2 := Lib.hid (HS2.out.set (p := ⟨q0, 0, none⟩) (.inr (by have := HSZ.out; simp only; omega)) (.int .i64 ((s.pc : Int) + 1)))
        generalize w3.setCell ⟨q0, 0, none⟩ (.int .i64 ((s.pc : Int) + 1)) = w4 at *
        clear HC
        have HIF := Lib.hid (show (Tryd.prog.info? 84).map (·.size) = some (spC ⟨((s.pc : Int) + 1).toNat, s.tn⟩).size by rw [spC_size]; exact spot_info)
        have HOLD := Lib.hid (show (Tryd.zeroCells84).size = (spC ⟨((s.pc : Int) + 1).toNat, s.tn⟩).size by rw [spC_size]; exact zeros_size)
        have HON := Lib.hid (spC_one ⟨((s.pc : Int) + 1).toNat, s.tn⟩)
        go_wp2_with (first | (refine wpList_load_row rfl 84 (.tmp 4) rfl q0 rfl 84 (spC ⟨((s.pc : Int) + 1).toNat, s.tn⟩) (0, 0) _ HB0.out Tryd.underlying84 rfl HIF.out ?_) | (refine wpList_store_row rfl 84 (.tmp 6) (.tmp 66) rfl q1 (spC ⟨((s.pc : Int) + 1).toNat, s.tn⟩) rfl rfl 84 Tryd.zeroCells84 HB1.out HIF.out HOLD.out HON.out ?_))
        refine bodyPost_ret (v := .agg (spC ⟨((s.pc : Int) + 1).toNat, s.tn⟩)) (results_cell_row Tryd.results44 _ _ q1 84 (spC ⟨((s.pc : Int) + 1).toNat, s.tn⟩) (0, 0) _ rfl (row_blk HB1.out) Tryd.underlying84 rfl HIF.out) rfl ⟨by rw [← HN.out], ?_⟩
        exact chg_setRow HS2.out (.inr (by have := HSZ.out; omega)) _
end Go.Proofs.YtnlndkpjfgpodaaDoor.Wk
