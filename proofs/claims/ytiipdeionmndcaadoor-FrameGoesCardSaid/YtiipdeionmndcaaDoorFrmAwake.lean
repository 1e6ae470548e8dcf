/-

  Layer 13: the chapter's example.
-/
import Derived.Test.YtiipdeionmndcaaDoorFrmRunF
import Derived.Test.YtiipdeionmndcaaDoorFlowAwake
section
set_option linter.unusedVariables false
set_option linter.unusedSimpArgs false
namespace Go.Proofs.YtiipdeionmndcaaDoor.Fr
open Go.ChangeShapes Go.WideShapes Go.ChangeAt Go.RowKit Ws
open Go.Proofs.YtiipdeionmndcaaDoor.Fp (Ins at_ Fine at_some)
open Go.Proofs.YtiipdeionmndcaaDoor.Fw (Prg okB ckE check_any okB_fine rightI)
open Go.Proofs.YtiipdeionmndcaaDoor.Is (Tabs)

def startF (n : Nat) : FS := ⟨0, List.replicate 8 0, List.replicate n 0⟩
def izeros (n : Nat) : Array Value := madeCells (Value.int .i64 0).cells (n * 1)
theorem izeros_list (n : Nat) : (izeros n).toList = (List.replicate n (0 : Int)).map (Value.int .i64) := by
  unfold izeros madeCells
  apply List.ext_getElem
  · simp
  · intro i h1 h2
    simp [Value.cells]
    show [Value.int IntKind.i64 0][i % 1]?.getD default = _
    rw [Nat.mod_one]
    rfl
theorem izeros_size (n : Nat) : (izeros n).size = n := by unfold izeros; rw [size_madeCells, Nat.mul_one]
theorem imake_any (n : Nat) (hn : n ≤ 5000) (W : World) : (Instr.makeSlice 23 (.int .i64 (n : Int)) (.int .i64 (n : Int))).run Tryd.prog W = .ok (.slice (some ⟨W.heap.size, 0, none⟩) n n) (W.alloc (.cells (izeros n) 3)) := by
  obtain ⟨i0, hi, hz0, hz1, hz2⟩ := info_parts int_info
  have h := run_make (P := Tryd.prog) W 23 3 i0 _ Tryd.underlying23 hi hz0 .i64 .i64 n n (by omega) (by omega) (by rw [hz2]; omega) (by omega)
  rw [hz1, Int.toNat_natCast] at h
  exact h
theorem iown_zeros (n : Nat) (hn : n ≤ 5000) (w : World) : Own (w.alloc (.cells (izeros n) 3)) w.heap.size 3 (some ⟨w.heap.size, 0, none⟩) n ((List.replicate n (0 : Int)).map (Value.int .i64)) := by
  have h := World.ownsRow_lit (base := w.heap.size) (e := 3) (size := 1) w (izeros n) n (Nat.le_refl _) (by unfold maxLen; omega) (by rw [izeros_size, Nat.mul_one])
  rw [izeros_list] at h
  unfold Own
  simpa using h
set_option maxRecDepth 100000 in
theorem fstart_any (A : Option Addr) (n c : Nat) (w : World) (hn : n ≤ 5000) :
    Calls Tryd.prog 26 #[.slice A n c] w fun e w' => ∃ T, e = .returned (.agg #[.int .i64 (startF n).pc, .int .u32 (rk (startF n) 0), .int .u32 (rk (startF n) 1), .int .u32 (rk (startF n) 2), .int .u32 (rk (startF n) 3), .int .u32 (rk (startF n) 4), .int .u32 (rk (startF n) 5), .int .u32 (rk (startF n) 6), .int .u32 (rk (startF n) 7), .slice T n n]) ∧ Own w' w.heap.size 3 T n ((startF n).tn.map (Value.int .i64)) ∧ Same w w' := by
  have hmk := imake_any n hn
  obtain ⟨w1, hw1⟩ : ∃ w1, w1 = w.alloc (.cells #[.int .i64 0, .int .u32 0, .int .u32 0, .int .u32 0, .int .u32 0, .int .u32 0, .int .u32 0, .int .u32 0, .int .u32 0, .slice (some ⟨w.heap.size + 1, 0, none⟩) n n] 44) := ⟨_, rfl⟩
  have ho := iown_zeros n hn w1
  have hz : w1.heap.size = w.heap.size + 1 := by rw [hw1]; simp
  have hb : Blk (w1.alloc (.cells (izeros n) 3)) w.heap.size 44 #[.int .i64 0, .int .u32 0, .int .u32 0, .int .u32 0, .int .u32 0, .int .u32 0, .int .u32 0, .int .u32 0, .int .u32 0, .slice (some ⟨w.heap.size + 1, 0, none⟩) n n] := by
    rw [hw1]
    exact (Blk.new w _ _).same ((Same.refl _).alloc _)
  have hs : Same w (w1.alloc (.cells (izeros n) 3)) := hw1 ▸ ((Same.refl w).alloc _).alloc _
  rw [hz] at ho
  have HO := Lib.hid ho
  have HB := Lib.hid hb
  have HS := Lib.hid hs
  have E1 := Lib.hid hw1
  clear ho hz hb hs hw1
  go_enter Tryd.func26, Tryd.ntmps26
  go_wp2_with fail
  rw [← E1.out]
  exact bodyPost_ret (v := .agg #[.int .i64 0, .int .u32 0, .int .u32 0, .int .u32 0, .int .u32 0, .int .u32 0, .int .u32 0, .int .u32 0, .int .u32 0, .slice (some ⟨w.heap.size + 1, 0, none⟩) n n]) (results_cell_row Tryd.results26 _ _ w.heap.size 44 #[.int .i64 0, .int .u32 0, .int .u32 0, .int .u32 0, .int .u32 0, .int .u32 0, .int .u32 0, .int .u32 0, .int .u32 0, .slice (some ⟨w.heap.size + 1, 0, none⟩) n n] (0, 0) _ rfl HB.out Tryd.underlying44 rfl frm_size) rfl ⟨some ⟨w.heap.size + 1, 0, none⟩, rfl, HO.out.base (Nat.le_succ _), HS.out⟩
end Go.Proofs.YtiipdeionmndcaaDoor.Fr
end
section
set_option linter.unusedVariables false
set_option linter.unusedSimpArgs false
namespace Go.Proofs.YtiipdeionmndcaaDoor.Fr
open Go.ChangeShapes Go.WideShapes Go.ChangeAt Go.RowKit Ws
open Go.Proofs.YtiipdeionmndcaaDoor.Fp (Ins at_ Fine at_some)
open Go.Proofs.YtiipdeionmndcaaDoor.Fw (Prg okB ckE check_any okB_fine rightI)
open Go.Proofs.YtiipdeionmndcaaDoor.Is (Tabs)

def p13 : List Ins := [⟨1, 1, 0, 0, 5⟩, ⟨12, 1, 0, 0, 0⟩, ⟨21, 0, 0, 0, 0⟩]
def s13 : SS := ⟨startF 3, [0, 0], 0⟩
theorem r13_pc : (runR p13 1 1 s13 9).1.f.pc = 2 := by decide +kernel
theorem r13_ws : (runR p13 1 1 s13 9).1.ws = [0, 5] := by decide +kernel
theorem r13_n : (runR p13 1 1 s13 9).2.1 = 2 := by decide +kernel
theorem r13_k : (runR p13 1 1 s13 9).2.2 = 2 := by decide +kernel
theorem wide_start (n : Nat) (ws : List Nat) (st : Int) (h : ∀ x ∈ ws, x < 4294967296) : Wide ⟨startF n, ws, st⟩ := ⟨by show (List.replicate 8 0).length = 8; simp, fun x hx => by
  have : x ∈ List.replicate 8 0 := hx
  rw [List.mem_replicate] at this
  omega, h⟩
set_option maxRecDepth 100000 in
set_option maxHeartbeats 4000000 in
theorem awake13 (w : World) (ht : Tabs w) : Calls Tryd.prog 18 #[] w fun e w' => e = .returned (.bool true) ∧ Same w w' := by
  obtain ⟨wA, hwA⟩ : ∃ wA, wA = w.alloc (.cells #[.int .i64 1, .int .i64 1, .int .i64 0, .int .i64 0, .int .u32 5, .int .i64 12, .int .i64 1, .int .i64 0, .int .i64 0, .int .u32 0, .int .i64 21, .int .i64 0, .int .i64 0, .int .i64 0, .int .u32 0] 67) := ⟨_, rfl⟩
  have hsA : Same w wA := hwA ▸ (Same.refl w).alloc _
  have hp : Prg wA (some ⟨w.heap.size, 0, none⟩) p13 := by
    refine Fw.prg_of (fun j v hj => ⟨w.heap.size, 0, rfl, ?_⟩) (fun x hx => by
      simp only [p13, List.mem_cons, List.not_mem_nil, or_false] at hx
      rcases hx with rfl | rfl | rfl <;> exact ⟨by decide, by decide⟩)
    rw [Nat.zero_add, hwA]
    have hb := (Blk.new w 67 #[.int .i64 1, .int .i64 1, .int .i64 0, .int .i64 0, .int .u32 5, .int .i64 12, .int .i64 1, .int .i64 0, .int .i64 0, .int .u32 0, .int .i64 21, .int .i64 0, .int .i64 0, .int .i64 0, .int .u32 0]).cell j
    rw [hb]
    simpa [Fw.prgCells, p13, Fw.cells] using hj
  have E1 := Lib.hid hwA
  have HP := Lib.hid hp
  have HSA := Lib.hid hsA
  have HT := Lib.hid (ht.same hsA)
  clear hwA hp hsA ht
  go_enter Tryd.func18, Tryd.ntmps18
  go_wp2_with fail
  rw [← E1.out]
  clear E1
  refine (Mm.new_any 2 (by omega) wA).mono ?_
  rintro e w2 ⟨rfl, s2, hm⟩
  have HM := Lib.hid hm.within
  have HS2 := Lib.hid s2
  generalize wA.heap.size + 1 = gm at *
  clear hm s2
  go_wp2_with fail
  refine (fstart_any _ 3 3 w2 (by omega)).mono ?_
  rintro e w3 ⟨T, rfl, ho, s3⟩
  have HO := Lib.hid ho
  have HM3 := Lib.hid (HM.out.same s3)
  have HS3 := Lib.hid (HS2.out.trans s3)
  have HRB := Lib.hid (show ∀ i, (wA.heap.size ≤ i ∧ i < w2.heap.size) → wA.heap.size ≤ i ∧ i < w3.heap.size from fun i hi => ⟨hi.1, Nat.lt_of_lt_of_le hi.2 s3.size⟩)
  have HSQ := Lib.hid s3.size
  clear ho s3 HM
  have FR := Lib.hid (frun_any (startF 3) [0, 0] 0 gm T 3 3 (some ⟨w.heap.size, 0, none⟩) 3 3 1 1 p13 HO.out.row (by show (List.replicate 3 (0 : Int)).length = 3; simp) (by omega) HP.out HT.out HS3.out rfl (by omega) HM3.out HRB.out (wide_start 3 [0, 0] 0 (by simp)) (by omega) 9 (by omega))
  have e1 := r13_pc
  have e2 := r13_ws
  have e3 := r13_n
  have e4 := r13_k
  unfold s13 at e1 e2 e3 e4
  rw [e3, e4] at FR
  clear e3 e4
  obtain ⟨s', hs'⟩ : ∃ s', s' = (runR p13 1 1 ⟨startF 3, [0, 0], 0⟩ 9).1 := ⟨_, rfl⟩
  rw [← hs'] at FR e1 e2
  clear hs'
  have HE1 := Lib.hid e1
  have HE2 := Lib.hid e2
  clear e1 e2
  go_wp2_with fail
  refine FR.out.mono ?_
  rintro e w4 ⟨T', c', rfl, _, hm4, hc4⟩
  have HM4 := Lib.hid hm4
  have HSZ := Lib.hid (show w2.heap.size ≤ w4.heap.size from Nat.le_trans (show w2.heap.size ≤ w3.heap.size from HSQ.out) hc4.size)
  have HS4 := Lib.hid (show Same wA w4 from Same.more HS3.out hc4 (fun i hi => hi.1))
  clear hm4 hc4 FR
  simp only [List.append_toArray]
  have hmr : ∀ o, Mm.Mem (w4.alloc o) (fun i => wA.heap.size ≤ i ∧ i < w2.heap.size) gm (cst [0, 5]) s'.st := fun o => by
    have h := HM4.out
    rw [HE2.out] at h
    exact h.same ((Same.refl w4).alloc o)
  have HMR := Lib.hid hmr
  clear hmr
  go_wp2_with fail
  refine (Mm.read_in _ (HMR.out _) 1 (by decide)).mono ?_
  rintro e w5 ⟨rfl, hm5, hc5⟩
  have hn4 : ¬ (wA.heap.size ≤ w4.heap.size ∧ w4.heap.size < w2.heap.size) := fun h => by have := HM3.out; have h2 := HS4.out.size; have h3 := HSZ.out; omega
  have HB5 := Lib.hid ((Blk.new w4 44 #[.int .i64 s'.f.pc, .int .u32 (rk s'.f 0), .int .u32 (rk s'.f 1), .int .u32 (rk s'.f 2), .int .u32 (rk s'.f 3), .int .u32 (rk s'.f 4), .int .u32 (rk s'.f 5), .int .u32 (rk s'.f 6), .int .u32 (rk s'.f 7), .slice T' 3 c']).chg hc5 hn4)
  have c0 := HB5.out.cell 0
  simp only [List.getElem?_toArray, List.getElem?_cons_zero, List.getElem?_cons_succ] at c0
  rw [HE1.out] at c0
  have HS5 := Lib.hid (show Same wA w5 from Same.more (HS4.out.alloc _) hc5 (fun i hi => hi.1))
  clear hm5 hc5 hn4 HB5
  have h5 : (cst [0, 5])[1] = 5 := rfl
  rw [h5]
  clear h5
  go_wp2_with fail
  go_ret
  exact ⟨rfl, HSA.out.trans HS5.out⟩
end Go.Proofs.YtiipdeionmndcaaDoor.Fr
end
