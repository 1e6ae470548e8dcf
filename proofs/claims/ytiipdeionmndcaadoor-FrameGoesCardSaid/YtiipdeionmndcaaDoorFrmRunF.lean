/-

  Layer 13: a step of a frame, apart (frame.Step).
-/
import Derived.Test.YtiipdeionmndcaaDoorFrmStepF
import Derived.Test.YtiipdeionmndcaaDoorFrmRunP
set_option linter.unusedVariables false
set_option linter.unusedSimpArgs false
namespace Go.Proofs.YtiipdeionmndcaaDoor.Fr
open Go.ChangeShapes Go.WideShapes Go.ChangeAt Go.RowKit Ws
open Go.Proofs.YtiipdeionmndcaaDoor.Fp (Ins at_ Fine at_some)
open Go.Proofs.YtiipdeionmndcaaDoor.Fw (Prg okB ckE check_any okB_fine rightI)
open Go.Proofs.YtiipdeionmndcaaDoor.Is (Tabs)


/-- a run of a frame -/
def runR (p : List Ins) (oa ol : Int) (s : SS) (mo : Int) : SS × Int × Int :=
  if mo ≤ 0 then (s, 0, 0) else if mayB p s oa ol = true then ((runW p oa ol mo.toNat s).1, ((runW p oa ol mo.toNat s).2.1 : Int), (runW p oa ol mo.toNat s).2.2) else (s, 0, 3)
theorem run_zero {p : List Ins} {oa ol : Int} {s : SS} {mo : Int} (h : mo ≤ 0) : runR p oa ol s mo = (s, 0, 0) := if_pos h
theorem run_off {p : List Ins} {oa ol : Int} {s : SS} {N : Nat} (h : 0 < N) (hm : mayB p s oa ol = false) : runR p oa ol s N = (s, 0, 3) := by
  unfold runR
  rw [if_neg (by omega), if_neg (by rw [hm]; decide)]
theorem run_some {p : List Ins} {oa ol : Int} {s : SS} {N : Nat} (hm : mayB p s oa ol = true) : runR p oa ol s N = ((runW p oa ol N s).1, ((runW p oa ol N s).2.1 : Int), (runW p oa ol N s).2.2) := by
  unfold runR
  rw [if_pos hm, Int.toNat_natCast]
  split
  · next h =>
    have : N = 0 := by omega
    subst this
    rfl
  · rfl
theorem may_ok {p : List Ins} {oa ol : Int} {s : SS} (hm : mayB p s oa ol = true) : okB p = true := by
  unfold mayB at hm
  rw [Bool.and_eq_true] at hm
  exact (right_iff.1 hm.1).1
/-- what holds of the frame between two steps of a run -/
structure LoopI (p : List Ins) (oa ol : Int) (s : SS) (k : Nat) : Prop where
  kinds : ∀ j, j < k → kindW p (stN p oa ol j s) = 0
  right : rightF (okB p) p (stN p oa ol k s).f = true
  wide : Wide (stN p oa ol k s)
  len : (stN p oa ol k s).ws.length = s.ws.length
  st : s.st ≤ (stN p oa ol k s).st ∧ (stN p oa ol k s).st ≤ s.st + k
theorem loop_start {p : List Ins} {oa ol : Int} {s : SS} (hm : mayB p s oa ol = true) (hw : Wide s) : LoopI p oa ol s 0 := by
  unfold mayB at hm
  rw [Bool.and_eq_true] at hm
  exact ⟨fun j hj => by omega, hm.1, hw, rfl, by show s.st ≤ s.st ∧ s.st ≤ s.st + ((0 : Nat) : Int); omega⟩
theorem loop_next {p : List Ins} {oa ol : Int} {s : SS} {k : Nat} (h : LoopI p oa ol s k) (hk : kindW p (stN p oa ol k s) = 0) (hf : Fine rightI p) (hn : ∀ j, j < p.length → 0 ≤ (at_ p j).n) (ho : ∀ j, j < p.length → (at_ p j).ok) : LoopI p oa ol s (k + 1) := by
  obtain ⟨_, ⟨h1, h2, _⟩, _⟩ := right_iff.1 h.right
  have hc := inst_st oa ol (curI p (stN p oa ol k s).f) (stN p oa ol k s)
  have h3 := h.st
  refine ⟨fun j hj => ?_, right_inst hf hn oa ol h.right hk, h.wide.inst oa ol _ (ho _ (by omega)), ?_, ?_⟩
  · rcases Nat.lt_or_ge j k with hjk | hjk
    · exact h.kinds j hjk
    · have : j = k := by omega
      rw [this]; exact hk
  · show (inst oa ol _ _).ws.length = _
    rw [ws_len, h.len]
  · show s.st ≤ (inst oa ol _ _).st ∧ (inst oa ol _ _).st ≤ s.st + ((k + 1 : Nat) : Int)
    omega
theorem loop_asked {p : List Ins} {oa ol : Int} {s : SS} {k m nT : Nat} (h : LoopI p oa ol s k) (hw : Wide s) (hst : 0 ≤ s.st ∧ s.st ≤ 2305843009213693952) (hl : p.length = m) (hn : nT ≤ 5000) (hin : mayB p s oa ol = true ∧ s.ws.length ≤ 4096) (hk : (k : Int) ≤ 2305843009213693952) : Asked p (stN p oa ol k s) m nT oa ol := by
  obtain ⟨hin, h4⟩ := hin
  unfold mayB Mm.inB at hin
  simp only [Bool.and_eq_true, decide_eq_true_eq] at hin
  have := h.st
  have := h.len
  exact ⟨h.right, h.wide, by omega, by omega, by omega, by omega, hl, hn⟩
set_option maxRecDepth 100000 in
set_option maxHeartbeats 8000000 in
theorem frun_any {w0 w : World} {R : Nat → Prop} (f : FS) (ws : List Nat) (st : Int) (gm : Nat) (T : Option Addr) (nT cT : Nat) (A : Option Addr) (m cA : Nat) (oa ol : Int) (p : List Ins) (hT : Row w T (f.tn.map (Value.int .i64))) (hn : f.tn.length = nT) (hb : nT ≤ 5000) (hp : Prg w0 A p) (ht : Tabs w0) (h0 : Same w0 w) (hl : p.length = m) (hm : m ≤ 5000)
    (hmem : Mm.Mem w R gm (cst ws) st) (hR : ∀ i, R i → w0.heap.size ≤ i ∧ i < w.heap.size) (hw : Wide ⟨f, ws, st⟩) (hst : 0 ≤ st ∧ st ≤ 2305843009213693952) (mo : Int) (hmob : mo ≤ 2305843009213693952) :
    Calls Tryd.prog 25 #[.agg #[.int .i64 f.pc, .int .u32 (rk f 0), .int .u32 (rk f 1), .int .u32 (rk f 2), .int .u32 (rk f 3), .int .u32 (rk f 4), .int .u32 (rk f 5), .int .u32 (rk f 6), .int .u32 (rk f 7), .slice T nT cT], .slice A m cA, .pointer (some ⟨gm, 0, none⟩), .agg #[.int .i64 oa, .int .i64 ol], .int .i64 mo] w (RunP w R gm (runR p oa ol ⟨f, ws, st⟩ mo).1 nT [.int .i64 (runR p oa ol ⟨f, ws, st⟩ mo).2.1, .int .i64 (runR p oa ol ⟨f, ws, st⟩ mo).2.2]) := by
  obtain ⟨w1, hw1⟩ : ∃ w1, w1 = ((w.alloc (.cells #[.int .i64 f.pc, .int .u32 (rk f 0), .int .u32 (rk f 1), .int .u32 (rk f 2), .int .u32 (rk f 3), .int .u32 (rk f 4), .int .u32 (rk f 5), .int .u32 (rk f 6), .int .u32 (rk f 7), .slice T nT cT] 44)).alloc (.cells #[.int .i64 oa, .int .i64 ol] 47)).alloc (.cells #[.int .i64 0, .int .u32 0, .int .u32 0, .int .u32 0, .int .u32 0, .int .u32 0, .int .u32 0, .int .u32 0, .int .u32 0, .slice none 0 0] 44) := ⟨_, rfl⟩
  have hs1 : Same w w1 := hw1 ▸ (((Same.refl w).alloc _).alloc _).alloc _
  have hbb : Blk w1 w.heap.size 44 #[.int .i64 f.pc, .int .u32 (rk f 0), .int .u32 (rk f 1), .int .u32 (rk f 2), .int .u32 (rk f 3), .int .u32 (rk f 4), .int .u32 (rk f 5), .int .u32 (rk f 6), .int .u32 (rk f 7), .slice T nT cT] := hw1 ▸ ((Blk.new w _ _).same ((Same.refl _).alloc _)).same ((Same.refl _).alloc _)
  have hbr : Blk w1 (w.heap.size + 1) 47 #[.int .i64 oa, .int .i64 ol] := by
    have h := (Blk.new (w.alloc (.cells #[.int .i64 f.pc, .int .u32 (rk f 0), .int .u32 (rk f 1), .int .u32 (rk f 2), .int .u32 (rk f 3), .int .u32 (rk f 4), .int .u32 (rk f 5), .int .u32 (rk f 6), .int .u32 (rk f 7), .slice T nT cT] 44)) 47 #[.int .i64 oa, .int .i64 ol]).same ((Same.refl _).alloc (.cells #[.int .i64 0, .int .u32 0, .int .u32 0, .int .u32 0, .int .u32 0, .int .u32 0, .int .u32 0, .int .u32 0, .int .u32 0, .slice none 0 0] 44))
    rw [hw1]
    simpa using h
  have hbz : Blk w1 (w.heap.size + 1 + 1) 44 #[.int .i64 0, .int .u32 0, .int .u32 0, .int .u32 0, .int .u32 0, .int .u32 0, .int .u32 0, .int .u32 0, .int .u32 0, .slice none 0 0] := by
    have h := Blk.new ((w.alloc (.cells #[.int .i64 f.pc, .int .u32 (rk f 0), .int .u32 (rk f 1), .int .u32 (rk f 2), .int .u32 (rk f 3), .int .u32 (rk f 4), .int .u32 (rk f 5), .int .u32 (rk f 6), .int .u32 (rk f 7), .slice T nT cT] 44)).alloc (.cells #[.int .i64 oa, .int .i64 ol] 47)) 44 #[.int .i64 0, .int .u32 0, .int .u32 0, .int .u32 0, .int .u32 0, .int .u32 0, .int .u32 0, .int .u32 0, .int .u32 0, .slice none 0 0]
    rw [hw1]
    simpa using h
  have E1 := Lib.hid hw1
  have HS1 := Lib.hid hs1
  have HBZ := Lib.hid hbz
  have HN := Lib.hid hn
  have AP := Lib.hid (fun (w' : World) (hs : Same w1 w') => apart_any f T nT cT w' ((hT.same hs1).same hs) hn hb)
  have H01 := Lib.hid (h0.trans hs1)
  have HM1 := Lib.hid (hmem.same hs1)
  have HRR := Lib.hid (fun i (hi : R i) => (⟨(hR i hi).1, Nat.lt_of_lt_of_le (hR i hi).2 hs1.size⟩ : w0.heap.size ≤ i ∧ i < w1.heap.size))
  have HP := Lib.hid hp
  have HTB := Lib.hid ht
  have HL := Lib.hid hl
  have HW := Lib.hid hw
  have HST := Lib.hid hst
  have H4 := Lib.hid hmem.short
  have HSZ := Lib.hid (show w.heap.size ≤ w1.heap.size from hs1.size)
  have HSZQ := HSZ
  have HB5 := Lib.hid (show w.heap.size + 1 + 1 < w1.heap.size from hbz.lt)
  have HR0 := Lib.hid (fun i (hi : R i) => (hR i hi).2)
  obtain ⟨a0, a1, a2, a3, a4, a5, a6, a7, a8, a9⟩ := (⟨hbb.cell 0, hbb.cell 1, hbb.cell 2, hbb.cell 3, hbb.cell 4, hbb.cell 5, hbb.cell 6, hbb.cell 7, hbb.cell 8, hbb.cell 9⟩ : _ ∧ _ ∧ _ ∧ _ ∧ _ ∧ _ ∧ _ ∧ _ ∧ _ ∧ _)
  obtain ⟨a10, a11⟩ := (⟨hbr.cell 0, hbr.cell 1⟩ : _ ∧ _)
  simp only [List.getElem?_toArray, List.getElem?_cons_zero, List.getElem?_cons_succ] at a0 a1 a2 a3 a4 a5 a6 a7 a8 a9 a10 a11
  clear hw1 hs1 hbb hbr hbz hT hn hp ht h0 hl hmem hR hw hst
  go_enter Tryd.func25, Tryd.ntmps25
  go_upto_region 1 with fail
  rw [← E1.out]
  clear E1
  generalize hq0 : w.heap.size + 1 = b1 at *
  have HQ0 := Lib.hid hq0
  clear hq0
  generalize hq1 : w.heap.size = b0 at *
  have HQ1 := Lib.hid hq1
  clear hq1
  refine wp_region_held_drew (S := (fun w' => w'.cell? ⟨b0, 0, none⟩ = some (.int .i64 f.pc) ∧ w'.cell? ⟨b0, 1, none⟩ = some (.int .u32 (rk f 0)) ∧ w'.cell? ⟨b0, 2, none⟩ = some (.int .u32 (rk f 1)) ∧ w'.cell? ⟨b0, 3, none⟩ = some (.int .u32 (rk f 2)) ∧ w'.cell? ⟨b0, 4, none⟩ = some (.int .u32 (rk f 3)) ∧ w'.cell? ⟨b0, 5, none⟩ = some (.int .u32 (rk f 4)) ∧ w'.cell? ⟨b0, 6, none⟩ = some (.int .u32 (rk f 5)) ∧ w'.cell? ⟨b0, 7, none⟩ = some (.int .u32 (rk f 6)) ∧ w'.cell? ⟨b0, 8, none⟩ = some (.int .u32 (rk f 7)) ∧ w'.cell? ⟨b0, 9, none⟩ = some (.slice T nT cT) ∧ w'.cell? ⟨b1, 0, none⟩ = some (.int .i64 oa) ∧ w'.cell? ⟨b1, 1, none⟩ = some (.int .i64 ol))) (by kernel_rfl) ?_ (fun hHeld => ?_)
  · exact ⟨((Same.refl w1).drew).cell a0, ((Same.refl w1).drew).cell a1, ((Same.refl w1).drew).cell a2, ((Same.refl w1).drew).cell a3, ((Same.refl w1).drew).cell a4, ((Same.refl w1).drew).cell a5, ((Same.refl w1).drew).cell a6, ((Same.refl w1).drew).cell a7, ((Same.refl w1).drew).cell a8, ((Same.refl w1).drew).cell a9, ((Same.refl w1).drew).cell a10, ((Same.refl w1).drew).cell a11⟩
  refine Ro.take_on (i := 0) (v := ?_) rfl (by kernel_rfl) (by kernel_rfl) (by kernel_rfl) (fun _ _ _ h => h) (by rfl) (by assumption) ?_ ?_
  rotate_left
  · intro wS hSw; (try dsimp only at hSw); go_simp; try with_reducible rfl
  try simp only [Act.put, List.setIfInBounds_toArray, List.set_cons_zero, List.set_cons_succ]
  refine Ro.take_on (i := 2) (v := ?_) rfl (by kernel_rfl) (by kernel_rfl) (by kernel_rfl) (fun _ _ _ h => h) (by rfl) (by assumption) ?_ ?_
  rotate_left
  · intro wS hSw; (try dsimp only at hSw); go_simp; try with_reducible rfl
  try simp only [Act.put, List.setIfInBounds_toArray, List.set_cons_zero, List.set_cons_succ]
  refine Ro.take_on (i := 3) (v := ?_) rfl (by kernel_rfl) (by kernel_rfl) (by kernel_rfl) (fun _ _ _ h => h) (by rfl) (by assumption) ?_ ?_
  rotate_left
  · intro wS hSw; (try dsimp only at hSw); go_simp; try with_reducible rfl
  try simp only [Act.put, List.setIfInBounds_toArray, List.set_cons_zero, List.set_cons_succ]
  refine Ro.take_on (i := 4) (v := ?_) rfl (by kernel_rfl) (by kernel_rfl) (by kernel_rfl) (fun _ _ _ h => h) (by rfl) (by assumption) ?_ ?_
  rotate_left
  · intro wS hSw; (try dsimp only at hSw); go_simp; try with_reducible rfl
  try simp only [Act.put, List.setIfInBounds_toArray, List.set_cons_zero, List.set_cons_succ]
  refine Ra.two_on (i := 1) (j := 6) rfl rfl (by kernel_rfl) (by rfl) (by rfl) (fun K hK => ?_) (fun K hK => ?_)
  · go_simp
    go_at_call 47
    refine (AP.out _ ((Same.refl w1).drew)).mono ?_
    rintro e w3 ⟨T', c', rfl, ho, s3⟩
    have HSX := Lib.hid s3.size
    refine hK.out _ _ ?_ (fun hNew => ?_)
    · exact ⟨(s3).cell hHeld.1, (s3).cell hHeld.2.1, (s3).cell hHeld.2.2.1, (s3).cell hHeld.2.2.2.1, (s3).cell hHeld.2.2.2.2.1, (s3).cell hHeld.2.2.2.2.2.1, (s3).cell hHeld.2.2.2.2.2.2.1, (s3).cell hHeld.2.2.2.2.2.2.2.1, (s3).cell hHeld.2.2.2.2.2.2.2.2.1, (s3).cell hHeld.2.2.2.2.2.2.2.2.2.1, (s3).cell hHeld.2.2.2.2.2.2.2.2.2.2.1, (s3).cell hHeld.2.2.2.2.2.2.2.2.2.2.2⟩
    clear hK K hHeld; have hHeld := hNew; clear hNew
    try simp only [Act.put, List.setIfInBounds_toArray, List.set_cons_zero, List.set_cons_succ]
    have HO := Lib.hid (ho.base (B' := w1.heap.size) (by first | exact Nat.le_refl _ | simp))
    clear ho
    refine Ro.take_on (i := 5) (v := ?_) rfl (by kernel_rfl) (by kernel_rfl) (by kernel_rfl) (fun _ _ _ h => h) (by rfl) (by assumption) ?_ ?_
    rotate_left
    · intro wS hSw; (try dsimp only at hSw); go_simp; try with_reducible rfl
    try simp only [Act.put, List.setIfInBounds_toArray, List.set_cons_zero, List.set_cons_succ]
    refine Ro.one_on (i := 6) rfl (by kernel_rfl) (by rfl) (fun K hK => ?_)
    go_simp
    refine hK.out _ _ ?_ (fun hNew => ?_)
    · exact ⟨((Same.refl w3).alloc (.cells #[.int .i64 0, .int .u32 0, .int .u32 0, .int .u32 0, .int .u32 0, .int .u32 0, .int .u32 0, .int .u32 0, .int .u32 0, .slice none 0 0, .slice none 0 0, .pointer none, .int .i64 0, .int .i64 0] 97)).cell hHeld.1, ((Same.refl w3).alloc (.cells #[.int .i64 0, .int .u32 0, .int .u32 0, .int .u32 0, .int .u32 0, .int .u32 0, .int .u32 0, .int .u32 0, .int .u32 0, .slice none 0 0, .slice none 0 0, .pointer none, .int .i64 0, .int .i64 0] 97)).cell hHeld.2.1, ((Same.refl w3).alloc (.cells #[.int .i64 0, .int .u32 0, .int .u32 0, .int .u32 0, .int .u32 0, .int .u32 0, .int .u32 0, .int .u32 0, .int .u32 0, .slice none 0 0, .slice none 0 0, .pointer none, .int .i64 0, .int .i64 0] 97)).cell hHeld.2.2.1, ((Same.refl w3).alloc (.cells #[.int .i64 0, .int .u32 0, .int .u32 0, .int .u32 0, .int .u32 0, .int .u32 0, .int .u32 0, .int .u32 0, .int .u32 0, .slice none 0 0, .slice none 0 0, .pointer none, .int .i64 0, .int .i64 0] 97)).cell hHeld.2.2.2.1, ((Same.refl w3).alloc (.cells #[.int .i64 0, .int .u32 0, .int .u32 0, .int .u32 0, .int .u32 0, .int .u32 0, .int .u32 0, .int .u32 0, .int .u32 0, .slice none 0 0, .slice none 0 0, .pointer none, .int .i64 0, .int .i64 0] 97)).cell hHeld.2.2.2.2.1, ((Same.refl w3).alloc (.cells #[.int .i64 0, .int .u32 0, .int .u32 0, .int .u32 0, .int .u32 0, .int .u32 0, .int .u32 0, .int .u32 0, .int .u32 0, .slice none 0 0, .slice none 0 0, .pointer none, .int .i64 0, .int .i64 0] 97)).cell hHeld.2.2.2.2.2.1, ((Same.refl w3).alloc (.cells #[.int .i64 0, .int .u32 0, .int .u32 0, .int .u32 0, .int .u32 0, .int .u32 0, .int .u32 0, .int .u32 0, .int .u32 0, .slice none 0 0, .slice none 0 0, .pointer none, .int .i64 0, .int .i64 0] 97)).cell hHeld.2.2.2.2.2.2.1, ((Same.refl w3).alloc (.cells #[.int .i64 0, .int .u32 0, .int .u32 0, .int .u32 0, .int .u32 0, .int .u32 0, .int .u32 0, .int .u32 0, .int .u32 0, .slice none 0 0, .slice none 0 0, .pointer none, .int .i64 0, .int .i64 0] 97)).cell hHeld.2.2.2.2.2.2.2.1, ((Same.refl w3).alloc (.cells #[.int .i64 0, .int .u32 0, .int .u32 0, .int .u32 0, .int .u32 0, .int .u32 0, .int .u32 0, .int .u32 0, .int .u32 0, .slice none 0 0, .slice none 0 0, .pointer none, .int .i64 0, .int .i64 0] 97)).cell hHeld.2.2.2.2.2.2.2.2.1, ((Same.refl w3).alloc (.cells #[.int .i64 0, .int .u32 0, .int .u32 0, .int .u32 0, .int .u32 0, .int .u32 0, .int .u32 0, .int .u32 0, .int .u32 0, .slice none 0 0, .slice none 0 0, .pointer none, .int .i64 0, .int .i64 0] 97)).cell hHeld.2.2.2.2.2.2.2.2.2.1, ((Same.refl w3).alloc (.cells #[.int .i64 0, .int .u32 0, .int .u32 0, .int .u32 0, .int .u32 0, .int .u32 0, .int .u32 0, .int .u32 0, .int .u32 0, .slice none 0 0, .slice none 0 0, .pointer none, .int .i64 0, .int .i64 0] 97)).cell hHeld.2.2.2.2.2.2.2.2.2.2.1, ((Same.refl w3).alloc (.cells #[.int .i64 0, .int .u32 0, .int .u32 0, .int .u32 0, .int .u32 0, .int .u32 0, .int .u32 0, .int .u32 0, .int .u32 0, .slice none 0 0, .slice none 0 0, .pointer none, .int .i64 0, .int .i64 0] 97)).cell hHeld.2.2.2.2.2.2.2.2.2.2.2⟩
    clear hK K hHeld; have hHeld := hNew; clear hNew
    try simp only [Act.put, List.setIfInBounds_toArray, List.set_cons_zero, List.set_cons_succ]
    obtain ⟨w4, hw4⟩ : ∃ w4, w4 = w3.alloc (.cells #[.int .i64 0, .int .u32 0, .int .u32 0, .int .u32 0, .int .u32 0, .int .u32 0, .int .u32 0, .int .u32 0, .int .u32 0, .slice none 0 0, .slice none 0 0, .pointer none, .int .i64 0, .int .i64 0] 97) := ⟨_, rfl⟩
    obtain ⟨gx, hgx⟩ : ∃ gx, gx = w3.heap.size := ⟨_, rfl⟩
    have HB4 := Lib.hid (show Blk w4 gx 97 #[.int .i64 0, .int .u32 0, .int .u32 0, .int .u32 0, .int .u32 0, .int .u32 0, .int .u32 0, .int .u32 0, .int .u32 0, .slice none 0 0, .slice none 0 0, .pointer none, .int .i64 0, .int .i64 0] by rw [hw4, hgx]; exact Blk.new w3 _ _)
    have HS4 := Lib.hid (show Same w1 w4 by rw [hw4]; exact (((Same.refl w1).drew).trans s3).alloc _)
    have HO4 := Lib.hid (show Own w4 w1.heap.size 3 T' c' (f.tn.map (Value.int .i64)) by rw [hw4]; exact HO.out.same ((Same.refl w3).alloc _))
    have HGX := Lib.hid (show w1.heap.size ≤ gx by rw [hgx]; first | exact Nat.le_refl _ | exact HSX.out)
    rw [← hw4, ← hgx]
    rw [← hw4] at hHeld
    clear hw4 hgx
    refine Ro.one_on (i := 7) rfl (by kernel_rfl) (by rfl) (fun K hK => ?_)
    have hz := HB4.out.lt
    obtain ⟨y0, y1, y2, y3, y4, y5, y6, y7, y8, y9, y10, y11, y12, y13⟩ := (⟨HB4.out.cell 0, HB4.out.cell 1, HB4.out.cell 2, HB4.out.cell 3, HB4.out.cell 4, HB4.out.cell 5, HB4.out.cell 6, HB4.out.cell 7, HB4.out.cell 8, HB4.out.cell 9, HB4.out.cell 10, HB4.out.cell 11, HB4.out.cell 12, HB4.out.cell 13⟩ : _ ∧ _ ∧ _ ∧ _ ∧ _ ∧ _ ∧ _ ∧ _ ∧ _ ∧ _ ∧ _ ∧ _ ∧ _ ∧ _)
    simp only [List.getElem?_toArray, List.getElem?_cons_zero, List.getElem?_cons_succ] at y0 y1 y2 y3 y4 y5 y6 y7 y8 y9 y10 y11 y12 y13
    obtain ⟨u0, u1, u2, u3, u4, u5, u6, u7, u8, u9, u10, u11, u12, u13⟩ := (⟨HB4.out.thaw 0, HB4.out.thaw 1, HB4.out.thaw 2, HB4.out.thaw 3, HB4.out.thaw 4, HB4.out.thaw 5, HB4.out.thaw 6, HB4.out.thaw 7, HB4.out.thaw 8, HB4.out.thaw 9, HB4.out.thaw 10, HB4.out.thaw 11, HB4.out.thaw 12, HB4.out.thaw 13⟩ : _ ∧ _ ∧ _ ∧ _ ∧ _ ∧ _ ∧ _ ∧ _ ∧ _ ∧ _ ∧ _ ∧ _ ∧ _ ∧ _)
    obtain ⟨w5, hw5⟩ : ∃ w5, w5 = ((((((((((((((w4.setCell ⟨gx, 0, none⟩ (.int .i64 f.pc)).setCell ⟨gx, 1, none⟩ (.int .u32 (rk f 0))).setCell ⟨gx, 2, none⟩ (.int .u32 (rk f 1))).setCell ⟨gx, 3, none⟩ (.int .u32 (rk f 2))).setCell ⟨gx, 4, none⟩ (.int .u32 (rk f 3))).setCell ⟨gx, 5, none⟩ (.int .u32 (rk f 4))).setCell ⟨gx, 6, none⟩ (.int .u32 (rk f 5))).setCell ⟨gx, 7, none⟩ (.int .u32 (rk f 6))).setCell ⟨gx, 8, none⟩ (.int .u32 (rk f 7))).setCell ⟨gx, 9, none⟩ (.slice T' nT c')).setCell ⟨gx, 10, none⟩ (.slice A m cA)).setCell ⟨gx, 11, none⟩ (.pointer (some ⟨gm, 0, none⟩))).setCell ⟨gx, 12, none⟩ (.int .i64 oa)).setCell ⟨gx, 13, none⟩ (.int .i64 ol)) := ⟨_, rfl⟩
    obtain ⟨h13, hs13⟩ := mk13 HB4.out HO4.out HN.out HM1.out HS4.out H01.out HRR.out HGX.out w5 hw5
    have H13 := Lib.hid h13
    have S13' := Lib.hid hs13
    have HW5 := Lib.hid hw5
    have S45 := Lib.hid (puts14 (v0 := .int .i64 f.pc) (v1 := .int .u32 (rk f 0)) (v2 := .int .u32 (rk f 1)) (v3 := .int .u32 (rk f 2)) (v4 := .int .u32 (rk f 3)) (v5 := .int .u32 (rk f 4)) (v6 := .int .u32 (rk f 5)) (v7 := .int .u32 (rk f 6)) (v8 := .int .u32 (rk f 7)) (v9 := .slice T' nT c') (v10 := .slice A m cA) (v11 := .pointer (some ⟨gm, 0, none⟩)) (v12 := .int .i64 oa) (v13 := .int .i64 ol) HB4.out).2
    clear h13 hs13 hw5 hz
    go_wp2_with fail
    rw [← HW5.out]
    clear y0 y1 y2 y3 y4 y5 y6 y7 y8 y9 y10 y11 y12 y13 u0 u1 u2 u3 u4 u5 u6 u7 u8 u9 u10 u11 u12 u13
    refine hK.out _ _ ?_ (fun hNew => ?_)
    · rw [HW5.out]; exact ⟨S45.out.cell hHeld.1 (by have := HGX.out; have := HB5.out; have := HQ0.out; have := HQ1.out; simp only; omega), S45.out.cell hHeld.2.1 (by have := HGX.out; have := HB5.out; have := HQ0.out; have := HQ1.out; simp only; omega), S45.out.cell hHeld.2.2.1 (by have := HGX.out; have := HB5.out; have := HQ0.out; have := HQ1.out; simp only; omega), S45.out.cell hHeld.2.2.2.1 (by have := HGX.out; have := HB5.out; have := HQ0.out; have := HQ1.out; simp only; omega), S45.out.cell hHeld.2.2.2.2.1 (by have := HGX.out; have := HB5.out; have := HQ0.out; have := HQ1.out; simp only; omega), S45.out.cell hHeld.2.2.2.2.2.1 (by have := HGX.out; have := HB5.out; have := HQ0.out; have := HQ1.out; simp only; omega), S45.out.cell hHeld.2.2.2.2.2.2.1 (by have := HGX.out; have := HB5.out; have := HQ0.out; have := HQ1.out; simp only; omega), S45.out.cell hHeld.2.2.2.2.2.2.2.1 (by have := HGX.out; have := HB5.out; have := HQ0.out; have := HQ1.out; simp only; omega), S45.out.cell hHeld.2.2.2.2.2.2.2.2.1 (by have := HGX.out; have := HB5.out; have := HQ0.out; have := HQ1.out; simp only; omega), S45.out.cell hHeld.2.2.2.2.2.2.2.2.2.1 (by have := HGX.out; have := HB5.out; have := HQ0.out; have := HQ1.out; simp only; omega), S45.out.cell hHeld.2.2.2.2.2.2.2.2.2.2.1 (by have := HGX.out; have := HB5.out; have := HQ0.out; have := HQ1.out; simp only; omega), S45.out.cell hHeld.2.2.2.2.2.2.2.2.2.2.2 (by have := HGX.out; have := HB5.out; have := HQ0.out; have := HQ1.out; simp only; omega)⟩
    clear hK K hHeld; have hHeld := hNew; clear hNew
    try simp only [Act.put, List.setIfInBounds_toArray, List.set_cons_zero, List.set_cons_succ]
    refine wpAnyH_done (by kernel_rfl) ?_ _
    clear hHeld
    have HBZ2 := Lib.hid (HBZ.out.same S13'.out)
    by_cases hmo : mo ≤ 0
    · have HE0 := Lib.hid (show runR p oa ol ⟨f, ws, st⟩ mo = (⟨f, ws, st⟩, 0, 0) from run_zero hmo)
      rcases (show mo < 0 ∨ mo = 0 by omega) with hneg | hzer
      · have HE := HE0
        have CR := Lib.hid (show Chg R w w5 from (HS1.out.trans S13'.out).chg R)
        clear hmo
        go_wp2_with fail
        go_loopg [33] 0 (fun gk iv wx => iv = .int .i64 0 ∧ wx = w5)
        case atStart => exact ⟨rfl, rfl⟩
        case round =>
          obtain ⟨rfl, hwr⟩ := hrel
          rw [hwr]
          clear hwr
          obtain ⟨x0, x1, x2, x3, x4, x5, x6, x7, x8, x9⟩ := (⟨H13.out.wk.cell 0, H13.out.wk.cell 1, H13.out.wk.cell 2, H13.out.wk.cell 3, H13.out.wk.cell 4, H13.out.wk.cell 5, H13.out.wk.cell 6, H13.out.wk.cell 7, H13.out.wk.cell 8, H13.out.wk.cell 9⟩ : _ ∧ _ ∧ _ ∧ _ ∧ _ ∧ _ ∧ _ ∧ _ ∧ _ ∧ _)
          simp only [List.getElem?_toArray, List.getElem?_cons_zero, List.getElem?_cons_succ] at x0 x1 x2 x3 x4 x5 x6 x7 x8 x9
          obtain ⟨y0, y1, y2, y3, y4, y5, y6, y7, y8, y9⟩ := (⟨HBZ2.out.cell 0, HBZ2.out.cell 1, HBZ2.out.cell 2, HBZ2.out.cell 3, HBZ2.out.cell 4, HBZ2.out.cell 5, HBZ2.out.cell 6, HBZ2.out.cell 7, HBZ2.out.cell 8, HBZ2.out.cell 9⟩ : _ ∧ _ ∧ _ ∧ _ ∧ _ ∧ _ ∧ _ ∧ _ ∧ _ ∧ _)
          simp only [List.getElem?_toArray, List.getElem?_cons_zero, List.getElem?_cons_succ] at y0 y1 y2 y3 y4 y5 y6 y7 y8 y9
          obtain ⟨u0, u1, u2, u3, u4, u5, u6, u7, u8, u9⟩ := (⟨HBZ2.out.thaw 0, HBZ2.out.thaw 1, HBZ2.out.thaw 2, HBZ2.out.thaw 3, HBZ2.out.thaw 4, HBZ2.out.thaw 5, HBZ2.out.thaw 6, HBZ2.out.thaw 7, HBZ2.out.thaw 8, HBZ2.out.thaw 9⟩ : _ ∧ _ ∧ _ ∧ _ ∧ _ ∧ _ ∧ _ ∧ _ ∧ _ ∧ _)
          go_wp2_with fail
          clear x0 x1 x2 x3 x4 x5 x6 x7 x8 x9 y0 y1 y2 y3 y4 y5 y6 y7 y8 y9 u0 u1 u2 u3 u4 u5 u6 u7 u8 u9
          obtain ⟨p1, p2⟩ := puts10 (v0 := .int .i64 f.pc) (v1 := .int .u32 (rk f 0)) (v2 := .int .u32 (rk f 1)) (v3 := .int .u32 (rk f 2)) (v4 := .int .u32 (rk f 3)) (v5 := .int .u32 (rk f 4)) (v6 := .int .u32 (rk f 5)) (v7 := .int .u32 (rk f 6)) (v8 := .int .u32 (rk f 7)) (v9 := .slice T' nT c') (w := w5) HBZ2.out
          refine bodyPost_ret (v := .tuple #[.agg #[.int .i64 f.pc, .int .u32 (rk f 0), .int .u32 (rk f 1), .int .u32 (rk f 2), .int .u32 (rk f 3), .int .u32 (rk f 4), .int .u32 (rk f 5), .int .u32 (rk f 6), .int .u32 (rk f 7), .slice T' nT c'], .int .i64 0, .int .i64 0]) (results_cell3 Tryd.results25 _ _ (b1 + 1) 44 #[.int .i64 f.pc, .int .u32 (rk f 0), .int .u32 (rk f 1), .int .u32 (rk f 2), .int .u32 (rk f 3), .int .u32 (rk f 4), .int .u32 (rk f 5), .int .u32 (rk f 6), .int .u32 (rk f 7), .slice T' nT c'] (0, 0) _ rfl p1 Tryd.underlying44 rfl frm_size) rfl ?_
          have hT2 := own_ge1 HO4.out
          have hsz := HSZ.out
          have hb5 := HB5.out
          have o1 := run_p (w := w) H13.out (fun i hi => by have := hT2 i hi; have := HSZQ.out; have := HQ0.out; have := HQ1.out; omega)
          rw [HE.out]
          exact ⟨T', c', rfl, o1.chg p2 (fun g hg he => H13.out.tn.ne HBZ2.out (by decide) g hg he), H13.out.mem.chg p2 (fun i hi he => by have := HR0.out i hi; have := HQ0.out; omega), chg_nw CR.out p2 (by have := HQ0.out; have := HQ1.out; omega)⟩
      · subst hzer
        have HE := HE0
        have CR := Lib.hid (show Chg R w w5 from (HS1.out.trans S13'.out).chg R)
        clear hmo
        go_wp2_with fail
        go_loopg [33] 0 (fun gk iv wx => iv = .int .i64 0 ∧ wx = w5)
        case atStart => exact ⟨rfl, rfl⟩
        case round =>
          obtain ⟨rfl, hwr⟩ := hrel
          rw [hwr]
          clear hwr
          obtain ⟨x0, x1, x2, x3, x4, x5, x6, x7, x8, x9⟩ := (⟨H13.out.wk.cell 0, H13.out.wk.cell 1, H13.out.wk.cell 2, H13.out.wk.cell 3, H13.out.wk.cell 4, H13.out.wk.cell 5, H13.out.wk.cell 6, H13.out.wk.cell 7, H13.out.wk.cell 8, H13.out.wk.cell 9⟩ : _ ∧ _ ∧ _ ∧ _ ∧ _ ∧ _ ∧ _ ∧ _ ∧ _ ∧ _)
          simp only [List.getElem?_toArray, List.getElem?_cons_zero, List.getElem?_cons_succ] at x0 x1 x2 x3 x4 x5 x6 x7 x8 x9
          obtain ⟨y0, y1, y2, y3, y4, y5, y6, y7, y8, y9⟩ := (⟨HBZ2.out.cell 0, HBZ2.out.cell 1, HBZ2.out.cell 2, HBZ2.out.cell 3, HBZ2.out.cell 4, HBZ2.out.cell 5, HBZ2.out.cell 6, HBZ2.out.cell 7, HBZ2.out.cell 8, HBZ2.out.cell 9⟩ : _ ∧ _ ∧ _ ∧ _ ∧ _ ∧ _ ∧ _ ∧ _ ∧ _ ∧ _)
          simp only [List.getElem?_toArray, List.getElem?_cons_zero, List.getElem?_cons_succ] at y0 y1 y2 y3 y4 y5 y6 y7 y8 y9
          obtain ⟨u0, u1, u2, u3, u4, u5, u6, u7, u8, u9⟩ := (⟨HBZ2.out.thaw 0, HBZ2.out.thaw 1, HBZ2.out.thaw 2, HBZ2.out.thaw 3, HBZ2.out.thaw 4, HBZ2.out.thaw 5, HBZ2.out.thaw 6, HBZ2.out.thaw 7, HBZ2.out.thaw 8, HBZ2.out.thaw 9⟩ : _ ∧ _ ∧ _ ∧ _ ∧ _ ∧ _ ∧ _ ∧ _ ∧ _ ∧ _)
          go_wp2_with fail
          clear x0 x1 x2 x3 x4 x5 x6 x7 x8 x9 y0 y1 y2 y3 y4 y5 y6 y7 y8 y9 u0 u1 u2 u3 u4 u5 u6 u7 u8 u9
          obtain ⟨p1, p2⟩ := puts10 (v0 := .int .i64 f.pc) (v1 := .int .u32 (rk f 0)) (v2 := .int .u32 (rk f 1)) (v3 := .int .u32 (rk f 2)) (v4 := .int .u32 (rk f 3)) (v5 := .int .u32 (rk f 4)) (v6 := .int .u32 (rk f 5)) (v7 := .int .u32 (rk f 6)) (v8 := .int .u32 (rk f 7)) (v9 := .slice T' nT c') (w := w5) HBZ2.out
          refine bodyPost_ret (v := .tuple #[.agg #[.int .i64 f.pc, .int .u32 (rk f 0), .int .u32 (rk f 1), .int .u32 (rk f 2), .int .u32 (rk f 3), .int .u32 (rk f 4), .int .u32 (rk f 5), .int .u32 (rk f 6), .int .u32 (rk f 7), .slice T' nT c'], .int .i64 0, .int .i64 0]) (results_cell3 Tryd.results25 _ _ (b1 + 1) 44 #[.int .i64 f.pc, .int .u32 (rk f 0), .int .u32 (rk f 1), .int .u32 (rk f 2), .int .u32 (rk f 3), .int .u32 (rk f 4), .int .u32 (rk f 5), .int .u32 (rk f 6), .int .u32 (rk f 7), .slice T' nT c'] (0, 0) _ rfl p1 Tryd.underlying44 rfl frm_size) rfl ?_
          have hT2 := own_ge1 HO4.out
          have hsz := HSZ.out
          have hb5 := HB5.out
          have o1 := run_p (w := w) H13.out (fun i hi => by have := hT2 i hi; have := HSZQ.out; have := HQ0.out; have := HQ1.out; omega)
          rw [HE.out]
          exact ⟨T', c', rfl, o1.chg p2 (fun g hg he => H13.out.tn.ne HBZ2.out (by decide) g hg he), H13.out.mem.chg p2 (fun i hi he => by have := HR0.out i hi; have := HQ0.out; omega), chg_nw CR.out p2 (by have := HQ0.out; have := HQ1.out; omega)⟩
    · obtain ⟨N, hN⟩ : ∃ N : Nat, mo = (N : Int) := ⟨mo.toNat, by omega⟩
      have hN0 : 0 < N := by omega
      subst hN
      have hnn : ¬ (N : Int) < 0 := by omega
      have hN1 : (0 : Int) < N := by omega
      have HN0 := Lib.hid hmob
      have HNP := Lib.hid hN0
      clear hmo
      go_wp2_with fail
      refine (may_any H13.out HP.out HTB.out HL.out hm hb).mono ?_
      rintro e w6 ⟨rfl, s6⟩
      have H6 := Lib.hid (H13.out.of_same s6)
      have HBZ6 := Lib.hid (HBZ2.out.same s6)
      have S6 := Lib.hid (S13'.out.trans s6)
      clear s6 H13 HBZ2
      cases hmb : mayB p ⟨f, ws, st⟩ oa ol with
      | false =>
        have HE := Lib.hid (show runR p oa ol ⟨f, ws, st⟩ N = (⟨f, ws, st⟩, 0, 3) from run_off HNP.out hmb)
        clear hmb
        have HBZ2 := HBZ6
        have CR := Lib.hid (show Chg R w w6 from (HS1.out.trans S6.out).chg R)
        obtain ⟨x0, x1, x2, x3, x4, x5, x6, x7, x8, x9⟩ := (⟨H6.out.wk.cell 0, H6.out.wk.cell 1, H6.out.wk.cell 2, H6.out.wk.cell 3, H6.out.wk.cell 4, H6.out.wk.cell 5, H6.out.wk.cell 6, H6.out.wk.cell 7, H6.out.wk.cell 8, H6.out.wk.cell 9⟩ : _ ∧ _ ∧ _ ∧ _ ∧ _ ∧ _ ∧ _ ∧ _ ∧ _ ∧ _)
        simp only [List.getElem?_toArray, List.getElem?_cons_zero, List.getElem?_cons_succ] at x0 x1 x2 x3 x4 x5 x6 x7 x8 x9
        obtain ⟨y0, y1, y2, y3, y4, y5, y6, y7, y8, y9⟩ := (⟨HBZ2.out.cell 0, HBZ2.out.cell 1, HBZ2.out.cell 2, HBZ2.out.cell 3, HBZ2.out.cell 4, HBZ2.out.cell 5, HBZ2.out.cell 6, HBZ2.out.cell 7, HBZ2.out.cell 8, HBZ2.out.cell 9⟩ : _ ∧ _ ∧ _ ∧ _ ∧ _ ∧ _ ∧ _ ∧ _ ∧ _ ∧ _)
        simp only [List.getElem?_toArray, List.getElem?_cons_zero, List.getElem?_cons_succ] at y0 y1 y2 y3 y4 y5 y6 y7 y8 y9
        obtain ⟨u0, u1, u2, u3, u4, u5, u6, u7, u8, u9⟩ := (⟨HBZ2.out.thaw 0, HBZ2.out.thaw 1, HBZ2.out.thaw 2, HBZ2.out.thaw 3, HBZ2.out.thaw 4, HBZ2.out.thaw 5, HBZ2.out.thaw 6, HBZ2.out.thaw 7, HBZ2.out.thaw 8, HBZ2.out.thaw 9⟩ : _ ∧ _ ∧ _ ∧ _ ∧ _ ∧ _ ∧ _ ∧ _ ∧ _ ∧ _)
        go_wp2_with fail
        clear x0 x1 x2 x3 x4 x5 x6 x7 x8 x9 y0 y1 y2 y3 y4 y5 y6 y7 y8 y9 u0 u1 u2 u3 u4 u5 u6 u7 u8 u9
        obtain ⟨p1, p2⟩ := puts10 (v0 := .int .i64 f.pc) (v1 := .int .u32 (rk f 0)) (v2 := .int .u32 (rk f 1)) (v3 := .int .u32 (rk f 2)) (v4 := .int .u32 (rk f 3)) (v5 := .int .u32 (rk f 4)) (v6 := .int .u32 (rk f 5)) (v7 := .int .u32 (rk f 6)) (v8 := .int .u32 (rk f 7)) (v9 := .slice T' nT c') (w := w6) HBZ2.out
        refine bodyPost_ret (v := .tuple #[.agg #[.int .i64 f.pc, .int .u32 (rk f 0), .int .u32 (rk f 1), .int .u32 (rk f 2), .int .u32 (rk f 3), .int .u32 (rk f 4), .int .u32 (rk f 5), .int .u32 (rk f 6), .int .u32 (rk f 7), .slice T' nT c'], .int .i64 0, .int .i64 3]) (results_cell3 Tryd.results25 _ _ (b1 + 1) 44 #[.int .i64 f.pc, .int .u32 (rk f 0), .int .u32 (rk f 1), .int .u32 (rk f 2), .int .u32 (rk f 3), .int .u32 (rk f 4), .int .u32 (rk f 5), .int .u32 (rk f 6), .int .u32 (rk f 7), .slice T' nT c'] (0, 0) _ rfl p1 Tryd.underlying44 rfl frm_size) rfl ?_
        have hT2 := own_ge1 HO4.out
        have hsz := HSZ.out
        have hb5 := HB5.out
        have o1 := run_p (w := w) H6.out (fun i hi => by have := hT2 i hi; have := HSZQ.out; have := HQ0.out; have := HQ1.out; omega)
        rw [HE.out]
        exact ⟨T', c', rfl, o1.chg p2 (fun g hg he => H6.out.tn.ne HBZ2.out (by decide) g hg he), H6.out.mem.chg p2 (fun i hi he => by have := HR0.out i hi; have := HQ0.out; omega), chg_nw CR.out p2 (by have := HQ0.out; have := HQ1.out; omega)⟩
      | true =>
        have HRR2 := Lib.hid (show runR p oa ol ⟨f, ws, st⟩ N = ((runW p oa ol N ⟨f, ws, st⟩).1, ((runW p oa ol N ⟨f, ws, st⟩).2.1 : Int), (runW p oa ol N ⟨f, ws, st⟩).2.2) from run_some hmb)
        have HIN := Lib.hid (⟨hmb, by rw [← cst_len]; exact H4.out⟩ : mayB p ⟨f, ws, st⟩ oa ol = true ∧ ws.length ≤ 4096)
        have HI0 := Lib.hid (loop_start hmb HW.out)
        have HOK := Lib.hid (may_ok hmb)
        have HFN := Lib.hid (okB_fine HOK.out)
        have HNN := Lib.hid HP.out.nn
        have HOKI := Lib.hid (fun j (hj : j < p.length) => HP.out.ok hj)
        clear hmb
        go_wp2_with fail
        go_loopg [33] N (fun gk iv wx => ∃ k : Nat, k + gk = N ∧ iv = .int .i64 k ∧ LoopI p oa ol ⟨f, ws, st⟩ k ∧ W13 w0 wx R gx gm (stN p oa ol k ⟨f, ws, st⟩) T' nT c' A m cA oa ol ∧ Chg (S13 R gx T') w6 wx)
        case atStart => exact ⟨0, by omega, rfl, HI0.out, H6.out, Chg.refl _ _⟩
        case round =>
          obtain ⟨k, hk, rfl, hi, hx, hc⟩ := hrel
          have HI := Lib.hid hi
          have HX := Lib.hid hx
          have HC := Lib.hid hc
          clear hi hx hc
          cases gk with
          | zero =>
            obtain rfl : k = N := by omega
            have hge : ¬ (k : Int) < (k : Int) := by omega
            have HE := Lib.hid (show runR p oa ol ⟨f, ws, st⟩ (k : Int) = (stN p oa ol k ⟨f, ws, st⟩, (k : Int), 0) by rw [HRR2.out, runW_all HI.out.kinds])
            have hT2 := own_ge1 HO4.out
            have HBZ2 := Lib.hid (HBZ6.out.chg HC.out (fun hS => by
              have := HB5.out
              have := HGX.out
              rcases hS with hS | hS | hS
              · omega
              · have := hT2 _ hS; omega
              · have := HR0.out _ hS; have := HQ0.out; omega))
            have CR := Lib.hid (show Chg R w wr from chg_R (HS1.out.trans S6.out) HC.out (by have := HGX.out; have := HSZQ.out; have := HQ0.out; have := HQ1.out; omega) (fun i hi => by have := hT2 i hi; have := HSZQ.out; have := HQ0.out; have := HQ1.out; omega))
            clear hT2
            generalize stN p oa ol k ⟨f, ws, st⟩ = s' at *
            obtain ⟨x0, x1, x2, x3, x4, x5, x6, x7, x8, x9⟩ := (⟨HX.out.wk.cell 0, HX.out.wk.cell 1, HX.out.wk.cell 2, HX.out.wk.cell 3, HX.out.wk.cell 4, HX.out.wk.cell 5, HX.out.wk.cell 6, HX.out.wk.cell 7, HX.out.wk.cell 8, HX.out.wk.cell 9⟩ : _ ∧ _ ∧ _ ∧ _ ∧ _ ∧ _ ∧ _ ∧ _ ∧ _ ∧ _)
            simp only [List.getElem?_toArray, List.getElem?_cons_zero, List.getElem?_cons_succ] at x0 x1 x2 x3 x4 x5 x6 x7 x8 x9
            obtain ⟨y0, y1, y2, y3, y4, y5, y6, y7, y8, y9⟩ := (⟨HBZ2.out.cell 0, HBZ2.out.cell 1, HBZ2.out.cell 2, HBZ2.out.cell 3, HBZ2.out.cell 4, HBZ2.out.cell 5, HBZ2.out.cell 6, HBZ2.out.cell 7, HBZ2.out.cell 8, HBZ2.out.cell 9⟩ : _ ∧ _ ∧ _ ∧ _ ∧ _ ∧ _ ∧ _ ∧ _ ∧ _ ∧ _)
            simp only [List.getElem?_toArray, List.getElem?_cons_zero, List.getElem?_cons_succ] at y0 y1 y2 y3 y4 y5 y6 y7 y8 y9
            obtain ⟨u0, u1, u2, u3, u4, u5, u6, u7, u8, u9⟩ := (⟨HBZ2.out.thaw 0, HBZ2.out.thaw 1, HBZ2.out.thaw 2, HBZ2.out.thaw 3, HBZ2.out.thaw 4, HBZ2.out.thaw 5, HBZ2.out.thaw 6, HBZ2.out.thaw 7, HBZ2.out.thaw 8, HBZ2.out.thaw 9⟩ : _ ∧ _ ∧ _ ∧ _ ∧ _ ∧ _ ∧ _ ∧ _ ∧ _ ∧ _)
            go_wp2_with fail
            clear x0 x1 x2 x3 x4 x5 x6 x7 x8 x9 y0 y1 y2 y3 y4 y5 y6 y7 y8 y9 u0 u1 u2 u3 u4 u5 u6 u7 u8 u9
            obtain ⟨p1, p2⟩ := puts10 (v0 := .int .i64 s'.f.pc) (v1 := .int .u32 (rk s'.f 0)) (v2 := .int .u32 (rk s'.f 1)) (v3 := .int .u32 (rk s'.f 2)) (v4 := .int .u32 (rk s'.f 3)) (v5 := .int .u32 (rk s'.f 4)) (v6 := .int .u32 (rk s'.f 5)) (v7 := .int .u32 (rk s'.f 6)) (v8 := .int .u32 (rk s'.f 7)) (v9 := .slice T' nT c') (w := wr) HBZ2.out
            refine bodyPost_ret (v := .tuple #[.agg #[.int .i64 s'.f.pc, .int .u32 (rk s'.f 0), .int .u32 (rk s'.f 1), .int .u32 (rk s'.f 2), .int .u32 (rk s'.f 3), .int .u32 (rk s'.f 4), .int .u32 (rk s'.f 5), .int .u32 (rk s'.f 6), .int .u32 (rk s'.f 7), .slice T' nT c'], .int .i64 (k : Int), .int .i64 0]) (results_cell3 Tryd.results25 _ _ (b1 + 1) 44 #[.int .i64 s'.f.pc, .int .u32 (rk s'.f 0), .int .u32 (rk s'.f 1), .int .u32 (rk s'.f 2), .int .u32 (rk s'.f 3), .int .u32 (rk s'.f 4), .int .u32 (rk s'.f 5), .int .u32 (rk s'.f 6), .int .u32 (rk s'.f 7), .slice T' nT c'] (0, 0) _ rfl p1 Tryd.underlying44 rfl frm_size) rfl ?_
            have hT2 := own_ge1 HO4.out
            have hsz := HSZ.out
            have hb5 := HB5.out
            have o1 := run_p (w := w) HX.out (fun i hi => by have := hT2 i hi; have := HSZQ.out; have := HQ0.out; have := HQ1.out; omega)
            rw [HE.out]
            exact ⟨T', c', rfl, o1.chg p2 (fun g hg he => HX.out.tn.ne HBZ2.out (by decide) g hg he), HX.out.mem.chg p2 (fun i hi he => by have := HR0.out i hi; have := HQ0.out; omega), chg_nw CR.out p2 (by have := HQ0.out; have := HQ1.out; omega)⟩
          | succ GK =>
            have hlt : (k : Int) < N := by omega
            have HKN := Lib.hid (show k < N by omega)
            have HAS := Lib.hid (loop_asked HI.out HW.out HST.out HL.out hb HIN.out (by have := HN0.out; omega) (m := m) (nT := nT))
            have STP := Lib.hid (step_any HX.out (fun i hi => Nat.lt_of_lt_of_le (HRR.out i hi).2 (Nat.le_trans S6.out.size HC.out.size)) HP.out HAS.out)
            by_cases hkd : kindW p (stN p oa ol k ⟨f, ws, st⟩) = 0
            · have HI2 := Lib.hid (loop_next HI.out hkd HFN.out HNN.out HOKI.out)
              have hsw : stepW p oa ol (stN p oa ol k ⟨f, ws, st⟩) = stN p oa ol (k + 1) ⟨f, ws, st⟩ := if_pos hkd
              rw [hkd, hsw] at STP
              clear hkd hsw
              go_wp2_with fail
              refine STP.out.mono ?_
              rintro e w7 ⟨rfl, h7, c7⟩
              have H7 := Lib.hid h7
              have C7 := Lib.hid (HC.out.trans c7)
              clear h7 c7
              go_wp2_with fail
              go_roundg GK
              case measure => omega
              case rel => exact ⟨k + 1, by omega, by go_num, HI2.out, H7.out, C7.out⟩
            · have HE := Lib.hid (show runR p oa ol ⟨f, ws, st⟩ N = (stN p oa ol k ⟨f, ws, st⟩, (k : Int), kindW p (stN p oa ol k ⟨f, ws, st⟩)) by rw [HRR2.out, runW_stop HKN.out HI.out.kinds hkd])
              have hsw : stepW p oa ol (stN p oa ol k ⟨f, ws, st⟩) = stN p oa ol k ⟨f, ws, st⟩ := if_neg hkd
              rw [hsw] at STP
              have hkd2 : (kindW p (stN p oa ol k ⟨f, ws, st⟩) != 0) = true := by simpa using hkd
              clear hkd hsw
              generalize kindW p (stN p oa ol k ⟨f, ws, st⟩) = kx at *
              generalize stN p oa ol k ⟨f, ws, st⟩ = s' at *
              go_wp2_with fail
              refine STP.out.mono ?_
              rintro e w7 ⟨rfl, h7, c7⟩
              have H7 := Lib.hid h7
              have C7 := Lib.hid (HC.out.trans c7)
              clear h7 c7
              have hT2 := own_ge1 HO4.out
              have HBZ2 := Lib.hid (HBZ6.out.chg C7.out (fun hS => by
                have := HB5.out
                have := HGX.out
                rcases hS with hS | hS | hS
                · omega
                · have := hT2 _ hS; omega
                · have := HR0.out _ hS; have := HQ0.out; omega))
              have CR := Lib.hid (show Chg R w w7 from chg_R (HS1.out.trans S6.out) C7.out (by have := HGX.out; have := HSZQ.out; have := HQ0.out; have := HQ1.out; omega) (fun i hi => by have := hT2 i hi; have := HSZQ.out; have := HQ0.out; have := HQ1.out; omega))
              clear hT2
              obtain ⟨x0, x1, x2, x3, x4, x5, x6, x7, x8, x9⟩ := (⟨H7.out.wk.cell 0, H7.out.wk.cell 1, H7.out.wk.cell 2, H7.out.wk.cell 3, H7.out.wk.cell 4, H7.out.wk.cell 5, H7.out.wk.cell 6, H7.out.wk.cell 7, H7.out.wk.cell 8, H7.out.wk.cell 9⟩ : _ ∧ _ ∧ _ ∧ _ ∧ _ ∧ _ ∧ _ ∧ _ ∧ _ ∧ _)
              simp only [List.getElem?_toArray, List.getElem?_cons_zero, List.getElem?_cons_succ] at x0 x1 x2 x3 x4 x5 x6 x7 x8 x9
              obtain ⟨y0, y1, y2, y3, y4, y5, y6, y7, y8, y9⟩ := (⟨HBZ2.out.cell 0, HBZ2.out.cell 1, HBZ2.out.cell 2, HBZ2.out.cell 3, HBZ2.out.cell 4, HBZ2.out.cell 5, HBZ2.out.cell 6, HBZ2.out.cell 7, HBZ2.out.cell 8, HBZ2.out.cell 9⟩ : _ ∧ _ ∧ _ ∧ _ ∧ _ ∧ _ ∧ _ ∧ _ ∧ _ ∧ _)
              simp only [List.getElem?_toArray, List.getElem?_cons_zero, List.getElem?_cons_succ] at y0 y1 y2 y3 y4 y5 y6 y7 y8 y9
              obtain ⟨u0, u1, u2, u3, u4, u5, u6, u7, u8, u9⟩ := (⟨HBZ2.out.thaw 0, HBZ2.out.thaw 1, HBZ2.out.thaw 2, HBZ2.out.thaw 3, HBZ2.out.thaw 4, HBZ2.out.thaw 5, HBZ2.out.thaw 6, HBZ2.out.thaw 7, HBZ2.out.thaw 8, HBZ2.out.thaw 9⟩ : _ ∧ _ ∧ _ ∧ _ ∧ _ ∧ _ ∧ _ ∧ _ ∧ _ ∧ _)
              go_wp2_with fail
              clear x0 x1 x2 x3 x4 x5 x6 x7 x8 x9 y0 y1 y2 y3 y4 y5 y6 y7 y8 y9 u0 u1 u2 u3 u4 u5 u6 u7 u8 u9
              obtain ⟨p1, p2⟩ := puts10 (v0 := .int .i64 s'.f.pc) (v1 := .int .u32 (rk s'.f 0)) (v2 := .int .u32 (rk s'.f 1)) (v3 := .int .u32 (rk s'.f 2)) (v4 := .int .u32 (rk s'.f 3)) (v5 := .int .u32 (rk s'.f 4)) (v6 := .int .u32 (rk s'.f 5)) (v7 := .int .u32 (rk s'.f 6)) (v8 := .int .u32 (rk s'.f 7)) (v9 := .slice T' nT c') (w := w7) HBZ2.out
              refine bodyPost_ret (v := .tuple #[.agg #[.int .i64 s'.f.pc, .int .u32 (rk s'.f 0), .int .u32 (rk s'.f 1), .int .u32 (rk s'.f 2), .int .u32 (rk s'.f 3), .int .u32 (rk s'.f 4), .int .u32 (rk s'.f 5), .int .u32 (rk s'.f 6), .int .u32 (rk s'.f 7), .slice T' nT c'], .int .i64 (k : Int), .int .i64 kx]) (results_cell3 Tryd.results25 _ _ (b1 + 1) 44 #[.int .i64 s'.f.pc, .int .u32 (rk s'.f 0), .int .u32 (rk s'.f 1), .int .u32 (rk s'.f 2), .int .u32 (rk s'.f 3), .int .u32 (rk s'.f 4), .int .u32 (rk s'.f 5), .int .u32 (rk s'.f 6), .int .u32 (rk s'.f 7), .slice T' nT c'] (0, 0) _ rfl p1 Tryd.underlying44 rfl frm_size) rfl ?_
              have hT2 := own_ge1 HO4.out
              have hsz := HSZ.out
              have hb5 := HB5.out
              have o1 := run_p (w := w) H7.out (fun i hi => by have := hT2 i hi; have := HSZQ.out; have := HQ0.out; have := HQ1.out; omega)
              rw [HE.out]
              exact ⟨T', c', rfl, o1.chg p2 (fun g hg he => H7.out.tn.ne HBZ2.out (by decide) g hg he), H7.out.mem.chg p2 (fun i hi he => by have := HR0.out i hi; have := HQ0.out; omega), chg_nw CR.out p2 (by have := HQ0.out; have := HQ1.out; omega)⟩
  · go_simp
    refine hK.out _ _ ?_ (fun hNew => ?_)
    · exact ⟨((Same.refl w1).alloc (.cells #[.int .i64 0, .int .u32 0, .int .u32 0, .int .u32 0, .int .u32 0, .int .u32 0, .int .u32 0, .int .u32 0, .int .u32 0, .slice none 0 0, .slice none 0 0, .pointer none, .int .i64 0, .int .i64 0] 97)).cell hHeld.1, ((Same.refl w1).alloc (.cells #[.int .i64 0, .int .u32 0, .int .u32 0, .int .u32 0, .int .u32 0, .int .u32 0, .int .u32 0, .int .u32 0, .int .u32 0, .slice none 0 0, .slice none 0 0, .pointer none, .int .i64 0, .int .i64 0] 97)).cell hHeld.2.1, ((Same.refl w1).alloc (.cells #[.int .i64 0, .int .u32 0, .int .u32 0, .int .u32 0, .int .u32 0, .int .u32 0, .int .u32 0, .int .u32 0, .int .u32 0, .slice none 0 0, .slice none 0 0, .pointer none, .int .i64 0, .int .i64 0] 97)).cell hHeld.2.2.1, ((Same.refl w1).alloc (.cells #[.int .i64 0, .int .u32 0, .int .u32 0, .int .u32 0, .int .u32 0, .int .u32 0, .int .u32 0, .int .u32 0, .int .u32 0, .slice none 0 0, .slice none 0 0, .pointer none, .int .i64 0, .int .i64 0] 97)).cell hHeld.2.2.2.1, ((Same.refl w1).alloc (.cells #[.int .i64 0, .int .u32 0, .int .u32 0, .int .u32 0, .int .u32 0, .int .u32 0, .int .u32 0, .int .u32 0, .int .u32 0, .slice none 0 0, .slice none 0 0, .pointer none, .int .i64 0, .int .i64 0] 97)).cell hHeld.2.2.2.2.1, ((Same.refl w1).alloc (.cells #[.int .i64 0, .int .u32 0, .int .u32 0, .int .u32 0, .int .u32 0, .int .u32 0, .int .u32 0, .int .u32 0, .int .u32 0, .slice none 0 0, .slice none 0 0, .pointer none, .int .i64 0, .int .i64 0] 97)).cell hHeld.2.2.2.2.2.1, ((Same.refl w1).alloc (.cells #[.int .i64 0, .int .u32 0, .int .u32 0, .int .u32 0, .int .u32 0, .int .u32 0, .int .u32 0, .int .u32 0, .int .u32 0, .slice none 0 0, .slice none 0 0, .pointer none, .int .i64 0, .int .i64 0] 97)).cell hHeld.2.2.2.2.2.2.1, ((Same.refl w1).alloc (.cells #[.int .i64 0, .int .u32 0, .int .u32 0, .int .u32 0, .int .u32 0, .int .u32 0, .int .u32 0, .int .u32 0, .int .u32 0, .slice none 0 0, .slice none 0 0, .pointer none, .int .i64 0, .int .i64 0] 97)).cell hHeld.2.2.2.2.2.2.2.1, ((Same.refl w1).alloc (.cells #[.int .i64 0, .int .u32 0, .int .u32 0, .int .u32 0, .int .u32 0, .int .u32 0, .int .u32 0, .int .u32 0, .int .u32 0, .slice none 0 0, .slice none 0 0, .pointer none, .int .i64 0, .int .i64 0] 97)).cell hHeld.2.2.2.2.2.2.2.2.1, ((Same.refl w1).alloc (.cells #[.int .i64 0, .int .u32 0, .int .u32 0, .int .u32 0, .int .u32 0, .int .u32 0, .int .u32 0, .int .u32 0, .int .u32 0, .slice none 0 0, .slice none 0 0, .pointer none, .int .i64 0, .int .i64 0] 97)).cell hHeld.2.2.2.2.2.2.2.2.2.1, ((Same.refl w1).alloc (.cells #[.int .i64 0, .int .u32 0, .int .u32 0, .int .u32 0, .int .u32 0, .int .u32 0, .int .u32 0, .int .u32 0, .int .u32 0, .slice none 0 0, .slice none 0 0, .pointer none, .int .i64 0, .int .i64 0] 97)).cell hHeld.2.2.2.2.2.2.2.2.2.2.1, ((Same.refl w1).alloc (.cells #[.int .i64 0, .int .u32 0, .int .u32 0, .int .u32 0, .int .u32 0, .int .u32 0, .int .u32 0, .int .u32 0, .int .u32 0, .slice none 0 0, .slice none 0 0, .pointer none, .int .i64 0, .int .i64 0] 97)).cell hHeld.2.2.2.2.2.2.2.2.2.2.2⟩
    clear hK K hHeld; have hHeld := hNew; clear hNew
    try simp only [Act.put, List.setIfInBounds_toArray, List.set_cons_zero, List.set_cons_succ]
    refine Ro.one_on (i := 1) rfl (by kernel_rfl) (by rfl) (fun K hK => ?_)
    go_simp
    go_at_call 47
    refine (AP.out _ (((Same.refl w1).alloc (.cells #[.int .i64 0, .int .u32 0, .int .u32 0, .int .u32 0, .int .u32 0, .int .u32 0, .int .u32 0, .int .u32 0, .int .u32 0, .slice none 0 0, .slice none 0 0, .pointer none, .int .i64 0, .int .i64 0] 97)).drew)).mono ?_
    rintro e w3 ⟨T', c', rfl, ho, s3⟩
    refine hK.out _ _ ?_ (fun hNew => ?_)
    · exact ⟨(s3).cell hHeld.1, (s3).cell hHeld.2.1, (s3).cell hHeld.2.2.1, (s3).cell hHeld.2.2.2.1, (s3).cell hHeld.2.2.2.2.1, (s3).cell hHeld.2.2.2.2.2.1, (s3).cell hHeld.2.2.2.2.2.2.1, (s3).cell hHeld.2.2.2.2.2.2.2.1, (s3).cell hHeld.2.2.2.2.2.2.2.2.1, (s3).cell hHeld.2.2.2.2.2.2.2.2.2.1, (s3).cell hHeld.2.2.2.2.2.2.2.2.2.2.1, (s3).cell hHeld.2.2.2.2.2.2.2.2.2.2.2⟩
    clear hK K hHeld; have hHeld := hNew; clear hNew
    try simp only [Act.put, List.setIfInBounds_toArray, List.set_cons_zero, List.set_cons_succ]
    have HSX := Lib.hid (Nat.le_refl w1.heap.size)
    have HO := Lib.hid (ho.base (B' := w1.heap.size) (by first | exact Nat.le_refl _ | simp))
    clear ho
    refine Ro.take_on (i := 5) (v := ?_) rfl (by kernel_rfl) (by kernel_rfl) (by kernel_rfl) (fun _ _ _ h => h) (by rfl) (by assumption) ?_ ?_
    rotate_left
    · intro wS hSw; (try dsimp only at hSw); go_simp; try with_reducible rfl
    try simp only [Act.put, List.setIfInBounds_toArray, List.set_cons_zero, List.set_cons_succ]
    obtain ⟨w4, hw4⟩ : ∃ w4, w4 = w3 := ⟨_, rfl⟩
    obtain ⟨gx, hgx⟩ : ∃ gx, gx = w1.heap.size := ⟨_, rfl⟩
    have HB4 := Lib.hid (show Blk w4 gx 97 #[.int .i64 0, .int .u32 0, .int .u32 0, .int .u32 0, .int .u32 0, .int .u32 0, .int .u32 0, .int .u32 0, .int .u32 0, .slice none 0 0, .slice none 0 0, .pointer none, .int .i64 0, .int .i64 0] by rw [hw4, hgx]; exact Blk.same (show Blk (w1.alloc (.cells #[.int .i64 0, .int .u32 0, .int .u32 0, .int .u32 0, .int .u32 0, .int .u32 0, .int .u32 0, .int .u32 0, .int .u32 0, .slice none 0 0, .slice none 0 0, .pointer none, .int .i64 0, .int .i64 0] 97)).drew w1.heap.size 97 #[.int .i64 0, .int .u32 0, .int .u32 0, .int .u32 0, .int .u32 0, .int .u32 0, .int .u32 0, .int .u32 0, .int .u32 0, .slice none 0 0, .slice none 0 0, .pointer none, .int .i64 0, .int .i64 0] from Blk.new w1 _ _) s3)
    have HS4 := Lib.hid (show Same w1 w4 by rw [hw4]; exact ((((Same.refl w1).alloc _).drew)).trans s3)
    have HO4 := Lib.hid (show Own w4 w1.heap.size 3 T' c' (f.tn.map (Value.int .i64)) by rw [hw4]; exact HO.out)
    have HGX := Lib.hid (show w1.heap.size ≤ gx by rw [hgx]; first | exact Nat.le_refl _ | exact HSX.out)
    rw [← hw4, ← hgx]
    rw [← hw4] at hHeld
    clear hw4 hgx
    refine Ro.one_on (i := 7) rfl (by kernel_rfl) (by rfl) (fun K hK => ?_)
    have hz := HB4.out.lt
    obtain ⟨y0, y1, y2, y3, y4, y5, y6, y7, y8, y9, y10, y11, y12, y13⟩ := (⟨HB4.out.cell 0, HB4.out.cell 1, HB4.out.cell 2, HB4.out.cell 3, HB4.out.cell 4, HB4.out.cell 5, HB4.out.cell 6, HB4.out.cell 7, HB4.out.cell 8, HB4.out.cell 9, HB4.out.cell 10, HB4.out.cell 11, HB4.out.cell 12, HB4.out.cell 13⟩ : _ ∧ _ ∧ _ ∧ _ ∧ _ ∧ _ ∧ _ ∧ _ ∧ _ ∧ _ ∧ _ ∧ _ ∧ _ ∧ _)
    simp only [List.getElem?_toArray, List.getElem?_cons_zero, List.getElem?_cons_succ] at y0 y1 y2 y3 y4 y5 y6 y7 y8 y9 y10 y11 y12 y13
    obtain ⟨u0, u1, u2, u3, u4, u5, u6, u7, u8, u9, u10, u11, u12, u13⟩ := (⟨HB4.out.thaw 0, HB4.out.thaw 1, HB4.out.thaw 2, HB4.out.thaw 3, HB4.out.thaw 4, HB4.out.thaw 5, HB4.out.thaw 6, HB4.out.thaw 7, HB4.out.thaw 8, HB4.out.thaw 9, HB4.out.thaw 10, HB4.out.thaw 11, HB4.out.thaw 12, HB4.out.thaw 13⟩ : _ ∧ _ ∧ _ ∧ _ ∧ _ ∧ _ ∧ _ ∧ _ ∧ _ ∧ _ ∧ _ ∧ _ ∧ _ ∧ _)
    obtain ⟨w5, hw5⟩ : ∃ w5, w5 = ((((((((((((((w4.setCell ⟨gx, 0, none⟩ (.int .i64 f.pc)).setCell ⟨gx, 1, none⟩ (.int .u32 (rk f 0))).setCell ⟨gx, 2, none⟩ (.int .u32 (rk f 1))).setCell ⟨gx, 3, none⟩ (.int .u32 (rk f 2))).setCell ⟨gx, 4, none⟩ (.int .u32 (rk f 3))).setCell ⟨gx, 5, none⟩ (.int .u32 (rk f 4))).setCell ⟨gx, 6, none⟩ (.int .u32 (rk f 5))).setCell ⟨gx, 7, none⟩ (.int .u32 (rk f 6))).setCell ⟨gx, 8, none⟩ (.int .u32 (rk f 7))).setCell ⟨gx, 9, none⟩ (.slice T' nT c')).setCell ⟨gx, 10, none⟩ (.slice A m cA)).setCell ⟨gx, 11, none⟩ (.pointer (some ⟨gm, 0, none⟩))).setCell ⟨gx, 12, none⟩ (.int .i64 oa)).setCell ⟨gx, 13, none⟩ (.int .i64 ol)) := ⟨_, rfl⟩
    obtain ⟨h13, hs13⟩ := mk13 HB4.out HO4.out HN.out HM1.out HS4.out H01.out HRR.out HGX.out w5 hw5
    have H13 := Lib.hid h13
    have S13' := Lib.hid hs13
    have HW5 := Lib.hid hw5
    have S45 := Lib.hid (puts14 (v0 := .int .i64 f.pc) (v1 := .int .u32 (rk f 0)) (v2 := .int .u32 (rk f 1)) (v3 := .int .u32 (rk f 2)) (v4 := .int .u32 (rk f 3)) (v5 := .int .u32 (rk f 4)) (v6 := .int .u32 (rk f 5)) (v7 := .int .u32 (rk f 6)) (v8 := .int .u32 (rk f 7)) (v9 := .slice T' nT c') (v10 := .slice A m cA) (v11 := .pointer (some ⟨gm, 0, none⟩)) (v12 := .int .i64 oa) (v13 := .int .i64 ol) HB4.out).2
    clear h13 hs13 hw5 hz
    go_wp2_with fail
    rw [← HW5.out]
    clear y0 y1 y2 y3 y4 y5 y6 y7 y8 y9 y10 y11 y12 y13 u0 u1 u2 u3 u4 u5 u6 u7 u8 u9 u10 u11 u12 u13
    refine hK.out _ _ ?_ (fun hNew => ?_)
    · rw [HW5.out]; exact ⟨S45.out.cell hHeld.1 (by have := HGX.out; have := HB5.out; have := HQ0.out; have := HQ1.out; simp only; omega), S45.out.cell hHeld.2.1 (by have := HGX.out; have := HB5.out; have := HQ0.out; have := HQ1.out; simp only; omega), S45.out.cell hHeld.2.2.1 (by have := HGX.out; have := HB5.out; have := HQ0.out; have := HQ1.out; simp only; omega), S45.out.cell hHeld.2.2.2.1 (by have := HGX.out; have := HB5.out; have := HQ0.out; have := HQ1.out; simp only; omega), S45.out.cell hHeld.2.2.2.2.1 (by have := HGX.out; have := HB5.out; have := HQ0.out; have := HQ1.out; simp only; omega), S45.out.cell hHeld.2.2.2.2.2.1 (by have := HGX.out; have := HB5.out; have := HQ0.out; have := HQ1.out; simp only; omega), S45.out.cell hHeld.2.2.2.2.2.2.1 (by have := HGX.out; have := HB5.out; have := HQ0.out; have := HQ1.out; simp only; omega), S45.out.cell hHeld.2.2.2.2.2.2.2.1 (by have := HGX.out; have := HB5.out; have := HQ0.out; have := HQ1.out; simp only; omega), S45.out.cell hHeld.2.2.2.2.2.2.2.2.1 (by have := HGX.out; have := HB5.out; have := HQ0.out; have := HQ1.out; simp only; omega), S45.out.cell hHeld.2.2.2.2.2.2.2.2.2.1 (by have := HGX.out; have := HB5.out; have := HQ0.out; have := HQ1.out; simp only; omega), S45.out.cell hHeld.2.2.2.2.2.2.2.2.2.2.1 (by have := HGX.out; have := HB5.out; have := HQ0.out; have := HQ1.out; simp only; omega), S45.out.cell hHeld.2.2.2.2.2.2.2.2.2.2.2 (by have := HGX.out; have := HB5.out; have := HQ0.out; have := HQ1.out; simp only; omega)⟩
    clear hK K hHeld; have hHeld := hNew; clear hNew
    try simp only [Act.put, List.setIfInBounds_toArray, List.set_cons_zero, List.set_cons_succ]
    refine wpAnyH_done (by kernel_rfl) ?_ _
    clear hHeld
    have HBZ2 := Lib.hid (HBZ.out.same S13'.out)
    by_cases hmo : mo ≤ 0
    · have HE0 := Lib.hid (show runR p oa ol ⟨f, ws, st⟩ mo = (⟨f, ws, st⟩, 0, 0) from run_zero hmo)
      rcases (show mo < 0 ∨ mo = 0 by omega) with hneg | hzer
      · have HE := HE0
        have CR := Lib.hid (show Chg R w w5 from (HS1.out.trans S13'.out).chg R)
        clear hmo
        go_wp2_with fail
        go_loopg [33] 0 (fun gk iv wx => iv = .int .i64 0 ∧ wx = w5)
        case atStart => exact ⟨rfl, rfl⟩
        case round =>
          obtain ⟨rfl, hwr⟩ := hrel
          rw [hwr]
          clear hwr
          obtain ⟨x0, x1, x2, x3, x4, x5, x6, x7, x8, x9⟩ := (⟨H13.out.wk.cell 0, H13.out.wk.cell 1, H13.out.wk.cell 2, H13.out.wk.cell 3, H13.out.wk.cell 4, H13.out.wk.cell 5, H13.out.wk.cell 6, H13.out.wk.cell 7, H13.out.wk.cell 8, H13.out.wk.cell 9⟩ : _ ∧ _ ∧ _ ∧ _ ∧ _ ∧ _ ∧ _ ∧ _ ∧ _ ∧ _)
          simp only [List.getElem?_toArray, List.getElem?_cons_zero, List.getElem?_cons_succ] at x0 x1 x2 x3 x4 x5 x6 x7 x8 x9
          obtain ⟨y0, y1, y2, y3, y4, y5, y6, y7, y8, y9⟩ := (⟨HBZ2.out.cell 0, HBZ2.out.cell 1, HBZ2.out.cell 2, HBZ2.out.cell 3, HBZ2.out.cell 4, HBZ2.out.cell 5, HBZ2.out.cell 6, HBZ2.out.cell 7, HBZ2.out.cell 8, HBZ2.out.cell 9⟩ : _ ∧ _ ∧ _ ∧ _ ∧ _ ∧ _ ∧ _ ∧ _ ∧ _ ∧ _)
          simp only [List.getElem?_toArray, List.getElem?_cons_zero, List.getElem?_cons_succ] at y0 y1 y2 y3 y4 y5 y6 y7 y8 y9
          obtain ⟨u0, u1, u2, u3, u4, u5, u6, u7, u8, u9⟩ := (⟨HBZ2.out.thaw 0, HBZ2.out.thaw 1, HBZ2.out.thaw 2, HBZ2.out.thaw 3, HBZ2.out.thaw 4, HBZ2.out.thaw 5, HBZ2.out.thaw 6, HBZ2.out.thaw 7, HBZ2.out.thaw 8, HBZ2.out.thaw 9⟩ : _ ∧ _ ∧ _ ∧ _ ∧ _ ∧ _ ∧ _ ∧ _ ∧ _ ∧ _)
          go_wp2_with fail
          clear x0 x1 x2 x3 x4 x5 x6 x7 x8 x9 y0 y1 y2 y3 y4 y5 y6 y7 y8 y9 u0 u1 u2 u3 u4 u5 u6 u7 u8 u9
          obtain ⟨p1, p2⟩ := puts10 (v0 := .int .i64 f.pc) (v1 := .int .u32 (rk f 0)) (v2 := .int .u32 (rk f 1)) (v3 := .int .u32 (rk f 2)) (v4 := .int .u32 (rk f 3)) (v5 := .int .u32 (rk f 4)) (v6 := .int .u32 (rk f 5)) (v7 := .int .u32 (rk f 6)) (v8 := .int .u32 (rk f 7)) (v9 := .slice T' nT c') (w := w5) HBZ2.out
          refine bodyPost_ret (v := .tuple #[.agg #[.int .i64 f.pc, .int .u32 (rk f 0), .int .u32 (rk f 1), .int .u32 (rk f 2), .int .u32 (rk f 3), .int .u32 (rk f 4), .int .u32 (rk f 5), .int .u32 (rk f 6), .int .u32 (rk f 7), .slice T' nT c'], .int .i64 0, .int .i64 0]) (results_cell3 Tryd.results25 _ _ (b1 + 1) 44 #[.int .i64 f.pc, .int .u32 (rk f 0), .int .u32 (rk f 1), .int .u32 (rk f 2), .int .u32 (rk f 3), .int .u32 (rk f 4), .int .u32 (rk f 5), .int .u32 (rk f 6), .int .u32 (rk f 7), .slice T' nT c'] (0, 0) _ rfl p1 Tryd.underlying44 rfl frm_size) rfl ?_
          have hT2 := own_ge1 HO4.out
          have hsz := HSZ.out
          have hb5 := HB5.out
          have o1 := run_p (w := w) H13.out (fun i hi => by have := hT2 i hi; have := HSZQ.out; have := HQ0.out; have := HQ1.out; omega)
          rw [HE.out]
          exact ⟨T', c', rfl, o1.chg p2 (fun g hg he => H13.out.tn.ne HBZ2.out (by decide) g hg he), H13.out.mem.chg p2 (fun i hi he => by have := HR0.out i hi; have := HQ0.out; omega), chg_nw CR.out p2 (by have := HQ0.out; have := HQ1.out; omega)⟩
      · subst hzer
        have HE := HE0
        have CR := Lib.hid (show Chg R w w5 from (HS1.out.trans S13'.out).chg R)
        clear hmo
        go_wp2_with fail
        go_loopg [33] 0 (fun gk iv wx => iv = .int .i64 0 ∧ wx = w5)
        case atStart => exact ⟨rfl, rfl⟩
        case round =>
          obtain ⟨rfl, hwr⟩ := hrel
          rw [hwr]
          clear hwr
          obtain ⟨x0, x1, x2, x3, x4, x5, x6, x7, x8, x9⟩ := (⟨H13.out.wk.cell 0, H13.out.wk.cell 1, H13.out.wk.cell 2, H13.out.wk.cell 3, H13.out.wk.cell 4, H13.out.wk.cell 5, H13.out.wk.cell 6, H13.out.wk.cell 7, H13.out.wk.cell 8, H13.out.wk.cell 9⟩ : _ ∧ _ ∧ _ ∧ _ ∧ _ ∧ _ ∧ _ ∧ _ ∧ _ ∧ _)
          simp only [List.getElem?_toArray, List.getElem?_cons_zero, List.getElem?_cons_succ] at x0 x1 x2 x3 x4 x5 x6 x7 x8 x9
          obtain ⟨y0, y1, y2, y3, y4, y5, y6, y7, y8, y9⟩ := (⟨HBZ2.out.cell 0, HBZ2.out.cell 1, HBZ2.out.cell 2, HBZ2.out.cell 3, HBZ2.out.cell 4, HBZ2.out.cell 5, HBZ2.out.cell 6, HBZ2.out.cell 7, HBZ2.out.cell 8, HBZ2.out.cell 9⟩ : _ ∧ _ ∧ _ ∧ _ ∧ _ ∧ _ ∧ _ ∧ _ ∧ _ ∧ _)
          simp only [List.getElem?_toArray, List.getElem?_cons_zero, List.getElem?_cons_succ] at y0 y1 y2 y3 y4 y5 y6 y7 y8 y9
          obtain ⟨u0, u1, u2, u3, u4, u5, u6, u7, u8, u9⟩ := (⟨HBZ2.out.thaw 0, HBZ2.out.thaw 1, HBZ2.out.thaw 2, HBZ2.out.thaw 3, HBZ2.out.thaw 4, HBZ2.out.thaw 5, HBZ2.out.thaw 6, HBZ2.out.thaw 7, HBZ2.out.thaw 8, HBZ2.out.thaw 9⟩ : _ ∧ _ ∧ _ ∧ _ ∧ _ ∧ _ ∧ _ ∧ _ ∧ _ ∧ _)
          go_wp2_with fail
          clear x0 x1 x2 x3 x4 x5 x6 x7 x8 x9 y0 y1 y2 y3 y4 y5 y6 y7 y8 y9 u0 u1 u2 u3 u4 u5 u6 u7 u8 u9
          obtain ⟨p1, p2⟩ := puts10 (v0 := .int .i64 f.pc) (v1 := .int .u32 (rk f 0)) (v2 := .int .u32 (rk f 1)) (v3 := .int .u32 (rk f 2)) (v4 := .int .u32 (rk f 3)) (v5 := .int .u32 (rk f 4)) (v6 := .int .u32 (rk f 5)) (v7 := .int .u32 (rk f 6)) (v8 := .int .u32 (rk f 7)) (v9 := .slice T' nT c') (w := w5) HBZ2.out
          refine bodyPost_ret (v := .tuple #[.agg #[.int .i64 f.pc, .int .u32 (rk f 0), .int .u32 (rk f 1), .int .u32 (rk f 2), .int .u32 (rk f 3), .int .u32 (rk f 4), .int .u32 (rk f 5), .int .u32 (rk f 6), .int .u32 (rk f 7), .slice T' nT c'], .int .i64 0, .int .i64 0]) (results_cell3 Tryd.results25 _ _ (b1 + 1) 44 #[.int .i64 f.pc, .int .u32 (rk f 0), .int .u32 (rk f 1), .int .u32 (rk f 2), .int .u32 (rk f 3), .int .u32 (rk f 4), .int .u32 (rk f 5), .int .u32 (rk f 6), .int .u32 (rk f 7), .slice T' nT c'] (0, 0) _ rfl p1 Tryd.underlying44 rfl frm_size) rfl ?_
          have hT2 := own_ge1 HO4.out
          have hsz := HSZ.out
          have hb5 := HB5.out
          have o1 := run_p (w := w) H13.out (fun i hi => by have := hT2 i hi; have := HSZQ.out; have := HQ0.out; have := HQ1.out; omega)
          rw [HE.out]
          exact ⟨T', c', rfl, o1.chg p2 (fun g hg he => H13.out.tn.ne HBZ2.out (by decide) g hg he), H13.out.mem.chg p2 (fun i hi he => by have := HR0.out i hi; have := HQ0.out; omega), chg_nw CR.out p2 (by have := HQ0.out; have := HQ1.out; omega)⟩
    · obtain ⟨N, hN⟩ : ∃ N : Nat, mo = (N : Int) := ⟨mo.toNat, by omega⟩
      have hN0 : 0 < N := by omega
      subst hN
      have hnn : ¬ (N : Int) < 0 := by omega
      have hN1 : (0 : Int) < N := by omega
      have HN0 := Lib.hid hmob
      have HNP := Lib.hid hN0
      clear hmo
      go_wp2_with fail
      refine (may_any H13.out HP.out HTB.out HL.out hm hb).mono ?_
      rintro e w6 ⟨rfl, s6⟩
      have H6 := Lib.hid (H13.out.of_same s6)
      have HBZ6 := Lib.hid (HBZ2.out.same s6)
      have S6 := Lib.hid (S13'.out.trans s6)
      clear s6 H13 HBZ2
      cases hmb : mayB p ⟨f, ws, st⟩ oa ol with
      | false =>
        have HE := Lib.hid (show runR p oa ol ⟨f, ws, st⟩ N = (⟨f, ws, st⟩, 0, 3) from run_off HNP.out hmb)
        clear hmb
        have HBZ2 := HBZ6
        have CR := Lib.hid (show Chg R w w6 from (HS1.out.trans S6.out).chg R)
        obtain ⟨x0, x1, x2, x3, x4, x5, x6, x7, x8, x9⟩ := (⟨H6.out.wk.cell 0, H6.out.wk.cell 1, H6.out.wk.cell 2, H6.out.wk.cell 3, H6.out.wk.cell 4, H6.out.wk.cell 5, H6.out.wk.cell 6, H6.out.wk.cell 7, H6.out.wk.cell 8, H6.out.wk.cell 9⟩ : _ ∧ _ ∧ _ ∧ _ ∧ _ ∧ _ ∧ _ ∧ _ ∧ _ ∧ _)
        simp only [List.getElem?_toArray, List.getElem?_cons_zero, List.getElem?_cons_succ] at x0 x1 x2 x3 x4 x5 x6 x7 x8 x9
        obtain ⟨y0, y1, y2, y3, y4, y5, y6, y7, y8, y9⟩ := (⟨HBZ2.out.cell 0, HBZ2.out.cell 1, HBZ2.out.cell 2, HBZ2.out.cell 3, HBZ2.out.cell 4, HBZ2.out.cell 5, HBZ2.out.cell 6, HBZ2.out.cell 7, HBZ2.out.cell 8, HBZ2.out.cell 9⟩ : _ ∧ _ ∧ _ ∧ _ ∧ _ ∧ _ ∧ _ ∧ _ ∧ _ ∧ _)
        simp only [List.getElem?_toArray, List.getElem?_cons_zero, List.getElem?_cons_succ] at y0 y1 y2 y3 y4 y5 y6 y7 y8 y9
        obtain ⟨u0, u1, u2, u3, u4, u5, u6, u7, u8, u9⟩ := (⟨HBZ2.out.thaw 0, HBZ2.out.thaw 1, HBZ2.out.thaw 2, HBZ2.out.thaw 3, HBZ2.out.thaw 4, HBZ2.out.thaw 5, HBZ2.out.thaw 6, HBZ2.out.thaw 7, HBZ2.out.thaw 8, HBZ2.out.thaw 9⟩ : _ ∧ _ ∧ _ ∧ _ ∧ _ ∧ _ ∧ _ ∧ _ ∧ _ ∧ _)
        go_wp2_with fail
        clear x0 x1 x2 x3 x4 x5 x6 x7 x8 x9 y0 y1 y2 y3 y4 y5 y6 y7 y8 y9 u0 u1 u2 u3 u4 u5 u6 u7 u8 u9
        obtain ⟨p1, p2⟩ := puts10 (v0 := .int .i64 f.pc) (v1 := .int .u32 (rk f 0)) (v2 := .int .u32 (rk f 1)) (v3 := .int .u32 (rk f 2)) (v4 := .int .u32 (rk f 3)) (v5 := .int .u32 (rk f 4)) (v6 := .int .u32 (rk f 5)) (v7 := .int .u32 (rk f 6)) (v8 := .int .u32 (rk f 7)) (v9 := .slice T' nT c') (w := w6) HBZ2.out
        refine bodyPost_ret (v := .tuple #[.agg #[.int .i64 f.pc, .int .u32 (rk f 0), .int .u32 (rk f 1), .int .u32 (rk f 2), .int .u32 (rk f 3), .int .u32 (rk f 4), .int .u32 (rk f 5), .int .u32 (rk f 6), .int .u32 (rk f 7), .slice T' nT c'], .int .i64 0, .int .i64 3]) (results_cell3 Tryd.results25 _ _ (b1 + 1) 44 #[.int .i64 f.pc, .int .u32 (rk f 0), .int .u32 (rk f 1), .int .u32 (rk f 2), .int .u32 (rk f 3), .int .u32 (rk f 4), .int .u32 (rk f 5), .int .u32 (rk f 6), .int .u32 (rk f 7), .slice T' nT c'] (0, 0) _ rfl p1 Tryd.underlying44 rfl frm_size) rfl ?_
        have hT2 := own_ge1 HO4.out
        have hsz := HSZ.out
        have hb5 := HB5.out
        have o1 := run_p (w := w) H6.out (fun i hi => by have := hT2 i hi; have := HSZQ.out; have := HQ0.out; have := HQ1.out; omega)
        rw [HE.out]
        exact ⟨T', c', rfl, o1.chg p2 (fun g hg he => H6.out.tn.ne HBZ2.out (by decide) g hg he), H6.out.mem.chg p2 (fun i hi he => by have := HR0.out i hi; have := HQ0.out; omega), chg_nw CR.out p2 (by have := HQ0.out; have := HQ1.out; omega)⟩
      | true =>
        have HRR2 := Lib.hid (show runR p oa ol ⟨f, ws, st⟩ N = ((runW p oa ol N ⟨f, ws, st⟩).1, ((runW p oa ol N ⟨f, ws, st⟩).2.1 : Int), (runW p oa ol N ⟨f, ws, st⟩).2.2) from run_some hmb)
        have HIN := Lib.hid (⟨hmb, by rw [← cst_len]; exact H4.out⟩ : mayB p ⟨f, ws, st⟩ oa ol = true ∧ ws.length ≤ 4096)
        have HI0 := Lib.hid (loop_start hmb HW.out)
        have HOK := Lib.hid (may_ok hmb)
        have HFN := Lib.hid (okB_fine HOK.out)
        have HNN := Lib.hid HP.out.nn
        have HOKI := Lib.hid (fun j (hj : j < p.length) => HP.out.ok hj)
        clear hmb
        go_wp2_with fail
        go_loopg [33] N (fun gk iv wx => ∃ k : Nat, k + gk = N ∧ iv = .int .i64 k ∧ LoopI p oa ol ⟨f, ws, st⟩ k ∧ W13 w0 wx R gx gm (stN p oa ol k ⟨f, ws, st⟩) T' nT c' A m cA oa ol ∧ Chg (S13 R gx T') w6 wx)
        case atStart => exact ⟨0, by omega, rfl, HI0.out, H6.out, Chg.refl _ _⟩
        case round =>
          obtain ⟨k, hk, rfl, hi, hx, hc⟩ := hrel
          have HI := Lib.hid hi
          have HX := Lib.hid hx
          have HC := Lib.hid hc
          clear hi hx hc
          cases gk with
          | zero =>
            obtain rfl : k = N := by omega
            have hge : ¬ (k : Int) < (k : Int) := by omega
            have HE := Lib.hid (show runR p oa ol ⟨f, ws, st⟩ (k : Int) = (stN p oa ol k ⟨f, ws, st⟩, (k : Int), 0) by rw [HRR2.out, runW_all HI.out.kinds])
            have hT2 := own_ge1 HO4.out
            have HBZ2 := Lib.hid (HBZ6.out.chg HC.out (fun hS => by
              have := HB5.out
              have := HGX.out
              rcases hS with hS | hS | hS
              · omega
              · have := hT2 _ hS; omega
              · have := HR0.out _ hS; have := HQ0.out; omega))
            have CR := Lib.hid (show Chg R w wr from chg_R (HS1.out.trans S6.out) HC.out (by have := HGX.out; have := HSZQ.out; have := HQ0.out; have := HQ1.out; omega) (fun i hi => by have := hT2 i hi; have := HSZQ.out; have := HQ0.out; have := HQ1.out; omega))
            clear hT2
            generalize stN p oa ol k ⟨f, ws, st⟩ = s' at *
            obtain ⟨x0, x1, x2, x3, x4, x5, x6, x7, x8, x9⟩ := (⟨HX.out.wk.cell 0, HX.out.wk.cell 1, HX.out.wk.cell 2, HX.out.wk.cell 3, HX.out.wk.cell 4, HX.out.wk.cell 5, HX.out.wk.cell 6, HX.out.wk.cell 7, HX.out.wk.cell 8, HX.out.wk.cell 9⟩ : _ ∧ _ ∧ _ ∧ _ ∧ _ ∧ _ ∧ _ ∧ _ ∧ _ ∧ _)
            simp only [List.getElem?_toArray, List.getElem?_cons_zero, List.getElem?_cons_succ] at x0 x1 x2 x3 x4 x5 x6 x7 x8 x9
            obtain ⟨y0, y1, y2, y3, y4, y5, y6, y7, y8, y9⟩ := (⟨HBZ2.out.cell 0, HBZ2.out.cell 1, HBZ2.out.cell 2, HBZ2.out.cell 3, HBZ2.out.cell 4, HBZ2.out.cell 5, HBZ2.out.cell 6, HBZ2.out.cell 7, HBZ2.out.cell 8, HBZ2.out.cell 9⟩ : _ ∧ _ ∧ _ ∧ _ ∧ _ ∧ _ ∧ _ ∧ _ ∧ _ ∧ _)
            simp only [List.getElem?_toArray, List.getElem?_cons_zero, List.getElem?_cons_succ] at y0 y1 y2 y3 y4 y5 y6 y7 y8 y9
            obtain ⟨u0, u1, u2, u3, u4, u5, u6, u7, u8, u9⟩ := (⟨HBZ2.out.thaw 0, HBZ2.out.thaw 1, HBZ2.out.thaw 2, HBZ2.out.thaw 3, HBZ2.out.thaw 4, HBZ2.out.thaw 5, HBZ2.out.thaw 6, HBZ2.out.thaw 7, HBZ2.out.thaw 8, HBZ2.out.thaw 9⟩ : _ ∧ _ ∧ _ ∧ _ ∧ _ ∧ _ ∧ _ ∧ _ ∧ _ ∧ _)
            go_wp2_with fail
            clear x0 x1 x2 x3 x4 x5 x6 x7 x8 x9 y0 y1 y2 y3 y4 y5 y6 y7 y8 y9 u0 u1 u2 u3 u4 u5 u6 u7 u8 u9
            obtain ⟨p1, p2⟩ := puts10 (v0 := .int .i64 s'.f.pc) (v1 := .int .u32 (rk s'.f 0)) (v2 := .int .u32 (rk s'.f 1)) (v3 := .int .u32 (rk s'.f 2)) (v4 := .int .u32 (rk s'.f 3)) (v5 := .int .u32 (rk s'.f 4)) (v6 := .int .u32 (rk s'.f 5)) (v7 := .int .u32 (rk s'.f 6)) (v8 := .int .u32 (rk s'.f 7)) (v9 := .slice T' nT c') (w := wr) HBZ2.out
            refine bodyPost_ret (v := .tuple #[.agg #[.int .i64 s'.f.pc, .int .u32 (rk s'.f 0), .int .u32 (rk s'.f 1), .int .u32 (rk s'.f 2), .int .u32 (rk s'.f 3), .int .u32 (rk s'.f 4), .int .u32 (rk s'.f 5), .int .u32 (rk s'.f 6), .int .u32 (rk s'.f 7), .slice T' nT c'], .int .i64 (k : Int), .int .i64 0]) (results_cell3 Tryd.results25 _ _ (b1 + 1) 44 #[.int .i64 s'.f.pc, .int .u32 (rk s'.f 0), .int .u32 (rk s'.f 1), .int .u32 (rk s'.f 2), .int .u32 (rk s'.f 3), .int .u32 (rk s'.f 4), .int .u32 (rk s'.f 5), .int .u32 (rk s'.f 6), .int .u32 (rk s'.f 7), .slice T' nT c'] (0, 0) _ rfl p1 Tryd.underlying44 rfl frm_size) rfl ?_
            have hT2 := own_ge1 HO4.out
            have hsz := HSZ.out
            have hb5 := HB5.out
            have o1 := run_p (w := w) HX.out (fun i hi => by have := hT2 i hi; have := HSZQ.out; have := HQ0.out; have := HQ1.out; omega)
            rw [HE.out]
            exact ⟨T', c', rfl, o1.chg p2 (fun g hg he => HX.out.tn.ne HBZ2.out (by decide) g hg he), HX.out.mem.chg p2 (fun i hi he => by have := HR0.out i hi; have := HQ0.out; omega), chg_nw CR.out p2 (by have := HQ0.out; have := HQ1.out; omega)⟩
          | succ GK =>
            have hlt : (k : Int) < N := by omega
            have HKN := Lib.hid (show k < N by omega)
            have HAS := Lib.hid (loop_asked HI.out HW.out HST.out HL.out hb HIN.out (by have := HN0.out; omega) (m := m) (nT := nT))
            have STP := Lib.hid (step_any HX.out (fun i hi => Nat.lt_of_lt_of_le (HRR.out i hi).2 (Nat.le_trans S6.out.size HC.out.size)) HP.out HAS.out)
            by_cases hkd : kindW p (stN p oa ol k ⟨f, ws, st⟩) = 0
            · have HI2 := Lib.hid (loop_next HI.out hkd HFN.out HNN.out HOKI.out)
              have hsw : stepW p oa ol (stN p oa ol k ⟨f, ws, st⟩) = stN p oa ol (k + 1) ⟨f, ws, st⟩ := if_pos hkd
              rw [hkd, hsw] at STP
              clear hkd hsw
              go_wp2_with fail
              refine STP.out.mono ?_
              rintro e w7 ⟨rfl, h7, c7⟩
              have H7 := Lib.hid h7
              have C7 := Lib.hid (HC.out.trans c7)
              clear h7 c7
              go_wp2_with fail
              go_roundg GK
              case measure => omega
              case rel => exact ⟨k + 1, by omega, by go_num, HI2.out, H7.out, C7.out⟩
            · have HE := Lib.hid (show runR p oa ol ⟨f, ws, st⟩ N = (stN p oa ol k ⟨f, ws, st⟩, (k : Int), kindW p (stN p oa ol k ⟨f, ws, st⟩)) by rw [HRR2.out, runW_stop HKN.out HI.out.kinds hkd])
              have hsw : stepW p oa ol (stN p oa ol k ⟨f, ws, st⟩) = stN p oa ol k ⟨f, ws, st⟩ := if_neg hkd
              rw [hsw] at STP
              have hkd2 : (kindW p (stN p oa ol k ⟨f, ws, st⟩) != 0) = true := by simpa using hkd
              clear hkd hsw
              generalize kindW p (stN p oa ol k ⟨f, ws, st⟩) = kx at *
              generalize stN p oa ol k ⟨f, ws, st⟩ = s' at *
              go_wp2_with fail
              refine STP.out.mono ?_
              rintro e w7 ⟨rfl, h7, c7⟩
              have H7 := Lib.hid h7
              have C7 := Lib.hid (HC.out.trans c7)
              clear h7 c7
              have hT2 := own_ge1 HO4.out
              have HBZ2 := Lib.hid (HBZ6.out.chg C7.out (fun hS => by
                have := HB5.out
                have := HGX.out
                rcases hS with hS | hS | hS
                · omega
                · have := hT2 _ hS; omega
                · have := HR0.out _ hS; have := HQ0.out; omega))
              have CR := Lib.hid (show Chg R w w7 from chg_R (HS1.out.trans S6.out) C7.out (by have := HGX.out; have := HSZQ.out; have := HQ0.out; have := HQ1.out; omega) (fun i hi => by have := hT2 i hi; have := HSZQ.out; have := HQ0.out; have := HQ1.out; omega))
              clear hT2
              obtain ⟨x0, x1, x2, x3, x4, x5, x6, x7, x8, x9⟩ := (⟨H7.out.wk.cell 0, H7.out.wk.cell 1, H7.out.wk.cell 2, H7.out.wk.cell 3, H7.out.wk.cell 4, H7.out.wk.cell 5, H7.out.wk.cell 6, H7.out.wk.cell 7, H7.out.wk.cell 8, H7.out.wk.cell 9⟩ : _ ∧ _ ∧ _ ∧ _ ∧ _ ∧ _ ∧ _ ∧ _ ∧ _ ∧ _)
              simp only [List.getElem?_toArray, List.getElem?_cons_zero, List.getElem?_cons_succ] at x0 x1 x2 x3 x4 x5 x6 x7 x8 x9
              obtain ⟨y0, y1, y2, y3, y4, y5, y6, y7, y8, y9⟩ := (⟨HBZ2.out.cell 0, HBZ2.out.cell 1, HBZ2.out.cell 2, HBZ2.out.cell 3, HBZ2.out.cell 4, HBZ2.out.cell 5, HBZ2.out.cell 6, HBZ2.out.cell 7, HBZ2.out.cell 8, HBZ2.out.cell 9⟩ : _ ∧ _ ∧ _ ∧ _ ∧ _ ∧ _ ∧ _ ∧ _ ∧ _ ∧ _)
              simp only [List.getElem?_toArray, List.getElem?_cons_zero, List.getElem?_cons_succ] at y0 y1 y2 y3 y4 y5 y6 y7 y8 y9
              obtain ⟨u0, u1, u2, u3, u4, u5, u6, u7, u8, u9⟩ := (⟨HBZ2.out.thaw 0, HBZ2.out.thaw 1, HBZ2.out.thaw 2, HBZ2.out.thaw 3, HBZ2.out.thaw 4, HBZ2.out.thaw 5, HBZ2.out.thaw 6, HBZ2.out.thaw 7, HBZ2.out.thaw 8, HBZ2.out.thaw 9⟩ : _ ∧ _ ∧ _ ∧ _ ∧ _ ∧ _ ∧ _ ∧ _ ∧ _ ∧ _)
              go_wp2_with fail
              clear x0 x1 x2 x3 x4 x5 x6 x7 x8 x9 y0 y1 y2 y3 y4 y5 y6 y7 y8 y9 u0 u1 u2 u3 u4 u5 u6 u7 u8 u9
              obtain ⟨p1, p2⟩ := puts10 (v0 := .int .i64 s'.f.pc) (v1 := .int .u32 (rk s'.f 0)) (v2 := .int .u32 (rk s'.f 1)) (v3 := .int .u32 (rk s'.f 2)) (v4 := .int .u32 (rk s'.f 3)) (v5 := .int .u32 (rk s'.f 4)) (v6 := .int .u32 (rk s'.f 5)) (v7 := .int .u32 (rk s'.f 6)) (v8 := .int .u32 (rk s'.f 7)) (v9 := .slice T' nT c') (w := w7) HBZ2.out
              refine bodyPost_ret (v := .tuple #[.agg #[.int .i64 s'.f.pc, .int .u32 (rk s'.f 0), .int .u32 (rk s'.f 1), .int .u32 (rk s'.f 2), .int .u32 (rk s'.f 3), .int .u32 (rk s'.f 4), .int .u32 (rk s'.f 5), .int .u32 (rk s'.f 6), .int .u32 (rk s'.f 7), .slice T' nT c'], .int .i64 (k : Int), .int .i64 kx]) (results_cell3 Tryd.results25 _ _ (b1 + 1) 44 #[.int .i64 s'.f.pc, .int .u32 (rk s'.f 0), .int .u32 (rk s'.f 1), .int .u32 (rk s'.f 2), .int .u32 (rk s'.f 3), .int .u32 (rk s'.f 4), .int .u32 (rk s'.f 5), .int .u32 (rk s'.f 6), .int .u32 (rk s'.f 7), .slice T' nT c'] (0, 0) _ rfl p1 Tryd.underlying44 rfl frm_size) rfl ?_
              have hT2 := own_ge1 HO4.out
              have hsz := HSZ.out
              have hb5 := HB5.out
              have o1 := run_p (w := w) H7.out (fun i hi => by have := hT2 i hi; have := HSZQ.out; have := HQ0.out; have := HQ1.out; omega)
              rw [HE.out]
              exact ⟨T', c', rfl, o1.chg p2 (fun g hg he => H7.out.tn.ne HBZ2.out (by decide) g hg he), H7.out.mem.chg p2 (fun i hi he => by have := HR0.out i hi; have := HQ0.out; omega), chg_nw CR.out p2 (by have := HQ0.out; have := HQ1.out; omega)⟩
end Go.Proofs.YtiipdeionmndcaaDoor.Fr
