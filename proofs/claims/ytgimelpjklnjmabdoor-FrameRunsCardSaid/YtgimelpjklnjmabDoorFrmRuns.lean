/-

  The law FrameRuns.
-/
import Derived.Test.YtgimelpjklnjmabDoorFrmStart
import Derived.Test.YtgimelpjklnjmabDoorFlowAwake
import Derived.Test.YtgimelpjklnjmabDoorOpenA
import Derived.Test.YtgimelpjklnjmabDoorFlowChecks
import Derived.Test.YtgimelpjklnjmabDoorFrmRsC
import Derived.Test.YtgimelpjklnjmabDoorFrmRsE
import Derived.Test.YtgimelpjklnjmabDoorFrmRsG
import Derived.Test.YtgimelpjklnjmabDoorFrmRsH
import Derived.Test.YtgimelpjklnjmabDoorOperApp
import Derived.Deep.CutBlock
import Derived.Deep.LoopGhost
section
set_option linter.unusedVariables false
set_option linter.unusedSimpArgs false
namespace Go.Proofs.YtgimelpjklnjmabDoor.Fr
open Go.ChangeShapes Go.WideShapes Go.ChangeAt Go.RowKit Ws
open Go.Proofs.YtgimelpjklnjmabDoor.Fp (Ins at_ Fine at_some)
open Go.Proofs.YtgimelpjklnjmabDoor.Fw (Prg okB ckE check_any okB_fine rightI)
open Go.Proofs.YtgimelpjklnjmabDoor.Is (Tabs)

def p13 : List Ins := [⟨1, 1, 0, 0, 5⟩, ⟨12, 1, 0, 0, 0⟩, ⟨21, 0, 0, 0, 0⟩]
def s13 : SS := ⟨startF 3, [0, 0], 0⟩
theorem r13_pc : (runR p13 1 1 s13 9).1.f.pc = 2 := by decide +kernel
theorem r13_ws : (runR p13 1 1 s13 9).1.ws = [0, 5] := by decide +kernel
theorem r13_n : (runR p13 1 1 s13 9).2.1 = 2 := by decide +kernel
theorem r13_k : (runR p13 1 1 s13 9).2.2 = 2 := by decide +kernel
theorem wide_start (n : Nat) (ws : List Nat) (st : Int) (h : ∀ x ∈ ws, x < 4294967296) : Wide ⟨startF n, ws, st⟩ := ⟨by show (List.replicate 8 0).length = 8; simp, fun x hx => by
  have : x ∈ List.replicate 8 0 := hx
  rw [List.mem_replicate] at this
  omega, h⟩
set_option maxRecDepth 100000 in
set_option maxHeartbeats 4000000 in
theorem awake13 (w : World) (ht : Tabs w) : Calls Tryd.prog 8 #[] w fun e w' => e = .returned (.bool true) ∧ Same w w' := by
  obtain ⟨wA, hwA⟩ : ∃ wA, wA = w.alloc (.cells #[.int .i64 1, .int .i64 1, .int .i64 0, .int .i64 0, .int .u32 5, .int .i64 12, .int .i64 1, .int .i64 0, .int .i64 0, .int .u32 0, .int .i64 21, .int .i64 0, .int .i64 0, .int .i64 0, .int .u32 0] 40) := ⟨_, rfl⟩
  have hsA : Same w wA := hwA ▸ (Same.refl w).alloc _
  have hp : Prg wA (some ⟨w.heap.size, 0, none⟩) p13 := by
    refine Fw.prg_of (fun j v hj => ⟨w.heap.size, 0, rfl, ?_⟩) (fun x hx => by
      simp only [p13, List.mem_cons, List.not_mem_nil, or_false] at hx
      rcases hx with rfl | rfl | rfl <;> exact ⟨by decide, by decide⟩)
    rw [Nat.zero_add, hwA]
    have hb := (Blk.new w 40 #[.int .i64 1, .int .i64 1, .int .i64 0, .int .i64 0, .int .u32 5, .int .i64 12, .int .i64 1, .int .i64 0, .int .i64 0, .int .u32 0, .int .i64 21, .int .i64 0, .int .i64 0, .int .i64 0, .int .u32 0]).cell j
    rw [hb]
    simpa [Fw.prgCells, p13, Fw.cells] using hj
  have E1 := Lib.hid hwA
  have HP := Lib.hid hp
  have HSA := Lib.hid hsA
  have HT := Lib.hid (ht.same hsA)
  clear hwA hp hsA ht
  go_enter Tryd.func8, Tryd.ntmps8
  go_wp2_with fail
  rw [← E1.out]
  clear E1
  refine (Mm.new_any 2 (by omega) wA).mono ?_
  rintro e w2 ⟨rfl, s2, hm⟩
  have HM := Lib.hid hm.within
  have HS2 := Lib.hid s2
  generalize wA.heap.size + 1 = gm at *
  clear hm s2
  go_wp2_with fail
  refine (fstart_any _ 3 3 w2 (by omega)).mono ?_
  rintro e w3 ⟨T, rfl, ho, s3⟩
  have HO := Lib.hid ho
  have HM3 := Lib.hid (HM.out.same s3)
  have HS3 := Lib.hid (HS2.out.trans s3)
  have HRB := Lib.hid (show ∀ i, (wA.heap.size ≤ i ∧ i < w2.heap.size) → wA.heap.size ≤ i ∧ i < w3.heap.size from fun i hi => ⟨hi.1, Nat.lt_of_lt_of_le hi.2 s3.size⟩)
  have HSQ := Lib.hid s3.size
  clear ho s3 HM
  have FR := Lib.hid (frun_any (startF 3) [0, 0] 0 gm T 3 3 (some ⟨w.heap.size, 0, none⟩) 3 3 1 1 p13 HO.out.row (by show (List.replicate 3 (0 : Int)).length = 3; simp) (by omega) HP.out HT.out HS3.out rfl (by omega) HM3.out HRB.out (wide_start 3 [0, 0] 0 (by simp)) (by omega) 9 (by omega))
  have e1 := r13_pc
  have e2 := r13_ws
  have e3 := r13_n
  have e4 := r13_k
  unfold s13 at e1 e2 e3 e4
  rw [e3, e4] at FR
  clear e3 e4
  obtain ⟨s', hs'⟩ : ∃ s', s' = (runR p13 1 1 ⟨startF 3, [0, 0], 0⟩ 9).1 := ⟨_, rfl⟩
  rw [← hs'] at FR e1 e2
  clear hs'
  have HE1 := Lib.hid e1
  have HE2 := Lib.hid e2
  clear e1 e2
  go_wp2_with fail
  refine FR.out.mono ?_
  rintro e w4 ⟨T', c', rfl, _, hm4, hc4⟩
  have HM4 := Lib.hid hm4
  have HSZ := Lib.hid (show w2.heap.size ≤ w4.heap.size from Nat.le_trans (show w2.heap.size ≤ w3.heap.size from HSQ.out) hc4.size)
  have HS4 := Lib.hid (show Same wA w4 from Same.more HS3.out hc4 (fun i hi => hi.1))
  clear hm4 hc4 FR
  simp only [List.append_toArray]
  have hmr : ∀ o, Mm.Mem (w4.alloc o) (fun i => wA.heap.size ≤ i ∧ i < w2.heap.size) gm (cst [0, 5]) s'.st := fun o => by
    have h := HM4.out
    rw [HE2.out] at h
    exact h.same ((Same.refl w4).alloc o)
  have HMR := Lib.hid hmr
  clear hmr
  go_wp2_with fail
  refine (Mm.read_in _ (HMR.out _) 1 (by decide)).mono ?_
  rintro e w5 ⟨rfl, hm5, hc5⟩
  have hn4 : ¬ (wA.heap.size ≤ w4.heap.size ∧ w4.heap.size < w2.heap.size) := fun h => by have := HM3.out; have h2 := HS4.out.size; have h3 := HSZ.out; omega
  have HB5 := Lib.hid ((Blk.new w4 26 #[.int .i64 s'.f.pc, .int .u32 (rk s'.f 0), .int .u32 (rk s'.f 1), .int .u32 (rk s'.f 2), .int .u32 (rk s'.f 3), .int .u32 (rk s'.f 4), .int .u32 (rk s'.f 5), .int .u32 (rk s'.f 6), .int .u32 (rk s'.f 7), .slice T' 3 c']).chg hc5 hn4)
  have c0 := HB5.out.cell 0
  simp only [List.getElem?_toArray, List.getElem?_cons_zero, List.getElem?_cons_succ] at c0
  rw [HE1.out] at c0
  have HS5 := Lib.hid (show Same wA w5 from Same.more (HS4.out.alloc _) hc5 (fun i hi => hi.1))
  clear hm5 hc5 hn4 HB5
  have h5 : (cst [0, 5])[1] = 5 := rfl
  rw [h5]
  clear h5
  go_wp2_with fail
  go_ret
  exact ⟨rfl, HSA.out.trans HS5.out⟩
end Go.Proofs.YtgimelpjklnjmabDoor.Fr
end
section
section
set_option linter.unusedVariables false
set_option linter.unusedSimpArgs false
namespace Go.Proofs.YtgimelpjklnjmabDoor.Fr
open Go.ChangeShapes Go.WideShapes Go.ChangeAt Go.RowKit Ws
open Go.Proofs.YtgimelpjklnjmabDoor.Fp (Ins at_ Fine at_some)
open Go.Proofs.YtgimelpjklnjmabDoor.Fw (Prg okB ckE check_any okB_fine rightI)
open Go.Proofs.YtgimelpjklnjmabDoor.Is (Tabs)

theorem nats_of : ∀ {l : List Int}, (∀ x ∈ l, (Lit.int .u32 x).wf = true) → ∃ ws : List Nat, l = cst ws ∧ ∀ x ∈ ws, x < 4294967296
  | [], _ => ⟨[], rfl, fun x h => by cases h⟩
  | a :: l, h => by
    obtain ⟨ws, h1, h2⟩ := nats_of (fun x hx => h x (List.mem_cons_of_mem a hx))
    obtain ⟨n, hn, hb⟩ := Al.nat_of (h a (List.mem_cons_self ..))
    exact ⟨n :: ws, by subst h1 hn; rfl, fun x hx => by
      rcases List.mem_cons.1 hx with hx | hx
      · rw [hx]; exact hb
      · exact h2 x hx⟩
set_option maxRecDepth 100000 in
theorem case_of {H : Type} {enc : TypeId × Value → H} {w : World} {base : Nat} {sp : Nat → Bool} {held : Bool} {r : Reach} {b0 : Nat} {v : Value} {d : DataW H} {p : List MemPlace}
    (hv : Value.okWide Tryd.prog w r b0 32 v) (h : DataW.Trod enc Tryd.prog w base sp held 32 v d p) :
    ∃ (f : FS) (T : Option Addr) (nT cT : Nat) (A : Option Addr) (m cA : Nat) (L : Option Addr) (nL cL : Nat) (oa ol : Int) (ws : List Nat) (p : List Ins), v = .agg #[.int .i64 f.pc, .int .u32 (rk f 0), .int .u32 (rk f 1), .int .u32 (rk f 2), .int .u32 (rk f 3), .int .u32 (rk f 4), .int .u32 (rk f 5), .int .u32 (rk f 6), .int .u32 (rk f 7), .slice T nT cT, .slice A m cA, .slice L nL cL, .int .i64 oa, .int .i64 ol] ∧
      Row w T (f.tn.map (Value.int .i64)) ∧ f.tn.length = nT ∧ Prg w A p ∧ p.length = m ∧ Row w L ((cst ws).map (Value.int .u32)) ∧ ws.length = nL ∧ f.rg.length = 8 ∧ (∀ x ∈ f.rg, x < 4294967296) ∧ (∀ x ∈ ws, x < 4294967296) := by
  obtain ⟨cs, rfl, hsz⟩ := okWide_struct Tryd.underlying32 hv
  obtain ⟨fuel, hf⟩ := h
  have hc : (Value.agg cs).cells.toList = cs.toList := by simp [Value.cells]
  rw [hc] at hf
  obtain ⟨l⟩ := cs
  have h14 : l.length = 14 := by
    have := hsz.trans (show Tryd.prog.cellsOf 32 = 14 by kernel_rfl)
    simpa using this
  match l, h14 with
  | [c0, c1, c2, c3, c4, c5, c6, c7, c8, c9, c10, c11, c12, c13], _ =>
    obtain ⟨x0, e0, b0⟩ := Oa.int_leaf hf (show Oa.leafAt Tryd.prog 8 32 0 = some 3 by kernel_rfl) Tryd.underlying3
    obtain ⟨r1, e1, b1⟩ := Oa.int_leaf hf (show Oa.leafAt Tryd.prog 8 32 1 = some 22 by kernel_rfl) Tryd.underlying22
    obtain ⟨r2, e2, b2⟩ := Oa.int_leaf hf (show Oa.leafAt Tryd.prog 8 32 2 = some 22 by kernel_rfl) Tryd.underlying22
    obtain ⟨r3, e3, b3⟩ := Oa.int_leaf hf (show Oa.leafAt Tryd.prog 8 32 3 = some 22 by kernel_rfl) Tryd.underlying22
    obtain ⟨r4, e4, b4⟩ := Oa.int_leaf hf (show Oa.leafAt Tryd.prog 8 32 4 = some 22 by kernel_rfl) Tryd.underlying22
    obtain ⟨r5, e5, b5⟩ := Oa.int_leaf hf (show Oa.leafAt Tryd.prog 8 32 5 = some 22 by kernel_rfl) Tryd.underlying22
    obtain ⟨r6, e6, b6⟩ := Oa.int_leaf hf (show Oa.leafAt Tryd.prog 8 32 6 = some 22 by kernel_rfl) Tryd.underlying22
    obtain ⟨r7, e7, b7⟩ := Oa.int_leaf hf (show Oa.leafAt Tryd.prog 8 32 7 = some 22 by kernel_rfl) Tryd.underlying22
    obtain ⟨r8, e8, b8⟩ := Oa.int_leaf hf (show Oa.leafAt Tryd.prog 8 32 8 = some 22 by kernel_rfl) Tryd.underlying22
    obtain ⟨T, nT, cT, d9, p9, e9, t9⟩ := Oa.slice_leaf hf (show Oa.leafAt Tryd.prog 8 32 9 = some 24 by kernel_rfl) Tryd.underlying24
    obtain ⟨A, m, cA, d10, p10, e10, t10⟩ := Oa.slice_leaf hf (show Oa.leafAt Tryd.prog 8 32 10 = some 27 by kernel_rfl) Tryd.underlying27
    obtain ⟨L, nL, cL, d11, p11, e11, t11⟩ := Oa.slice_leaf hf (show Oa.leafAt Tryd.prog 8 32 11 = some 28 by kernel_rfl) Tryd.underlying28
    obtain ⟨x12, e12, b12⟩ := Oa.int_leaf hf (show Oa.leafAt Tryd.prog 8 32 12 = some 3 by kernel_rfl) Tryd.underlying3
    obtain ⟨x13, e13, b13⟩ := Oa.int_leaf hf (show Oa.leafAt Tryd.prog 8 32 13 = some 3 by kernel_rfl) Tryd.underlying3
    simp at e0 e1 e2 e3 e4 e5 e6 e7 e8 e9 e10 e11 e12 e13
    subst e0 e1 e2 e3 e4 e5 e6 e7 e8 e9 e10 e11 e12 e13
    obtain ⟨tn, hl, hrow, _, _⟩ := Fl.ints_of Tryd.underlying24 Tryd.underlying3 (by kernel_rfl) t9
    obtain ⟨rows, hp, hpl, _⟩ := Fl.rows_of Tryd.underlying27 (show Fl.kinds Tryd.prog 6 40 = some [.i64, .i64, .i64, .i64, .u32] by kernel_rfl) (by decide) t10
    obtain ⟨pr, hpr, hprg⟩ := Fw.prg_in hp
    obtain ⟨ls, hl2, hrow2, hwf2, _⟩ := Fl.ints_of Tryd.underlying28 Tryd.underlying22 (by kernel_rfl) t11
    obtain ⟨ws, rfl, hwb⟩ := nats_of hwf2
    obtain ⟨n1, rfl, q1⟩ := Al.nat_of b1
    obtain ⟨n2, rfl, q2⟩ := Al.nat_of b2
    obtain ⟨n3, rfl, q3⟩ := Al.nat_of b3
    obtain ⟨n4, rfl, q4⟩ := Al.nat_of b4
    obtain ⟨n5, rfl, q5⟩ := Al.nat_of b5
    obtain ⟨n6, rfl, q6⟩ := Al.nat_of b6
    obtain ⟨n7, rfl, q7⟩ := Al.nat_of b7
    obtain ⟨n8, rfl, q8⟩ := Al.nat_of b8
    refine ⟨⟨x0, [n1, n2, n3, n4, n5, n6, n7, n8], tn⟩, T, nT, cT, A, m, cA, L, nL, cL, x12, x13, ws, pr, rfl, hrow, hl, hprg, by rw [hpr]; exact hpl, hrow2, by rw [← cst_len]; exact hl2, rfl, fun x hx => ?_, hwb⟩
    simp only [List.mem_cons, List.not_mem_nil, or_false] at hx
    rcases hx with rfl | rfl | rfl | rfl | rfl | rfl | rfl | rfl <;> assumption
def lightB (m nL nT : Nat) : Bool := decide ((m : Int) ≤ 200 ∧ (nL : Int) ≤ 300 ∧ (nT : Int) ≤ 200)
theorem light_any (f : FS) (T : Option Addr) (nT cT : Nat) (A : Option Addr) (m cA : Nat) (L : Option Addr) (nL cL : Nat) (oa ol : Int) (w : World) :
    Calls Tryd.prog 7 #[.agg #[.int .i64 f.pc, .int .u32 (rk f 0), .int .u32 (rk f 1), .int .u32 (rk f 2), .int .u32 (rk f 3), .int .u32 (rk f 4), .int .u32 (rk f 5), .int .u32 (rk f 6), .int .u32 (rk f 7), .slice T nT cT, .slice A m cA, .slice L nL cL, .int .i64 oa, .int .i64 ol]] w fun e w' => e = .returned (.bool (lightB m nL nT)) ∧ Same w w' := by
  by_cases h1 : (m : Int) ≤ 200
  · by_cases h2 : (nL : Int) ≤ 300
    · by_cases h3 : (nT : Int) ≤ 200
      · have hb : lightB m nL nT = true := decide_eq_true ⟨h1, h2, h3⟩
        rw [hb]
        clear hb
        go_enter Tryd.func7, Tryd.ntmps7
        go_wp2
        go_ret
        exact ⟨rfl, (Same.refl _).alloc _⟩
      · have hb : lightB m nL nT = false := decide_eq_false (fun h => h3 h.2.2)
        rw [hb]
        clear hb
        go_enter Tryd.func7, Tryd.ntmps7
        go_wp2
        go_ret
        exact ⟨rfl, (Same.refl _).alloc _⟩
    · have hb : lightB m nL nT = false := decide_eq_false (fun h => h2 h.2.1)
      rw [hb]
      clear hb
      go_enter Tryd.func7, Tryd.ntmps7
      go_wp2
      go_ret
      exact ⟨rfl, (Same.refl _).alloc _⟩
  · have hb : lightB m nL nT = false := decide_eq_false (fun h => h1 h.1)
    rw [hb]
    clear hb
    go_enter Tryd.func7, Tryd.ntmps7
    go_wp2
    go_ret
    exact ⟨rfl, (Same.refl _).alloc _⟩
end Go.Proofs.YtgimelpjklnjmabDoor.Fr
end
section
section
set_option linter.unusedVariables false
set_option linter.unusedSimpArgs false
namespace Go.Proofs.YtgimelpjklnjmabDoor.Fr
open Go.ChangeShapes Go.WideShapes Go.ChangeAt Go.RowKit Ws
open Go.Proofs.YtgimelpjklnjmabDoor.Fp (Ins at_ Fine at_some)
open Go.Proofs.YtgimelpjklnjmabDoor.Fw (Prg okB ckE check_any okB_fine rightI)
open Go.Proofs.YtgimelpjklnjmabDoor.Is (Tabs)

theorem nonneg_ok {x : Ins} (hr : rightI x = true) : 0 ≤ x.a ∧ 0 ≤ x.b ∧ 0 ≤ x.c := by
  unfold rightI Is.rightB Is.fitB at hr
  simp only [Bool.and_eq_true, decide_eq_true_eq] at hr
  omega
set_option maxHeartbeats 2000000 in
theorem rstep_any (f : FS) (ws : List Nat) (st : Int) (T : Option Addr) (nT cT : Nat) (A : Option Addr) (m cA : Nat) (C : Option Addr) (n dC : Nat) (oa ol : Int) (p : List Ins) (w : World) (hT : Row w T (f.tn.map (Value.int .i64))) (hn : f.tn.length = nT) (hb : nT ≤ 5000) (hp : Prg w A p) (hl : p.length = m) (hm : m ≤ 5000) (hc : Own w 0 22 C dC ((cst ws).map (Value.int .u32))) (hcn : ws.length = n) (hcb : n ≤ 4096) (hw : Wide ⟨f, ws, st⟩) :
    Calls Tryd.prog 16 #[.agg #[.int .i64 f.pc, .int .u32 (rk f 0), .int .u32 (rk f 1), .int .u32 (rk f 2), .int .u32 (rk f 3), .int .u32 (rk f 4), .int .u32 (rk f 5), .int .u32 (rk f 6), .int .u32 (rk f 7), .slice T nT cT], .slice A m cA, .slice C n dC, .agg #[.int .i64 oa, .int .i64 ol]] w (RefP w (stepR p oa ol ⟨f, ws, st⟩).1 nT C n dC (stepR p oa ol ⟨f, ws, st⟩).2 ((stepR p oa ol ⟨f, ws, st⟩).1.st - st)) := by
  cases hmb : mayB p ⟨f, ws, st⟩ oa ol with
  | false =>
    have e : stepR p oa ol ⟨f, ws, st⟩ = (⟨f, ws, st⟩, 3) := if_neg (by rw [hmb]; decide)
    rw [e]
    show Calls Tryd.prog 16 #[.agg #[.int .i64 f.pc, .int .u32 (rk f 0), .int .u32 (rk f 1), .int .u32 (rk f 2), .int .u32 (rk f 3), .int .u32 (rk f 4), .int .u32 (rk f 5), .int .u32 (rk f 6), .int .u32 (rk f 7), .slice T nT cT], .slice A m cA, .slice C n dC, .agg #[.int .i64 oa, .int .i64 ol]] w (RefP w ⟨f, ws, st⟩ nT C n dC 3 (st - st))
    rw [Int.sub_self]
    exact rstep_off f ws st T nT cT A m cA C n dC oa ol p w hT hn hb hp hl hm hc hcn hcb hmb
  | true =>
    have hok := may_ok hmb
    have hmr : rightF (okB p) p f = true := by
      unfold mayB at hmb
      rw [Bool.and_eq_true] at hmb
      exact hmb.1
    obtain ⟨_, ⟨p0, p1, p2⟩, htl⟩ := right_iff.1 hmr
    have hfine := okB_fine hok
    obtain ⟨pc, rg, tn⟩ := f
    simp only at p0 p1 p2
    obtain ⟨k, rfl⟩ : ∃ k : Nat, pc = (k : Int) := ⟨pc.toNat, by omega⟩
    have hkp : k < p.length := by omega
    have hkm : k < m := by omega
    have hrx : rightI (at_ p k) = true := hfine.right k hkp
    have hro := regs_ok hrx
    have hxok := hp.ok hkp
    have e : stepR p oa ol ⟨⟨(k : Int), rg, tn⟩, ws, st⟩ = (if kindI (at_ p k) = 0 then inst oa ol (at_ p k) ⟨⟨(k : Int), rg, tn⟩, ws, st⟩ else ⟨⟨(k : Int), rg, tn⟩, ws, st⟩, kindI (at_ p k)) := if_pos hmb
    have htv := htl k (by show k < tn.length; omega)
    have hkT : k < nT := by simp only at hn; omega
    rw [e]
    generalize hx : at_ p k = x at *
    obtain ⟨o, a, b, c, xn⟩ := x
    obtain ⟨n0, n1⟩ := hxok
    simp only at hro n0 n1
    obtain ⟨xn, rfl⟩ : ∃ j : Nat, xn = j := ⟨xn.toNat, by omega⟩
    have n2 : xn < 4294967296 := by omega
    obtain ⟨ho, hr13, hr15, hr16⟩ := hro
    have fin : ∀ {s1 s2 : SS} {k1 k2 v1 v2 : Int}, s1.f = s2.f → s1.ws = s2.ws → k1 = k2 → v1 = v2 → Calls Tryd.prog 16 #[.agg #[.int .i64 (⟨(k : Int), rg, tn⟩ : FS).pc, .int .u32 (rk (⟨(k : Int), rg, tn⟩ : FS) 0), .int .u32 (rk (⟨(k : Int), rg, tn⟩ : FS) 1), .int .u32 (rk (⟨(k : Int), rg, tn⟩ : FS) 2), .int .u32 (rk (⟨(k : Int), rg, tn⟩ : FS) 3), .int .u32 (rk (⟨(k : Int), rg, tn⟩ : FS) 4), .int .u32 (rk (⟨(k : Int), rg, tn⟩ : FS) 5), .int .u32 (rk (⟨(k : Int), rg, tn⟩ : FS) 6), .int .u32 (rk (⟨(k : Int), rg, tn⟩ : FS) 7), .slice T nT cT], .slice A m cA, .slice C n dC, .agg #[.int .i64 oa, .int .i64 ol]] w (RefP w s1 nT C n dC k1 v1) → Calls Tryd.prog 16 #[.agg #[.int .i64 (⟨(k : Int), rg, tn⟩ : FS).pc, .int .u32 (rk (⟨(k : Int), rg, tn⟩ : FS) 0), .int .u32 (rk (⟨(k : Int), rg, tn⟩ : FS) 1), .int .u32 (rk (⟨(k : Int), rg, tn⟩ : FS) 2), .int .u32 (rk (⟨(k : Int), rg, tn⟩ : FS) 3), .int .u32 (rk (⟨(k : Int), rg, tn⟩ : FS) 4), .int .u32 (rk (⟨(k : Int), rg, tn⟩ : FS) 5), .int .u32 (rk (⟨(k : Int), rg, tn⟩ : FS) 6), .int .u32 (rk (⟨(k : Int), rg, tn⟩ : FS) 7), .slice T nT cT], .slice A m cA, .slice C n dC, .agg #[.int .i64 oa, .int .i64 ol]] w (RefP w s2 nT C n dC k2 v2) := fun {s1 s2 k1 k2 v1 v2} h1 h2 h3 h4 h => by
      obtain ⟨f1, w1, t1⟩ := s1
      obtain ⟨f2, w2, t2⟩ := s2
      simp only at h1 h2
      subst h1 h2 h3 h4
      exact h
    obtain ⟨ka, rfl⟩ : ∃ j : Nat, a = j := ⟨a.toNat, by have := (nonneg_ok hrx).1; simp only at this; omega⟩
    obtain ⟨kb, rfl⟩ : ∃ j : Nat, b = j := ⟨b.toNat, by have := (nonneg_ok hrx).2.1; simp only at this; omega⟩
    obtain ⟨kc, rfl⟩ : ∃ j : Nat, c = j := ⟨c.toNat, by have := (nonneg_ok hrx).2.2; simp only at this; omega⟩
    rcases (show o = 21 ∨ o = 14 ∨ o = 16 ∨ o = 15 ∨ o = 17 ∨ o = 18 ∨ o = 19 ∨ o = 20 ∨ o ≤ 13 by omega) with rfl | rfl | rfl | rfl | rfl | rfl | rfl | rfl | h13
    · have hk : kindI ⟨21, ka, kb, kc, xn⟩ = 2 := by simp [kindI]
      rw [hk, if_neg (by decide)]
      exact fin (s1 := ⟨⟨(k : Int), rg, tn⟩, ws, st⟩) rfl rfl rfl (Int.sub_self st).symm (rstep_21 (⟨(k : Int), rg, tn⟩ : FS) ws st T nT cT A m cA C n dC oa ol p w hT hn hb hp hl hm hc hcn hcb hmb k ka kb kc xn _ _ _ rfl hkm hx rfl rfl rfl hw n2)
    · have hk : kindI ⟨14, ka, kb, kc, xn⟩ = 0 := by simp [kindI]
      rw [hk, if_pos rfl]
      exact fin (s1 := ⟨_, _, st⟩) rfl rfl rfl (by simp [inst, isMem]) (rstep_14 (⟨(k : Int), rg, tn⟩ : FS) ws st T nT cT A m cA C n dC oa ol p w hT hn hb hp hl hm hc hcn hcb hmb k ka kb kc xn _ _ _ rfl hkm hx rfl rfl rfl hw n2 (inst oa ol ⟨14, ka, kb, kc, xn⟩ ⟨⟨(k : Int), rg, tn⟩, ws, st⟩).f (by simp [inst, pcI, rgI, tnI]) (inst oa ol ⟨14, ka, kb, kc, xn⟩ ⟨⟨(k : Int), rg, tn⟩, ws, st⟩).ws (by simp [inst, wsI]))
    · have hk : kindI ⟨16, ka, kb, kc, xn⟩ = 0 := by simp [kindI]
      rw [hk, if_pos rfl]
      have hkc := hr16 rfl
      have hm16 : mostI (⟨16, (ka : Int), (kb : Int), (kc : Int), (xn : Int)⟩ : Ins) = kc := by simp [mostI]
      rw [hm16] at htv
      have htv : 0 ≤ tn.getD k 0 ∧ tn.getD k 0 ≤ (kc : Int) := htv
      by_cases hlt : tn.getD k 0 < (kc : Int)
      · have hlt2 := hlt
        simp only [List.getD_eq_getElem?_getD] at hlt2
        exact fin (s1 := ⟨_, _, st⟩) rfl rfl rfl (by simp [inst, isMem]) (rstep_16y (⟨(k : Int), rg, tn⟩ : FS) ws st T nT cT A m cA C n dC oa ol p w hT hn hb hp hl hm hc hcn hcb hmb k xn ka kb kc rfl hkm hx hw n2 hkT _ rfl ⟨htv.1, by omega⟩ hlt (inst oa ol ⟨16, ka, kb, kc, xn⟩ ⟨⟨(k : Int), rg, tn⟩, ws, st⟩).f (by simp [inst, pcI, rgI, tnI, backB, tnv, hlt2]) (inst oa ol ⟨16, ka, kb, kc, xn⟩ ⟨⟨(k : Int), rg, tn⟩, ws, st⟩).ws (by simp [inst, wsI]))
      · have hlt2 := hlt
        simp only [List.getD_eq_getElem?_getD] at hlt2
        exact fin (s1 := ⟨_, _, st⟩) rfl rfl rfl (by simp [inst, isMem]) (rstep_16n (⟨(k : Int), rg, tn⟩ : FS) ws st T nT cT A m cA C n dC oa ol p w hT hn hb hp hl hm hc hcn hcb hmb k xn ka kb kc rfl hkm hx hw n2 hkT _ rfl ⟨htv.1, by omega⟩ hlt (inst oa ol ⟨16, ka, kb, kc, xn⟩ ⟨⟨(k : Int), rg, tn⟩, ws, st⟩).f (by simp [inst, pcI, rgI, tnI, backB, tnv, hlt2]) (inst oa ol ⟨16, ka, kb, kc, xn⟩ ⟨⟨(k : Int), rg, tn⟩, ws, st⟩).ws (by simp [inst, wsI]))
    · have hk : kindI ⟨15, ka, kb, kc, xn⟩ = 0 := by simp [kindI]
      rw [hk, if_pos rfl]
      have hka := hr15 (.inl rfl)
      by_cases hz : rg.getD ka 0 = 0
      · have hz2 := hz
        simp only [List.getD_eq_getElem?_getD] at hz2
        exact fin (s1 := ⟨_, _, st⟩) rfl rfl rfl (by simp [inst, isMem]) (rstep_15y (⟨(k : Int), rg, tn⟩ : FS) ws st T nT cT A m cA C n dC oa ol p w hT hn hb hp hl hm hc hcn hcb hmb k ka kb kc xn _ _ _ rfl hkm hx rfl rfl rfl hw n2 (by omega) hz (inst oa ol ⟨15, ka, kb, kc, xn⟩ ⟨⟨(k : Int), rg, tn⟩, ws, st⟩).f (by simp [inst, pcI, rgI, tnI, rgv, hz2]) (inst oa ol ⟨15, ka, kb, kc, xn⟩ ⟨⟨(k : Int), rg, tn⟩, ws, st⟩).ws (by simp [inst, wsI]))
      · have hz2 := hz
        simp only [List.getD_eq_getElem?_getD] at hz2
        exact fin (s1 := ⟨_, _, st⟩) rfl rfl rfl (by simp [inst, isMem]) (rstep_15n (⟨(k : Int), rg, tn⟩ : FS) ws st T nT cT A m cA C n dC oa ol p w hT hn hb hp hl hm hc hcn hcb hmb k ka kb kc xn _ _ _ rfl hkm hx rfl rfl rfl hw n2 (by omega) hz (inst oa ol ⟨15, ka, kb, kc, xn⟩ ⟨⟨(k : Int), rg, tn⟩, ws, st⟩).f (by simp [inst, pcI, rgI, tnI, rgv, hz2]) (inst oa ol ⟨15, ka, kb, kc, xn⟩ ⟨⟨(k : Int), rg, tn⟩, ws, st⟩).ws (by simp [inst, wsI]))
    · have hk : kindI ⟨17, ka, kb, kc, xn⟩ = 1 := by simp [kindI]
      rw [hk, if_neg (by decide)]
      exact fin (s1 := ⟨⟨(k : Int), rg, tn⟩, ws, st⟩) rfl rfl rfl (Int.sub_self st).symm (rstep_17 (⟨(k : Int), rg, tn⟩ : FS) ws st T nT cT A m cA C n dC oa ol p w hT hn hb hp hl hm hc hcn hcb hmb k ka kb kc xn _ _ _ rfl hkm hx rfl rfl rfl hw n2)
    · have hk : kindI ⟨18, ka, kb, kc, xn⟩ = 1 := by simp [kindI]
      rw [hk, if_neg (by decide)]
      exact fin (s1 := ⟨⟨(k : Int), rg, tn⟩, ws, st⟩) rfl rfl rfl (Int.sub_self st).symm (rstep_18 (⟨(k : Int), rg, tn⟩ : FS) ws st T nT cT A m cA C n dC oa ol p w hT hn hb hp hl hm hc hcn hcb hmb k ka kb kc xn _ _ _ rfl hkm hx rfl rfl rfl hw n2)
    · have hk : kindI ⟨19, ka, kb, kc, xn⟩ = 1 := by simp [kindI]
      rw [hk, if_neg (by decide)]
      exact fin (s1 := ⟨⟨(k : Int), rg, tn⟩, ws, st⟩) rfl rfl rfl (Int.sub_self st).symm (rstep_19 (⟨(k : Int), rg, tn⟩ : FS) ws st T nT cT A m cA C n dC oa ol p w hT hn hb hp hl hm hc hcn hcb hmb k ka kb kc xn _ _ _ rfl hkm hx rfl rfl rfl hw n2)
    · have hk : kindI ⟨20, ka, kb, kc, xn⟩ = 1 := by simp [kindI]
      rw [hk, if_neg (by decide)]
      exact fin (s1 := ⟨⟨(k : Int), rg, tn⟩, ws, st⟩) rfl rfl rfl (Int.sub_self st).symm (rstep_20 (⟨(k : Int), rg, tn⟩ : FS) ws st T nT cT A m cA C n dC oa ol p w hT hn hb hp hl hm hc hcn hcb hmb k ka kb kc xn _ _ _ rfl hkm hx rfl rfl rfl hw n2)
    · have hk : kindI ⟨o, ka, kb, kc, xn⟩ = 0 := by unfold kindI; rw [if_neg (by simp only; omega), if_neg (by simp only; omega)]
      rw [hk, if_pos rfl]
      obtain ⟨⟨_, qa⟩, ⟨_, qb⟩, ⟨_, qc⟩⟩ := hr13 h13
      have qa : ka < 8 := by omega
      have qb : kb < 8 := by omega
      have qc : kc < 8 := by omega
      rcases (show o = 0 ∨ o = 1 ∨ o = 2 ∨ o = 3 ∨ o = 4 ∨ o = 5 ∨ o = 6 ∨ o = 7 ∨ o = 8 ∨ o = 9 ∨ o = 10 ∨ o = 11 ∨ o = 12 ∨ o = 13 by omega) with rfl | rfl | rfl | rfl | rfl | rfl | rfl | rfl | rfl | rfl | rfl | rfl | rfl | rfl
      · exact fin (s1 := ⟨_, _, st⟩) rfl rfl rfl (by simp [inst, isMem]) (rstep_0 (⟨(k : Int), rg, tn⟩ : FS) ws st T nT cT A m cA C n dC oa ol p w hT hn hb hp hl hm hc hcn hcb hmb k ka kb kc xn _ _ _ rfl hkm hx rfl rfl rfl hw n2 (inst oa ol ⟨0, ka, kb, kc, xn⟩ ⟨⟨(k : Int), rg, tn⟩, ws, st⟩).f (by simp [inst, pcI, rgI, tnI, rgv]) (inst oa ol ⟨0, ka, kb, kc, xn⟩ ⟨⟨(k : Int), rg, tn⟩, ws, st⟩).ws (by simp [inst, wsI]))
      · exact fin (s1 := ⟨_, _, st⟩) rfl rfl rfl (by simp [inst, isMem]) (rstep_1 (⟨(k : Int), rg, tn⟩ : FS) ws st T nT cT A m cA C n dC oa ol p w hT hn hb hp hl hm hc hcn hcb hmb k ka kb kc xn _ _ _ rfl hkm hx rfl rfl rfl hw n2 qa (inst oa ol ⟨1, ka, kb, kc, xn⟩ ⟨⟨(k : Int), rg, tn⟩, ws, st⟩).f (by simp [inst, pcI, rgI, tnI, rgv]) (inst oa ol ⟨1, ka, kb, kc, xn⟩ ⟨⟨(k : Int), rg, tn⟩, ws, st⟩).ws (by simp [inst, wsI]))
      · exact fin (s1 := ⟨_, _, st⟩) rfl rfl rfl (by simp [inst, isMem]) (rstep_2 (⟨(k : Int), rg, tn⟩ : FS) ws st T nT cT A m cA C n dC oa ol p w hT hn hb hp hl hm hc hcn hcb hmb k ka kb kc xn _ _ _ rfl hkm hx rfl rfl rfl hw n2 qa qb (inst oa ol ⟨2, ka, kb, kc, xn⟩ ⟨⟨(k : Int), rg, tn⟩, ws, st⟩).f (by simp [inst, pcI, rgI, tnI, rgv]) (inst oa ol ⟨2, ka, kb, kc, xn⟩ ⟨⟨(k : Int), rg, tn⟩, ws, st⟩).ws (by simp [inst, wsI]))
      · exact fin (s1 := ⟨_, _, st⟩) rfl rfl rfl (by simp [inst, isMem]) (rstep_3 (⟨(k : Int), rg, tn⟩ : FS) ws st T nT cT A m cA C n dC oa ol p w hT hn hb hp hl hm hc hcn hcb hmb k ka kb kc xn _ _ _ rfl hkm hx rfl rfl rfl hw n2 qa qb qc _ rfl (inst oa ol ⟨3, ka, kb, kc, xn⟩ ⟨⟨(k : Int), rg, tn⟩, ws, st⟩).f (by simp [inst, pcI, rgI, tnI, rgv]) (inst oa ol ⟨3, ka, kb, kc, xn⟩ ⟨⟨(k : Int), rg, tn⟩, ws, st⟩).ws (by simp [inst, wsI]))
      · exact fin (s1 := ⟨_, _, st⟩) rfl rfl rfl (by simp [inst, isMem]) (rstep_4 (⟨(k : Int), rg, tn⟩ : FS) ws st T nT cT A m cA C n dC oa ol p w hT hn hb hp hl hm hc hcn hcb hmb k ka kb kc xn _ _ _ rfl hkm hx rfl rfl rfl hw n2 qa qb qc _ rfl (inst oa ol ⟨4, ka, kb, kc, xn⟩ ⟨⟨(k : Int), rg, tn⟩, ws, st⟩).f (by simp [inst, pcI, rgI, tnI, rgv]) (inst oa ol ⟨4, ka, kb, kc, xn⟩ ⟨⟨(k : Int), rg, tn⟩, ws, st⟩).ws (by simp [inst, wsI]))
      · exact fin (s1 := ⟨_, _, st⟩) rfl rfl rfl (by simp [inst, isMem]) (rstep_5 (⟨(k : Int), rg, tn⟩ : FS) ws st T nT cT A m cA C n dC oa ol p w hT hn hb hp hl hm hc hcn hcb hmb k ka kb kc xn _ _ _ rfl hkm hx rfl rfl rfl hw n2 qa qb qc _ rfl (inst oa ol ⟨5, ka, kb, kc, xn⟩ ⟨⟨(k : Int), rg, tn⟩, ws, st⟩).f (by simp [inst, pcI, rgI, tnI, rgv]) (inst oa ol ⟨5, ka, kb, kc, xn⟩ ⟨⟨(k : Int), rg, tn⟩, ws, st⟩).ws (by simp [inst, wsI]))
      · exact fin (s1 := ⟨_, _, st⟩) rfl rfl rfl (by simp [inst, isMem]) (rstep_6 (⟨(k : Int), rg, tn⟩ : FS) ws st T nT cT A m cA C n dC oa ol p w hT hn hb hp hl hm hc hcn hcb hmb k ka kb kc xn _ _ _ rfl hkm hx rfl rfl rfl hw n2 qa qb qc _ rfl (inst oa ol ⟨6, ka, kb, kc, xn⟩ ⟨⟨(k : Int), rg, tn⟩, ws, st⟩).f (by simp [inst, pcI, rgI, tnI, rgv]) (inst oa ol ⟨6, ka, kb, kc, xn⟩ ⟨⟨(k : Int), rg, tn⟩, ws, st⟩).ws (by simp [inst, wsI]))
      · exact fin (s1 := ⟨_, _, st⟩) rfl rfl rfl (by simp [inst, isMem]) (rstep_7 (⟨(k : Int), rg, tn⟩ : FS) ws st T nT cT A m cA C n dC oa ol p w hT hn hb hp hl hm hc hcn hcb hmb k ka kb kc xn _ _ _ rfl hkm hx rfl rfl rfl hw n2 qa qb qc _ rfl (inst oa ol ⟨7, ka, kb, kc, xn⟩ ⟨⟨(k : Int), rg, tn⟩, ws, st⟩).f (by simp [inst, pcI, rgI, tnI, rgv]) (inst oa ol ⟨7, ka, kb, kc, xn⟩ ⟨⟨(k : Int), rg, tn⟩, ws, st⟩).ws (by simp [inst, wsI]))
      · exact fin (s1 := ⟨_, _, st⟩) rfl rfl rfl (by simp [inst, isMem]) (rstep_8 (⟨(k : Int), rg, tn⟩ : FS) ws st T nT cT A m cA C n dC oa ol p w hT hn hb hp hl hm hc hcn hcb hmb k ka kb kc xn _ _ _ rfl hkm hx rfl rfl rfl hw n2 qa qb qc _ rfl (inst oa ol ⟨8, ka, kb, kc, xn⟩ ⟨⟨(k : Int), rg, tn⟩, ws, st⟩).f (by simp [inst, pcI, rgI, tnI, rgv]) (inst oa ol ⟨8, ka, kb, kc, xn⟩ ⟨⟨(k : Int), rg, tn⟩, ws, st⟩).ws (by simp [inst, wsI]))
      · exact fin (s1 := ⟨_, _, st⟩) rfl rfl rfl (by simp [inst, isMem]) (rstep_9 (⟨(k : Int), rg, tn⟩ : FS) ws st T nT cT A m cA C n dC oa ol p w hT hn hb hp hl hm hc hcn hcb hmb k ka kb kc xn _ _ _ rfl hkm hx rfl rfl rfl hw n2 qa qb qc _ rfl (inst oa ol ⟨9, ka, kb, kc, xn⟩ ⟨⟨(k : Int), rg, tn⟩, ws, st⟩).f (by simp [inst, pcI, rgI, tnI, rgv]) (inst oa ol ⟨9, ka, kb, kc, xn⟩ ⟨⟨(k : Int), rg, tn⟩, ws, st⟩).ws (by simp [inst, wsI]))
      · exact fin (s1 := ⟨_, _, st⟩) rfl rfl rfl (by simp [inst, isMem]) (rstep_10 (⟨(k : Int), rg, tn⟩ : FS) ws st T nT cT A m cA C n dC oa ol p w hT hn hb hp hl hm hc hcn hcb hmb k ka kb kc xn _ _ _ rfl hkm hx rfl rfl rfl hw n2 qa qb qc _ rfl (inst oa ol ⟨10, ka, kb, kc, xn⟩ ⟨⟨(k : Int), rg, tn⟩, ws, st⟩).f (by simp [inst, pcI, rgI, tnI, rgv]) (inst oa ol ⟨10, ka, kb, kc, xn⟩ ⟨⟨(k : Int), rg, tn⟩, ws, st⟩).ws (by simp [inst, wsI]))
      · exact fin (s1 := ⟨_, _, st⟩) rfl rfl rfl (by simp [inst, isMem]; omega) (rstep_11 (⟨(k : Int), rg, tn⟩ : FS) ws st T nT cT A m cA C n dC oa ol p w hT hn hb hp hl hm hc hcn hcb hmb k ka kb kc xn _ _ _ rfl hkm hx rfl rfl rfl hw n2 qa qb _ rfl _ rfl (inst oa ol ⟨11, ka, kb, kc, xn⟩ ⟨⟨(k : Int), rg, tn⟩, ws, st⟩).f (by simp [inst, pcI, rgI, tnI, rgv, atN, offN]) (inst oa ol ⟨11, ka, kb, kc, xn⟩ ⟨⟨(k : Int), rg, tn⟩, ws, st⟩).ws (by simp [inst, wsI, atN, offN]))
      · exact fin (s1 := ⟨_, _, st⟩) rfl rfl rfl (by simp [inst, isMem]; omega) (rstep_12 (⟨(k : Int), rg, tn⟩ : FS) ws st T nT cT A m cA C n dC oa ol p w hT hn hb hp hl hm hc hcn hcb hmb k ka kb kc xn _ _ _ rfl hkm hx rfl rfl rfl hw n2 qa qb _ rfl (inst oa ol ⟨12, ka, kb, kc, xn⟩ ⟨⟨(k : Int), rg, tn⟩, ws, st⟩).f (by simp [inst, pcI, rgI, tnI, rgv, atN, offN, rgv]) (inst oa ol ⟨12, ka, kb, kc, xn⟩ ⟨⟨(k : Int), rg, tn⟩, ws, st⟩).ws (by simp [inst, wsI, atN, offN, rgv]))
      · by_cases hq : ws.getD (oa.toNat + (rg.getD kb 0 + xn) % 4294967296 % ol.toNat) 0 = rg.getD ka 0
        · have hq2 := hq
          simp only [List.getD_eq_getElem?_getD] at hq2
          exact fin (s1 := ⟨_, _, st⟩) rfl rfl rfl (by simp [inst, isMem]; omega) (rstep_13y (⟨(k : Int), rg, tn⟩ : FS) ws st T nT cT A m cA C n dC oa ol p w hT hn hb hp hl hm hc hcn hcb hmb k ka kb kc xn _ _ _ rfl hkm hx rfl rfl rfl hw n2 qa qb qc _ rfl _ rfl hq (inst oa ol ⟨13, ka, kb, kc, xn⟩ ⟨⟨(k : Int), rg, tn⟩, ws, st⟩).f (by simp [inst, pcI, rgI, tnI, rgv, atN, offN, rgv, hq2]) (inst oa ol ⟨13, ka, kb, kc, xn⟩ ⟨⟨(k : Int), rg, tn⟩, ws, st⟩).ws (by simp [inst, wsI, atN, offN, rgv, hq2]))
        · have hq2 := hq
          simp only [List.getD_eq_getElem?_getD] at hq2
          exact fin (s1 := ⟨_, _, st⟩) rfl rfl rfl (by simp [inst, isMem]; omega) (rstep_13n (⟨(k : Int), rg, tn⟩ : FS) ws st T nT cT A m cA C n dC oa ol p w hT hn hb hp hl hm hc hcn hcb hmb k ka kb kc xn _ _ _ rfl hkm hx rfl rfl rfl hw n2 qa qb qc _ rfl _ rfl hq (inst oa ol ⟨13, ka, kb, kc, xn⟩ ⟨⟨(k : Int), rg, tn⟩, ws, st⟩).f (by simp [inst, pcI, rgI, tnI, rgv, atN, offN, rgv, hq2]) (inst oa ol ⟨13, ka, kb, kc, xn⟩ ⟨⟨(k : Int), rg, tn⟩, ws, st⟩).ws (by simp [inst, wsI, atN, offN, rgv, hq2]))
end Go.Proofs.YtgimelpjklnjmabDoor.Fr
end
section
set_option linter.unusedVariables false
set_option linter.unusedSimpArgs false
namespace Go.Proofs.YtgimelpjklnjmabDoor.Fr
open Go.ChangeShapes Go.WideShapes Go.ChangeAt Go.RowKit Ws
open Go.Proofs.YtgimelpjklnjmabDoor.Fp (Ins at_ Fine at_some)
open Go.Proofs.YtgimelpjklnjmabDoor.Fw (Prg okB ckE check_any okB_fine rightI)
open Go.Proofs.YtgimelpjklnjmabDoor.Is (Tabs)

theorem stN_tn (p : List Ins) (oa ol : Int) (s : SS) : ∀ k, (stN p oa ol k s).f.tn.length = s.f.tn.length
  | 0 => rfl
  | k + 1 => by
    show (tnI _ _).length = _
    unfold tnI
    have := stN_tn p oa ol s k
    repeat' split
    all_goals simp [this]
theorem stN_ws (p : List Ins) (oa ol : Int) (s : SS) : ∀ k, (stN p oa ol k s).ws.length = s.ws.length
  | 0 => rfl
  | k + 1 => by
    show (inst _ _ _ _).ws.length = _
    rw [ws_len, stN_ws p oa ol s k]
theorem own_ne3 {w : World} {B B' : Nat} {e e' : TypeId} {T C : Option Addr} {c d : Nat} {l l' : List Value} (h : Own w B e T c l) (h' : Own w B' e' C d l') (hne : e ≠ e') : ∀ i, T = some ⟨i, 0, none⟩ → ¬ C = some ⟨i, 0, none⟩ := fun i hi hC => by
  rcases h'.2 with ⟨hz, _⟩ | ⟨g2, cap, cur, hv, hB, hg, _⟩
  · rw [hC] at hz; cases hz
  · rw [hC] at hv
    injection hv with hv
    injection hv with hv
    injection hv with hv
    subst hv
    exact h.ne (t := e') hg hne _ hi rfl
/-- between two steps there may be a step -/
theorem may_k {p : List Ins} {oa ol : Int} {s : SS} {k : Nat} (hm : mayB p s oa ol = true) (h : LoopI p oa ol s k) : mayB p (stN p oa ol k s) oa ol = true := by
  unfold mayB at hm ⊢
  rw [Bool.and_eq_true] at hm
  rw [h.right, h.len, hm.2]
  rfl
theorem stepR_k {p : List Ins} {oa ol : Int} {s : SS} {k : Nat} (hm : mayB p s oa ol = true) (h : LoopI p oa ol s k) : stepR p oa ol (stN p oa ol k s) = (stepW p oa ol (stN p oa ol k s), kindW p (stN p oa ol k s)) := if_pos (may_k hm h)
/-- how all stands between two rounds: t is where the document's run is -/
structure RI (w wx : World) (R : Nat → Prop) (gm q0 q7 q10 : Nat) (f : FS) (T : Option Addr) (nT cT : Nat) (A : Option Addr) (m cA : Nat) (L : Option Addr) (nL cL : Nat) (oa ol : Int) (s' : SS) (T1 : Option Addr) (c1 : Nat) (C : Option Addr) (dC : Nat) (t : SS) (Tk : Option Addr) (ck : Nat) : Prop where
  cs : Blk wx q0 32 #[.int .i64 f.pc, .int .u32 (rk f 0), .int .u32 (rk f 1), .int .u32 (rk f 2), .int .u32 (rk f 3), .int .u32 (rk f 4), .int .u32 (rk f 5), .int .u32 (rk f 6), .int .u32 (rk f 7), .slice T nT cT, .slice A m cA, .slice L nL cL, .int .i64 oa, .int .i64 ol]
  f7 : Blk wx q7 26 #[.int .i64 s'.f.pc, .int .u32 (rk s'.f 0), .int .u32 (rk s'.f 1), .int .u32 (rk s'.f 2), .int .u32 (rk s'.f 3), .int .u32 (rk s'.f 4), .int .u32 (rk s'.f 5), .int .u32 (rk s'.f 6), .int .u32 (rk s'.f 7), .slice T1 nT c1]
  o1 : Own wx 0 3 T1 c1 (s'.f.tn.map (Value.int .i64))
  mm : Mm.Mem wx R gm (cst s'.ws) s'.st
  cc : Own wx 0 22 C dC ((cst t.ws).map (Value.int .u32))
  gg : Blk wx q10 26 #[.int .i64 t.f.pc, .int .u32 (rk t.f 0), .int .u32 (rk t.f 1), .int .u32 (rk t.f 2), .int .u32 (rk t.f 3), .int .u32 (rk t.f 4), .int .u32 (rk t.f 5), .int .u32 (rk t.f 6), .int .u32 (rk t.f 7), .slice Tk nT ck]
  ok : Own wx 0 3 Tk ck (t.f.tn.map (Value.int .i64))
  same : Same w wx
section
variable {w wx w' : World} {R : Nat → Prop} {gm q0 q7 q10 : Nat} {f : FS} {T : Option Addr} {nT cT : Nat} {A : Option Addr} {m cA : Nat} {L : Option Addr} {nL cL : Nat} {oa ol : Int} {s' : SS} {T1 : Option Addr} {c1 : Nat} {C : Option Addr} {dC : Nat} {t : SS} {Tk : Option Addr} {ck : Nat}
theorem RI.of_same (h : RI w wx R gm q0 q7 q10 f T nT cT A m cA L nL cL oa ol s' T1 c1 C dC t Tk ck) (hs : Same wx w') : RI w w' R gm q0 q7 q10 f T nT cT A m cA L nL cL oa ol s' T1 c1 C dC t Tk ck :=
  ⟨h.cs.same hs, h.f7.same hs, h.o1.same hs, h.mm.same hs, h.cc.same hs, h.gg.same hs, h.ok.same hs, h.same.trans hs⟩
theorem RI.at' {t' : SS} (h : RI w wx R gm q0 q7 q10 f T nT cT A m cA L nL cL oa ol s' T1 c1 C dC t Tk ck) (e : t = t') : RI w wx R gm q0 q7 q10 f T nT cT A m cA L nL cL oa ol s' T1 c1 C dC t' Tk ck := e ▸ h
/-- the words have turned: by a step of the document's -/
theorem RI.words (h : RI w wx R gm q0 q7 q10 f T nT cT A m cA L nL cL oa ol s' T1 c1 C dC t Tk ck) {t' : SS} (hc : Own w' 0 22 C dC ((cst t'.ws).map (Value.int .u32))) (hx : Chg (fun i => C = some ⟨i, 0, none⟩) wx w') (hC : ∀ i, C = some ⟨i, 0, none⟩ → w.heap.size ≤ i ∧ ¬ R i) : RI w w' R gm q0 q7 q10 f T nT cT A m cA L nL cL oa ol s' T1 c1 C dC ⟨t.f, t'.ws, t.st⟩ Tk ck :=
  ⟨h.cs.chg hx (fun he => h.cc.ne h.cs (by decide) _ he rfl), h.f7.chg hx (fun he => h.cc.ne h.f7 (by decide) _ he rfl), h.o1.chg hx (own_ne3 h.o1 h.cc (by decide)), h.mm.chg hx (fun i hi he => (hC i he).2 hi), hc, h.gg.chg hx (fun he => h.cc.ne h.gg (by decide) _ he rfl), h.ok.chg hx (own_ne3 h.ok h.cc (by decide)), Same.more h.same hx (fun i hi => (hC i hi).1)⟩
/-- the document's frame has turned -/
theorem RI.frame (h : RI w wx R gm q0 q7 q10 f T nT cT A m cA L nL cL oa ol s' T1 c1 C dC t Tk ck) {g : FS} {T2 : Option Addr} {c2 : Nat} (ho : Own wx 0 3 T2 c2 (g.tn.map (Value.int .i64))) (h1 : q0 ≠ q10) (h2 : q7 ≠ q10) (h3 : w.heap.size ≤ q10) (h4 : ¬ R q10) :
    ∀ w5, w5 = ((((((((((wx.setCell ⟨q10, 0, none⟩ (.int .i64 g.pc)).setCell ⟨q10, 1, none⟩ (.int .u32 (rk g 0))).setCell ⟨q10, 2, none⟩ (.int .u32 (rk g 1))).setCell ⟨q10, 3, none⟩ (.int .u32 (rk g 2))).setCell ⟨q10, 4, none⟩ (.int .u32 (rk g 3))).setCell ⟨q10, 5, none⟩ (.int .u32 (rk g 4))).setCell ⟨q10, 6, none⟩ (.int .u32 (rk g 5))).setCell ⟨q10, 7, none⟩ (.int .u32 (rk g 6))).setCell ⟨q10, 8, none⟩ (.int .u32 (rk g 7))).setCell ⟨q10, 9, none⟩ (.slice T2 nT c2)) → RI w w5 R gm q0 q7 q10 f T nT cT A m cA L nL cL oa ol s' T1 c1 C dC ⟨g, t.ws, t.st⟩ T2 c2 := by
  intro w5 h5
  obtain ⟨p1, p2⟩ := puts10 (v0 := .int .i64 g.pc) (v1 := .int .u32 (rk g 0)) (v2 := .int .u32 (rk g 1)) (v3 := .int .u32 (rk g 2)) (v4 := .int .u32 (rk g 3)) (v5 := .int .u32 (rk g 4)) (v6 := .int .u32 (rk g 5)) (v7 := .int .u32 (rk g 6)) (v8 := .int .u32 (rk g 7)) (v9 := .slice T2 nT c2) h.gg
  rw [← h5] at p1 p2
  exact ⟨h.cs.chg p2 h1, h.f7.chg p2 h2, h.o1.chg p2 (fun i hi he => h.o1.ne h.gg (by decide) i hi he), h.mm.chg p2 (fun i hi he => h4 (he ▸ hi)), h.cc.chg p2 (fun i hi he => h.cc.ne h.gg (by decide) i hi he), p1, ho.chg p2 (fun i hi he => ho.ne h.gg (by decide) i hi he), chg_nw h.same p2 h3⟩
end
set_option maxRecDepth 100000 in
set_option maxHeartbeats 8000000 in
theorem runs_walk (f : FS) (T : Option Addr) (nT cT : Nat) (A : Option Addr) (m cA : Nat) (L : Option Addr) (nL cL : Nat) (oa ol : Int) (ws : List Nat) (p : List Ins) (w : World) (hT : Row w T (f.tn.map (Value.int .i64))) (hn : f.tn.length = nT) (hp : Prg w A p) (hl : p.length = m) (hL : Row w L ((cst ws).map (Value.int .u32))) (hwl : ws.length = nL) (h8 : f.rg.length = 8) (hrb : ∀ x ∈ f.rg, x < 4294967296) (hwb : ∀ x ∈ ws, x < 4294967296) (ht : Tabs w) (mo : Int) :
    Calls Tryd.prog 4 #[.agg #[.int .i64 f.pc, .int .u32 (rk f 0), .int .u32 (rk f 1), .int .u32 (rk f 2), .int .u32 (rk f 3), .int .u32 (rk f 4), .int .u32 (rk f 5), .int .u32 (rk f 6), .int .u32 (rk f 7), .slice T nT cT, .slice A m cA, .slice L nL cL, .int .i64 oa, .int .i64 ol], .int .i64 mo] w fun e w' => e = .returned (.bool true) ∧ Same w w' := by
  obtain ⟨w1, hw1⟩ : ∃ w1, w1 = w.alloc (.cells #[.int .i64 f.pc, .int .u32 (rk f 0), .int .u32 (rk f 1), .int .u32 (rk f 2), .int .u32 (rk f 3), .int .u32 (rk f 4), .int .u32 (rk f 5), .int .u32 (rk f 6), .int .u32 (rk f 7), .slice T nT cT, .slice A m cA, .slice L nL cL, .int .i64 oa, .int .i64 ol] 32) := ⟨_, rfl⟩
  have hs1 : Same w w1 := hw1 ▸ (Same.refl w).alloc _
  have hb1 : Blk w1 w.heap.size 32 #[.int .i64 f.pc, .int .u32 (rk f 0), .int .u32 (rk f 1), .int .u32 (rk f 2), .int .u32 (rk f 3), .int .u32 (rk f 4), .int .u32 (rk f 5), .int .u32 (rk f 6), .int .u32 (rk f 7), .slice T nT cT, .slice A m cA, .slice L nL cL, .int .i64 oa, .int .i64 ol] := hw1 ▸ Blk.new w _ _
  have E1 := Lib.hid hw1
  have HS1 := Lib.hid hs1
  have HB1 := Lib.hid hb1
  have HT := Lib.hid hT
  have HN := Lib.hid hn
  have HP := Lib.hid hp
  have HL := Lib.hid hl
  have HLR := Lib.hid hL
  have HWL := Lib.hid hwl
  have HW := Lib.hid (show Wide ⟨f, ws, 0⟩ from ⟨h8, hrb, hwb⟩)
  have HTB := Lib.hid ht
  obtain ⟨z0, z1, z2, z3, z4, z5, z6, z7, z8, z9, z10, z11, z12, z13⟩ := (⟨hb1.cell 0, hb1.cell 1, hb1.cell 2, hb1.cell 3, hb1.cell 4, hb1.cell 5, hb1.cell 6, hb1.cell 7, hb1.cell 8, hb1.cell 9, hb1.cell 10, hb1.cell 11, hb1.cell 12, hb1.cell 13⟩ : _ ∧ _ ∧ _ ∧ _ ∧ _ ∧ _ ∧ _ ∧ _ ∧ _ ∧ _ ∧ _ ∧ _ ∧ _ ∧ _)
  simp only [List.getElem?_toArray, List.getElem?_cons_zero, List.getElem?_cons_succ] at z0 z1 z2 z3 z4 z5 z6 z7 z8 z9 z10 z11 z12 z13
  clear hw1 hs1 hb1 hT hn hp hl hL hwl h8 hrb hwb ht
  go_enter Tryd.func4, Tryd.ntmps4
  go_wp2_with fail
  rw [← E1.out]
  clear E1
  refine (light_any f T nT cT A m cA L nL cL oa ol w1).mono ?_
  rintro e w2 ⟨rfl, s2⟩
  cases hlb : lightB m nL nT with
  | false =>
    have AW := Lib.hid (awake13 w2 (HTB.out.same (HS1.out.trans s2)))
    have HS2 := Lib.hid (HS1.out.trans s2)
    clear hlb s2
    go_wp2_with fail
    refine AW.out.mono ?_
    rintro e w3 ⟨rfl, s3⟩
    go_wp2_with fail
    go_ret
    exact ⟨rfl, HS2.out.trans s3⟩
  | true =>
    have hli : (m : Int) ≤ 200 ∧ (nL : Int) ≤ 300 ∧ (nT : Int) ≤ 200 := of_decide_eq_true hlb
    obtain ⟨hm2, hl2, ht2⟩ := hli
    obtain ⟨i0, hi, hz0, hz1, hz2⟩ := info_parts Mm.u32_info
    have HS2 := Lib.hid (HS1.out.trans s2)
    have HB2 := Lib.hid (HB1.out.same s2)
    have HB2L := Lib.hid HB2.out.lt
    clear hlb s2 z0 z1 z2 z3 z4 z5 z6 z7 z8 z9 z10 z11 z12 z13 HB1
    by_cases hmo : mo > 500
    · have AW := Lib.hid (awake13 w2 (HTB.out.same HS2.out))
      go_wp2_with fail
      refine AW.out.mono ?_
      rintro e w3 ⟨rfl, s3⟩
      go_wp2_with fail
      go_ret
      exact ⟨rfl, HS2.out.trans s3⟩
    obtain ⟨z0, z1, z2, z3, z4, z5, z6, z7, z8, z9, z10, z11, z12, z13⟩ := (⟨HB2.out.cell 0, HB2.out.cell 1, HB2.out.cell 2, HB2.out.cell 3, HB2.out.cell 4, HB2.out.cell 5, HB2.out.cell 6, HB2.out.cell 7, HB2.out.cell 8, HB2.out.cell 9, HB2.out.cell 10, HB2.out.cell 11, HB2.out.cell 12, HB2.out.cell 13⟩ : _ ∧ _ ∧ _ ∧ _ ∧ _ ∧ _ ∧ _ ∧ _ ∧ _ ∧ _ ∧ _ ∧ _ ∧ _ ∧ _)
    simp only [List.getElem?_toArray, List.getElem?_cons_zero, List.getElem?_cons_succ] at z0 z1 z2 z3 z4 z5 z6 z7 z8 z9 z10 z11 z12 z13
    go_wp2_with fail
    refine (Mm.memory_any L nL cL (cst ws) w2 (by rw [cst_len]; exact HWL.out) (by omega) (HLR.out.same HS2.out)).mono ?_
    rintro e w3 ⟨gm, rfl, s3, hm3⟩
    have HM3 := Lib.hid hm3.within
    have HS3 := Lib.hid (HS2.out.trans s3)
    have HB3 := Lib.hid (HB2.out.same s3)
    have HR3 := Lib.hid (fun i (h : w2.heap.size ≤ i ∧ i < w3.heap.size) => (⟨Nat.le_trans HS2.out.size h.1, h.2⟩ : w.heap.size ≤ i ∧ i < w3.heap.size))
    clear hm3 s3 z0 z1 z2 z3 z4 z5 z6 z7 z8 z9 z10 z11 z12 z13 HB2
    have y11 : (w3.alloc (.cells #[] 22)).cell? ⟨w.heap.size, 11, none⟩ = some (.slice L nL cL) := ((Same.refl w3).alloc (.cells #[] 22)).cell (HB3.out.cell 11)
    go_wp2_with (at_builtin; refine wpList_app rfl _ _ 28 rfl w3.heap.size 22 i0 _ 4 Tryd.underlying28 hi hz0 hz1 hz2 rfl _ _ _ [] rfl rfl (Mm.own_none w3 22) _ _ _ ((cst ws).map (Value.int .u32)) rfl ?c1 ?c2 (Mm.words_one (cst ws)) ?c3 (by omega) ?c4 ?c5)
    case c1 => rw [List.length_map, cst_len]; exact HWL.out
    case c2 => exact (HLR.out.same HS3.out).same ((Same.refl _).alloc _)
    case c3 => have := HWL.out; rw [List.length_map, cst_len]; simp; omega
    case c4 => simp
    intro C dC w4 ho hc hA
    have s4 : Same w3 w4 := Same.more ((Same.refl w3).alloc (.cells #[] 22)) hc (fun i hi => by
      have hi : w3.heap.size = i := by simpa using hi
      omega)
    have HC4 := Lib.hid (show Own w4 w3.heap.size 22 C dC ((cst ws).map (Value.int .u32)) by simpa using ho)
    have HS4 := Lib.hid (HS3.out.trans s4)
    have HB4 := Lib.hid (HB3.out.same s4)
    have HM4 := Lib.hid (HM3.out.same s4)
    have HZ34 := Lib.hid s4.size
    clear ho hc hA s4 y11 HB3 HM3
    try simp only [List.length_nil, Nat.zero_add]
    obtain ⟨z0, z1, z2, z3, z4, z5, z6, z7, z8, z9, z10, z11, z12, z13⟩ := (⟨HB4.out.cell 0, HB4.out.cell 1, HB4.out.cell 2, HB4.out.cell 3, HB4.out.cell 4, HB4.out.cell 5, HB4.out.cell 6, HB4.out.cell 7, HB4.out.cell 8, HB4.out.cell 9, HB4.out.cell 10, HB4.out.cell 11, HB4.out.cell 12, HB4.out.cell 13⟩ : _ ∧ _ ∧ _ ∧ _ ∧ _ ∧ _ ∧ _ ∧ _ ∧ _ ∧ _ ∧ _ ∧ _ ∧ _ ∧ _)
    simp only [List.getElem?_toArray, List.getElem?_cons_zero, List.getElem?_cons_succ] at z0 z1 z2 z3 z4 z5 z6 z7 z8 z9 z10 z11 z12 z13
    go_wp2_with fail
    have FR := Lib.hid (frun_any f ws 0 gm T nT cT A m cA oa ol p (HT.out.same HS4.out) HN.out (by omega) HP.out HTB.out HS4.out HL.out (by omega) HM4.out (fun i h => ⟨(HR3.out i h).1, Nat.lt_of_lt_of_le (HR3.out i h).2 HZ34.out⟩) HW.out (by omega) mo (by omega))
    obtain ⟨s', hs'⟩ : ∃ s', s' = (runR p oa ol ⟨f, ws, 0⟩ mo).1 := ⟨_, rfl⟩
    obtain ⟨v1, hv1⟩ : ∃ v, v = (runR p oa ol ⟨f, ws, 0⟩ mo).2.1 := ⟨_, rfl⟩
    obtain ⟨v2, hv2⟩ : ∃ v, v = (runR p oa ol ⟨f, ws, 0⟩ mo).2.2 := ⟨_, rfl⟩
    rw [← hs', ← hv1, ← hv2] at FR
    have HRR := Lib.hid (show runR p oa ol ⟨f, ws, 0⟩ mo = (s', v1, v2) by rw [hs', hv1, hv2])
    clear hs' hv1 hv2
    refine FR.out.mono ?_
    rintro e w5 ⟨T1, c1, rfl, ho1, hm5, hc5⟩
    simp only [List.append_toArray]
    obtain ⟨w6, hw6⟩ : ∃ w6, w6 = w5.alloc (.cells #[.int .i64 s'.f.pc, .int .u32 (rk s'.f 0), .int .u32 (rk s'.f 1), .int .u32 (rk s'.f 2), .int .u32 (rk s'.f 3), .int .u32 (rk s'.f 4), .int .u32 (rk s'.f 5), .int .u32 (rk s'.f 6), .int .u32 (rk s'.f 7), .slice T1 nT c1] 26) := ⟨_, rfl⟩
    have hs6 : Same w5 w6 := hw6 ▸ (Same.refl w5).alloc _
    have E6 := Lib.hid hw6
    have hcg := own_ge1 HC4.out
    have h34 := HZ34.out
    have h3w := HS3.out.size
    have h23 := HB2L.out
    have HCG := Lib.hid (show ∀ i, C = some ⟨i, 0, none⟩ → w.heap.size ≤ i ∧ ¬ (w2.heap.size ≤ i ∧ i < w3.heap.size) from fun i hi => by have := hcg i hi; omega)
    have HQ7 := Lib.hid (show Blk w6 w5.heap.size 26 #[.int .i64 s'.f.pc, .int .u32 (rk s'.f 0), .int .u32 (rk s'.f 1), .int .u32 (rk s'.f 2), .int .u32 (rk s'.f 3), .int .u32 (rk s'.f 4), .int .u32 (rk s'.f 5), .int .u32 (rk s'.f 6), .int .u32 (rk s'.f 7), .slice T1 nT c1] from hw6 ▸ Blk.new w5 _ _)
    have HO6 := Lib.hid (ho1.same hs6)
    have HS6 := Lib.hid ((Same.more HS4.out hc5 (fun i h => (HR3.out i h).1)).trans hs6)
    have HB6 := Lib.hid ((HB4.out.chg hc5 (fun h => by omega)).same hs6)
    have HM6 := Lib.hid (hm5.same hs6)
    have HC6 := Lib.hid ((HC4.out.chg hc5 (fun i hi h => (HCG.out i hi).2 h)).same hs6)
    have HZ45 := Lib.hid hc5.size
    clear ho1 hm5 hc5 hs6 hw6 hcg h34 h3w h23 z0 z1 z2 z3 z4 z5 z6 z7 z8 z9 z10 z11 z12 z13 HB4 HM4 HC4 FR
    go_upto_region 6 with fail
    rw [← E6.out]
    clear E6
    obtain ⟨z0, z1, z2, z3, z4, z5, z6, z7, z8, z9, z10, z11, z12, z13⟩ := (⟨HB6.out.cell 0, HB6.out.cell 1, HB6.out.cell 2, HB6.out.cell 3, HB6.out.cell 4, HB6.out.cell 5, HB6.out.cell 6, HB6.out.cell 7, HB6.out.cell 8, HB6.out.cell 9, HB6.out.cell 10, HB6.out.cell 11, HB6.out.cell 12, HB6.out.cell 13⟩ : _ ∧ _ ∧ _ ∧ _ ∧ _ ∧ _ ∧ _ ∧ _ ∧ _ ∧ _ ∧ _ ∧ _ ∧ _ ∧ _)
    simp only [List.getElem?_toArray, List.getElem?_cons_zero, List.getElem?_cons_succ] at z0 z1 z2 z3 z4 z5 z6 z7 z8 z9 z10 z11 z12 z13
    go_wp2_with fail
    refine (rcopy_any f T nT cT w6 (HT.out.same HS6.out) HN.out (by omega)).mono ?_
    rintro e w7 ⟨Tw, cw, rfl, how, s7⟩
    obtain ⟨w8, hw8⟩ : ∃ w8, w8 = w7.alloc (.cells #[.int .i64 f.pc, .int .u32 (rk f 0), .int .u32 (rk f 1), .int .u32 (rk f 2), .int .u32 (rk f 3), .int .u32 (rk f 4), .int .u32 (rk f 5), .int .u32 (rk f 6), .int .u32 (rk f 7), .slice Tw nT cw] 26) := ⟨_, rfl⟩
    have hs8 : Same w7 w8 := hw8 ▸ (Same.refl w7).alloc _
    have s68 := s7.trans hs8
    have E8 := Lib.hid hw8
    obtain ⟨q0, hq0⟩ : ∃ q, q = w.heap.size := ⟨_, rfl⟩
    obtain ⟨q7, hq7⟩ : ∃ q, q = w5.heap.size := ⟨_, rfl⟩
    obtain ⟨q10, hq10⟩ : ∃ q, q = w7.heap.size := ⟨_, rfl⟩
    have h67 := s7.size
    have h65 := HQ7.out.lt
    have h34 := HZ34.out
    have h45 := HZ45.out
    have h23 := HB2L.out
    have h3w := HS3.out.size
    have h2w := HB6.out.lt
    have HI8 := Lib.hid (show RI w w8 (fun i => w2.heap.size ≤ i ∧ i < w3.heap.size) gm q0 q7 q10 f T nT cT A m cA L nL cL oa ol s' T1 c1 C dC ⟨f, ws, 0⟩ Tw cw from ⟨by rw [hq0]; exact HB6.out.same s68, by rw [hq7]; exact HQ7.out.same s68, (HO6.out.same s68).base (Nat.zero_le _), HM6.out.same s68, (HC6.out.same s68).base (Nat.zero_le _), by rw [hq10]; exact hw8 ▸ Blk.new w7 _ _, (how.same hs8).base (Nat.zero_le _), HS6.out.trans s68⟩)
    have HD0 := Lib.hid (show q0 ≠ q10 by rw [hq0, hq10]; omega)
    have HD7 := Lib.hid (show q7 ≠ q10 by rw [hq7, hq10]; omega)
    have HDW := Lib.hid (show w.heap.size ≤ q10 by rw [hq10]; omega)
    have HDR := Lib.hid (show ¬ (w2.heap.size ≤ q10 ∧ q10 < w3.heap.size) by rw [hq10]; omega)
    have HQ0 := Lib.hid hq0
    have HQ7' := Lib.hid hq7
    have HQ10 := Lib.hid hq10
    clear how s7 hs8 s68 hw8 h67 h65 h34 h45 h23 h3w h2w z0 z1 z2 z3 z4 z5 z6 z7 z8 z9 z10 z11 z12 z13 HB6 HM6 HC6 HO6 HQ7 hq0 hq7 hq10
    go_upto_block 0 with fail
    rw [← E8.out, ← HQ10.out, ← HQ0.out, ← HQ7'.out]
    clear E8
    go_cut [11, 12, 13, 14, 15] from 47 to 66 (fun a b _ _ _ wx => a = .int .i64 v1 ∧ b = .int .i64 v2 ∧ ∃ Tk ck, RI w wx (fun i => w2.heap.size ≤ i ∧ i < w3.heap.size) gm q0 q7 q10 f T nT cT A m cA L nL cL oa ol s' T1 c1 C dC s' Tk ck ∧ s'.f.tn.length = nT ∧ s'.ws.length = nL)
    case first =>
      go_wp2_with fail
      go_loopg [11, 12] mo.toNat (fun gk a b wx => ∃ (k : Nat) (Tk : Option Addr) (ck : Nat), k + gk = mo.toNat ∧ a = .int .i64 k ∧ b = .int .i64 0 ∧ (mayB p ⟨f, ws, 0⟩ oa ol = true → LoopI p oa ol ⟨f, ws, 0⟩ k) ∧ (mayB p ⟨f, ws, 0⟩ oa ol = false → k = 0) ∧ RI w wx (fun i => w2.heap.size ≤ i ∧ i < w3.heap.size) gm q0 q7 q10 f T nT cT A m cA L nL cL oa ol s' T1 c1 C dC (stN p oa ol k ⟨f, ws, 0⟩) Tk ck)
      case atStart => exact ⟨0, Tw, cw, by omega, rfl, rfl, fun h => loop_start h HW.out, fun _ => rfl, HI8.out⟩
      case round =>
        obtain ⟨k, Tk, ck, hk, rfl, rfl, hli, hno, hri⟩ := hrel
        have HLI := Lib.hid hli
        have HNO := Lib.hid hno
        have HRI := Lib.hid hri
        clear hli hno hri
        cases gk with
        | zero =>
          have hge : ¬ (k : Int) < mo := by omega
          have HE := Lib.hid (show (s', v1, v2) = (stN p oa ol k ⟨f, ws, 0⟩, (k : Int), 0) by
            rw [← HRR.out]
            by_cases h0 : mo ≤ 0
            · have hk0 : k = 0 := by omega
              subst hk0
              exact run_zero h0
            · have hm0 : mo = (k : Nat) := by omega
              rw [hm0]
              cases hmb : mayB p ⟨f, ws, 0⟩ oa ol with
              | false => have := HNO.out hmb; omega
              | true => rw [run_some hmb, runW_all (HLI.out hmb).kinds])
          have e1 := congrArg (·.1) HE.out
          have e2 := congrArg (·.2.1) HE.out
          have e3 := congrArg (·.2.2) HE.out
          simp only at e1 e2 e3
          have HX := Lib.hid (show RI w wr (fun i => w2.heap.size ≤ i ∧ i < w3.heap.size) gm q0 q7 q10 f T nT cT A m cA L nL cL oa ol s' T1 c1 C dC s' Tk ck by rw [e1]; exact e1 ▸ HRI.out)
          have LX := Lib.hid (show s'.f.tn.length = nT ∧ s'.ws.length = nL from ⟨by rw [e1, stN_tn]; exact HN.out, by rw [e1, stN_ws]; exact HWL.out⟩)
          have E2 := Lib.hid e2
          have E3 := Lib.hid e3
          clear e1 e2 e3
          go_wp2_with fail
          go_meet
          case rel => exact ⟨by rw [E2.out], by rw [E3.out], Tk, ck, HX.out, LX.out⟩
        | succ GK =>
          have hlt : (k : Int) < mo := by omega
          have HKN := Lib.hid (show k < mo.toNat by omega)
          have HLT := Lib.hid hlt
          obtain ⟨tk, htk⟩ : ∃ tk, tk = stN p oa ol k ⟨f, ws, 0⟩ := ⟨_, rfl⟩
          have HF := Lib.hid (show Wide tk ∧ tk.f.tn.length = nT ∧ tk.ws.length = nL by
            rw [htk]
            refine ⟨?_, by rw [stN_tn]; exact HN.out, by rw [stN_ws]; exact HWL.out⟩
            cases hmb : mayB p ⟨f, ws, 0⟩ oa ol with
            | false => rw [HNO.out hmb]; exact HW.out
            | true => exact (HLI.out hmb).wide)
          have HTK := Lib.hid htk
          rw [← htk] at HRI
          clear htk
          obtain ⟨hw1', hw2', hw3'⟩ := HF.out
          have RS := Lib.hid (rstep_any tk.f tk.ws tk.st Tk nT ck A m cA C nL dC oa ol p wr HRI.out.ok.row hw2' (by omega) (HP.out.same HRI.out.same) HL.out (by omega) HRI.out.cc hw3' (by omega) hw1')
          clear hw1' hw2' hw3'
          obtain ⟨z0, z1, z2, z3, z4, z5, z6, z7, z8, z9, z10, z11, z12, z13⟩ := (⟨HRI.out.cs.cell 0, HRI.out.cs.cell 1, HRI.out.cs.cell 2, HRI.out.cs.cell 3, HRI.out.cs.cell 4, HRI.out.cs.cell 5, HRI.out.cs.cell 6, HRI.out.cs.cell 7, HRI.out.cs.cell 8, HRI.out.cs.cell 9, HRI.out.cs.cell 10, HRI.out.cs.cell 11, HRI.out.cs.cell 12, HRI.out.cs.cell 13⟩ : _ ∧ _ ∧ _ ∧ _ ∧ _ ∧ _ ∧ _ ∧ _ ∧ _ ∧ _ ∧ _ ∧ _ ∧ _ ∧ _)
          simp only [List.getElem?_toArray, List.getElem?_cons_zero, List.getElem?_cons_succ] at z0 z1 z2 z3 z4 z5 z6 z7 z8 z9 z10 z11 z12 z13
          obtain ⟨y0, y1, y2, y3, y4, y5, y6, y7, y8, y9⟩ := (⟨HRI.out.gg.cell 0, HRI.out.gg.cell 1, HRI.out.gg.cell 2, HRI.out.gg.cell 3, HRI.out.gg.cell 4, HRI.out.gg.cell 5, HRI.out.gg.cell 6, HRI.out.gg.cell 7, HRI.out.gg.cell 8, HRI.out.gg.cell 9⟩ : _ ∧ _ ∧ _ ∧ _ ∧ _ ∧ _ ∧ _ ∧ _ ∧ _ ∧ _)
          simp only [List.getElem?_toArray, List.getElem?_cons_zero, List.getElem?_cons_succ] at y0 y1 y2 y3 y4 y5 y6 y7 y8 y9
          obtain ⟨s2, hs2⟩ : ∃ s2, s2 = (stepR p oa ol ⟨tk.f, tk.ws, tk.st⟩).1 := ⟨_, rfl⟩
          obtain ⟨kd, hkd⟩ : ∃ kd, kd = (stepR p oa ol ⟨tk.f, tk.ws, tk.st⟩).2 := ⟨_, rfl⟩
          rw [← hs2, ← hkd] at RS
          have HSK := Lib.hid (show (s2, kd) = stepR p oa ol tk by rw [hs2, hkd])
          clear hs2 hkd
          generalize s2.st - tk.st = sd at *
          go_wp2_with fail
          refine RS.out.mono ?_
          rintro e w9 ⟨T2, c2, rfl, ho2, hc9, hx9⟩
          obtain ⟨wx, hwx⟩ : ∃ wx, wx = w9.alloc (.cells #[.int .i64 s2.f.pc, .int .u32 (rk s2.f 0), .int .u32 (rk s2.f 1), .int .u32 (rk s2.f 2), .int .u32 (rk s2.f 3), .int .u32 (rk s2.f 4), .int .u32 (rk s2.f 5), .int .u32 (rk s2.f 6), .int .u32 (rk s2.f 7), .slice T2 nT c2] 26) := ⟨_, rfl⟩
          have hsx : Same w9 wx := hwx ▸ (Same.refl w9).alloc _
          have EX := Lib.hid hwx
          have HRX := Lib.hid ((HRI.out.words hc9 hx9 HCG.out).of_same hsx)
          have HOX := Lib.hid ((ho2.same hsx).base (Nat.zero_le _))
          have HBX := Lib.hid (show Blk wx w9.heap.size 26 #[.int .i64 s2.f.pc, .int .u32 (rk s2.f 0), .int .u32 (rk s2.f 1), .int .u32 (rk s2.f 2), .int .u32 (rk s2.f 3), .int .u32 (rk s2.f 4), .int .u32 (rk s2.f 5), .int .u32 (rk s2.f 6), .int .u32 (rk s2.f 7), .slice T2 nT c2] from hwx ▸ Blk.new w9 _ _)
          clear ho2 hc9 hx9 hsx hwx RS z0 z1 z2 z3 z4 z5 z6 z7 z8 z9 z10 z11 z12 z13 y0 y1 y2 y3 y4 y5 y6 y7 y8 y9
          go_upto_region 9 with fail
          rw [← EX.out]
          clear EX
          generalize w9.heap.size = q13 at *
          by_cases hk0 : kd = 0
          · have HMB : mayB p ⟨f, ws, 0⟩ oa ol = true := by
              cases hmb : mayB p ⟨f, ws, 0⟩ oa ol with
              | true => rfl
              | false =>
                have h2 := HSK.out
                rw [HTK.out, HNO.out hmb] at h2
                have h3 : stepR p oa ol (stN p oa ol 0 ⟨f, ws, 0⟩) = (⟨f, ws, 0⟩, 3) := if_neg (by rw [show stN p oa ol 0 ⟨f, ws, 0⟩ = ⟨f, ws, 0⟩ from rfl, hmb]; decide)
                rw [h3] at h2
                have h4 := congrArg (·.2) h2
                simp only at h4
                omega
            have hli := HLI.out HMB
            have h2 := HSK.out
            rw [HTK.out, stepR_k HMB hli] at h2
            have h3 : kindW p (stN p oa ol k ⟨f, ws, 0⟩) = 0 := by have h4 := congrArg (·.2) h2; simp only at h4; omega
            have h5 : s2 = stN p oa ol (k + 1) ⟨f, ws, 0⟩ := by
              have h4 := congrArg (·.1) h2
              simp only at h4
              rw [h4]
              exact if_pos h3
            have HL2 := Lib.hid (loop_next hli h3 (okB_fine (may_ok HMB)) HP.out.nn (fun j hj => HP.out.ok hj))
            have H5 := Lib.hid h5
            have HMB' := Lib.hid HMB
            clear hli h2 h3 h5 HMB
            have kz : (kd != 0) = false := by simp [hk0]
            clear hk0
            obtain ⟨wy, hwy⟩ : ∃ wy, wy = ((((((((((wx.setCell ⟨q10, 0, none⟩ (.int .i64 s2.f.pc)).setCell ⟨q10, 1, none⟩ (.int .u32 (rk s2.f 0))).setCell ⟨q10, 2, none⟩ (.int .u32 (rk s2.f 1))).setCell ⟨q10, 3, none⟩ (.int .u32 (rk s2.f 2))).setCell ⟨q10, 4, none⟩ (.int .u32 (rk s2.f 3))).setCell ⟨q10, 5, none⟩ (.int .u32 (rk s2.f 4))).setCell ⟨q10, 6, none⟩ (.int .u32 (rk s2.f 5))).setCell ⟨q10, 7, none⟩ (.int .u32 (rk s2.f 6))).setCell ⟨q10, 8, none⟩ (.int .u32 (rk s2.f 7))).setCell ⟨q10, 9, none⟩ (.slice T2 nT c2)) := ⟨_, rfl⟩
            have HRY := Lib.hid (HRX.out.frame (g := s2.f) (T2 := T2) (c2 := c2) HOX.out HD0.out HD7.out HDW.out HDR.out wy hwy)
            have EY := Lib.hid hwy
            clear hwy
            obtain ⟨x0, x1, x2, x3, x4, x5, x6, x7, x8, x9⟩ := (⟨HBX.out.cell 0, HBX.out.cell 1, HBX.out.cell 2, HBX.out.cell 3, HBX.out.cell 4, HBX.out.cell 5, HBX.out.cell 6, HBX.out.cell 7, HBX.out.cell 8, HBX.out.cell 9⟩ : _ ∧ _ ∧ _ ∧ _ ∧ _ ∧ _ ∧ _ ∧ _ ∧ _ ∧ _)
            simp only [List.getElem?_toArray, List.getElem?_cons_zero, List.getElem?_cons_succ] at x0 x1 x2 x3 x4 x5 x6 x7 x8 x9
            obtain ⟨y0, y1, y2, y3, y4, y5, y6, y7, y8, y9⟩ := (⟨HRX.out.gg.cell 0, HRX.out.gg.cell 1, HRX.out.gg.cell 2, HRX.out.gg.cell 3, HRX.out.gg.cell 4, HRX.out.gg.cell 5, HRX.out.gg.cell 6, HRX.out.gg.cell 7, HRX.out.gg.cell 8, HRX.out.gg.cell 9⟩ : _ ∧ _ ∧ _ ∧ _ ∧ _ ∧ _ ∧ _ ∧ _ ∧ _ ∧ _)
            simp only [List.getElem?_toArray, List.getElem?_cons_zero, List.getElem?_cons_succ] at y0 y1 y2 y3 y4 y5 y6 y7 y8 y9
            obtain ⟨u0, u1, u2, u3, u4, u5, u6, u7, u8, u9⟩ := (⟨HRX.out.gg.thaw 0, HRX.out.gg.thaw 1, HRX.out.gg.thaw 2, HRX.out.gg.thaw 3, HRX.out.gg.thaw 4, HRX.out.gg.thaw 5, HRX.out.gg.thaw 6, HRX.out.gg.thaw 7, HRX.out.gg.thaw 8, HRX.out.gg.thaw 9⟩ : _ ∧ _ ∧ _ ∧ _ ∧ _ ∧ _ ∧ _ ∧ _ ∧ _ ∧ _)
            have hmo2 : (k : Int) < 500 := by omega
            go_wp2_with fail
            rw [← EY.out]
            clear EY x0 x1 x2 x3 x4 x5 x6 x7 x8 x9 y0 y1 y2 y3 y4 y5 y6 y7 y8 y9 u0 u1 u2 u3 u4 u5 u6 u7 u8 u9
            go_roundg GK
            case measure => omega
            case rel => exact ⟨k + 1, T2, c2, by omega, by go_num, rfl, fun _ => HL2.out, fun h => (by rw [HMB'.out] at h; cases h), by
              have h := HRY.out
              rw [← H5.out]
              exact ⟨h.cs, h.f7, h.o1, h.mm, h.cc, h.gg, h.ok, h.same⟩⟩
          · have kz : (kd != 0) = true := by simpa using hk0
            have HE := Lib.hid (show (s', v1, v2) = (tk, (k : Int), kd) ∧ s2.ws = tk.ws by
              have h2 := HSK.out
              cases hmb : mayB p ⟨f, ws, 0⟩ oa ol with
              | false =>
                have hkz := HNO.out hmb
                have e0 : tk = ⟨f, ws, 0⟩ := by rw [HTK.out, hkz]; rfl
                have h3 : stepR p oa ol tk = (tk, 3) := if_neg (by rw [e0, hmb]; decide)
                rw [h3] at h2
                have h4 := congrArg (·.2) h2
                have h5 := congrArg (·.1) h2
                simp only at h4 h5
                refine ⟨?_, by rw [h5]⟩
                rw [← HRR.out, e0, hkz, h4]
                have hm0 : mo = ((mo.toNat : Nat) : Int) := by have := HLT.out; omega
                rw [hm0]
                exact run_off (by have := HKN.out; omega) hmb
              | true =>
                have hli := HLI.out hmb
                rw [HTK.out, stepR_k hmb hli] at h2
                have h4 := congrArg (·.2) h2
                have h5 := congrArg (·.1) h2
                simp only at h4 h5
                have h6 : kindW p (stN p oa ol k ⟨f, ws, 0⟩) ≠ 0 := by rw [← h4]; exact hk0
                have h7 : s2 = tk := by rw [h5, HTK.out]; exact if_neg h6
                refine ⟨?_, by rw [h7]⟩
                rw [← HRR.out, h4, HTK.out]
                have hm0 : mo = ((mo.toNat : Nat) : Int) := by have := HLT.out; omega
                rw [hm0, run_some hmb, runW_stop (by have := HKN.out; omega) hli.kinds h6])
            have e1 := congrArg (·.1) HE.out.1
            have e2 := congrArg (·.2.1) HE.out.1
            have e3 := congrArg (·.2.2) HE.out.1
            simp only at e1 e2 e3
            have HX := Lib.hid (show RI w wx (fun i => w2.heap.size ≤ i ∧ i < w3.heap.size) gm q0 q7 q10 f T nT cT A m cA L nL cL oa ol s' T1 c1 C dC s' Tk ck by
              have h := HRX.out
              rw [HE.out.2] at h
              exact h.at' e1.symm)
            have LX := Lib.hid (show s'.f.tn.length = nT ∧ s'.ws.length = nL by rw [e1]; exact HF.out.2)
            have E2 := Lib.hid e2
            have E3 := Lib.hid e3
            clear e1 e2 e3 hk0
            go_wp2_with fail
            go_meet
            case rel => exact ⟨by rw [E2.out], by rw [E3.out], Tk, ck, HX.out, LX.out⟩
    case rest =>
      obtain ⟨ha, hb, Tk, ck, hri, hls, hlw⟩ := hcut
      have HRI := Lib.hid hri
      have HLS := Lib.hid hls
      have HLW := Lib.hid (show (cst s'.ws).length = nL by rw [cst, List.length_map]; exact hlw)
      have HLB := Lib.hid (show (cst s'.ws).length ≤ 4294967296 by rw [HLW.out]; omega)
      clear hri hls hlw
      subst ha hb
      obtain ⟨z0, z1, z2, z3, z4, z5, z6, z7, z8, z9⟩ := (⟨HRI.out.f7.cell 0, HRI.out.f7.cell 1, HRI.out.f7.cell 2, HRI.out.f7.cell 3, HRI.out.f7.cell 4, HRI.out.f7.cell 5, HRI.out.f7.cell 6, HRI.out.f7.cell 7, HRI.out.f7.cell 8, HRI.out.f7.cell 9⟩ : _ ∧ _ ∧ _ ∧ _ ∧ _ ∧ _ ∧ _ ∧ _ ∧ _ ∧ _)
      simp only [List.getElem?_toArray, List.getElem?_cons_zero, List.getElem?_cons_succ] at z0 z1 z2 z3 z4 z5 z6 z7 z8 z9
      obtain ⟨y0, y1, y2, y3, y4, y5, y6, y7, y8, y9⟩ := (⟨HRI.out.gg.cell 0, HRI.out.gg.cell 1, HRI.out.gg.cell 2, HRI.out.gg.cell 3, HRI.out.gg.cell 4, HRI.out.gg.cell 5, HRI.out.gg.cell 6, HRI.out.gg.cell 7, HRI.out.gg.cell 8, HRI.out.gg.cell 9⟩ : _ ∧ _ ∧ _ ∧ _ ∧ _ ∧ _ ∧ _ ∧ _ ∧ _ ∧ _)
      simp only [List.getElem?_toArray, List.getElem?_cons_zero, List.getElem?_cons_succ] at y0 y1 y2 y3 y4 y5 y6 y7 y8 y9
      go_wp2_with fail
      refine (rsame_yes s'.f T1 Tk nT c1 ck _ HRI.out.o1.row HRI.out.ok.row HLS.out (by omega)).mono ?_
      rintro e wd ⟨rfl, sd⟩
      have HSD := Lib.hid (HRI.out.same.trans sd)
      have HMD := Lib.hid (HRI.out.mm.same sd)
      have HCD := Lib.hid (HRI.out.cc.same sd)
      clear sd z0 z1 z2 z3 z4 z5 z6 z7 z8 z9 y0 y1 y2 y3 y4 y5 y6 y7 y8 y9
      go_wp2_with fail
      refine (Mm.words_any _ HMD.out).mono ?_
      rintro e we ⟨g5, c5, rfl, se, ho5⟩
      have HSE := Lib.hid (HSD.out.trans se)
      have WE := Lib.hid (Mm.words_eq (some ⟨g5, 0, none⟩) C (cst s'.ws).length nL c5 dC (cst s'.ws) (cst s'.ws) we rfl HLW.out ho5.row (HCD.out.same se).row HLB.out (by omega))
      clear se ho5
      go_wp2_with fail
      refine WE.out.mono ?_
      rintro e wf ⟨rfl, kq, rfl⟩
      rw [show decide True = true from rfl]
      have HSF := Lib.hid (HSE.out.drewN kq)
      have AW := Lib.hid (awake13 _ (HTB.out.same HSF.out))
      clear WE
      go_wp2_with fail
      refine AW.out.mono ?_
      rintro e wg ⟨rfl, sg⟩
      go_wp2_with fail
      go_ret
      exact ⟨rfl, HSF.out.trans sg⟩
end Go.Proofs.YtgimelpjklnjmabDoor.Fr
end
end
end
