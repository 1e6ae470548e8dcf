/-

  The example of layers 37 and 39: Pair, of any object.
-/
import Derived.Test.YthhbhbfkbncegaaGreatDoorSplSpec
import Derived.Test.YthhbhbfkbncegaaGreatDoorSplOf
section
section
set_option linter.unusedVariables false
set_option linter.unusedSimpArgs false
namespace Go.Proofs.YthhbhbfkbncegaaGreatDoor.Sl
open Go.ChangeShapes Go.WideShapes Go.ChangeAt Go.RowKit Ws
open Im (PT PO PS TsAt OsAt SysAt tcells ocells)
def s37 : PS := ⟨[⟨1, 1, 10, 0, 10, 2, [⟨18, 0, 0, 0, 0⟩, ⟨21, 0, 0, 0, 0⟩]⟩, ⟨1, 0, 40, 0, 40, 2, [⟨17, 0, 0, 0, 0⟩, ⟨21, 0, 0, 0, 0⟩]⟩], [⟨3, 2, 0, 3, 0, 0, [1], [1, 2]⟩]⟩
theorem s37_of : ofR s37 1 0 = ⟨3, 0, 4, true, 1, 10⟩ := by decide +kernel
theorem s37_w : wrR (ofR s37 1 0) 25 = 3 := by rw [s37_of]; decide
theorem s37_f : flR (ofR s37 1 0) 25 = 3 := by rw [s37_of]; decide
theorem s37_h : hopeR (ofR s37 1 0) = false := by rw [s37_of]; rfl
theorem s37_d : Dm.dearI s37 1 0 = 5 ∧ Dm.dearE s37 1 0 = 0 := by decide +kernel
theorem s37_j : jobI s37 1 25 = 17 := by
  unfold jobI
  rw [if_pos s37_d.2, s37_d.1, show s37.os.length = 0 + 1 from rfl, jobL_succ, show ((0 : Nat) : Int) = 0 from rfl, s37_of]
  decide
theorem sys37 {W : World} {a b cw cr u v : Nat} (ha : Blk W a 47 #[.int .i64 1, .int .i64 1, .int .i64 10, .int .i64 0, .int .i64 10, .int .i64 2, .slice (some ⟨cw, 0, none⟩) 2 2, .int .i64 1, .int .i64 0, .int .i64 40, .int .i64 0, .int .i64 40, .int .i64 2, .slice (some ⟨cr, 0, none⟩) 2 2]) (hw : Blk W cw 70 #[.int .i64 18, .int .i64 0, .int .i64 0, .int .i64 0, .int .u32 0, .int .i64 21, .int .i64 0, .int .i64 0, .int .i64 0, .int .u32 0]) (hr : Blk W cr 70 #[.int .i64 17, .int .i64 0, .int .i64 0, .int .i64 0, .int .u32 0, .int .i64 21, .int .i64 0, .int .i64 0, .int .i64 0, .int .u32 0]) (hb : Blk W b 34 #[.int .i64 3, .int .i64 2, .int .i64 0, .int .i64 3, .int .u32 0, .slice (some ⟨u, 0, none⟩) 2 2, .int .i64 0, .slice (some ⟨v, 0, none⟩) 1 1])
    (hu : Blk W u 30 #[.int .u32 1, .int .u32 2]) (hv : Blk W v 3 #[.int .i64 1]) : SysAt W (some ⟨a, 0, none⟩) 2 (some ⟨b, 0, none⟩) 1 s37 := by
  refine ⟨rfl, rfl, ?_, ?_⟩
  · intro i p hp
    rcases i with _ | _ | i
    · have hp' : p = ⟨1, 1, 10, 0, 10, 2, [⟨18, 0, 0, 0, 0⟩, ⟨21, 0, 0, 0, 0⟩]⟩ := (Option.some.inj hp).symm
      subst hp'
      refine ⟨a, 0, rfl, some ⟨cw, 0, none⟩, 2, fun j y hj => ?_, ?_, by unfold maxLen; simp⟩
      · have := ha.cell j
        rw [show 0 + 0 * 7 + j = j by omega, this, List.getElem?_toArray]
        rcases j with _ | _ | _ | _ | _ | _ | _ | j
        all_goals first | exact hj | (simp [tcells] at hj)
      · intro k x hx
        rcases k with _ | _ | k
        · have hx' : x = ⟨18, 0, 0, 0, 0⟩ := (Option.some.inj hx).symm
          subst hx'
          refine ⟨by decide, cw, 0, rfl, fun j y hj => ?_⟩
          have := hw.cell j
          rw [show 0 + 0 * 5 + j = j by omega, this, List.getElem?_toArray]
          rcases j with _ | _ | _ | _ | _ | j
          all_goals first | exact hj | (simp [Im.icells] at hj)
        · have hx' : x = ⟨21, 0, 0, 0, 0⟩ := (Option.some.inj hx).symm
          subst hx'
          refine ⟨by decide, cw, 0, rfl, fun j y hj => ?_⟩
          have := hw.cell (5 + j)
          rw [show 0 + (0 + 1) * 5 + j = 5 + j by omega, this, List.getElem?_toArray]
          rcases j with _ | _ | _ | _ | _ | j
          all_goals first | exact hj | (simp [Im.icells] at hj)
        · cases hx
    · have hp' : p = ⟨1, 0, 40, 0, 40, 2, [⟨17, 0, 0, 0, 0⟩, ⟨21, 0, 0, 0, 0⟩]⟩ := (Option.some.inj hp).symm
      subst hp'
      refine ⟨a, 0, rfl, some ⟨cr, 0, none⟩, 2, fun j y hj => ?_, ?_, by unfold maxLen; simp⟩
      · have := ha.cell (7 + j)
        rw [show 0 + (0 + 1) * 7 + j = 7 + j by omega, this, List.getElem?_toArray]
        rcases j with _ | _ | _ | _ | _ | _ | _ | j
        all_goals first | exact hj | (simp [tcells] at hj)
      · intro k x hx
        rcases k with _ | _ | k
        · have hx' : x = ⟨17, 0, 0, 0, 0⟩ := (Option.some.inj hx).symm
          subst hx'
          refine ⟨by decide, cr, 0, rfl, fun j y hj => ?_⟩
          have := hr.cell j
          rw [show 0 + 0 * 5 + j = j by omega, this, List.getElem?_toArray]
          rcases j with _ | _ | _ | _ | _ | j
          all_goals first | exact hj | (simp [Im.icells] at hj)
        · have hx' : x = ⟨21, 0, 0, 0, 0⟩ := (Option.some.inj hx).symm
          subst hx'
          refine ⟨by decide, cr, 0, rfl, fun j y hj => ?_⟩
          have := hr.cell (5 + j)
          rw [show 0 + (0 + 1) * 5 + j = 5 + j by omega, this, List.getElem?_toArray]
          rcases j with _ | _ | _ | _ | _ | j
          all_goals first | exact hj | (simp [Im.icells] at hj)
        · cases hx
    · cases hp
  · intro i p hp
    cases i with
    | succ i => cases hp
    | zero =>
      have hp' : p = ⟨3, 2, 0, 3, 0, 0, [1], [1, 2]⟩ := (Option.some.inj hp).symm
      subst hp'
      refine ⟨b, 0, rfl, some ⟨u, 0, none⟩, 2, some ⟨v, 0, none⟩, 1, fun j y hj => ?_, by decide, ?_, ?_, ?_, by unfold maxLen; simp, by unfold maxLen; simp⟩
      · have := hb.cell j
        rw [show 0 + 0 * 8 + j = j by omega, this, List.getElem?_toArray]
        exact hj
      · intro j y hj
        refine ⟨u, 0, rfl, ?_⟩
        have := hu.cell j
        rw [Nat.zero_add, this, List.getElem?_toArray]
        exact hj
      · intro y hy
        simp only [List.mem_cons, List.not_mem_nil, or_false] at hy
        rcases hy with rfl | rfl <;> decide
      · intro j y hj
        refine ⟨v, 0, rfl, ?_⟩
        have := hv.cell j
        rw [Nat.zero_add, this, List.getElem?_toArray]
        exact hj
end Go.Proofs.YthhbhbfkbncegaaGreatDoor.Sl
end
section
set_option linter.unusedVariables false
set_option linter.unusedSimpArgs false
namespace Go.Proofs.YthhbhbfkbncegaaGreatDoor.Sl
open Go.ChangeShapes Go.WideShapes Go.ChangeAt Go.RowKit Ws
open Im (PT PO PS TsAt OsAt SysAt tcells ocells)
def pairS (o : PO) : PS := ⟨[⟨1, 1, 10, 0, 10, 2, [⟨18, 0, 0, 0, 0⟩, ⟨21, 0, 0, 0, 0⟩]⟩, ⟨1, 0, 40, 0, 40, 2, [⟨17, 0, 0, 0, 0⟩, ⟨21, 0, 0, 0, 0⟩]⟩], [o]⟩
theorem s37_pair : s37 = pairS ⟨3, 2, 0, 3, 0, 0, [1], [1, 2]⟩ := rfl
theorem sys_pair {W : World} {a b cw cr : Nat} {o : PO} {X Y : Option Addr} {co do_ : Nat} (ha : Blk W a 47 #[.int .i64 1, .int .i64 1, .int .i64 10, .int .i64 0, .int .i64 10, .int .i64 2, .slice (some ⟨cw, 0, none⟩) 2 2, .int .i64 1, .int .i64 0, .int .i64 40, .int .i64 0, .int .i64 40, .int .i64 2, .slice (some ⟨cr, 0, none⟩) 2 2]) (hw : Blk W cw 70 #[.int .i64 18, .int .i64 0, .int .i64 0, .int .i64 0, .int .u32 0, .int .i64 21, .int .i64 0, .int .i64 0, .int .i64 0, .int .u32 0]) (hr : Blk W cr 70 #[.int .i64 17, .int .i64 0, .int .i64 0, .int .i64 0, .int .u32 0, .int .i64 21, .int .i64 0, .int .i64 0, .int .i64 0, .int .u32 0]) (hb : Blk W b 34 (ocells o X co Y do_).toArray)
    (hsa : 0 ≤ o.sa ∧ o.sa < 4294967296) (hX : Row W X (o.ini.map (Value.int .u32))) (hini : ∀ y ∈ o.ini, 0 ≤ y ∧ y < 4294967296) (hY : Row W Y (o.rd.map (Value.int .i64))) (hl : o.ini.length ≤ maxLen ∧ o.rd.length ≤ maxLen) : SysAt W (some ⟨a, 0, none⟩) 2 (some ⟨b, 0, none⟩) 1 (pairS o) := by
  refine ⟨rfl, rfl, ?_, ?_⟩
  · intro i p hp
    rcases i with _ | _ | i
    · have hp' : p = ⟨1, 1, 10, 0, 10, 2, [⟨18, 0, 0, 0, 0⟩, ⟨21, 0, 0, 0, 0⟩]⟩ := (Option.some.inj hp).symm
      subst hp'
      refine ⟨a, 0, rfl, some ⟨cw, 0, none⟩, 2, fun j y hj => ?_, ?_, by unfold maxLen; simp⟩
      · have := ha.cell j
        rw [show 0 + 0 * 7 + j = j by omega, this, List.getElem?_toArray]
        rcases j with _ | _ | _ | _ | _ | _ | _ | j
        all_goals first | exact hj | (simp [tcells] at hj)
      · intro k x hx
        rcases k with _ | _ | k
        · have hx' : x = ⟨18, 0, 0, 0, 0⟩ := (Option.some.inj hx).symm
          subst hx'
          refine ⟨by decide, cw, 0, rfl, fun j y hj => ?_⟩
          have := hw.cell j
          rw [show 0 + 0 * 5 + j = j by omega, this, List.getElem?_toArray]
          rcases j with _ | _ | _ | _ | _ | j
          all_goals first | exact hj | (simp [Im.icells] at hj)
        · have hx' : x = ⟨21, 0, 0, 0, 0⟩ := (Option.some.inj hx).symm
          subst hx'
          refine ⟨by decide, cw, 0, rfl, fun j y hj => ?_⟩
          have := hw.cell (5 + j)
          rw [show 0 + (0 + 1) * 5 + j = 5 + j by omega, this, List.getElem?_toArray]
          rcases j with _ | _ | _ | _ | _ | j
          all_goals first | exact hj | (simp [Im.icells] at hj)
        · cases hx
    · have hp' : p = ⟨1, 0, 40, 0, 40, 2, [⟨17, 0, 0, 0, 0⟩, ⟨21, 0, 0, 0, 0⟩]⟩ := (Option.some.inj hp).symm
      subst hp'
      refine ⟨a, 0, rfl, some ⟨cr, 0, none⟩, 2, fun j y hj => ?_, ?_, by unfold maxLen; simp⟩
      · have := ha.cell (7 + j)
        rw [show 0 + (0 + 1) * 7 + j = 7 + j by omega, this, List.getElem?_toArray]
        rcases j with _ | _ | _ | _ | _ | _ | _ | j
        all_goals first | exact hj | (simp [tcells] at hj)
      · intro k x hx
        rcases k with _ | _ | k
        · have hx' : x = ⟨17, 0, 0, 0, 0⟩ := (Option.some.inj hx).symm
          subst hx'
          refine ⟨by decide, cr, 0, rfl, fun j y hj => ?_⟩
          have := hr.cell j
          rw [show 0 + 0 * 5 + j = j by omega, this, List.getElem?_toArray]
          rcases j with _ | _ | _ | _ | _ | j
          all_goals first | exact hj | (simp [Im.icells] at hj)
        · have hx' : x = ⟨21, 0, 0, 0, 0⟩ := (Option.some.inj hx).symm
          subst hx'
          refine ⟨by decide, cr, 0, rfl, fun j y hj => ?_⟩
          have := hr.cell (5 + j)
          rw [show 0 + (0 + 1) * 5 + j = 5 + j by omega, this, List.getElem?_toArray]
          rcases j with _ | _ | _ | _ | _ | j
          all_goals first | exact hj | (simp [Im.icells] at hj)
        · cases hx
    · cases hp
  · intro i p hp
    cases i with
    | succ i => cases hp
    | zero =>
      obtain rfl : o = p := Option.some.inj hp
      refine ⟨b, 0, rfl, X, co, Y, do_, fun j y hj => ?_, hsa, hX, hini, hY, hl.1, hl.2⟩
      have := hb.cell j
      rw [show 0 + 0 * 8 + j = j by omega, this, List.getElem?_toArray]
      exact hj
end Go.Proofs.YthhbhbfkbncegaaGreatDoor.Sl
end
end
section
set_option linter.unusedVariables false
set_option linter.unusedSimpArgs false
namespace Go.Proofs.YthhbhbfkbncegaaGreatDoor.Sl
open Go.ChangeShapes Go.WideShapes Go.ChangeAt Go.RowKit Ws
open Im (PT PO PS TsAt OsAt SysAt tcells ocells)
theorem code_any (op : Int) (w : World) : Calls Tryz.prog 53 #[.int .i64 op] w fun e w' => e = .returned (.slice (some ⟨w.heap.size, 0, none⟩) 2 2) ∧ w' = w.alloc (.cells #[.int .i64 op, .int .i64 0, .int .i64 0, .int .i64 0, .int .u32 0, .int .i64 21, .int .i64 0, .int .i64 0, .int .i64 0, .int .u32 0] 70) := by
  go_enter Tryz.func53, Tryz.ntmps53
  go_wp2_with fail
  go_ret
  exact ⟨rfl, rfl⟩
def PairP (w : World) (o : PO) (e : Ending) (w' : World) : Prop := ∃ a b, e = .returned (.agg #[.slice (some ⟨a, 0, none⟩) 2 2, .slice (some ⟨b, 0, none⟩) 1 1]) ∧ SysAt w' (some ⟨a, 0, none⟩) 2 (some ⟨b, 0, none⟩) 1 (pairS o) ∧ Same w w'
set_option maxRecDepth 100000 in
set_option maxHeartbeats 4000000 in
theorem pair_any (k wd sl cp sa ow : Int) (X Y : Option Addr) (il ic rl rc : Nat) (ini : List Int) (w : World) (hil : ini.length = il) (hbl : il ≤ maxLen) (hsa : 0 ≤ sa ∧ sa < 4294967296) (hX : Row w X (ini.map (Value.int .u32))) (hini : ∀ y ∈ ini, 0 ≤ y ∧ y < 4294967296) :
    Calls Tryz.prog 32 #[.agg #[.int .i64 k, .int .i64 wd, .int .i64 sl, .int .i64 cp, .int .u32 sa, .slice X il ic, .int .i64 ow, .slice Y rl rc]] w (PairP w ⟨k, wd, sl, cp, sa, 0, [1], ini⟩) := by
  obtain ⟨w0, hw0⟩ : ∃ w0, w0 = w.alloc (.cells #[.int .i64 k, .int .i64 wd, .int .i64 sl, .int .i64 cp, .int .u32 sa, .slice X il ic, .int .i64 ow, .slice Y rl rc] 34) := ⟨_, rfl⟩
  obtain ⟨q0, hq0⟩ : ∃ q0, q0 = w.heap.size := ⟨_, rfl⟩
  obtain ⟨q1, hq1⟩ : ∃ g, g = w0.heap.size := ⟨_, rfl⟩
  obtain ⟨w1, hw1⟩ : ∃ w1, w1 = w0.alloc (.cells #[.slice none 0 0, .slice none 0 0] 25) := ⟨_, rfl⟩
  have s0 : Same w w0 := hw0 ▸ (Same.refl w).alloc _
  have s1 : Same w0 w1 := hw1 ▸ (Same.refl w0).alloc _
  have b0 : Blk w0 q0 34 #[.int .i64 k, .int .i64 wd, .int .i64 sl, .int .i64 cp, .int .u32 sa, .slice X il ic, .int .i64 ow, .slice Y rl rc] := by rw [hw0, hq0]; exact Blk.new w _ _
  have b1 : Blk w1 q1 25 #[.slice none 0 0, .slice none 0 0] := by rw [hw1, hq1]; exact Blk.new w0 _ _
  have HE0 := Lib.hid hw0
  have HE1 := Lib.hid hw1
  have HQ0 := Lib.hid hq0
  have HQ1 := Lib.hid (show q0 + 1 = q1 by rw [hq1, hw0, hq0]; show _ = (w.heap.push _).size; rw [Array.size_push])
  have SM := Lib.hid (s0.trans s1)
  have HGW := Lib.hid (show w.heap.size ≤ q1 by rw [hq1]; exact s0.size)
  have BS := Lib.hid b1
  have HX := Lib.hid hX
  have HINI := Lib.hid hini
  have HIL := Lib.hid hil
  have HBL := Lib.hid hbl
  have HSA := Lib.hid hsa
  have HIT := Lib.hid (show (Tryz.prog.info? 47).map (·.size) = some (#[.int .i64 0, .int .i64 0, .int .i64 0, .int .i64 0, .int .i64 0, .int .i64 0, .slice none 0 0] : Array Value).size by kernel_rfl)
  have HIS := Lib.hid (show (Tryz.prog.info? 25).map (·.size) = some (#[.slice none 0 0, .slice none 0 0] : Array Value).size by kernel_rfl)
  obtain ⟨v, hv⟩ : ∃ v, v = w1.heap.size := ⟨_, rfl⟩
  obtain ⟨wA, hwA⟩ : ∃ x, x = w1.alloc (.cells #[.int .i64 1] 3) := ⟨_, rfl⟩
  have sA : Same w1 wA := hwA ▸ (Same.refl w1).alloc _
  have bA : Blk wA q0 34 #[.int .i64 k, .int .i64 wd, .int .i64 sl, .int .i64 cp, .int .u32 sa, .slice X il ic, .int .i64 ow, .slice Y rl rc] := (b0.same s1).same sA
  have bV : Blk wA v 3 #[.int .i64 1] := by rw [hwA, hv]; exact Blk.new w1 _ _
  have HV := Lib.hid hv
  have HA := Lib.hid hwA
  have SA := Lib.hid sA
  have BA := Lib.hid bA
  have BV := Lib.hid bV
  have B6 := Lib.hid (bA.put 6 (.int .i64 0))
  have HVQ := Lib.hid (show ¬ v = q0 from by have := (b0.same s1).lt; omega)
  have z6 := bA.cell 6
  have z7 := B6.out.cell 7
  have f6 := bA.thaw 6
  have f7 := B6.out.thaw 7
  simp only [List.getElem?_toArray, List.getElem?_cons_zero, List.getElem?_cons_succ] at z6
  have z7 : (wA.setCell ⟨q0, 6, none⟩ (.int .i64 0)).cell? ⟨q0, 7, none⟩ = some (.slice Y rl rc) := z7
  rw [hwA] at z6 z7 f6 f7
  clear hw0 hw1 hq0 hq1 s0 s1 b0 b1 hX hini hil hbl hsa hv hwA sA bA bV
  unfold PairP
  go_enter Tryz.func32, Tryz.ntmps32
  go_upto_region 1 with fail
  rw [← HQ0.out, HQ1.out, ← HE0.out, ← HE1.out]
  clear HE0 HE1
  go_upto_region 2 with fail
  rw [← HV.out, ← HA.out]
  obtain ⟨wB, hwB⟩ : ∃ x, x = (wA.setCell ⟨q0, 6, none⟩ (.int .i64 0)).setCell ⟨q0, 7, none⟩ (.slice (some ⟨v, 0, none⟩) 1 1) := ⟨_, rfl⟩
  have hcB : Chg (fun i => i = q0) wA wB := by rw [hwB]; exact ((Chg.refl (fun i => i = q0) wA).set (p := ⟨q0, 6, none⟩) (.inl rfl) _).set (p := ⟨q0, 7, none⟩) (.inl rfl) _
  have BO := Lib.hid (show Blk wB q0 34 #[.int .i64 k, .int .i64 wd, .int .i64 sl, .int .i64 cp, .int .u32 sa, .slice X il ic, .int .i64 0, .slice (some ⟨v, 0, none⟩) 1 1] from by rw [hwB]; exact B6.out.put 7 _)
  rw [← hwB]
  clear hwB z6 z7 f6 f7 B6 BA HA HV
  have BV := Lib.hid (BV.out.chg hcB HVQ.out)
  have BS := Lib.hid ((BS.out.same SA.out).chg hcB (by have := HQ1.out; omega))
  have SM := Lib.hid (Same.more (SM.out.trans SA.out) hcB (fun i h => by have := HQ0.out; omega))
  clear hcB SA HVQ
  go_wp2_with fail
  refine (code_any 18 _).mono ?_
  rintro e wC ⟨rfl, hwc⟩
  have SC := Lib.hid (show Same wB wC by rw [hwc]; exact (Same.refl _).alloc _)
  obtain ⟨cw, hc⟩ : ∃ g, g = wB.heap.size := ⟨_, rfl⟩
  have BCcw := Lib.hid (show Blk wC cw 70 #[.int .i64 18, .int .i64 0, .int .i64 0, .int .i64 0, .int .u32 0, .int .i64 21, .int .i64 0, .int .i64 0, .int .i64 0, .int .u32 0] by rw [hwc, hc]; exact Blk.new _ _ _)
  rw [← hc]
  clear hwc hc
  have BN := Lib.hid (Blk.new wC 47 #[.int .i64 0, .int .i64 0, .int .i64 0, .int .i64 0, .int .i64 0, .int .i64 0, .slice none 0 0])
  have SN := Lib.hid ((Same.refl wC).alloc (.cells #[.int .i64 0, .int .i64 0, .int .i64 0, .int .i64 0, .int .i64 0, .int .i64 0, .slice none 0 0] 47))
  go_upto_region 4 with (first | (refine wpList_store_row rfl 47 (.tmp 4) (.tmp 11) rfl wC.heap.size #[.int .i64 1, .int .i64 1, .int .i64 10, .int .i64 0, .int .i64 10, .int .i64 2, .slice (some ⟨cw, 0, none⟩) 2 2] rfl rfl 47 #[.int .i64 0, .int .i64 0, .int .i64 0, .int .i64 0, .int .i64 0, .int .i64 0, .slice none 0 0] BN.out HIT.out rfl (by simp [Value.oneCell']) ?_))
  obtain ⟨t1, ht⟩ : ∃ g, g = wC.heap.size := ⟨_, rfl⟩
  obtain ⟨wT, hwt⟩ : ∃ x, x = World.setRow (wC.alloc (.cells #[.int .i64 0, .int .i64 0, .int .i64 0, .int .i64 0, .int .i64 0, .int .i64 0, .slice none 0 0] 47)) t1 #[.int .i64 1, .int .i64 1, .int .i64 10, .int .i64 0, .int .i64 10, .int .i64 2, .slice (some ⟨cw, 0, none⟩) 2 2] := ⟨_, rfl⟩
  have ST := Lib.hid (show Same wC wT by rw [hwt, ht]; exact Dm.chgRow SN.out (.inr (Nat.le_refl _)) _)
  have BTt1 := Lib.hid (show Blk wT t1 47 #[.int .i64 1, .int .i64 1, .int .i64 10, .int .i64 0, .int .i64 10, .int .i64 2, .slice (some ⟨cw, 0, none⟩) 2 2] by rw [hwt, ht]; exact Dm.rowb BN.out)
  rw [← ht, ← hwt]
  clear ht hwt BN SN
  have SCT := Lib.hid (SC.out.trans ST.out)
  have BCcw := Lib.hid (BCcw.out.same ST.out)
  have SM := Lib.hid (SM.out.trans SCT.out)
  have BO := Lib.hid (BO.out.same SCT.out)
  have BV := Lib.hid (BV.out.same SCT.out)
  have BS := Lib.hid (BS.out.same SCT.out)
  clear SC ST SCT
  go_wp2_with fail
  refine (code_any 17 _).mono ?_
  rintro e wD ⟨rfl, hwc⟩
  have SC := Lib.hid (show Same wT wD by rw [hwc]; exact (Same.refl _).alloc _)
  obtain ⟨cr, hc⟩ : ∃ g, g = wT.heap.size := ⟨_, rfl⟩
  have BCcr := Lib.hid (show Blk wD cr 70 #[.int .i64 17, .int .i64 0, .int .i64 0, .int .i64 0, .int .u32 0, .int .i64 21, .int .i64 0, .int .i64 0, .int .i64 0, .int .u32 0] by rw [hwc, hc]; exact Blk.new _ _ _)
  rw [← hc]
  clear hwc hc
  have BN := Lib.hid (Blk.new wD 47 #[.int .i64 0, .int .i64 0, .int .i64 0, .int .i64 0, .int .i64 0, .int .i64 0, .slice none 0 0])
  have SN := Lib.hid ((Same.refl wD).alloc (.cells #[.int .i64 0, .int .i64 0, .int .i64 0, .int .i64 0, .int .i64 0, .int .i64 0, .slice none 0 0] 47))
  go_upto_region 5 with (first | (refine wpList_store_row rfl 47 (.tmp 5) (.tmp 14) rfl wD.heap.size #[.int .i64 1, .int .i64 0, .int .i64 40, .int .i64 0, .int .i64 40, .int .i64 2, .slice (some ⟨cr, 0, none⟩) 2 2] rfl rfl 47 #[.int .i64 0, .int .i64 0, .int .i64 0, .int .i64 0, .int .i64 0, .int .i64 0, .slice none 0 0] BN.out HIT.out rfl (by simp [Value.oneCell']) ?_))
  obtain ⟨t2, ht⟩ : ∃ g, g = wD.heap.size := ⟨_, rfl⟩
  obtain ⟨wU, hwt⟩ : ∃ x, x = World.setRow (wD.alloc (.cells #[.int .i64 0, .int .i64 0, .int .i64 0, .int .i64 0, .int .i64 0, .int .i64 0, .slice none 0 0] 47)) t2 #[.int .i64 1, .int .i64 0, .int .i64 40, .int .i64 0, .int .i64 40, .int .i64 2, .slice (some ⟨cr, 0, none⟩) 2 2] := ⟨_, rfl⟩
  have ST := Lib.hid (show Same wD wU by rw [hwt, ht]; exact Dm.chgRow SN.out (.inr (Nat.le_refl _)) _)
  have BTt2 := Lib.hid (show Blk wU t2 47 #[.int .i64 1, .int .i64 0, .int .i64 40, .int .i64 0, .int .i64 40, .int .i64 2, .slice (some ⟨cr, 0, none⟩) 2 2] by rw [hwt, ht]; exact Dm.rowb BN.out)
  rw [← ht, ← hwt]
  clear ht hwt BN SN
  have SCT := Lib.hid (SC.out.trans ST.out)
  have BCcr := Lib.hid (BCcr.out.same ST.out)
  have SM := Lib.hid (SM.out.trans SCT.out)
  have BO := Lib.hid (BO.out.same SCT.out)
  have BV := Lib.hid (BV.out.same SCT.out)
  have BS := Lib.hid (BS.out.same SCT.out)
  have BTt1 := Lib.hid (BTt1.out.same SCT.out)
  have BCcw := Lib.hid (BCcw.out.same SCT.out)
  clear SC ST SCT
  obtain ⟨a, ha⟩ : ∃ g, g = wU.heap.size := ⟨_, rfl⟩
  obtain ⟨wV, hwV⟩ : ∃ x, x = wU.alloc (.cells #[.int .i64 1, .int .i64 1, .int .i64 10, .int .i64 0, .int .i64 10, .int .i64 2, .slice (some ⟨cw, 0, none⟩) 2 2, .int .i64 1, .int .i64 0, .int .i64 40, .int .i64 0, .int .i64 40, .int .i64 2, .slice (some ⟨cr, 0, none⟩) 2 2] 47) := ⟨_, rfl⟩
  obtain ⟨b, hb⟩ : ∃ g, g = wV.heap.size := ⟨_, rfl⟩
  obtain ⟨wW, hwW⟩ : ∃ x, x = wV.alloc (.cells #[.int .i64 k, .int .i64 wd, .int .i64 sl, .int .i64 cp, .int .u32 sa, .slice X il ic, .int .i64 0, .slice (some ⟨v, 0, none⟩) 1 1] 34) := ⟨_, rfl⟩
  have sV : Same wU wV := hwV ▸ (Same.refl wU).alloc _
  have sW : Same wV wW := hwW ▸ (Same.refl wV).alloc _
  have bT : Blk wV a 47 #[.int .i64 1, .int .i64 1, .int .i64 10, .int .i64 0, .int .i64 10, .int .i64 2, .slice (some ⟨cw, 0, none⟩) 2 2, .int .i64 1, .int .i64 0, .int .i64 40, .int .i64 0, .int .i64 40, .int .i64 2, .slice (some ⟨cr, 0, none⟩) 2 2] := by rw [hwV, ha]; exact Blk.new wU _ _
  have bO : Blk wW b 34 #[.int .i64 k, .int .i64 wd, .int .i64 sl, .int .i64 cp, .int .u32 sa, .slice X il ic, .int .i64 0, .slice (some ⟨v, 0, none⟩) 1 1] := by rw [hwW, hb]; exact Blk.new wV _ _
  have HA := Lib.hid ha
  have HB := Lib.hid (show a + 1 = b by rw [hb, hwV, ha]; show _ = (wU.heap.push _).size; rw [Array.size_push])
  have HWV := Lib.hid hwV
  have HWW := Lib.hid hwW
  have BSW := Lib.hid ((BS.out.same sV).same sW)
  have hcF : Chg (fun i => i = q1) wW (World.setRow wW q1 #[.slice (some ⟨a, 0, none⟩) 2 2, .slice (some ⟨b, 0, none⟩) 1 1]) := Dm.chgRow (S := fun i => i = q1) (Chg.refl _ wW) (.inl rfl) _
  have hSY : SysAt (World.setRow wW q1 #[.slice (some ⟨a, 0, none⟩) 2 2, .slice (some ⟨b, 0, none⟩) 1 1]) (some ⟨a, 0, none⟩) 2 (some ⟨b, 0, none⟩) 1 (pairS ⟨k, wd, sl, cp, sa, 0, [1], ini⟩) := by
    have e1 : Blk wW a 47 #[.int .i64 1, .int .i64 1, .int .i64 10, .int .i64 0, .int .i64 10, .int .i64 2, .slice (some ⟨cw, 0, none⟩) 2 2, .int .i64 1, .int .i64 0, .int .i64 40, .int .i64 0, .int .i64 40, .int .i64 2, .slice (some ⟨cr, 0, none⟩) 2 2] := bT.same sW
    have e2 := (BCcw.out.same sV).same sW
    have e3 := (BCcr.out.same sV).same sW
    have e4 := (BV.out.same sV).same sW
    refine sys_pair (X := X) (co := ic) (Y := some ⟨v, 0, none⟩) (do_ := 1) (e1.chg hcF (e1.ne BSW.out (by decide))) (e2.chg hcF (e2.ne BSW.out (by decide))) (e3.chg hcF (e3.ne BSW.out (by decide))) ?_ HSA.out (HX.out.same (Dm.chgRow (SM.out.trans (sV.trans sW)) (.inr HGW.out) _)) HINI.out ?_ ⟨by show ini.length ≤ maxLen; rw [HIL.out]; exact HBL.out, by show 1 ≤ maxLen; unfold maxLen; omega⟩
    · show Blk _ b 34 #[.int .i64 k, .int .i64 wd, .int .i64 sl, .int .i64 cp, .int .u32 sa, .slice X ini.length ic, .int .i64 0, .slice (some ⟨v, 0, none⟩) 1 1]
      rw [HIL.out]
      exact bO.chg hcF (bO.ne BSW.out (by decide))
    · intro j y hj
      refine ⟨v, 0, rfl, ?_⟩
      have := (e4.chg hcF (e4.ne BSW.out (by decide))).cell j
      rw [Nat.zero_add, this, List.getElem?_toArray]
      exact hj
  have HSY := Lib.hid hSY
  have SMW := Lib.hid (SM.out.trans (sV.trans sW))
  have BOV := Lib.hid (BO.out.same sV)
  obtain ⟨x0, x1, x2, x3, x4, x5, x6⟩ := (⟨(BTt1.out).cell 0, (BTt1.out).cell 1, (BTt1.out).cell 2, (BTt1.out).cell 3, (BTt1.out).cell 4, (BTt1.out).cell 5, (BTt1.out).cell 6⟩ : _ ∧ _ ∧ _ ∧ _ ∧ _ ∧ _ ∧ _)
  simp only [List.getElem?_toArray, List.getElem?_cons_zero, List.getElem?_cons_succ] at x0 x1 x2 x3 x4 x5 x6
  obtain ⟨y0, y1, y2, y3, y4, y5, y6⟩ := (⟨(BTt2.out).cell 0, (BTt2.out).cell 1, (BTt2.out).cell 2, (BTt2.out).cell 3, (BTt2.out).cell 4, (BTt2.out).cell 5, (BTt2.out).cell 6⟩ : _ ∧ _ ∧ _ ∧ _ ∧ _ ∧ _ ∧ _)
  simp only [List.getElem?_toArray, List.getElem?_cons_zero, List.getElem?_cons_succ] at y0 y1 y2 y3 y4 y5 y6
  obtain ⟨z0, z1, z2, z3, z4, z5, z6, z7⟩ := (⟨(BOV.out).cell 0, (BOV.out).cell 1, (BOV.out).cell 2, (BOV.out).cell 3, (BOV.out).cell 4, (BOV.out).cell 5, (BOV.out).cell 6, (BOV.out).cell 7⟩ : _ ∧ _ ∧ _ ∧ _ ∧ _ ∧ _ ∧ _ ∧ _)
  simp only [List.getElem?_toArray, List.getElem?_cons_zero, List.getElem?_cons_succ] at z0 z1 z2 z3 z4 z5 z6 z7
  rw [hwV] at z0 z1 z2 z3 z4 z5 z6 z7
  clear ha hwV hb hwW sV sW bT bO hSY hcF BO BV BS BCcw BCcr BTt1 BTt2 BOV HX HINI HSA HBL HIL SM
  have BSW2 := Lib.hid (show Blk ((wU.alloc (.cells #[.int .i64 1, .int .i64 1, .int .i64 10, .int .i64 0, .int .i64 10, .int .i64 2, .slice (some ⟨cw, 0, none⟩) 2 2, .int .i64 1, .int .i64 0, .int .i64 40, .int .i64 0, .int .i64 40, .int .i64 2, .slice (some ⟨cr, 0, none⟩) 2 2] 47)).alloc (.cells #[.int .i64 k, .int .i64 wd, .int .i64 sl, .int .i64 cp, .int .u32 sa, .slice X il ic, .int .i64 0, .slice (some ⟨v, 0, none⟩) 1 1] 34)) q1 25 #[.slice none 0 0, .slice none 0 0] by rw [← HWV.out, ← HWW.out]; exact BSW.out)
  go_wp2_with (first | (refine wpList_store_row rfl 25 (.tmp 2) (.tmp 20) rfl q1 #[.slice (some ⟨wU.heap.size, 0, none⟩) 2 2, .slice (some ⟨wU.heap.size + 1, 0, none⟩) 1 1] rfl rfl 25 #[.slice none 0 0, .slice none 0 0] BSW2.out HIS.out rfl (by simp [Value.oneCell']) ?_))
  rw [← HWV.out, ← HWW.out]
  rw [← HA.out, HB.out]
  refine bodyPost_ret (v := .agg #[.slice (some ⟨a, 0, none⟩) 2 2, .slice (some ⟨b, 0, none⟩) 1 1]) (res_cell1 Tryz.results32 _ _ q1 25 #[.slice (some ⟨a, 0, none⟩) 2 2, .slice (some ⟨b, 0, none⟩) 1 1] (0, 0) _ rfl (Dm.rowb BSW.out) Tryz.underlying25 rfl HIS.out) rfl ?_
  exact ⟨a, b, rfl, HSY.out, Dm.chgRow SMW.out (.inr HGW.out) _⟩
end Go.Proofs.YthhbhbfkbncegaaGreatDoor.Sl
end
