/-

  The law SizeTells.
-/
import Derived.Test.YthhbhbfkbncegabGreatDoorSplSpec
import Derived.Test.YthhbhbfkbncegabGreatDoorSplOf
import Derived.Test.YthhbhbfkbncegabGreatDoorSysFew
import Derived.Test.YthhbhbfkbncegabGreatDoorSizF
import Derived.Test.YthhbhbfkbncegabGreatDoorSizRef
import Derived.Test.YthhbhbfkbncegabGreatDoorRegionOff
section
section
set_option linter.unusedVariables false
set_option linter.unusedSimpArgs false
namespace Go.Proofs.YthhbhbfkbncegabGreatDoor.Sl
open Go.ChangeShapes Go.WideShapes Go.ChangeAt Go.RowKit Ws
open Im (PT PO PS TsAt OsAt SysAt tcells ocells)
def s37 : PS := ⟨[⟨1, 1, 10, 0, 10, 2, [⟨18, 0, 0, 0, 0⟩, ⟨21, 0, 0, 0, 0⟩]⟩, ⟨1, 0, 40, 0, 40, 2, [⟨17, 0, 0, 0, 0⟩, ⟨21, 0, 0, 0, 0⟩]⟩], [⟨3, 2, 0, 3, 0, 0, [1], [1, 2]⟩]⟩
theorem s37_of : ofR s37 1 0 = ⟨3, 0, 4, true, 1, 10⟩ := by decide +kernel
theorem s37_w : wrR (ofR s37 1 0) 25 = 3 := by rw [s37_of]; decide
theorem s37_f : flR (ofR s37 1 0) 25 = 3 := by rw [s37_of]; decide
theorem s37_h : hopeR (ofR s37 1 0) = false := by rw [s37_of]; rfl
theorem s37_d : Dm.dearI s37 1 0 = 5 ∧ Dm.dearE s37 1 0 = 0 := by decide +kernel
theorem s37_j : jobI s37 1 25 = 17 := by
  unfold jobI
  rw [if_pos s37_d.2, s37_d.1, show s37.os.length = 0 + 1 from rfl, jobL_succ, show ((0 : Nat) : Int) = 0 from rfl, s37_of]
  decide
theorem sys37 {W : World} {a b cw cr u v : Nat} (ha : Blk W a 30 #[.int .i64 1, .int .i64 1, .int .i64 10, .int .i64 0, .int .i64 10, .int .i64 2, .slice (some ⟨cw, 0, none⟩) 2 2, .int .i64 1, .int .i64 0, .int .i64 40, .int .i64 0, .int .i64 40, .int .i64 2, .slice (some ⟨cr, 0, none⟩) 2 2]) (hw : Blk W cw 49 #[.int .i64 18, .int .i64 0, .int .i64 0, .int .i64 0, .int .u32 0, .int .i64 21, .int .i64 0, .int .i64 0, .int .i64 0, .int .u32 0]) (hr : Blk W cr 49 #[.int .i64 17, .int .i64 0, .int .i64 0, .int .i64 0, .int .u32 0, .int .i64 21, .int .i64 0, .int .i64 0, .int .i64 0, .int .u32 0]) (hb : Blk W b 43 #[.int .i64 3, .int .i64 2, .int .i64 0, .int .i64 3, .int .u32 0, .slice (some ⟨u, 0, none⟩) 2 2, .int .i64 0, .slice (some ⟨v, 0, none⟩) 1 1])
    (hu : Blk W u 40 #[.int .u32 1, .int .u32 2]) (hv : Blk W v 3 #[.int .i64 1]) : SysAt W (some ⟨a, 0, none⟩) 2 (some ⟨b, 0, none⟩) 1 s37 := by
  refine ⟨rfl, rfl, ?_, ?_⟩
  · intro i p hp
    rcases i with _ | _ | i
    · have hp' : p = ⟨1, 1, 10, 0, 10, 2, [⟨18, 0, 0, 0, 0⟩, ⟨21, 0, 0, 0, 0⟩]⟩ := (Option.some.inj hp).symm
      subst hp'
      refine ⟨a, 0, rfl, some ⟨cw, 0, none⟩, 2, fun j y hj => ?_, ?_, by unfold maxLen; simp⟩
      · have := ha.cell j
        rw [show 0 + 0 * 7 + j = j by omega, this, List.getElem?_toArray]
        rcases j with _ | _ | _ | _ | _ | _ | _ | j
        all_goals first | exact hj | (simp [tcells] at hj)
      · intro k x hx
        rcases k with _ | _ | k
        · have hx' : x = ⟨18, 0, 0, 0, 0⟩ := (Option.some.inj hx).symm
          subst hx'
          refine ⟨by decide, cw, 0, rfl, fun j y hj => ?_⟩
          have := hw.cell j
          rw [show 0 + 0 * 5 + j = j by omega, this, List.getElem?_toArray]
          rcases j with _ | _ | _ | _ | _ | j
          all_goals first | exact hj | (simp [Im.icells] at hj)
        · have hx' : x = ⟨21, 0, 0, 0, 0⟩ := (Option.some.inj hx).symm
          subst hx'
          refine ⟨by decide, cw, 0, rfl, fun j y hj => ?_⟩
          have := hw.cell (5 + j)
          rw [show 0 + (0 + 1) * 5 + j = 5 + j by omega, this, List.getElem?_toArray]
          rcases j with _ | _ | _ | _ | _ | j
          all_goals first | exact hj | (simp [Im.icells] at hj)
        · cases hx
    · have hp' : p = ⟨1, 0, 40, 0, 40, 2, [⟨17, 0, 0, 0, 0⟩, ⟨21, 0, 0, 0, 0⟩]⟩ := (Option.some.inj hp).symm
      subst hp'
      refine ⟨a, 0, rfl, some ⟨cr, 0, none⟩, 2, fun j y hj => ?_, ?_, by unfold maxLen; simp⟩
      · have := ha.cell (7 + j)
        rw [show 0 + (0 + 1) * 7 + j = 7 + j by omega, this, List.getElem?_toArray]
        rcases j with _ | _ | _ | _ | _ | _ | _ | j
        all_goals first | exact hj | (simp [tcells] at hj)
      · intro k x hx
        rcases k with _ | _ | k
        · have hx' : x = ⟨17, 0, 0, 0, 0⟩ := (Option.some.inj hx).symm
          subst hx'
          refine ⟨by decide, cr, 0, rfl, fun j y hj => ?_⟩
          have := hr.cell j
          rw [show 0 + 0 * 5 + j = j by omega, this, List.getElem?_toArray]
          rcases j with _ | _ | _ | _ | _ | j
          all_goals first | exact hj | (simp [Im.icells] at hj)
        · have hx' : x = ⟨21, 0, 0, 0, 0⟩ := (Option.some.inj hx).symm
          subst hx'
          refine ⟨by decide, cr, 0, rfl, fun j y hj => ?_⟩
          have := hr.cell (5 + j)
          rw [show 0 + (0 + 1) * 5 + j = 5 + j by omega, this, List.getElem?_toArray]
          rcases j with _ | _ | _ | _ | _ | j
          all_goals first | exact hj | (simp [Im.icells] at hj)
        · cases hx
    · cases hp
  · intro i p hp
    cases i with
    | succ i => cases hp
    | zero =>
      have hp' : p = ⟨3, 2, 0, 3, 0, 0, [1], [1, 2]⟩ := (Option.some.inj hp).symm
      subst hp'
      refine ⟨b, 0, rfl, some ⟨u, 0, none⟩, 2, some ⟨v, 0, none⟩, 1, fun j y hj => ?_, by decide, ?_, ?_, ?_, by unfold maxLen; simp, by unfold maxLen; simp⟩
      · have := hb.cell j
        rw [show 0 + 0 * 8 + j = j by omega, this, List.getElem?_toArray]
        exact hj
      · intro j y hj
        refine ⟨u, 0, rfl, ?_⟩
        have := hu.cell j
        rw [Nat.zero_add, this, List.getElem?_toArray]
        exact hj
      · intro y hy
        simp only [List.mem_cons, List.not_mem_nil, or_false] at hy
        rcases hy with rfl | rfl <;> decide
      · intro j y hj
        refine ⟨v, 0, rfl, ?_⟩
        have := hv.cell j
        rw [Nat.zero_add, this, List.getElem?_toArray]
        exact hj
end Go.Proofs.YthhbhbfkbncegabGreatDoor.Sl
end
section
set_option linter.unusedVariables false
set_option linter.unusedSimpArgs false
namespace Go.Proofs.YthhbhbfkbncegabGreatDoor.Sl
open Go.ChangeShapes Go.WideShapes Go.ChangeAt Go.RowKit Ws
open Im (PT PO PS TsAt OsAt SysAt tcells ocells)
def pairS (o : PO) : PS := ⟨[⟨1, 1, 10, 0, 10, 2, [⟨18, 0, 0, 0, 0⟩, ⟨21, 0, 0, 0, 0⟩]⟩, ⟨1, 0, 40, 0, 40, 2, [⟨17, 0, 0, 0, 0⟩, ⟨21, 0, 0, 0, 0⟩]⟩], [o]⟩
theorem s37_pair : s37 = pairS ⟨3, 2, 0, 3, 0, 0, [1], [1, 2]⟩ := rfl
theorem sys_pair {W : World} {a b cw cr : Nat} {o : PO} {X Y : Option Addr} {co do_ : Nat} (ha : Blk W a 30 #[.int .i64 1, .int .i64 1, .int .i64 10, .int .i64 0, .int .i64 10, .int .i64 2, .slice (some ⟨cw, 0, none⟩) 2 2, .int .i64 1, .int .i64 0, .int .i64 40, .int .i64 0, .int .i64 40, .int .i64 2, .slice (some ⟨cr, 0, none⟩) 2 2]) (hw : Blk W cw 49 #[.int .i64 18, .int .i64 0, .int .i64 0, .int .i64 0, .int .u32 0, .int .i64 21, .int .i64 0, .int .i64 0, .int .i64 0, .int .u32 0]) (hr : Blk W cr 49 #[.int .i64 17, .int .i64 0, .int .i64 0, .int .i64 0, .int .u32 0, .int .i64 21, .int .i64 0, .int .i64 0, .int .i64 0, .int .u32 0]) (hb : Blk W b 43 (ocells o X co Y do_).toArray)
    (hsa : 0 ≤ o.sa ∧ o.sa < 4294967296) (hX : Row W X (o.ini.map (Value.int .u32))) (hini : ∀ y ∈ o.ini, 0 ≤ y ∧ y < 4294967296) (hY : Row W Y (o.rd.map (Value.int .i64))) (hl : o.ini.length ≤ maxLen ∧ o.rd.length ≤ maxLen) : SysAt W (some ⟨a, 0, none⟩) 2 (some ⟨b, 0, none⟩) 1 (pairS o) := by
  refine ⟨rfl, rfl, ?_, ?_⟩
  · intro i p hp
    rcases i with _ | _ | i
    · have hp' : p = ⟨1, 1, 10, 0, 10, 2, [⟨18, 0, 0, 0, 0⟩, ⟨21, 0, 0, 0, 0⟩]⟩ := (Option.some.inj hp).symm
      subst hp'
      refine ⟨a, 0, rfl, some ⟨cw, 0, none⟩, 2, fun j y hj => ?_, ?_, by unfold maxLen; simp⟩
      · have := ha.cell j
        rw [show 0 + 0 * 7 + j = j by omega, this, List.getElem?_toArray]
        rcases j with _ | _ | _ | _ | _ | _ | _ | j
        all_goals first | exact hj | (simp [tcells] at hj)
      · intro k x hx
        rcases k with _ | _ | k
        · have hx' : x = ⟨18, 0, 0, 0, 0⟩ := (Option.some.inj hx).symm
          subst hx'
          refine ⟨by decide, cw, 0, rfl, fun j y hj => ?_⟩
          have := hw.cell j
          rw [show 0 + 0 * 5 + j = j by omega, this, List.getElem?_toArray]
          rcases j with _ | _ | _ | _ | _ | j
          all_goals first | exact hj | (simp [Im.icells] at hj)
        · have hx' : x = ⟨21, 0, 0, 0, 0⟩ := (Option.some.inj hx).symm
          subst hx'
          refine ⟨by decide, cw, 0, rfl, fun j y hj => ?_⟩
          have := hw.cell (5 + j)
          rw [show 0 + (0 + 1) * 5 + j = 5 + j by omega, this, List.getElem?_toArray]
          rcases j with _ | _ | _ | _ | _ | j
          all_goals first | exact hj | (simp [Im.icells] at hj)
        · cases hx
    · have hp' : p = ⟨1, 0, 40, 0, 40, 2, [⟨17, 0, 0, 0, 0⟩, ⟨21, 0, 0, 0, 0⟩]⟩ := (Option.some.inj hp).symm
      subst hp'
      refine ⟨a, 0, rfl, some ⟨cr, 0, none⟩, 2, fun j y hj => ?_, ?_, by unfold maxLen; simp⟩
      · have := ha.cell (7 + j)
        rw [show 0 + (0 + 1) * 7 + j = 7 + j by omega, this, List.getElem?_toArray]
        rcases j with _ | _ | _ | _ | _ | _ | _ | j
        all_goals first | exact hj | (simp [tcells] at hj)
      · intro k x hx
        rcases k with _ | _ | k
        · have hx' : x = ⟨17, 0, 0, 0, 0⟩ := (Option.some.inj hx).symm
          subst hx'
          refine ⟨by decide, cr, 0, rfl, fun j y hj => ?_⟩
          have := hr.cell j
          rw [show 0 + 0 * 5 + j = j by omega, this, List.getElem?_toArray]
          rcases j with _ | _ | _ | _ | _ | j
          all_goals first | exact hj | (simp [Im.icells] at hj)
        · have hx' : x = ⟨21, 0, 0, 0, 0⟩ := (Option.some.inj hx).symm
          subst hx'
          refine ⟨by decide, cr, 0, rfl, fun j y hj => ?_⟩
          have := hr.cell (5 + j)
          rw [show 0 + (0 + 1) * 5 + j = 5 + j by omega, this, List.getElem?_toArray]
          rcases j with _ | _ | _ | _ | _ | j
          all_goals first | exact hj | (simp [Im.icells] at hj)
        · cases hx
    · cases hp
  · intro i p hp
    cases i with
    | succ i => cases hp
    | zero =>
      obtain rfl : o = p := Option.some.inj hp
      refine ⟨b, 0, rfl, X, co, Y, do_, fun j y hj => ?_, hsa, hX, hini, hY, hl.1, hl.2⟩
      have := hb.cell j
      rw [show 0 + 0 * 8 + j = j by omega, this, List.getElem?_toArray]
      exact hj
end Go.Proofs.YthhbhbfkbncegabGreatDoor.Sl
end
end
section
section
set_option linter.unusedVariables false
set_option linter.unusedSimpArgs false
namespace Go.Proofs.YthhbhbfkbncegabGreatDoor.Sl
open Go.ChangeShapes Go.WideShapes Go.ChangeAt Go.RowKit Ws
open Im (PT PO PS TsAt OsAt SysAt tcells ocells)
theorem code_any (op : Int) (w : World) : Calls Tryz.prog 47 #[.int .i64 op] w fun e w' => e = .returned (.slice (some ⟨w.heap.size, 0, none⟩) 2 2) ∧ w' = w.alloc (.cells #[.int .i64 op, .int .i64 0, .int .i64 0, .int .i64 0, .int .u32 0, .int .i64 21, .int .i64 0, .int .i64 0, .int .i64 0, .int .u32 0] 49) := by
  go_enter Tryz.func47, Tryz.ntmps47
  go_wp2_with fail
  go_ret
  exact ⟨rfl, rfl⟩
def PairP (w : World) (o : PO) (e : Ending) (w' : World) : Prop := ∃ a b, e = .returned (.agg #[.slice (some ⟨a, 0, none⟩) 2 2, .slice (some ⟨b, 0, none⟩) 1 1]) ∧ SysAt w' (some ⟨a, 0, none⟩) 2 (some ⟨b, 0, none⟩) 1 (pairS o) ∧ Same w w'
set_option maxRecDepth 100000 in
set_option maxHeartbeats 4000000 in
theorem pair_any (k wd sl cp sa ow : Int) (X Y : Option Addr) (il ic rl rc : Nat) (ini : List Int) (w : World) (hil : ini.length = il) (hbl : il ≤ maxLen) (hsa : 0 ≤ sa ∧ sa < 4294967296) (hX : Row w X (ini.map (Value.int .u32))) (hini : ∀ y ∈ ini, 0 ≤ y ∧ y < 4294967296) :
    Calls Tryz.prog 30 #[.agg #[.int .i64 k, .int .i64 wd, .int .i64 sl, .int .i64 cp, .int .u32 sa, .slice X il ic, .int .i64 ow, .slice Y rl rc]] w (PairP w ⟨k, wd, sl, cp, sa, 0, [1], ini⟩) := by
  obtain ⟨w0, hw0⟩ : ∃ w0, w0 = w.alloc (.cells #[.int .i64 k, .int .i64 wd, .int .i64 sl, .int .i64 cp, .int .u32 sa, .slice X il ic, .int .i64 ow, .slice Y rl rc] 43) := ⟨_, rfl⟩
  obtain ⟨q0, hq0⟩ : ∃ q0, q0 = w.heap.size := ⟨_, rfl⟩
  obtain ⟨q1, hq1⟩ : ∃ g, g = w0.heap.size := ⟨_, rfl⟩
  obtain ⟨w1, hw1⟩ : ∃ w1, w1 = w0.alloc (.cells #[.slice none 0 0, .slice none 0 0] 25) := ⟨_, rfl⟩
  have s0 : Same w w0 := hw0 ▸ (Same.refl w).alloc _
  have s1 : Same w0 w1 := hw1 ▸ (Same.refl w0).alloc _
  have b0 : Blk w0 q0 43 #[.int .i64 k, .int .i64 wd, .int .i64 sl, .int .i64 cp, .int .u32 sa, .slice X il ic, .int .i64 ow, .slice Y rl rc] := by rw [hw0, hq0]; exact Blk.new w _ _
  have b1 : Blk w1 q1 25 #[.slice none 0 0, .slice none 0 0] := by rw [hw1, hq1]; exact Blk.new w0 _ _
  have HE0 := Lib.hid hw0
  have HE1 := Lib.hid hw1
  have HQ0 := Lib.hid hq0
  have HQ1 := Lib.hid (show q0 + 1 = q1 by rw [hq1, hw0, hq0]; show _ = (w.heap.push _).size; rw [Array.size_push])
  have SM := Lib.hid (s0.trans s1)
  have HGW := Lib.hid (show w.heap.size ≤ q1 by rw [hq1]; exact s0.size)
  have BS := Lib.hid b1
  have HX := Lib.hid hX
  have HINI := Lib.hid hini
  have HIL := Lib.hid hil
  have HBL := Lib.hid hbl
  have HSA := Lib.hid hsa
  have HIT := Lib.hid (show (Tryz.prog.info? 30).map (·.size) = some (#[.int .i64 0, .int .i64 0, .int .i64 0, .int .i64 0, .int .i64 0, .int .i64 0, .slice none 0 0] : Array Value).size by kernel_rfl)
  have HIS := Lib.hid (show (Tryz.prog.info? 25).map (·.size) = some (#[.slice none 0 0, .slice none 0 0] : Array Value).size by kernel_rfl)
  obtain ⟨v, hv⟩ : ∃ v, v = w1.heap.size := ⟨_, rfl⟩
  obtain ⟨wA, hwA⟩ : ∃ x, x = w1.alloc (.cells #[.int .i64 1] 3) := ⟨_, rfl⟩
  have sA : Same w1 wA := hwA ▸ (Same.refl w1).alloc _
  have bA : Blk wA q0 43 #[.int .i64 k, .int .i64 wd, .int .i64 sl, .int .i64 cp, .int .u32 sa, .slice X il ic, .int .i64 ow, .slice Y rl rc] := (b0.same s1).same sA
  have bV : Blk wA v 3 #[.int .i64 1] := by rw [hwA, hv]; exact Blk.new w1 _ _
  have HV := Lib.hid hv
  have HA := Lib.hid hwA
  have SA := Lib.hid sA
  have BA := Lib.hid bA
  have BV := Lib.hid bV
  have B6 := Lib.hid (bA.put 6 (.int .i64 0))
  have HVQ := Lib.hid (show ¬ v = q0 from by have := (b0.same s1).lt; omega)
  have z6 := bA.cell 6
  have z7 := B6.out.cell 7
  have f6 := bA.thaw 6
  have f7 := B6.out.thaw 7
  simp only [List.getElem?_toArray, List.getElem?_cons_zero, List.getElem?_cons_succ] at z6
  have z7 : (wA.setCell ⟨q0, 6, none⟩ (.int .i64 0)).cell? ⟨q0, 7, none⟩ = some (.slice Y rl rc) := z7
  rw [hwA] at z6 z7 f6 f7
  clear hw0 hw1 hq0 hq1 s0 s1 b0 b1 hX hini hil hbl hsa hv hwA sA bA bV
  unfold PairP
  go_enter Tryz.func30, Tryz.ntmps30
  go_upto_region 1 with fail
  rw [← HQ0.out, HQ1.out, ← HE0.out, ← HE1.out]
  clear HE0 HE1
  go_upto_region 2 with fail
  rw [← HV.out, ← HA.out]
  obtain ⟨wB, hwB⟩ : ∃ x, x = (wA.setCell ⟨q0, 6, none⟩ (.int .i64 0)).setCell ⟨q0, 7, none⟩ (.slice (some ⟨v, 0, none⟩) 1 1) := ⟨_, rfl⟩
  have hcB : Chg (fun i => i = q0) wA wB := by rw [hwB]; exact ((Chg.refl (fun i => i = q0) wA).set (p := ⟨q0, 6, none⟩) (.inl rfl) _).set (p := ⟨q0, 7, none⟩) (.inl rfl) _
  have BO := Lib.hid (show Blk wB q0 43 #[.int .i64 k, .int .i64 wd, .int .i64 sl, .int .i64 cp, .int .u32 sa, .slice X il ic, .int .i64 0, .slice (some ⟨v, 0, none⟩) 1 1] from by rw [hwB]; exact B6.out.put 7 _)
  rw [← hwB]
  clear hwB z6 z7 f6 f7 B6 BA HA HV
  have BV := Lib.hid (BV.out.chg hcB HVQ.out)
  have BS := Lib.hid ((BS.out.same SA.out).chg hcB (by have := HQ1.out; omega))
  have SM := Lib.hid (Same.more (SM.out.trans SA.out) hcB (fun i h => by have := HQ0.out; omega))
  clear hcB SA HVQ
  go_wp2_with fail
  refine (code_any 18 _).mono ?_
  rintro e wC ⟨rfl, hwc⟩
  have SC := Lib.hid (show Same wB wC by rw [hwc]; exact (Same.refl _).alloc _)
  obtain ⟨cw, hc⟩ : ∃ g, g = wB.heap.size := ⟨_, rfl⟩
  have BCcw := Lib.hid (show Blk wC cw 49 #[.int .i64 18, .int .i64 0, .int .i64 0, .int .i64 0, .int .u32 0, .int .i64 21, .int .i64 0, .int .i64 0, .int .i64 0, .int .u32 0] by rw [hwc, hc]; exact Blk.new _ _ _)
  rw [← hc]
  clear hwc hc
  have BN := Lib.hid (Blk.new wC 30 #[.int .i64 0, .int .i64 0, .int .i64 0, .int .i64 0, .int .i64 0, .int .i64 0, .slice none 0 0])
  have SN := Lib.hid ((Same.refl wC).alloc (.cells #[.int .i64 0, .int .i64 0, .int .i64 0, .int .i64 0, .int .i64 0, .int .i64 0, .slice none 0 0] 30))
  go_upto_region 4 with (first | (refine wpList_store_row rfl 30 (.tmp 4) (.tmp 11) rfl wC.heap.size #[.int .i64 1, .int .i64 1, .int .i64 10, .int .i64 0, .int .i64 10, .int .i64 2, .slice (some ⟨cw, 0, none⟩) 2 2] rfl rfl 30 #[.int .i64 0, .int .i64 0, .int .i64 0, .int .i64 0, .int .i64 0, .int .i64 0, .slice none 0 0] BN.out HIT.out rfl (by simp [Value.oneCell']) ?_))
  obtain ⟨t1, ht⟩ : ∃ g, g = wC.heap.size := ⟨_, rfl⟩
  obtain ⟨wT, hwt⟩ : ∃ x, x = World.setRow (wC.alloc (.cells #[.int .i64 0, .int .i64 0, .int .i64 0, .int .i64 0, .int .i64 0, .int .i64 0, .slice none 0 0] 30)) t1 #[.int .i64 1, .int .i64 1, .int .i64 10, .int .i64 0, .int .i64 10, .int .i64 2, .slice (some ⟨cw, 0, none⟩) 2 2] := ⟨_, rfl⟩
  have ST := Lib.hid (show Same wC wT by rw [hwt, ht]; exact Dm.chgRow SN.out (.inr (Nat.le_refl _)) _)
  have BTt1 := Lib.hid (show Blk wT t1 30 #[.int .i64 1, .int .i64 1, .int .i64 10, .int .i64 0, .int .i64 10, .int .i64 2, .slice (some ⟨cw, 0, none⟩) 2 2] by rw [hwt, ht]; exact Dm.rowb BN.out)
  rw [← ht, ← hwt]
  clear ht hwt BN SN
  have SCT := Lib.hid (SC.out.trans ST.out)
  have BCcw := Lib.hid (BCcw.out.same ST.out)
  have SM := Lib.hid (SM.out.trans SCT.out)
  have BO := Lib.hid (BO.out.same SCT.out)
  have BV := Lib.hid (BV.out.same SCT.out)
  have BS := Lib.hid (BS.out.same SCT.out)
  clear SC ST SCT
  go_wp2_with fail
  refine (code_any 17 _).mono ?_
  rintro e wD ⟨rfl, hwc⟩
  have SC := Lib.hid (show Same wT wD by rw [hwc]; exact (Same.refl _).alloc _)
  obtain ⟨cr, hc⟩ : ∃ g, g = wT.heap.size := ⟨_, rfl⟩
  have BCcr := Lib.hid (show Blk wD cr 49 #[.int .i64 17, .int .i64 0, .int .i64 0, .int .i64 0, .int .u32 0, .int .i64 21, .int .i64 0, .int .i64 0, .int .i64 0, .int .u32 0] by rw [hwc, hc]; exact Blk.new _ _ _)
  rw [← hc]
  clear hwc hc
  have BN := Lib.hid (Blk.new wD 30 #[.int .i64 0, .int .i64 0, .int .i64 0, .int .i64 0, .int .i64 0, .int .i64 0, .slice none 0 0])
  have SN := Lib.hid ((Same.refl wD).alloc (.cells #[.int .i64 0, .int .i64 0, .int .i64 0, .int .i64 0, .int .i64 0, .int .i64 0, .slice none 0 0] 30))
  go_upto_region 5 with (first | (refine wpList_store_row rfl 30 (.tmp 5) (.tmp 14) rfl wD.heap.size #[.int .i64 1, .int .i64 0, .int .i64 40, .int .i64 0, .int .i64 40, .int .i64 2, .slice (some ⟨cr, 0, none⟩) 2 2] rfl rfl 30 #[.int .i64 0, .int .i64 0, .int .i64 0, .int .i64 0, .int .i64 0, .int .i64 0, .slice none 0 0] BN.out HIT.out rfl (by simp [Value.oneCell']) ?_))
  obtain ⟨t2, ht⟩ : ∃ g, g = wD.heap.size := ⟨_, rfl⟩
  obtain ⟨wU, hwt⟩ : ∃ x, x = World.setRow (wD.alloc (.cells #[.int .i64 0, .int .i64 0, .int .i64 0, .int .i64 0, .int .i64 0, .int .i64 0, .slice none 0 0] 30)) t2 #[.int .i64 1, .int .i64 0, .int .i64 40, .int .i64 0, .int .i64 40, .int .i64 2, .slice (some ⟨cr, 0, none⟩) 2 2] := ⟨_, rfl⟩
  have ST := Lib.hid (show Same wD wU by rw [hwt, ht]; exact Dm.chgRow SN.out (.inr (Nat.le_refl _)) _)
  have BTt2 := Lib.hid (show Blk wU t2 30 #[.int .i64 1, .int .i64 0, .int .i64 40, .int .i64 0, .int .i64 40, .int .i64 2, .slice (some ⟨cr, 0, none⟩) 2 2] by rw [hwt, ht]; exact Dm.rowb BN.out)
  rw [← ht, ← hwt]
  clear ht hwt BN SN
  have SCT := Lib.hid (SC.out.trans ST.out)
  have BCcr := Lib.hid (BCcr.out.same ST.out)
  have SM := Lib.hid (SM.out.trans SCT.out)
  have BO := Lib.hid (BO.out.same SCT.out)
  have BV := Lib.hid (BV.out.same SCT.out)
  have BS := Lib.hid (BS.out.same SCT.out)
  have BTt1 := Lib.hid (BTt1.out.same SCT.out)
  have BCcw := Lib.hid (BCcw.out.same SCT.out)
  clear SC ST SCT
  obtain ⟨a, ha⟩ : ∃ g, g = wU.heap.size := ⟨_, rfl⟩
  obtain ⟨wV, hwV⟩ : ∃ x, x = wU.alloc (.cells #[.int .i64 1, .int .i64 1, .int .i64 10, .int .i64 0, .int .i64 10, .int .i64 2, .slice (some ⟨cw, 0, none⟩) 2 2, .int .i64 1, .int .i64 0, .int .i64 40, .int .i64 0, .int .i64 40, .int .i64 2, .slice (some ⟨cr, 0, none⟩) 2 2] 30) := ⟨_, rfl⟩
  obtain ⟨b, hb⟩ : ∃ g, g = wV.heap.size := ⟨_, rfl⟩
  obtain ⟨wW, hwW⟩ : ∃ x, x = wV.alloc (.cells #[.int .i64 k, .int .i64 wd, .int .i64 sl, .int .i64 cp, .int .u32 sa, .slice X il ic, .int .i64 0, .slice (some ⟨v, 0, none⟩) 1 1] 43) := ⟨_, rfl⟩
  have sV : Same wU wV := hwV ▸ (Same.refl wU).alloc _
  have sW : Same wV wW := hwW ▸ (Same.refl wV).alloc _
  have bT : Blk wV a 30 #[.int .i64 1, .int .i64 1, .int .i64 10, .int .i64 0, .int .i64 10, .int .i64 2, .slice (some ⟨cw, 0, none⟩) 2 2, .int .i64 1, .int .i64 0, .int .i64 40, .int .i64 0, .int .i64 40, .int .i64 2, .slice (some ⟨cr, 0, none⟩) 2 2] := by rw [hwV, ha]; exact Blk.new wU _ _
  have bO : Blk wW b 43 #[.int .i64 k, .int .i64 wd, .int .i64 sl, .int .i64 cp, .int .u32 sa, .slice X il ic, .int .i64 0, .slice (some ⟨v, 0, none⟩) 1 1] := by rw [hwW, hb]; exact Blk.new wV _ _
  have HA := Lib.hid ha
  have HB := Lib.hid (show a + 1 = b by rw [hb, hwV, ha]; show _ = (wU.heap.push _).size; rw [Array.size_push])
  have HWV := Lib.hid hwV
  have HWW := Lib.hid hwW
  have BSW := Lib.hid ((BS.out.same sV).same sW)
  have hcF : Chg (fun i => i = q1) wW (World.setRow wW q1 #[.slice (some ⟨a, 0, none⟩) 2 2, .slice (some ⟨b, 0, none⟩) 1 1]) := Dm.chgRow (S := fun i => i = q1) (Chg.refl _ wW) (.inl rfl) _
  have hSY : SysAt (World.setRow wW q1 #[.slice (some ⟨a, 0, none⟩) 2 2, .slice (some ⟨b, 0, none⟩) 1 1]) (some ⟨a, 0, none⟩) 2 (some ⟨b, 0, none⟩) 1 (pairS ⟨k, wd, sl, cp, sa, 0, [1], ini⟩) := by
    have e1 : Blk wW a 30 #[.int .i64 1, .int .i64 1, .int .i64 10, .int .i64 0, .int .i64 10, .int .i64 2, .slice (some ⟨cw, 0, none⟩) 2 2, .int .i64 1, .int .i64 0, .int .i64 40, .int .i64 0, .int .i64 40, .int .i64 2, .slice (some ⟨cr, 0, none⟩) 2 2] := bT.same sW
    have e2 := (BCcw.out.same sV).same sW
    have e3 := (BCcr.out.same sV).same sW
    have e4 := (BV.out.same sV).same sW
    refine sys_pair (X := X) (co := ic) (Y := some ⟨v, 0, none⟩) (do_ := 1) (e1.chg hcF (e1.ne BSW.out (by decide))) (e2.chg hcF (e2.ne BSW.out (by decide))) (e3.chg hcF (e3.ne BSW.out (by decide))) ?_ HSA.out (HX.out.same (Dm.chgRow (SM.out.trans (sV.trans sW)) (.inr HGW.out) _)) HINI.out ?_ ⟨by show ini.length ≤ maxLen; rw [HIL.out]; exact HBL.out, by show 1 ≤ maxLen; unfold maxLen; omega⟩
    · show Blk _ b 43 #[.int .i64 k, .int .i64 wd, .int .i64 sl, .int .i64 cp, .int .u32 sa, .slice X ini.length ic, .int .i64 0, .slice (some ⟨v, 0, none⟩) 1 1]
      rw [HIL.out]
      exact bO.chg hcF (bO.ne BSW.out (by decide))
    · intro j y hj
      refine ⟨v, 0, rfl, ?_⟩
      have := (e4.chg hcF (e4.ne BSW.out (by decide))).cell j
      rw [Nat.zero_add, this, List.getElem?_toArray]
      exact hj
  have HSY := Lib.hid hSY
  have SMW := Lib.hid (SM.out.trans (sV.trans sW))
  have BOV := Lib.hid (BO.out.same sV)
  obtain ⟨x0, x1, x2, x3, x4, x5, x6⟩ := (⟨(BTt1.out).cell 0, (BTt1.out).cell 1, (BTt1.out).cell 2, (BTt1.out).cell 3, (BTt1.out).cell 4, (BTt1.out).cell 5, (BTt1.out).cell 6⟩ : _ ∧ _ ∧ _ ∧ _ ∧ _ ∧ _ ∧ _)
  simp only [List.getElem?_toArray, List.getElem?_cons_zero, List.getElem?_cons_succ] at x0 x1 x2 x3 x4 x5 x6
  obtain ⟨y0, y1, y2, y3, y4, y5, y6⟩ := (⟨(BTt2.out).cell 0, (BTt2.out).cell 1, (BTt2.out).cell 2, (BTt2.out).cell 3, (BTt2.out).cell 4, (BTt2.out).cell 5, (BTt2.out).cell 6⟩ : _ ∧ _ ∧ _ ∧ _ ∧ _ ∧ _ ∧ _)
  simp only [List.getElem?_toArray, List.getElem?_cons_zero, List.getElem?_cons_succ] at y0 y1 y2 y3 y4 y5 y6
  obtain ⟨z0, z1, z2, z3, z4, z5, z6, z7⟩ := (⟨(BOV.out).cell 0, (BOV.out).cell 1, (BOV.out).cell 2, (BOV.out).cell 3, (BOV.out).cell 4, (BOV.out).cell 5, (BOV.out).cell 6, (BOV.out).cell 7⟩ : _ ∧ _ ∧ _ ∧ _ ∧ _ ∧ _ ∧ _ ∧ _)
  simp only [List.getElem?_toArray, List.getElem?_cons_zero, List.getElem?_cons_succ] at z0 z1 z2 z3 z4 z5 z6 z7
  rw [hwV] at z0 z1 z2 z3 z4 z5 z6 z7
  clear ha hwV hb hwW sV sW bT bO hSY hcF BO BV BS BCcw BCcr BTt1 BTt2 BOV HX HINI HSA HBL HIL SM
  have BSW2 := Lib.hid (show Blk ((wU.alloc (.cells #[.int .i64 1, .int .i64 1, .int .i64 10, .int .i64 0, .int .i64 10, .int .i64 2, .slice (some ⟨cw, 0, none⟩) 2 2, .int .i64 1, .int .i64 0, .int .i64 40, .int .i64 0, .int .i64 40, .int .i64 2, .slice (some ⟨cr, 0, none⟩) 2 2] 30)).alloc (.cells #[.int .i64 k, .int .i64 wd, .int .i64 sl, .int .i64 cp, .int .u32 sa, .slice X il ic, .int .i64 0, .slice (some ⟨v, 0, none⟩) 1 1] 43)) q1 25 #[.slice none 0 0, .slice none 0 0] by rw [← HWV.out, ← HWW.out]; exact BSW.out)
  go_wp2_with (first | (refine wpList_store_row rfl 25 (.tmp 2) (.tmp 20) rfl q1 #[.slice (some ⟨wU.heap.size, 0, none⟩) 2 2, .slice (some ⟨wU.heap.size + 1, 0, none⟩) 1 1] rfl rfl 25 #[.slice none 0 0, .slice none 0 0] BSW2.out HIS.out rfl (by simp [Value.oneCell']) ?_))
  rw [← HWV.out, ← HWW.out]
  rw [← HA.out, HB.out]
  refine bodyPost_ret (v := .agg #[.slice (some ⟨a, 0, none⟩) 2 2, .slice (some ⟨b, 0, none⟩) 1 1]) (res_cell1 Tryz.results30 _ _ q1 25 #[.slice (some ⟨a, 0, none⟩) 2 2, .slice (some ⟨b, 0, none⟩) 1 1] (0, 0) _ rfl (Dm.rowb BSW.out) Tryz.underlying25 rfl HIS.out) rfl ?_
  exact ⟨a, b, rfl, HSY.out, Dm.chgRow SMW.out (.inr HGW.out) _⟩
end Go.Proofs.YthhbhbfkbncegabGreatDoor.Sl
end
section
section
set_option linter.unusedVariables false
set_option linter.unusedSimpArgs false
namespace Go.Proofs.YthhbhbfkbncegabGreatDoor.Im
open Go.ChangeShapes Go.WideShapes Go.ChangeAt Go.RowKit Ws

structure TWg (t : PT) : Prop where
  kind : (Lit.int .i64 t.kind).wf = true
  prio : (Lit.int .i64 t.prio).wf = true
  per : (Lit.int .i64 t.per).wf = true
  off : (Lit.int .i64 t.off).wf = true
  dl : (Lit.int .i64 t.dl).wf = true
  own : (Lit.int .i64 t.own).wf = true
def OWg (o : PO) : Prop := ∀ y ∈ o.k :: o.wd :: o.sl :: o.cp :: o.ow :: o.rd, (Lit.int .i64 y).wf = true
structure SysWg (s : PS) : Prop where
  ts : ∀ p ∈ s.ts, TWg p
  os : ∀ p ∈ s.os, OWg p
section
variable {H : Type} {enc : TypeId × Value → H} {w : World} {base : Nat} {sp : Nat → Bool} {held : Bool}
theorem task_cells_g {fuel : Nat} {cs : List Value} {x : DataW H × List MemPlace} (hl : cs.length = 7) (h : DataW.trod enc Tryz.prog w base sp held fuel 30 cs = some x) : ∃ (t : PT) (X : Option Addr) (c : Nat), cs = tcells t X c ∧ Code w X t.code ∧ t.code.length ≤ maxLen ∧ TWg t := by
  obtain ⟨z0, e0, w0⟩ := On.int_leaf (n := 6) (i := 0) (u := 3) h (by kernel_rfl) Tryz.underlying3
  obtain ⟨z1, e1, w1⟩ := On.int_leaf (n := 6) (i := 1) (u := 3) h (by kernel_rfl) Tryz.underlying3
  obtain ⟨z2, e2, w2⟩ := On.int_leaf (n := 6) (i := 2) (u := 3) h (by kernel_rfl) Tryz.underlying3
  obtain ⟨z3, e3, w3⟩ := On.int_leaf (n := 6) (i := 3) (u := 3) h (by kernel_rfl) Tryz.underlying3
  obtain ⟨z4, e4, w4⟩ := On.int_leaf (n := 6) (i := 4) (u := 3) h (by kernel_rfl) Tryz.underlying3
  obtain ⟨z5, e5, w5⟩ := On.int_leaf (n := 6) (i := 5) (u := 3) h (by kernel_rfl) Tryz.underlying3
  obtain ⟨A, len, cap, d, p, e6, w6⟩ := On.slice_leaf (n := 6) (i := 6) (u := 28) h (by kernel_rfl) Tryz.underlying28
  obtain ⟨rows, hr, hrl, hml⟩ := Fl.rows_of Tryz.underlying28 (show Fl.kinds Tryz.prog 6 49 = some [.i64, .i64, .i64, .i64, .u32] by kernel_rfl) (by decide) w6
  obtain ⟨code, hcl, hcode⟩ := code_in hr
  refine ⟨⟨z0, z1, z2, z3, z4, z5, code⟩, A, cap, ?_, hcode, (by show code.length ≤ maxLen; omega), ⟨w0, w1, w2, w3, w4, w5⟩⟩
  have hlen : code.length = len := by omega
  apply List.ext_getElem?
  intro i
  match i with
  | 0 => exact e0
  | 1 => exact e1
  | 2 => exact e2
  | 3 => exact e3
  | 4 => exact e4
  | 5 => exact e5
  | 6 => rw [e6]; simp [tcells, hlen]
  | n + 7 => rw [List.getElem?_eq_none (by omega), List.getElem?_eq_none (by simp [tcells])]
theorem tasks_in_g {A : Option Addr} {len cap : Nat} {d : DataW H} {p : List MemPlace} (h : DataW.Trod enc Tryz.prog w base sp held 22 (.slice A len cap) d p) :
    ∃ ts : List PT, ts.length = len ∧ TsAt w A ts ∧ (∀ p ∈ ts, TWg p) ∧ len ≤ maxLen := by
  have hkl : Tryz.prog.cellsOf 30 = 7 := by kernel_rfl
  obtain ⟨fuel, hf⟩ := h
  rcases DataW.trod_slice Tryz.underlying22 hf with ⟨hcs, _⟩ | ⟨a, l, c, elems, rest, m, _, hcs, _, _, hl, hm, hel, hall, _, _⟩
  · simp [Value.cells] at hcs
    obtain ⟨rfl, rfl, rfl⟩ := hcs
    exact ⟨[], rfl, fun i r hr => by simp at hr, fun r hr => by simp at hr, Nat.zero_le _⟩
  · simp [Value.cells] at hcs
    obtain ⟨rfl, rfl, rfl⟩ := hcs
    rw [hkl] at hall
    have hspot : ∀ {i : Nat}, i < len → a.spot = none := by
      intro i hi
      have hai := hall 0 (by omega)
      rw [List.getElem?_eq_getElem (by omega)] at hai
      obtain ⟨cs, hcs, hx⟩ := Option.bind_eq_some_iff.1 hai
      obtain ⟨hcl, hcc⟩ := Fl.cells_get hcs
      obtain ⟨v0, hv0⟩ : ∃ v, cs[0]? = some v := ⟨_, List.getElem?_eq_getElem (by rw [hcl]; omega)⟩
      have h0 := hcc 0 v0 hv0
      rw [Nat.zero_mul] at h0
      exact Fl.spot_zero (by simpa [Addr.add] using h0)
    have hch : ∀ i : Nat, ∃ p : PT, i < len → ∃ b o, some a = some (⟨b, o, none⟩ : Addr) ∧ ∃ X c, (∀ j v, (tcells p X c)[j]? = some v → w.cell? ⟨b, o + i * 7 + j, none⟩ = some v) ∧ Code w X p.code ∧ p.code.length ≤ maxLen ∧ TWg p := by
      intro i
      by_cases hi : i < len
      · have hai := hall i hi
        rw [List.getElem?_eq_getElem (by omega)] at hai
        obtain ⟨cs, hcs, hx⟩ := Option.bind_eq_some_iff.1 hai
        obtain ⟨hcl, hcc⟩ := Fl.cells_get hcs
        have hs := hspot hi
        obtain ⟨b, o, s⟩ := a
        cases hs
        obtain ⟨t, X, c, rfl, hcode⟩ := task_cells_g hcl hx
        refine ⟨t, fun _ => ⟨b, o, rfl, X, c, fun j v hv => ?_, hcode⟩⟩
        have := hcc j v hv
        rw [Fl.add_add _ _ _ rfl] at this
        exact this
      · exact ⟨default, fun h => absurd h hi⟩
    refine ⟨(List.range len).map fun i => Classical.choose (hch i), by simp, fun i r hr => ?_, fun r hr => ?_, by omega⟩
    · have hlt : i < len := by
        rcases Nat.lt_or_ge i len with hlt | hge
        · exact hlt
        · rw [List.getElem?_eq_none (by simpa using hge)] at hr
          cases hr
      rw [List.getElem?_map, List.getElem?_range hlt] at hr
      injection hr with hr
      rw [← hr]
      obtain ⟨b, o, h1, X, c, h2, h3, h4, _⟩ := Classical.choose_spec (hch i) hlt
      exact ⟨b, o, h1, X, c, h2, h3, h4⟩
    · obtain ⟨i, hi, rfl⟩ := List.mem_map.1 hr
      obtain ⟨b, o, h1, X, c, h2, h3, h4, h5⟩ := Classical.choose_spec (hch i) (List.mem_range.1 hi)
      exact h5

theorem obj_cells_g {fuel : Nat} {cs : List Value} {x : DataW H × List MemPlace} (hl : cs.length = 8) (h : DataW.trod enc Tryz.prog w base sp held fuel 43 cs = some x) : ∃ (p : PO) (X : Option Addr) (c : Nat) (Y : Option Addr) (d : Nat), cs = ocells p X c Y d ∧ (0 ≤ p.sa ∧ p.sa < 4294967296) ∧ Row w X (p.ini.map (Value.int .u32)) ∧ (∀ y ∈ p.ini, 0 ≤ y ∧ y < 4294967296) ∧ Row w Y (p.rd.map (Value.int .i64)) ∧ p.ini.length ≤ maxLen ∧ p.rd.length ≤ maxLen ∧ OWg p := by
  obtain ⟨z0, e0, w0⟩ := On.int_leaf (n := 6) (i := 0) (u := 3) h (by kernel_rfl) Tryz.underlying3
  obtain ⟨z1, e1, w1⟩ := On.int_leaf (n := 6) (i := 1) (u := 3) h (by kernel_rfl) Tryz.underlying3
  obtain ⟨z2, e2, w2⟩ := On.int_leaf (n := 6) (i := 2) (u := 3) h (by kernel_rfl) Tryz.underlying3
  obtain ⟨z3, e3, w3⟩ := On.int_leaf (n := 6) (i := 3) (u := 3) h (by kernel_rfl) Tryz.underlying3
  obtain ⟨z4, e4, w4⟩ := On.int_leaf (n := 6) (i := 4) (u := 40) h (by kernel_rfl) Tryz.underlying40
  obtain ⟨A, il, ic, d5, p5, e5, t5⟩ := On.slice_leaf (n := 6) (i := 5) (u := 41) h (by kernel_rfl) Tryz.underlying41
  obtain ⟨z6, e6, w6⟩ := On.int_leaf (n := 6) (i := 6) (u := 3) h (by kernel_rfl) Tryz.underlying3
  obtain ⟨B, rl, rc, d7, p7, e7, t7⟩ := On.slice_leaf (n := 6) (i := 7) (u := 26) h (by kernel_rfl) Tryz.underlying26
  obtain ⟨ini, hil, hirow, hiwf, hi1, hi2⟩ := Fl.ints_of Tryz.underlying41 Tryz.underlying40 (by kernel_rfl) t5
  obtain ⟨rd, hrl, hrrow, hrwf, hr1, hr2⟩ := Fl.ints_of Tryz.underlying26 Tryz.underlying3 (by kernel_rfl) t7
  refine ⟨⟨z0, z1, z2, z3, z4, z6, rd, ini⟩, A, ic, B, rc, ?_, Fl.u32_bd w4, hirow, fun y hy => Fl.u32_bd (hiwf y hy), hrrow, Nat.le_trans (Nat.le_of_eq hil) (Nat.le_trans hi1 hi2), Nat.le_trans (Nat.le_of_eq hrl) (Nat.le_trans hr1 hr2), fun y hy => by
    rcases List.mem_cons.1 hy with hy | hy
    · rw [hy]; exact w0
    rcases List.mem_cons.1 hy with hy | hy
    · rw [hy]; exact w1
    rcases List.mem_cons.1 hy with hy | hy
    · rw [hy]; exact w2
    rcases List.mem_cons.1 hy with hy | hy
    · rw [hy]; exact w3
    rcases List.mem_cons.1 hy with hy | hy
    · rw [hy]; exact w6
    · exact hrwf y hy⟩
  apply List.ext_getElem?
  intro i
  match i with
  | 0 => exact e0
  | 1 => exact e1
  | 2 => exact e2
  | 3 => exact e3
  | 4 => exact e4
  | 5 => rw [e5]; simp [ocells, hil]
  | 6 => exact e6
  | 7 => rw [e7]; simp [ocells, hrl]
  | n + 8 => rw [List.getElem?_eq_none (by omega), List.getElem?_eq_none (by simp [ocells])]
theorem objs_in_g {A : Option Addr} {len cap : Nat} {d : DataW H} {p : List MemPlace} (h : DataW.Trod enc Tryz.prog w base sp held 23 (.slice A len cap) d p) :
    ∃ ts : List PO, ts.length = len ∧ OsAt w A ts ∧ (∀ p ∈ ts, OWg p) ∧ len ≤ maxLen := by
  have hkl : Tryz.prog.cellsOf 43 = 8 := by kernel_rfl
  obtain ⟨fuel, hf⟩ := h
  rcases DataW.trod_slice Tryz.underlying23 hf with ⟨hcs, _⟩ | ⟨a, l, c, elems, rest, m, _, hcs, _, _, hl, hm, hel, hall, _, _⟩
  · simp [Value.cells] at hcs
    obtain ⟨rfl, rfl, rfl⟩ := hcs
    exact ⟨[], rfl, fun i r hr => by simp at hr, fun r hr => by simp at hr, Nat.zero_le _⟩
  · simp [Value.cells] at hcs
    obtain ⟨rfl, rfl, rfl⟩ := hcs
    rw [hkl] at hall
    have hspot : ∀ {i : Nat}, i < len → a.spot = none := by
      intro i hi
      have hai := hall 0 (by omega)
      rw [List.getElem?_eq_getElem (by omega)] at hai
      obtain ⟨cs, hcs, hx⟩ := Option.bind_eq_some_iff.1 hai
      obtain ⟨hcl, hcc⟩ := Fl.cells_get hcs
      obtain ⟨v0, hv0⟩ : ∃ v, cs[0]? = some v := ⟨_, List.getElem?_eq_getElem (by rw [hcl]; omega)⟩
      have h0 := hcc 0 v0 hv0
      rw [Nat.zero_mul] at h0
      exact Fl.spot_zero (by simpa [Addr.add] using h0)
    have hch : ∀ i : Nat, ∃ p : PO, i < len → ∃ b o, some a = some (⟨b, o, none⟩ : Addr) ∧ ∃ X c Y d, (∀ j v, (ocells p X c Y d)[j]? = some v → w.cell? ⟨b, o + i * 8 + j, none⟩ = some v) ∧ (0 ≤ p.sa ∧ p.sa < 4294967296) ∧ Row w X (p.ini.map (Value.int .u32)) ∧ (∀ y ∈ p.ini, 0 ≤ y ∧ y < 4294967296) ∧ Row w Y (p.rd.map (Value.int .i64)) ∧ p.ini.length ≤ maxLen ∧ p.rd.length ≤ maxLen ∧ OWg p := by
      intro i
      by_cases hi : i < len
      · have hai := hall i hi
        rw [List.getElem?_eq_getElem (by omega)] at hai
        obtain ⟨cs, hcs, hx⟩ := Option.bind_eq_some_iff.1 hai
        obtain ⟨hcl, hcc⟩ := Fl.cells_get hcs
        have hs := hspot hi
        obtain ⟨b, o, s⟩ := a
        cases hs
        obtain ⟨t, X, c, Y, d, rfl, h1, h2, h3, h4⟩ := obj_cells_g hcl hx
        refine ⟨t, fun _ => ⟨b, o, rfl, X, c, Y, d, fun j v hv => ?_, h1, h2, h3, h4⟩⟩
        have := hcc j v hv
        rw [Fl.add_add _ _ _ rfl] at this
        exact this
      · exact ⟨default, fun h => absurd h hi⟩
    refine ⟨(List.range len).map fun i => Classical.choose (hch i), by simp, fun i r hr => ?_, fun r hr => ?_, by omega⟩
    · have hlt : i < len := by
        rcases Nat.lt_or_ge i len with hlt | hge
        · exact hlt
        · rw [List.getElem?_eq_none (by simpa using hge)] at hr
          cases hr
      rw [List.getElem?_map, List.getElem?_range hlt] at hr
      injection hr with hr
      rw [← hr]
      obtain ⟨b, o, h1, X, c, Y, d, h2, h3, h4, h5, h6, h7, h8, _⟩ := Classical.choose_spec (hch i) hlt
      exact ⟨b, o, h1, X, c, Y, d, h2, h3, h4, h5, h6, h7, h8⟩
    · obtain ⟨i, hi, rfl⟩ := List.mem_map.1 hr
      obtain ⟨b, o, h1, X, c, Y, d, h2, h3, h4, h5, h6, h7, h8, h9⟩ := Classical.choose_spec (hch i) (List.mem_range.1 hi)
      exact h9

end
set_option maxRecDepth 100000 in
theorem system_in_g {H : Type} {enc : TypeId × Value → H} {w : World} {base : Nat} {sp : Nat → Bool} {held : Bool} {r : Reach} {b0 : Nat} {v : Value} {d : DataW H} {p : List MemPlace}
    (hv : Value.okWide Tryz.prog w r b0 25 v) (h : DataW.Trod enc Tryz.prog w base sp held 25 v d p) :
    ∃ (A B : Option Addr) (n c m d : Nat) (s : PS), v = .agg #[.slice A n c, .slice B m d] ∧ SysAt w A n B m s ∧ SysWg s ∧ n ≤ maxLen ∧ m ≤ maxLen := by
  obtain ⟨cs, rfl, hsz⟩ := okWide_struct Tryz.underlying25 hv
  obtain ⟨fuel, hf⟩ := h
  have hc : (Value.agg cs).cells.toList = cs.toList := by simp [Value.cells]
  rw [hc] at hf
  obtain ⟨l⟩ := cs
  have h3 : l.length = 2 := by
    have := hsz.trans (show Tryz.prog.cellsOf 25 = 2 by kernel_rfl)
    simpa using this
  match l, h3 with
  | [c0, c1], _ =>
    obtain ⟨A, n, c, d0, p0, e0, t0⟩ := On.slice_leaf hf (show On.leafAt Tryz.prog 6 25 0 = some 22 by kernel_rfl) Tryz.underlying22
    obtain ⟨B, m, c', d1, p1, e1, t1⟩ := On.slice_leaf hf (show On.leafAt Tryz.prog 6 25 1 = some 23 by kernel_rfl) Tryz.underlying23
    simp at e0 e1
    subst e0 e1
    obtain ⟨ts, l0, w0, f0, m0⟩ := tasks_in_g t0
    obtain ⟨os, l1, w1, f1, m1⟩ := objs_in_g t1
    exact ⟨A, B, n, c, m, c', ⟨ts, os⟩, rfl, ⟨l0, l1, w0, w1⟩, ⟨f0, f1⟩, m0, m1⟩
theorem SysWg.sl {s : PS} (h : SysWg s) : ∀ o ∈ s.os, o.sl ≤ 9223372036854775807 := fun o ho => by
  have := h.os o ho o.sl (by simp)
  simp only [Lit.wf, IntKind.min, IntKind.max, IntKind.signed, IntKind.bits, Bool.and_eq_true] at this
  simp at this
  omega
theorem int_bd {x : Int} (h : (Lit.int .i64 x).wf = true) : -9223372036854775808 ≤ x ∧ x ≤ 9223372036854775807 := by
  simp only [Lit.wf, IntKind.min, IntKind.max, IntKind.signed, IntKind.bits, Bool.and_eq_true] at h
  simp at h
  omega
end Go.Proofs.YthhbhbfkbncegabGreatDoor.Im
end
section
section
set_option linter.unusedSimpArgs false
set_option linter.unusedVariables false
namespace Go.Proofs.YthhbhbfkbncegabGreatDoor.Sl
open Im (PT PO PS TsAt OsAt SysAt)
theorem few_wid {os : List PO} {N : Int} (h : Sy.OFew os N) (hN : N ≤ 5000) : Sy.OFew os 5000 := ⟨Int.le_trans h.1 hN, h.2⟩
theorem pair_few (o : PO) (h : o.ini.length ≤ 100 ∧ o.rd.length ≤ 100) : (∀ p ∈ (pairS o).ts, p.code.length ≤ 200) ∧ Sy.OFew (pairS o).os 5000 := by
  refine ⟨fun p hp => ?_, by show ((1 : Nat) : Int) ≤ 5000; omega, fun p hp => ?_⟩
  · simp only [pairS, List.mem_cons, List.not_mem_nil, or_false] at hp
    rcases hp with rfl | rfl <;> decide
  · simp only [pairS, List.mem_cons, List.not_mem_nil, or_false] at hp
    subst hp
    exact h
end Go.Proofs.YthhbhbfkbncegabGreatDoor.Sl
end
section
section
set_option linter.unusedVariables false
set_option linter.unusedSimpArgs false
namespace Go.Proofs.YthhbhbfkbncegabGreatDoor.Sz
open Go.ChangeShapes Go.WideShapes Go.ChangeAt Go.RowKit Ws
open Im (PT PO PS TsAt OsAt SysAt tcells ocells)
open Go.Proofs.YthhbhbfkbncegabGreatDoor.Wd (ret_bool ret_int)
open Sl (ofR wrR flR obj)
def sA : PS := Sl.pairS ⟨4, 1, 2, 1, 0, 0, [1], [1]⟩
def sB : PS := Sl.pairS ⟨3, 1, 0, 1, 0, 0, [1], [1]⟩
theorem sA_of : ofR sA 1 0 = ⟨4, 2, 3, true, 1, 10⟩ := by decide +kernel
theorem sB_of : ofR sB 1 0 = ⟨3, 0, 3, true, 1, 10⟩ := by decide +kernel
theorem sA_s : slotsI sA 0 [0, 25] = 5 := by
  have h : wrM sA 0 [0, 25] = 3 := by
    show max 0 (wrR (ofR sA 1 0) 25) = 3
    rw [sA_of]
    decide
  show (if (0 ≤ (0 : Int) ∧ (0 : Int) < 1) ∧ (4 : Int) = 4 then 2 + wrM sA 0 [0, 25] else 0) = 5
  rw [h]
  decide
theorem sB_c : capsI sB 0 [0, 25] = 4 := by
  have h : flM sB 0 [0, 25] = 3 := by
    show max 0 (flR (ofR sB 1 0) 25) = 3
    rw [sB_of]
    decide
  show (if (0 ≤ (0 : Int) ∧ (0 : Int) < 1) ∧ ((3 : Int) = 3 ∨ (3 : Int) = 4 ∨ (3 : Int) = 5) then 1 + flM sB 0 [0, 25] else 0) = 4
  rw [h]
  decide
theorem slB : ∀ o ∈ sB.os, o.sl ≤ 9223372036854775807 := by
  intro p hp
  simp only [sB, Sl.pairS, List.mem_cons, List.not_mem_nil, or_false] at hp
  subst hp
  decide
set_option maxRecDepth 100000 in
set_option maxHeartbeats 4000000 in
theorem awake39 (w : World) (hT : Is.Tabs w) : Calls Tryz.prog 12 #[] w fun e w' => e = .returned (.bool true) ∧ Same w w' := by
  have HT := Lib.hid hT
  have HIS := Lib.hid (show (Tryz.prog.info? 25).map (·.size) = some (#[.slice none 0 0, .slice none 0 0] : Array Value).size by kernel_rfl)
  clear hT
  go_enter Tryz.func12, Tryz.ntmps12
  go_upto_region 1 with fail
  obtain ⟨ux, hux⟩ : ∃ u, u = w.heap.size := ⟨_, rfl⟩
  obtain ⟨wx1, hwx1⟩ : ∃ x, x = w.alloc (.cells #[.int .u32 1] 40) := ⟨_, rfl⟩
  have sx1 : Same w wx1 := hwx1 ▸ (Same.refl w).alloc _
  have bux : Blk wx1 ux 40 #[.int .u32 1] := by rw [hwx1, hux]; exact Blk.new w _ _
  have PR := Lib.hid (Sl.pair_any 4 1 2 1 0 0 (some ⟨ux, 0, none⟩) none 1 1 0 0 [1] wx1 rfl (by unfold maxLen; omega) (by omega) (Cs.blk_row bux) (fun y hy => by simp only [List.mem_cons, List.not_mem_nil, or_false] at hy; subst hy; omega))
  have E1 := Lib.hid hwx1
  have U := Lib.hid hux
  have Sx1 := Lib.hid sx1
  clear hwx1 hux bux sx1
  unfold Sl.PairP at PR
  go_wp2_with fail
  rw [← U.out, ← E1.out]
  clear E1 U
  refine PR.out.mono ?_
  rintro e wx2 ⟨ax, bx, rfl, hsy, s2⟩
  have HPAx := Lib.hid hsy
  have Sx2 := Lib.hid (Sx1.out.trans s2)
  clear PR hsy s2 Sx1
  have BN := Lib.hid (Blk.new wx2 25 #[.slice none 0 0, .slice none 0 0])
  have SN := Lib.hid ((Same.refl wx2).alloc (.cells #[.slice none 0 0, .slice none 0 0] 25))
  go_upto_region 2 with (first | (refine wpList_store_row rfl 25 (.tmp 1) (.tmp 5) rfl wx2.heap.size #[.slice (some ⟨ax, 0, none⟩) 2 2, .slice (some ⟨bx, 0, none⟩) 1 1] rfl rfl 25 #[.slice none 0 0, .slice none 0 0] BN.out HIS.out rfl (by simp [Value.oneCell']) ?_))
  obtain ⟨qx, hqx⟩ : ∃ g, g = wx2.heap.size := ⟨_, rfl⟩
  obtain ⟨wx3, hwx3⟩ : ∃ x, x = World.setRow (wx2.alloc (.cells #[.slice none 0 0, .slice none 0 0] 25)) qx #[.slice (some ⟨ax, 0, none⟩) 2 2, .slice (some ⟨bx, 0, none⟩) 1 1] := ⟨_, rfl⟩
  have s3 : Same wx2 wx3 := by rw [hwx3, hqx]; exact Dm.chgRow SN.out (.inr (Nat.le_refl _)) _
  have BQx := Lib.hid (show Blk wx3 qx 25 #[.slice (some ⟨ax, 0, none⟩) 2 2, .slice (some ⟨bx, 0, none⟩) 1 1] by rw [hwx3, hqx]; exact Dm.rowb BN.out)
  rw [← hqx, ← hwx3]
  have Sx3 := Lib.hid (Sx2.out.trans s3)
  have HPAx := Lib.hid (HPAx.out.same s3)
  clear hqx hwx3 BN SN s3 Sx2
  obtain ⟨uz, huz⟩ : ∃ u, u = wx3.heap.size := ⟨_, rfl⟩
  obtain ⟨wz1, hwz1⟩ : ∃ x, x = wx3.alloc (.cells #[.int .u32 1] 40) := ⟨_, rfl⟩
  have sz1 : Same wx3 wz1 := hwz1 ▸ (Same.refl wx3).alloc _
  have buz : Blk wz1 uz 40 #[.int .u32 1] := by rw [hwz1, huz]; exact Blk.new wx3 _ _
  have PR := Lib.hid (Sl.pair_any 3 1 0 1 0 0 (some ⟨uz, 0, none⟩) none 1 1 0 0 [1] wz1 rfl (by unfold maxLen; omega) (by omega) (Cs.blk_row buz) (fun y hy => by simp only [List.mem_cons, List.not_mem_nil, or_false] at hy; subst hy; omega))
  have E1 := Lib.hid hwz1
  have U := Lib.hid huz
  have Sz1 := Lib.hid sz1
  clear hwz1 huz buz sz1
  unfold Sl.PairP at PR
  go_wp2_with fail
  rw [← U.out, ← E1.out]
  clear E1 U
  refine PR.out.mono ?_
  rintro e wz2 ⟨az, bz, rfl, hsy, s2⟩
  have HPAz := Lib.hid hsy
  have Sz2 := Lib.hid (Sz1.out.trans s2)
  clear PR hsy s2 Sz1
  have BN := Lib.hid (Blk.new wz2 25 #[.slice none 0 0, .slice none 0 0])
  have SN := Lib.hid ((Same.refl wz2).alloc (.cells #[.slice none 0 0, .slice none 0 0] 25))
  go_upto_region 3 with (first | (refine wpList_store_row rfl 25 (.tmp 2) (.tmp 8) rfl wz2.heap.size #[.slice (some ⟨az, 0, none⟩) 2 2, .slice (some ⟨bz, 0, none⟩) 1 1] rfl rfl 25 #[.slice none 0 0, .slice none 0 0] BN.out HIS.out rfl (by simp [Value.oneCell']) ?_))
  obtain ⟨qz, hqz⟩ : ∃ g, g = wz2.heap.size := ⟨_, rfl⟩
  obtain ⟨wz3, hwz3⟩ : ∃ x, x = World.setRow (wz2.alloc (.cells #[.slice none 0 0, .slice none 0 0] 25)) qz #[.slice (some ⟨az, 0, none⟩) 2 2, .slice (some ⟨bz, 0, none⟩) 1 1] := ⟨_, rfl⟩
  have s3 : Same wz2 wz3 := by rw [hwz3, hqz]; exact Dm.chgRow SN.out (.inr (Nat.le_refl _)) _
  have BQz := Lib.hid (show Blk wz3 qz 25 #[.slice (some ⟨az, 0, none⟩) 2 2, .slice (some ⟨bz, 0, none⟩) 1 1] by rw [hwz3, hqz]; exact Dm.rowb BN.out)
  rw [← hqz, ← hwz3]
  have Sz3 := Lib.hid (Sz2.out.trans s3)
  have HPAz := Lib.hid (HPAz.out.same s3)
  clear hqz hwz3 BN SN s3 Sz2
  have hnm : 2 ≤ maxLen ∧ 1 ≤ maxLen := by unfold maxLen; omega
  have SA := Lib.hid (HPAx.out.same Sz3.out)
  have BQX := Lib.hid (BQx.out.same Sz3.out)
  have SW := Lib.hid (Sx3.out.trans Sz3.out)
  have fA := Sl.pair_few ⟨4, 1, 2, 1, 0, 0, [1], [1]⟩ ⟨by decide, by decide⟩
  have fB := Sl.pair_few ⟨3, 1, 0, 1, 0, 0, [1], [1]⟩ ⟨by decide, by decide⟩
  have hrs : ∀ y ∈ ([0, 25] : List Int), (Lit.int .i64 y).wf = true := by decide
  have ST := Lib.hid (fun (C : Nat) W (h : Same wz3 W) (hr : Blk W C 3 #[.int .i64 0, .int .i64 25]) => slots_any (some ⟨ax, 0, none⟩) (some ⟨bx, 0, none⟩) 2 2 1 1 sA 0 (some ⟨C, 0, none⟩) 2 2 [0, 25] hrs W (SA.out.same h) hnm fA.1 fA.2 (HT.out.same (SW.out.trans h)) rfl (Cs.blk_row hr))
  rw [sA_s] at ST
  have CP := Lib.hid (fun (C : Nat) W (h : Same wz3 W) (hr : Blk W C 3 #[.int .i64 0, .int .i64 25]) => caps_any (some ⟨az, 0, none⟩) (some ⟨bz, 0, none⟩) 2 2 1 1 sB 0 (some ⟨C, 0, none⟩) 2 2 [0, 25] hrs slB W (HPAz.out.same h) hnm fB.1 fB.2 (HT.out.same (SW.out.trans h)) rfl (Cs.blk_row hr))
  rw [sB_c] at CP
  obtain ⟨c0, c1⟩ := (⟨BQX.out.cell 0, BQX.out.cell 1⟩ : _ ∧ _)
  simp only [List.getElem?_toArray, List.getElem?_cons_zero, List.getElem?_cons_succ] at c0 c1
  have sa : Same wz3 (wz3.alloc (.cells #[.int .i64 0, .int .i64 25] 3)) := (Same.refl wz3).alloc _
  have STA := Lib.hid (ST.out _ _ sa (Blk.new wz3 3 #[.int .i64 0, .int .i64 25]))
  have Sa := Lib.hid sa
  clear hnm fA fB hrs ST HPAx BQx SA sa
  go_wp2_with fail
  refine STA.out.mono ?_
  rintro e w5 ⟨rfl, s5⟩
  have S5 := Lib.hid (Sa.out.trans s5)
  have BQY := Lib.hid (BQz.out.same S5.out)
  obtain ⟨d0, d1⟩ := (⟨BQY.out.cell 0, BQY.out.cell 1⟩ : _ ∧ _)
  simp only [List.getElem?_toArray, List.getElem?_cons_zero, List.getElem?_cons_succ] at d0 d1
  have sb : Same wz3 (w5.alloc (.cells #[.int .i64 0, .int .i64 25] 3)) := S5.out.alloc _
  have CPA := Lib.hid (CP.out _ _ sb (Blk.new w5 3 #[.int .i64 0, .int .i64 25]))
  have Sb := Lib.hid sb
  clear s5 STA CP c0 c1 sb
  go_wp2_with fail
  refine CPA.out.mono ?_
  rintro e w6 ⟨rfl, s6⟩
  go_wp2_with fail
  go_ret
  exact ⟨rfl, SW.out.trans (Sb.out.trans s6)⟩
end Go.Proofs.YthhbhbfkbncegabGreatDoor.Sz
end
section
set_option linter.unusedVariables false
set_option linter.unusedSimpArgs false
namespace Go.Proofs.YthhbhbfkbncegabGreatDoor.Sz
open Go.ChangeShapes Go.WideShapes Go.ChangeAt Go.RowKit Ws
open Im (PT PO PS TsAt OsAt SysAt tcells ocells)
open Go.Proofs.YthhbhbfkbncegabGreatDoor.Wd (ret_bool ret_int)
open Sl (ofR wrR flR obj)
set_option maxRecDepth 100000 in
set_option maxHeartbeats 8000000 in
theorem sizeTells_walk (A B : Option Addr) (n c m d : Nat) (s : PS) (k : Int) (C : Option Addr) (cl cc : Nat) (rs : List Int) (hrs : ∀ y ∈ rs, (Lit.int .i64 y).wf = true) (w : World) (hs : SysAt w A n B m s) (hwf : Im.SysWg s) (hnm : n ≤ maxLen ∧ m ≤ maxLen) (hT : Is.Tabs w) (hcl : rs.length = cl) (hr : Row w C (rs.map (Value.int .i64))) :
    Calls Tryz.prog 4 #[.agg #[.slice A n c, .slice B m d], .int .i64 k, .slice C cl cc] w fun e w' => e = .returned (.bool true) ∧ Same w w' := by
  obtain ⟨w0, hw0⟩ : ∃ w0, w0 = w.alloc (.cells #[.slice A n c, .slice B m d] 25) := ⟨_, rfl⟩
  obtain ⟨g, hg⟩ : ∃ g, g = w.heap.size := ⟨_, rfl⟩
  have s0 : Same w w0 := hw0 ▸ (Same.refl w).alloc _
  have b0 : Blk w0 g 25 #[.slice A n c, .slice B m d] := by rw [hw0, hg]; exact Blk.new w _ _
  have HE0 := Lib.hid hw0
  have HG := Lib.hid hg
  have S0 := Lib.hid s0
  obtain ⟨c0, c1⟩ := (⟨b0.cell 0, b0.cell 1⟩ : _ ∧ _)
  simp only [List.getElem?_toArray, List.getElem?_cons_zero, List.getElem?_cons_succ] at c0 c1
  have B0 := Lib.hid b0
  have FE := Lib.hid (Sy.few31 A B n c m d s 20 w0 (hs.same s0) hnm)
  have HS := Lib.hid (hs.same s0)
  have HT := Lib.hid (hT.same s0)
  have HR := Lib.hid (hr.same s0)
  clear hw0 hg s0 b0 hs hT hr
  go_enter Tryz.func4, Tryz.ntmps4
  go_upto_region 1 with fail
  rw [← HE0.out, ← HG.out]
  clear HE0 HG
  go_wp2_with fail
  refine FE.out.mono ?_
  rintro e wf ⟨⟨bf, rfl, hbf⟩, sf⟩
  have SF := Lib.hid sf
  have AW := Lib.hid (fun W (h : Same wf W) => awake39 W (HT.out.same (sf.trans h)))
  clear sf FE c0 c1
  cases bf with
  | false =>
    clear hbf
    go_wp2_with fail
    refine (AW.out _ (Same.refl _)).mono ?_
    rintro e w3 ⟨rfl, s3⟩
    go_wp2_with fail
    go_ret
    exact ⟨rfl, S0.out.trans (SF.out.trans s3)⟩
  | true =>
    by_cases hlong : (cl : Int) > 100
    · have g : decide ((100 : Int) < cl) = true := by simpa using hlong
      clear hbf
      go_wp2_with fail
      refine (AW.out _ (Same.refl _)).mono ?_
      rintro e w3 ⟨rfl, s3⟩
      go_wp2_with fail
      go_ret
      exact ⟨rfl, S0.out.trans (SF.out.trans s3)⟩
    · have g : decide ((100 : Int) < cl) = false := by simpa using hlong
      obtain ⟨hft, hfo⟩ := hbf rfl
      have hf : ∀ p ∈ s.ts, p.code.length ≤ 200 := hft.2
      have ho := Sl.few_wid hfo (by omega)
      have hsl := hwf.sl
      have ST := Lib.hid (fun W (h : Same wf W) => slots_any A B n c m d s k C cl cc rs hrs W (HS.out.same (SF.out.trans h)) hnm hf ho (HT.out.same (SF.out.trans h)) hcl (HR.out.same (SF.out.trans h)))
      have CP := Lib.hid (fun W (h : Same wf W) => caps_any A B n c m d s k C cl cc rs hrs hsl W (HS.out.same (SF.out.trans h)) hnm hf ho (HT.out.same (SF.out.trans h)) hcl (HR.out.same (SF.out.trans h)))
      have RS := Lib.hid (fun W (h : Same wf W) => rslots_any A B n c m d s k C cl cc rs hrs W (HS.out.same (SF.out.trans h)) hnm hf ho hcl (HR.out.same (SF.out.trans h)))
      have RC := Lib.hid (fun W (h : Same wf W) => rcaps_any A B n c m d s k C cl cc rs hrs hsl W (HS.out.same (SF.out.trans h)) hnm hf ho hcl (HR.out.same (SF.out.trans h)))
      clear hbf hft hfo hf ho hsl hcl hlong
      generalize slotsI s k rs = x1 at *
      generalize capsI s k rs = x2 at *
      have ex1 : (x1 == x1) = true := by simp
      have ex2 : (x2 == x2) = true := by simp
      go_wp2_with fail
      have BB0 := Lib.hid (B0.out.same SF.out)
      refine wp_region_held_drew (S := fun w' => Same wf w') (by kernel_rfl) ?_ (fun hHeld => ?_)
      · exact (Same.refl wf).drew
      refine Ro.tn 0 ?_ ?_ ?_
      rotate_left
      · intro wS hSw; (try dsimp only at hSw); obtain ⟨v0, v1⟩ := (⟨(BB0.out.same hSw).cell 0, (BB0.out.same hSw).cell 1⟩ : _ ∧ _); simp only [List.getElem?_toArray, List.getElem?_cons_zero, List.getElem?_cons_succ] at v0 v1; go_simp; try with_reducible rfl
      try simp only [Ro.p]
      refine Ro.tn 1 ?_ ?_ ?_
      rotate_left
      · intro wS hSw; (try dsimp only at hSw); go_simp; try with_reducible rfl
      try simp only [Ro.p]
      refine Ro.tn 2 ?_ ?_ ?_
      rotate_left
      · intro wS hSw; (try dsimp only at hSw); go_simp; try with_reducible rfl
      try simp only [Ro.p]
      refine Ro.tn 4 ?_ ?_ ?_
      rotate_left
      · intro wS hSw; (try dsimp only at hSw); obtain ⟨v0, v1⟩ := (⟨(BB0.out.same hSw).cell 0, (BB0.out.same hSw).cell 1⟩ : _ ∧ _); simp only [List.getElem?_toArray, List.getElem?_cons_zero, List.getElem?_cons_succ] at v0 v1; go_simp; try with_reducible rfl
      try simp only [Ro.p]
      refine Ro.tn 5 ?_ ?_ ?_
      rotate_left
      · intro wS hSw; (try dsimp only at hSw); go_simp; try with_reducible rfl
      try simp only [Ro.p]
      refine Ro.tn 6 ?_ ?_ ?_
      rotate_left
      · intro wS hSw; (try dsimp only at hSw); go_simp; try with_reducible rfl
      try simp only [Ro.p]
      refine Ro.one_on (i := 3) rfl (by kernel_rfl) (by rfl) (fun K hK => ?_)
      go_simp
      go_at_call 13
      refine (ST.out _ hHeld).mono ?_
      rintro e wN ⟨rfl, sN⟩
      refine hK.out _ _ ?_ (fun hNew => ?_)
      · exact hHeld.trans sN
      clear hK K hHeld; have hHeld := hNew; clear hNew
      try simp only [Ro.p]
      refine Ro.one_on (i := 7) rfl (by kernel_rfl) (by rfl) (fun K hK => ?_)
      go_simp
      go_at_call 14
      refine (RS.out _ hHeld).mono ?_
      rintro e wN ⟨rfl, sN⟩
      refine hK.out _ _ ?_ (fun hNew => ?_)
      · exact hHeld.trans sN
      clear hK K hHeld; have hHeld := hNew; clear hNew
      try simp only [Ro.p]
      refine Ro.tn 8 ?_ ?_ ?_
      rotate_left
      · intro wS hSw; (try dsimp only at hSw); go_simp; try with_reducible rfl
      try simp only [Ro.p]
      refine Ro.tn 9 ?_ ?_ ?_
      rotate_left
      · intro wS hSw; (try dsimp only at hSw); go_simp; try with_reducible rfl
      try simp only [Ro.p]
      refine Ro.tn 10 ?_ ?_ ?_
      rotate_left
      · intro wS hSw; (try dsimp only at hSw); obtain ⟨v0, v1⟩ := (⟨(BB0.out.same hSw).cell 0, (BB0.out.same hSw).cell 1⟩ : _ ∧ _); simp only [List.getElem?_toArray, List.getElem?_cons_zero, List.getElem?_cons_succ] at v0 v1; go_simp; try with_reducible rfl
      try simp only [Ro.p]
      refine Ro.tn 11 ?_ ?_ ?_
      rotate_left
      · intro wS hSw; (try dsimp only at hSw); go_simp; try with_reducible rfl
      try simp only [Ro.p]
      refine Ro.tn 12 ?_ ?_ ?_
      rotate_left
      · intro wS hSw; (try dsimp only at hSw); go_simp; try with_reducible rfl
      try simp only [Ro.p]
      refine Ro.tn 14 ?_ ?_ ?_
      rotate_left
      · intro wS hSw; (try dsimp only at hSw); obtain ⟨v0, v1⟩ := (⟨(BB0.out.same hSw).cell 0, (BB0.out.same hSw).cell 1⟩ : _ ∧ _); simp only [List.getElem?_toArray, List.getElem?_cons_zero, List.getElem?_cons_succ] at v0 v1; go_simp; try with_reducible rfl
      try simp only [Ro.p]
      refine Ro.tn 15 ?_ ?_ ?_
      rotate_left
      · intro wS hSw; (try dsimp only at hSw); go_simp; try with_reducible rfl
      try simp only [Ro.p]
      refine Ro.tn 16 ?_ ?_ ?_
      rotate_left
      · intro wS hSw; (try dsimp only at hSw); go_simp; try with_reducible rfl
      try simp only [Ro.p]
      refine Ro.one_on (i := 13) rfl (by kernel_rfl) (by rfl) (fun K hK => ?_)
      go_simp
      go_at_call 15
      refine (CP.out _ hHeld).mono ?_
      rintro e wN ⟨rfl, sN⟩
      refine hK.out _ _ ?_ (fun hNew => ?_)
      · exact hHeld.trans sN
      clear hK K hHeld; have hHeld := hNew; clear hNew
      try simp only [Ro.p]
      refine Ro.one_on (i := 17) rfl (by kernel_rfl) (by rfl) (fun K hK => ?_)
      go_simp
      go_at_call 16
      refine (RC.out _ hHeld).mono ?_
      rintro e wN ⟨rfl, sN⟩
      refine hK.out _ _ ?_ (fun hNew => ?_)
      · exact hHeld.trans sN
      clear hK K hHeld; have hHeld := hNew; clear hNew
      try simp only [Ro.p]
      refine Ro.tn 18 ?_ ?_ ?_
      rotate_left
      · intro wS hSw; (try dsimp only at hSw); go_simp; try with_reducible rfl
      try simp only [Ro.p]
      refine Ro.tn 19 ?_ ?_ ?_
      rotate_left
      · intro wS hSw; (try dsimp only at hSw); go_simp; try with_reducible rfl
      try simp only [Ro.p]
      refine Ro.tn 20 ?_ ?_ ?_
      rotate_left
      · intro wS hSw; (try dsimp only at hSw); go_simp; try with_reducible rfl
      try simp only [Ro.p]
      refine Ro.one_on (i := 21) rfl (by kernel_rfl) (by rfl) (fun K hK => ?_)
      go_simp
      go_at_call 12
      refine (AW.out _ hHeld).mono ?_
      rintro e wN ⟨rfl, sN⟩
      refine hK.out _ _ ?_ (fun hNew => ?_)
      · exact hHeld.trans sN
      clear hK K hHeld; have hHeld := hNew; clear hNew
      try simp only [Ro.p]
      refine Ro.tn 22 ?_ ?_ ?_
      rotate_left
      · intro wS hSw; (try dsimp only at hSw); go_simp; try with_reducible rfl
      try simp only [Ro.p]
      refine Ro.tn 23 ?_ ?_ ?_
      rotate_left
      · intro wS hSw; (try dsimp only at hSw); go_simp; try with_reducible rfl
      try simp only [Ro.p]
      refine wpAnyH_done (by kernel_rfl) ?_ _
      go_wp2_with fail
      go_ret
      exact ⟨rfl, S0.out.trans (SF.out.trans hHeld)⟩
end Go.Proofs.YthhbhbfkbncegabGreatDoor.Sz
end
end
end
end
end
