/-

  The law InterfereTells.
-/
import Derived.Test.YthhbhbfkbncegaaGreatDoorSplSpec
import Derived.Test.YthhbhbfkbncegaaGreatDoorSplOf
import Derived.Test.YthhbhbfkbncegaaGreatDoorSysFew
import Derived.Test.YthhbhbfkbncegaaGreatDoorSplUse
import Derived.Test.YthhbhbfkbncegaaGreatDoorSplJobOf
import Derived.Test.YthhbhbfkbncegaaGreatDoorRegionOff
import Derived.Test.YthhbhbfkbncegaaGreatDoorSplRjob
import Derived.Test.YthhbhbfkbncegaaGreatDoorSplRahead
section
section
section
set_option linter.unusedVariables false
set_option linter.unusedSimpArgs false
namespace Go.Proofs.YthhbhbfkbncegaaGreatDoor.Sl
open Go.ChangeShapes Go.WideShapes Go.ChangeAt Go.RowKit Ws
open Im (PT PO PS TsAt OsAt SysAt tcells ocells)
def s37 : PS := ⟨[⟨1, 1, 10, 0, 10, 2, [⟨18, 0, 0, 0, 0⟩, ⟨21, 0, 0, 0, 0⟩]⟩, ⟨1, 0, 40, 0, 40, 2, [⟨17, 0, 0, 0, 0⟩, ⟨21, 0, 0, 0, 0⟩]⟩], [⟨3, 2, 0, 3, 0, 0, [1], [1, 2]⟩]⟩
theorem s37_of : ofR s37 1 0 = ⟨3, 0, 4, true, 1, 10⟩ := by decide +kernel
theorem s37_w : wrR (ofR s37 1 0) 25 = 3 := by rw [s37_of]; decide
theorem s37_f : flR (ofR s37 1 0) 25 = 3 := by rw [s37_of]; decide
theorem s37_h : hopeR (ofR s37 1 0) = false := by rw [s37_of]; rfl
theorem s37_d : Dm.dearI s37 1 0 = 5 ∧ Dm.dearE s37 1 0 = 0 := by decide +kernel
theorem s37_j : jobI s37 1 25 = 17 := by
  unfold jobI
  rw [if_pos s37_d.2, s37_d.1, show s37.os.length = 0 + 1 from rfl, jobL_succ, show ((0 : Nat) : Int) = 0 from rfl, s37_of]
  decide
theorem sys37 {W : World} {a b cw cr u v : Nat} (ha : Blk W a 47 #[.int .i64 1, .int .i64 1, .int .i64 10, .int .i64 0, .int .i64 10, .int .i64 2, .slice (some ⟨cw, 0, none⟩) 2 2, .int .i64 1, .int .i64 0, .int .i64 40, .int .i64 0, .int .i64 40, .int .i64 2, .slice (some ⟨cr, 0, none⟩) 2 2]) (hw : Blk W cw 70 #[.int .i64 18, .int .i64 0, .int .i64 0, .int .i64 0, .int .u32 0, .int .i64 21, .int .i64 0, .int .i64 0, .int .i64 0, .int .u32 0]) (hr : Blk W cr 70 #[.int .i64 17, .int .i64 0, .int .i64 0, .int .i64 0, .int .u32 0, .int .i64 21, .int .i64 0, .int .i64 0, .int .i64 0, .int .u32 0]) (hb : Blk W b 34 #[.int .i64 3, .int .i64 2, .int .i64 0, .int .i64 3, .int .u32 0, .slice (some ⟨u, 0, none⟩) 2 2, .int .i64 0, .slice (some ⟨v, 0, none⟩) 1 1])
    (hu : Blk W u 30 #[.int .u32 1, .int .u32 2]) (hv : Blk W v 3 #[.int .i64 1]) : SysAt W (some ⟨a, 0, none⟩) 2 (some ⟨b, 0, none⟩) 1 s37 := by
  refine ⟨rfl, rfl, ?_, ?_⟩
  · intro i p hp
    rcases i with _ | _ | i
    · have hp' : p = ⟨1, 1, 10, 0, 10, 2, [⟨18, 0, 0, 0, 0⟩, ⟨21, 0, 0, 0, 0⟩]⟩ := (Option.some.inj hp).symm
      subst hp'
      refine ⟨a, 0, rfl, some ⟨cw, 0, none⟩, 2, fun j y hj => ?_, ?_, by unfold maxLen; simp⟩
      · have := ha.cell j
        rw [show 0 + 0 * 7 + j = j by omega, this, List.getElem?_toArray]
        rcases j with _ | _ | _ | _ | _ | _ | _ | j
        all_goals first | exact hj | (simp [tcells] at hj)
      · intro k x hx
        rcases k with _ | _ | k
        · have hx' : x = ⟨18, 0, 0, 0, 0⟩ := (Option.some.inj hx).symm
          subst hx'
          refine ⟨by decide, cw, 0, rfl, fun j y hj => ?_⟩
          have := hw.cell j
          rw [show 0 + 0 * 5 + j = j by omega, this, List.getElem?_toArray]
          rcases j with _ | _ | _ | _ | _ | j
          all_goals first | exact hj | (simp [Im.icells] at hj)
        · have hx' : x = ⟨21, 0, 0, 0, 0⟩ := (Option.some.inj hx).symm
          subst hx'
          refine ⟨by decide, cw, 0, rfl, fun j y hj => ?_⟩
          have := hw.cell (5 + j)
          rw [show 0 + (0 + 1) * 5 + j = 5 + j by omega, this, List.getElem?_toArray]
          rcases j with _ | _ | _ | _ | _ | j
          all_goals first | exact hj | (simp [Im.icells] at hj)
        · cases hx
    · have hp' : p = ⟨1, 0, 40, 0, 40, 2, [⟨17, 0, 0, 0, 0⟩, ⟨21, 0, 0, 0, 0⟩]⟩ := (Option.some.inj hp).symm
      subst hp'
      refine ⟨a, 0, rfl, some ⟨cr, 0, none⟩, 2, fun j y hj => ?_, ?_, by unfold maxLen; simp⟩
      · have := ha.cell (7 + j)
        rw [show 0 + (0 + 1) * 7 + j = 7 + j by omega, this, List.getElem?_toArray]
        rcases j with _ | _ | _ | _ | _ | _ | _ | j
        all_goals first | exact hj | (simp [tcells] at hj)
      · intro k x hx
        rcases k with _ | _ | k
        · have hx' : x = ⟨17, 0, 0, 0, 0⟩ := (Option.some.inj hx).symm
          subst hx'
          refine ⟨by decide, cr, 0, rfl, fun j y hj => ?_⟩
          have := hr.cell j
          rw [show 0 + 0 * 5 + j = j by omega, this, List.getElem?_toArray]
          rcases j with _ | _ | _ | _ | _ | j
          all_goals first | exact hj | (simp [Im.icells] at hj)
        · have hx' : x = ⟨21, 0, 0, 0, 0⟩ := (Option.some.inj hx).symm
          subst hx'
          refine ⟨by decide, cr, 0, rfl, fun j y hj => ?_⟩
          have := hr.cell (5 + j)
          rw [show 0 + (0 + 1) * 5 + j = 5 + j by omega, this, List.getElem?_toArray]
          rcases j with _ | _ | _ | _ | _ | j
          all_goals first | exact hj | (simp [Im.icells] at hj)
        · cases hx
    · cases hp
  · intro i p hp
    cases i with
    | succ i => cases hp
    | zero =>
      have hp' : p = ⟨3, 2, 0, 3, 0, 0, [1], [1, 2]⟩ := (Option.some.inj hp).symm
      subst hp'
      refine ⟨b, 0, rfl, some ⟨u, 0, none⟩, 2, some ⟨v, 0, none⟩, 1, fun j y hj => ?_, by decide, ?_, ?_, ?_, by unfold maxLen; simp, by unfold maxLen; simp⟩
      · have := hb.cell j
        rw [show 0 + 0 * 8 + j = j by omega, this, List.getElem?_toArray]
        exact hj
      · intro j y hj
        refine ⟨u, 0, rfl, ?_⟩
        have := hu.cell j
        rw [Nat.zero_add, this, List.getElem?_toArray]
        exact hj
      · intro y hy
        simp only [List.mem_cons, List.not_mem_nil, or_false] at hy
        rcases hy with rfl | rfl <;> decide
      · intro j y hj
        refine ⟨v, 0, rfl, ?_⟩
        have := hv.cell j
        rw [Nat.zero_add, this, List.getElem?_toArray]
        exact hj
end Go.Proofs.YthhbhbfkbncegaaGreatDoor.Sl
end
section
set_option linter.unusedVariables false
set_option linter.unusedSimpArgs false
namespace Go.Proofs.YthhbhbfkbncegaaGreatDoor.Sl
open Go.ChangeShapes Go.WideShapes Go.ChangeAt Go.RowKit Ws
open Im (PT PO PS TsAt OsAt SysAt tcells ocells)
def pairS (o : PO) : PS := ⟨[⟨1, 1, 10, 0, 10, 2, [⟨18, 0, 0, 0, 0⟩, ⟨21, 0, 0, 0, 0⟩]⟩, ⟨1, 0, 40, 0, 40, 2, [⟨17, 0, 0, 0, 0⟩, ⟨21, 0, 0, 0, 0⟩]⟩], [o]⟩
theorem s37_pair : s37 = pairS ⟨3, 2, 0, 3, 0, 0, [1], [1, 2]⟩ := rfl
theorem sys_pair {W : World} {a b cw cr : Nat} {o : PO} {X Y : Option Addr} {co do_ : Nat} (ha : Blk W a 47 #[.int .i64 1, .int .i64 1, .int .i64 10, .int .i64 0, .int .i64 10, .int .i64 2, .slice (some ⟨cw, 0, none⟩) 2 2, .int .i64 1, .int .i64 0, .int .i64 40, .int .i64 0, .int .i64 40, .int .i64 2, .slice (some ⟨cr, 0, none⟩) 2 2]) (hw : Blk W cw 70 #[.int .i64 18, .int .i64 0, .int .i64 0, .int .i64 0, .int .u32 0, .int .i64 21, .int .i64 0, .int .i64 0, .int .i64 0, .int .u32 0]) (hr : Blk W cr 70 #[.int .i64 17, .int .i64 0, .int .i64 0, .int .i64 0, .int .u32 0, .int .i64 21, .int .i64 0, .int .i64 0, .int .i64 0, .int .u32 0]) (hb : Blk W b 34 (ocells o X co Y do_).toArray)
    (hsa : 0 ≤ o.sa ∧ o.sa < 4294967296) (hX : Row W X (o.ini.map (Value.int .u32))) (hini : ∀ y ∈ o.ini, 0 ≤ y ∧ y < 4294967296) (hY : Row W Y (o.rd.map (Value.int .i64))) (hl : o.ini.length ≤ maxLen ∧ o.rd.length ≤ maxLen) : SysAt W (some ⟨a, 0, none⟩) 2 (some ⟨b, 0, none⟩) 1 (pairS o) := by
  refine ⟨rfl, rfl, ?_, ?_⟩
  · intro i p hp
    rcases i with _ | _ | i
    · have hp' : p = ⟨1, 1, 10, 0, 10, 2, [⟨18, 0, 0, 0, 0⟩, ⟨21, 0, 0, 0, 0⟩]⟩ := (Option.some.inj hp).symm
      subst hp'
      refine ⟨a, 0, rfl, some ⟨cw, 0, none⟩, 2, fun j y hj => ?_, ?_, by unfold maxLen; simp⟩
      · have := ha.cell j
        rw [show 0 + 0 * 7 + j = j by omega, this, List.getElem?_toArray]
        rcases j with _ | _ | _ | _ | _ | _ | _ | j
        all_goals first | exact hj | (simp [tcells] at hj)
      · intro k x hx
        rcases k with _ | _ | k
        · have hx' : x = ⟨18, 0, 0, 0, 0⟩ := (Option.some.inj hx).symm
          subst hx'
          refine ⟨by decide, cw, 0, rfl, fun j y hj => ?_⟩
          have := hw.cell j
          rw [show 0 + 0 * 5 + j = j by omega, this, List.getElem?_toArray]
          rcases j with _ | _ | _ | _ | _ | j
          all_goals first | exact hj | (simp [Im.icells] at hj)
        · have hx' : x = ⟨21, 0, 0, 0, 0⟩ := (Option.some.inj hx).symm
          subst hx'
          refine ⟨by decide, cw, 0, rfl, fun j y hj => ?_⟩
          have := hw.cell (5 + j)
          rw [show 0 + (0 + 1) * 5 + j = 5 + j by omega, this, List.getElem?_toArray]
          rcases j with _ | _ | _ | _ | _ | j
          all_goals first | exact hj | (simp [Im.icells] at hj)
        · cases hx
    · have hp' : p = ⟨1, 0, 40, 0, 40, 2, [⟨17, 0, 0, 0, 0⟩, ⟨21, 0, 0, 0, 0⟩]⟩ := (Option.some.inj hp).symm
      subst hp'
      refine ⟨a, 0, rfl, some ⟨cr, 0, none⟩, 2, fun j y hj => ?_, ?_, by unfold maxLen; simp⟩
      · have := ha.cell (7 + j)
        rw [show 0 + (0 + 1) * 7 + j = 7 + j by omega, this, List.getElem?_toArray]
        rcases j with _ | _ | _ | _ | _ | _ | _ | j
        all_goals first | exact hj | (simp [tcells] at hj)
      · intro k x hx
        rcases k with _ | _ | k
        · have hx' : x = ⟨17, 0, 0, 0, 0⟩ := (Option.some.inj hx).symm
          subst hx'
          refine ⟨by decide, cr, 0, rfl, fun j y hj => ?_⟩
          have := hr.cell j
          rw [show 0 + 0 * 5 + j = j by omega, this, List.getElem?_toArray]
          rcases j with _ | _ | _ | _ | _ | j
          all_goals first | exact hj | (simp [Im.icells] at hj)
        · have hx' : x = ⟨21, 0, 0, 0, 0⟩ := (Option.some.inj hx).symm
          subst hx'
          refine ⟨by decide, cr, 0, rfl, fun j y hj => ?_⟩
          have := hr.cell (5 + j)
          rw [show 0 + (0 + 1) * 5 + j = 5 + j by omega, this, List.getElem?_toArray]
          rcases j with _ | _ | _ | _ | _ | j
          all_goals first | exact hj | (simp [Im.icells] at hj)
        · cases hx
    · cases hp
  · intro i p hp
    cases i with
    | succ i => cases hp
    | zero =>
      obtain rfl : o = p := Option.some.inj hp
      refine ⟨b, 0, rfl, X, co, Y, do_, fun j y hj => ?_, hsa, hX, hini, hY, hl.1, hl.2⟩
      have := hb.cell j
      rw [show 0 + 0 * 8 + j = j by omega, this, List.getElem?_toArray]
      exact hj
end Go.Proofs.YthhbhbfkbncegaaGreatDoor.Sl
end
end
section
set_option linter.unusedVariables false
set_option linter.unusedSimpArgs false
namespace Go.Proofs.YthhbhbfkbncegaaGreatDoor.Sl
open Go.ChangeShapes Go.WideShapes Go.ChangeAt Go.RowKit Ws
open Im (PT PO PS TsAt OsAt SysAt tcells ocells)
theorem code_any (op : Int) (w : World) : Calls Tryz.prog 53 #[.int .i64 op] w fun e w' => e = .returned (.slice (some ⟨w.heap.size, 0, none⟩) 2 2) ∧ w' = w.alloc (.cells #[.int .i64 op, .int .i64 0, .int .i64 0, .int .i64 0, .int .u32 0, .int .i64 21, .int .i64 0, .int .i64 0, .int .i64 0, .int .u32 0] 70) := by
  go_enter Tryz.func53, Tryz.ntmps53
  go_wp2_with fail
  go_ret
  exact ⟨rfl, rfl⟩
def PairP (w : World) (o : PO) (e : Ending) (w' : World) : Prop := ∃ a b, e = .returned (.agg #[.slice (some ⟨a, 0, none⟩) 2 2, .slice (some ⟨b, 0, none⟩) 1 1]) ∧ SysAt w' (some ⟨a, 0, none⟩) 2 (some ⟨b, 0, none⟩) 1 (pairS o) ∧ Same w w'
set_option maxRecDepth 100000 in
set_option maxHeartbeats 4000000 in
theorem pair_any (k wd sl cp sa ow : Int) (X Y : Option Addr) (il ic rl rc : Nat) (ini : List Int) (w : World) (hil : ini.length = il) (hbl : il ≤ maxLen) (hsa : 0 ≤ sa ∧ sa < 4294967296) (hX : Row w X (ini.map (Value.int .u32))) (hini : ∀ y ∈ ini, 0 ≤ y ∧ y < 4294967296) :
    Calls Tryz.prog 32 #[.agg #[.int .i64 k, .int .i64 wd, .int .i64 sl, .int .i64 cp, .int .u32 sa, .slice X il ic, .int .i64 ow, .slice Y rl rc]] w (PairP w ⟨k, wd, sl, cp, sa, 0, [1], ini⟩) := by
  obtain ⟨w0, hw0⟩ : ∃ w0, w0 = w.alloc (.cells #[.int .i64 k, .int .i64 wd, .int .i64 sl, .int .i64 cp, .int .u32 sa, .slice X il ic, .int .i64 ow, .slice Y rl rc] 34) := ⟨_, rfl⟩
  obtain ⟨q0, hq0⟩ : ∃ q0, q0 = w.heap.size := ⟨_, rfl⟩
  obtain ⟨q1, hq1⟩ : ∃ g, g = w0.heap.size := ⟨_, rfl⟩
  obtain ⟨w1, hw1⟩ : ∃ w1, w1 = w0.alloc (.cells #[.slice none 0 0, .slice none 0 0] 25) := ⟨_, rfl⟩
  have s0 : Same w w0 := hw0 ▸ (Same.refl w).alloc _
  have s1 : Same w0 w1 := hw1 ▸ (Same.refl w0).alloc _
  have b0 : Blk w0 q0 34 #[.int .i64 k, .int .i64 wd, .int .i64 sl, .int .i64 cp, .int .u32 sa, .slice X il ic, .int .i64 ow, .slice Y rl rc] := by rw [hw0, hq0]; exact Blk.new w _ _
  have b1 : Blk w1 q1 25 #[.slice none 0 0, .slice none 0 0] := by rw [hw1, hq1]; exact Blk.new w0 _ _
  have HE0 := Lib.hid hw0
  have HE1 := Lib.hid hw1
  have HQ0 := Lib.hid hq0
  have HQ1 := Lib.hid (show q0 + 1 = q1 by rw [hq1, hw0, hq0]; show _ = (w.heap.push _).size; rw [Array.size_push])
  have SM := Lib.hid (s0.trans s1)
  have HGW := Lib.hid (show w.heap.size ≤ q1 by rw [hq1]; exact s0.size)
  have BS := Lib.hid b1
  have HX := Lib.hid hX
  have HINI := Lib.hid hini
  have HIL := Lib.hid hil
  have HBL := Lib.hid hbl
  have HSA := Lib.hid hsa
  have HIT := Lib.hid (show (Tryz.prog.info? 47).map (·.size) = some (#[.int .i64 0, .int .i64 0, .int .i64 0, .int .i64 0, .int .i64 0, .int .i64 0, .slice none 0 0] : Array Value).size by kernel_rfl)
  have HIS := Lib.hid (show (Tryz.prog.info? 25).map (·.size) = some (#[.slice none 0 0, .slice none 0 0] : Array Value).size by kernel_rfl)
  obtain ⟨v, hv⟩ : ∃ v, v = w1.heap.size := ⟨_, rfl⟩
  obtain ⟨wA, hwA⟩ : ∃ x, x = w1.alloc (.cells #[.int .i64 1] 3) := ⟨_, rfl⟩
  have sA : Same w1 wA := hwA ▸ (Same.refl w1).alloc _
  have bA : Blk wA q0 34 #[.int .i64 k, .int .i64 wd, .int .i64 sl, .int .i64 cp, .int .u32 sa, .slice X il ic, .int .i64 ow, .slice Y rl rc] := (b0.same s1).same sA
  have bV : Blk wA v 3 #[.int .i64 1] := by rw [hwA, hv]; exact Blk.new w1 _ _
  have HV := Lib.hid hv
  have HA := Lib.hid hwA
  have SA := Lib.hid sA
  have BA := Lib.hid bA
  have BV := Lib.hid bV
  have B6 := Lib.hid (bA.put 6 (.int .i64 0))
  have HVQ := Lib.hid (show ¬ v = q0 from by have := (b0.same s1).lt; omega)
  have z6 := bA.cell 6
  have z7 := B6.out.cell 7
  have f6 := bA.thaw 6
  have f7 := B6.out.thaw 7
  simp only [List.getElem?_toArray, List.getElem?_cons_zero, List.getElem?_cons_succ] at z6
  have z7 : (wA.setCell ⟨q0, 6, none⟩ (.int .i64 0)).cell? ⟨q0, 7, none⟩ = some (.slice Y rl rc) := z7
  rw [hwA] at z6 z7 f6 f7
  clear hw0 hw1 hq0 hq1 s0 s1 b0 b1 hX hini hil hbl hsa hv hwA sA bA bV
  unfold PairP
  go_enter Tryz.func32, Tryz.ntmps32
  go_upto_region 1 with fail
  rw [← HQ0.out, HQ1.out, ← HE0.out, ← HE1.out]
  clear HE0 HE1
  go_upto_region 2 with fail
  rw [← HV.out, ← HA.out]
  obtain ⟨wB, hwB⟩ : ∃ x, x = (wA.setCell ⟨q0, 6, none⟩ (.int .i64 0)).setCell ⟨q0, 7, none⟩ (.slice (some ⟨v, 0, none⟩) 1 1) := ⟨_, rfl⟩
  have hcB : Chg (fun i => i = q0) wA wB := by rw [hwB]; exact ((Chg.refl (fun i => i = q0) wA).set (p := ⟨q0, 6, none⟩) (.inl rfl) _).set (p := ⟨q0, 7, none⟩) (.inl rfl) _
  have BO := Lib.hid (show Blk wB q0 34 #[.int .i64 k, .int .i64 wd, .int .i64 sl, .int .i64 cp, .int .u32 sa, .slice X il ic, .int .i64 0, .slice (some ⟨v, 0, none⟩) 1 1] from by rw [hwB]; exact B6.out.put 7 _)
  rw [← hwB]
  clear hwB z6 z7 f6 f7 B6 BA HA HV
  have BV := Lib.hid (BV.out.chg hcB HVQ.out)
  have BS := Lib.hid ((BS.out.same SA.out).chg hcB (by have := HQ1.out; omega))
  have SM := Lib.hid (Same.more (SM.out.trans SA.out) hcB (fun i h => by have := HQ0.out; omega))
  clear hcB SA HVQ
  go_wp2_with fail
  refine (code_any 18 _).mono ?_
  rintro e wC ⟨rfl, hwc⟩
  have SC := Lib.hid (show Same wB wC by rw [hwc]; exact (Same.refl _).alloc _)
  obtain ⟨cw, hc⟩ : ∃ g, g = wB.heap.size := ⟨_, rfl⟩
  have BCcw := Lib.hid (show Blk wC cw 70 #[.int .i64 18, .int .i64 0, .int .i64 0, .int .i64 0, .int .u32 0, .int .i64 21, .int .i64 0, .int .i64 0, .int .i64 0, .int .u32 0] by rw [hwc, hc]; exact Blk.new _ _ _)
  rw [← hc]
  clear hwc hc
  have BN := Lib.hid (Blk.new wC 47 #[.int .i64 0, .int .i64 0, .int .i64 0, .int .i64 0, .int .i64 0, .int .i64 0, .slice none 0 0])
  have SN := Lib.hid ((Same.refl wC).alloc (.cells #[.int .i64 0, .int .i64 0, .int .i64 0, .int .i64 0, .int .i64 0, .int .i64 0, .slice none 0 0] 47))
  go_upto_region 4 with (first | (refine wpList_store_row rfl 47 (.tmp 4) (.tmp 11) rfl wC.heap.size #[.int .i64 1, .int .i64 1, .int .i64 10, .int .i64 0, .int .i64 10, .int .i64 2, .slice (some ⟨cw, 0, none⟩) 2 2] rfl rfl 47 #[.int .i64 0, .int .i64 0, .int .i64 0, .int .i64 0, .int .i64 0, .int .i64 0, .slice none 0 0] BN.out HIT.out rfl (by simp [Value.oneCell']) ?_))
  obtain ⟨t1, ht⟩ : ∃ g, g = wC.heap.size := ⟨_, rfl⟩
  obtain ⟨wT, hwt⟩ : ∃ x, x = World.setRow (wC.alloc (.cells #[.int .i64 0, .int .i64 0, .int .i64 0, .int .i64 0, .int .i64 0, .int .i64 0, .slice none 0 0] 47)) t1 #[.int .i64 1, .int .i64 1, .int .i64 10, .int .i64 0, .int .i64 10, .int .i64 2, .slice (some ⟨cw, 0, none⟩) 2 2] := ⟨_, rfl⟩
  have ST := Lib.hid (show Same wC wT by rw [hwt, ht]; exact Dm.chgRow SN.out (.inr (Nat.le_refl _)) _)
  have BTt1 := Lib.hid (show Blk wT t1 47 #[.int .i64 1, .int .i64 1, .int .i64 10, .int .i64 0, .int .i64 10, .int .i64 2, .slice (some ⟨cw, 0, none⟩) 2 2] by rw [hwt, ht]; exact Dm.rowb BN.out)
  rw [← ht, ← hwt]
  clear ht hwt BN SN
  have SCT := Lib.hid (SC.out.trans ST.out)
  have BCcw := Lib.hid (BCcw.out.same ST.out)
  have SM := Lib.hid (SM.out.trans SCT.out)
  have BO := Lib.hid (BO.out.same SCT.out)
  have BV := Lib.hid (BV.out.same SCT.out)
  have BS := Lib.hid (BS.out.same SCT.out)
  clear SC ST SCT
  go_wp2_with fail
  refine (code_any 17 _).mono ?_
  rintro e wD ⟨rfl, hwc⟩
  have SC := Lib.hid (show Same wT wD by rw [hwc]; exact (Same.refl _).alloc _)
  obtain ⟨cr, hc⟩ : ∃ g, g = wT.heap.size := ⟨_, rfl⟩
  have BCcr := Lib.hid (show Blk wD cr 70 #[.int .i64 17, .int .i64 0, .int .i64 0, .int .i64 0, .int .u32 0, .int .i64 21, .int .i64 0, .int .i64 0, .int .i64 0, .int .u32 0] by rw [hwc, hc]; exact Blk.new _ _ _)
  rw [← hc]
  clear hwc hc
  have BN := Lib.hid (Blk.new wD 47 #[.int .i64 0, .int .i64 0, .int .i64 0, .int .i64 0, .int .i64 0, .int .i64 0, .slice none 0 0])
  have SN := Lib.hid ((Same.refl wD).alloc (.cells #[.int .i64 0, .int .i64 0, .int .i64 0, .int .i64 0, .int .i64 0, .int .i64 0, .slice none 0 0] 47))
  go_upto_region 5 with (first | (refine wpList_store_row rfl 47 (.tmp 5) (.tmp 14) rfl wD.heap.size #[.int .i64 1, .int .i64 0, .int .i64 40, .int .i64 0, .int .i64 40, .int .i64 2, .slice (some ⟨cr, 0, none⟩) 2 2] rfl rfl 47 #[.int .i64 0, .int .i64 0, .int .i64 0, .int .i64 0, .int .i64 0, .int .i64 0, .slice none 0 0] BN.out HIT.out rfl (by simp [Value.oneCell']) ?_))
  obtain ⟨t2, ht⟩ : ∃ g, g = wD.heap.size := ⟨_, rfl⟩
  obtain ⟨wU, hwt⟩ : ∃ x, x = World.setRow (wD.alloc (.cells #[.int .i64 0, .int .i64 0, .int .i64 0, .int .i64 0, .int .i64 0, .int .i64 0, .slice none 0 0] 47)) t2 #[.int .i64 1, .int .i64 0, .int .i64 40, .int .i64 0, .int .i64 40, .int .i64 2, .slice (some ⟨cr, 0, none⟩) 2 2] := ⟨_, rfl⟩
  have ST := Lib.hid (show Same wD wU by rw [hwt, ht]; exact Dm.chgRow SN.out (.inr (Nat.le_refl _)) _)
  have BTt2 := Lib.hid (show Blk wU t2 47 #[.int .i64 1, .int .i64 0, .int .i64 40, .int .i64 0, .int .i64 40, .int .i64 2, .slice (some ⟨cr, 0, none⟩) 2 2] by rw [hwt, ht]; exact Dm.rowb BN.out)
  rw [← ht, ← hwt]
  clear ht hwt BN SN
  have SCT := Lib.hid (SC.out.trans ST.out)
  have BCcr := Lib.hid (BCcr.out.same ST.out)
  have SM := Lib.hid (SM.out.trans SCT.out)
  have BO := Lib.hid (BO.out.same SCT.out)
  have BV := Lib.hid (BV.out.same SCT.out)
  have BS := Lib.hid (BS.out.same SCT.out)
  have BTt1 := Lib.hid (BTt1.out.same SCT.out)
  have BCcw := Lib.hid (BCcw.out.same SCT.out)
  clear SC ST SCT
  obtain ⟨a, ha⟩ : ∃ g, g = wU.heap.size := ⟨_, rfl⟩
  obtain ⟨wV, hwV⟩ : ∃ x, x = wU.alloc (.cells #[.int .i64 1, .int .i64 1, .int .i64 10, .int .i64 0, .int .i64 10, .int .i64 2, .slice (some ⟨cw, 0, none⟩) 2 2, .int .i64 1, .int .i64 0, .int .i64 40, .int .i64 0, .int .i64 40, .int .i64 2, .slice (some ⟨cr, 0, none⟩) 2 2] 47) := ⟨_, rfl⟩
  obtain ⟨b, hb⟩ : ∃ g, g = wV.heap.size := ⟨_, rfl⟩
  obtain ⟨wW, hwW⟩ : ∃ x, x = wV.alloc (.cells #[.int .i64 k, .int .i64 wd, .int .i64 sl, .int .i64 cp, .int .u32 sa, .slice X il ic, .int .i64 0, .slice (some ⟨v, 0, none⟩) 1 1] 34) := ⟨_, rfl⟩
  have sV : Same wU wV := hwV ▸ (Same.refl wU).alloc _
  have sW : Same wV wW := hwW ▸ (Same.refl wV).alloc _
  have bT : Blk wV a 47 #[.int .i64 1, .int .i64 1, .int .i64 10, .int .i64 0, .int .i64 10, .int .i64 2, .slice (some ⟨cw, 0, none⟩) 2 2, .int .i64 1, .int .i64 0, .int .i64 40, .int .i64 0, .int .i64 40, .int .i64 2, .slice (some ⟨cr, 0, none⟩) 2 2] := by rw [hwV, ha]; exact Blk.new wU _ _
  have bO : Blk wW b 34 #[.int .i64 k, .int .i64 wd, .int .i64 sl, .int .i64 cp, .int .u32 sa, .slice X il ic, .int .i64 0, .slice (some ⟨v, 0, none⟩) 1 1] := by rw [hwW, hb]; exact Blk.new wV _ _
  have HA := Lib.hid ha
  have HB := Lib.hid (show a + 1 = b by rw [hb, hwV, ha]; show _ = (wU.heap.push _).size; rw [Array.size_push])
  have HWV := Lib.hid hwV
  have HWW := Lib.hid hwW
  have BSW := Lib.hid ((BS.out.same sV).same sW)
  have hcF : Chg (fun i => i = q1) wW (World.setRow wW q1 #[.slice (some ⟨a, 0, none⟩) 2 2, .slice (some ⟨b, 0, none⟩) 1 1]) := Dm.chgRow (S := fun i => i = q1) (Chg.refl _ wW) (.inl rfl) _
  have hSY : SysAt (World.setRow wW q1 #[.slice (some ⟨a, 0, none⟩) 2 2, .slice (some ⟨b, 0, none⟩) 1 1]) (some ⟨a, 0, none⟩) 2 (some ⟨b, 0, none⟩) 1 (pairS ⟨k, wd, sl, cp, sa, 0, [1], ini⟩) := by
    have e1 : Blk wW a 47 #[.int .i64 1, .int .i64 1, .int .i64 10, .int .i64 0, .int .i64 10, .int .i64 2, .slice (some ⟨cw, 0, none⟩) 2 2, .int .i64 1, .int .i64 0, .int .i64 40, .int .i64 0, .int .i64 40, .int .i64 2, .slice (some ⟨cr, 0, none⟩) 2 2] := bT.same sW
    have e2 := (BCcw.out.same sV).same sW
    have e3 := (BCcr.out.same sV).same sW
    have e4 := (BV.out.same sV).same sW
    refine sys_pair (X := X) (co := ic) (Y := some ⟨v, 0, none⟩) (do_ := 1) (e1.chg hcF (e1.ne BSW.out (by decide))) (e2.chg hcF (e2.ne BSW.out (by decide))) (e3.chg hcF (e3.ne BSW.out (by decide))) ?_ HSA.out (HX.out.same (Dm.chgRow (SM.out.trans (sV.trans sW)) (.inr HGW.out) _)) HINI.out ?_ ⟨by show ini.length ≤ maxLen; rw [HIL.out]; exact HBL.out, by show 1 ≤ maxLen; unfold maxLen; omega⟩
    · show Blk _ b 34 #[.int .i64 k, .int .i64 wd, .int .i64 sl, .int .i64 cp, .int .u32 sa, .slice X ini.length ic, .int .i64 0, .slice (some ⟨v, 0, none⟩) 1 1]
      rw [HIL.out]
      exact bO.chg hcF (bO.ne BSW.out (by decide))
    · intro j y hj
      refine ⟨v, 0, rfl, ?_⟩
      have := (e4.chg hcF (e4.ne BSW.out (by decide))).cell j
      rw [Nat.zero_add, this, List.getElem?_toArray]
      exact hj
  have HSY := Lib.hid hSY
  have SMW := Lib.hid (SM.out.trans (sV.trans sW))
  have BOV := Lib.hid (BO.out.same sV)
  obtain ⟨x0, x1, x2, x3, x4, x5, x6⟩ := (⟨(BTt1.out).cell 0, (BTt1.out).cell 1, (BTt1.out).cell 2, (BTt1.out).cell 3, (BTt1.out).cell 4, (BTt1.out).cell 5, (BTt1.out).cell 6⟩ : _ ∧ _ ∧ _ ∧ _ ∧ _ ∧ _ ∧ _)
  simp only [List.getElem?_toArray, List.getElem?_cons_zero, List.getElem?_cons_succ] at x0 x1 x2 x3 x4 x5 x6
  obtain ⟨y0, y1, y2, y3, y4, y5, y6⟩ := (⟨(BTt2.out).cell 0, (BTt2.out).cell 1, (BTt2.out).cell 2, (BTt2.out).cell 3, (BTt2.out).cell 4, (BTt2.out).cell 5, (BTt2.out).cell 6⟩ : _ ∧ _ ∧ _ ∧ _ ∧ _ ∧ _ ∧ _)
  simp only [List.getElem?_toArray, List.getElem?_cons_zero, List.getElem?_cons_succ] at y0 y1 y2 y3 y4 y5 y6
  obtain ⟨z0, z1, z2, z3, z4, z5, z6, z7⟩ := (⟨(BOV.out).cell 0, (BOV.out).cell 1, (BOV.out).cell 2, (BOV.out).cell 3, (BOV.out).cell 4, (BOV.out).cell 5, (BOV.out).cell 6, (BOV.out).cell 7⟩ : _ ∧ _ ∧ _ ∧ _ ∧ _ ∧ _ ∧ _ ∧ _)
  simp only [List.getElem?_toArray, List.getElem?_cons_zero, List.getElem?_cons_succ] at z0 z1 z2 z3 z4 z5 z6 z7
  rw [hwV] at z0 z1 z2 z3 z4 z5 z6 z7
  clear ha hwV hb hwW sV sW bT bO hSY hcF BO BV BS BCcw BCcr BTt1 BTt2 BOV HX HINI HSA HBL HIL SM
  have BSW2 := Lib.hid (show Blk ((wU.alloc (.cells #[.int .i64 1, .int .i64 1, .int .i64 10, .int .i64 0, .int .i64 10, .int .i64 2, .slice (some ⟨cw, 0, none⟩) 2 2, .int .i64 1, .int .i64 0, .int .i64 40, .int .i64 0, .int .i64 40, .int .i64 2, .slice (some ⟨cr, 0, none⟩) 2 2] 47)).alloc (.cells #[.int .i64 k, .int .i64 wd, .int .i64 sl, .int .i64 cp, .int .u32 sa, .slice X il ic, .int .i64 0, .slice (some ⟨v, 0, none⟩) 1 1] 34)) q1 25 #[.slice none 0 0, .slice none 0 0] by rw [← HWV.out, ← HWW.out]; exact BSW.out)
  go_wp2_with (first | (refine wpList_store_row rfl 25 (.tmp 2) (.tmp 20) rfl q1 #[.slice (some ⟨wU.heap.size, 0, none⟩) 2 2, .slice (some ⟨wU.heap.size + 1, 0, none⟩) 1 1] rfl rfl 25 #[.slice none 0 0, .slice none 0 0] BSW2.out HIS.out rfl (by simp [Value.oneCell']) ?_))
  rw [← HWV.out, ← HWW.out]
  rw [← HA.out, HB.out]
  refine bodyPost_ret (v := .agg #[.slice (some ⟨a, 0, none⟩) 2 2, .slice (some ⟨b, 0, none⟩) 1 1]) (res_cell1 Tryz.results32 _ _ q1 25 #[.slice (some ⟨a, 0, none⟩) 2 2, .slice (some ⟨b, 0, none⟩) 1 1] (0, 0) _ rfl (Dm.rowb BSW.out) Tryz.underlying25 rfl HIS.out) rfl ?_
  exact ⟨a, b, rfl, HSY.out, Dm.chgRow SMW.out (.inr HGW.out) _⟩
end Go.Proofs.YthhbhbfkbncegaaGreatDoor.Sl
end
end
section
section
section
set_option linter.unusedVariables false
set_option linter.unusedSimpArgs false
namespace Go.Proofs.YthhbhbfkbncegaaGreatDoor.Im
open Go.ChangeShapes Go.WideShapes Go.ChangeAt Go.RowKit Ws

structure TWg (t : PT) : Prop where
  kind : (Lit.int .i64 t.kind).wf = true
  prio : (Lit.int .i64 t.prio).wf = true
  per : (Lit.int .i64 t.per).wf = true
  off : (Lit.int .i64 t.off).wf = true
  dl : (Lit.int .i64 t.dl).wf = true
  own : (Lit.int .i64 t.own).wf = true
def OWg (o : PO) : Prop := ∀ y ∈ o.k :: o.wd :: o.sl :: o.cp :: o.ow :: o.rd, (Lit.int .i64 y).wf = true
structure SysWg (s : PS) : Prop where
  ts : ∀ p ∈ s.ts, TWg p
  os : ∀ p ∈ s.os, OWg p
section
variable {H : Type} {enc : TypeId × Value → H} {w : World} {base : Nat} {sp : Nat → Bool} {held : Bool}
theorem task_cells_g {fuel : Nat} {cs : List Value} {x : DataW H × List MemPlace} (hl : cs.length = 7) (h : DataW.trod enc Tryz.prog w base sp held fuel 47 cs = some x) : ∃ (t : PT) (X : Option Addr) (c : Nat), cs = tcells t X c ∧ Code w X t.code ∧ t.code.length ≤ maxLen ∧ TWg t := by
  obtain ⟨z0, e0, w0⟩ := On.int_leaf (n := 6) (i := 0) (u := 3) h (by kernel_rfl) Tryz.underlying3
  obtain ⟨z1, e1, w1⟩ := On.int_leaf (n := 6) (i := 1) (u := 3) h (by kernel_rfl) Tryz.underlying3
  obtain ⟨z2, e2, w2⟩ := On.int_leaf (n := 6) (i := 2) (u := 3) h (by kernel_rfl) Tryz.underlying3
  obtain ⟨z3, e3, w3⟩ := On.int_leaf (n := 6) (i := 3) (u := 3) h (by kernel_rfl) Tryz.underlying3
  obtain ⟨z4, e4, w4⟩ := On.int_leaf (n := 6) (i := 4) (u := 3) h (by kernel_rfl) Tryz.underlying3
  obtain ⟨z5, e5, w5⟩ := On.int_leaf (n := 6) (i := 5) (u := 3) h (by kernel_rfl) Tryz.underlying3
  obtain ⟨A, len, cap, d, p, e6, w6⟩ := On.slice_leaf (n := 6) (i := 6) (u := 45) h (by kernel_rfl) Tryz.underlying45
  obtain ⟨rows, hr, hrl, hml⟩ := Fl.rows_of Tryz.underlying45 (show Fl.kinds Tryz.prog 6 70 = some [.i64, .i64, .i64, .i64, .u32] by kernel_rfl) (by decide) w6
  obtain ⟨code, hcl, hcode⟩ := code_in hr
  refine ⟨⟨z0, z1, z2, z3, z4, z5, code⟩, A, cap, ?_, hcode, (by show code.length ≤ maxLen; omega), ⟨w0, w1, w2, w3, w4, w5⟩⟩
  have hlen : code.length = len := by omega
  apply List.ext_getElem?
  intro i
  match i with
  | 0 => exact e0
  | 1 => exact e1
  | 2 => exact e2
  | 3 => exact e3
  | 4 => exact e4
  | 5 => exact e5
  | 6 => rw [e6]; simp [tcells, hlen]
  | n + 7 => rw [List.getElem?_eq_none (by omega), List.getElem?_eq_none (by simp [tcells])]
theorem tasks_in_g {A : Option Addr} {len cap : Nat} {d : DataW H} {p : List MemPlace} (h : DataW.Trod enc Tryz.prog w base sp held 22 (.slice A len cap) d p) :
    ∃ ts : List PT, ts.length = len ∧ TsAt w A ts ∧ (∀ p ∈ ts, TWg p) ∧ len ≤ maxLen := by
  have hkl : Tryz.prog.cellsOf 47 = 7 := by kernel_rfl
  obtain ⟨fuel, hf⟩ := h
  rcases DataW.trod_slice Tryz.underlying22 hf with ⟨hcs, _⟩ | ⟨a, l, c, elems, rest, m, _, hcs, _, _, hl, hm, hel, hall, _, _⟩
  · simp [Value.cells] at hcs
    obtain ⟨rfl, rfl, rfl⟩ := hcs
    exact ⟨[], rfl, fun i r hr => by simp at hr, fun r hr => by simp at hr, Nat.zero_le _⟩
  · simp [Value.cells] at hcs
    obtain ⟨rfl, rfl, rfl⟩ := hcs
    rw [hkl] at hall
    have hspot : ∀ {i : Nat}, i < len → a.spot = none := by
      intro i hi
      have hai := hall 0 (by omega)
      rw [List.getElem?_eq_getElem (by omega)] at hai
      obtain ⟨cs, hcs, hx⟩ := Option.bind_eq_some_iff.1 hai
      obtain ⟨hcl, hcc⟩ := Fl.cells_get hcs
      obtain ⟨v0, hv0⟩ : ∃ v, cs[0]? = some v := ⟨_, List.getElem?_eq_getElem (by rw [hcl]; omega)⟩
      have h0 := hcc 0 v0 hv0
      rw [Nat.zero_mul] at h0
      exact Fl.spot_zero (by simpa [Addr.add] using h0)
    have hch : ∀ i : Nat, ∃ p : PT, i < len → ∃ b o, some a = some (⟨b, o, none⟩ : Addr) ∧ ∃ X c, (∀ j v, (tcells p X c)[j]? = some v → w.cell? ⟨b, o + i * 7 + j, none⟩ = some v) ∧ Code w X p.code ∧ p.code.length ≤ maxLen ∧ TWg p := by
      intro i
      by_cases hi : i < len
      · have hai := hall i hi
        rw [List.getElem?_eq_getElem (by omega)] at hai
        obtain ⟨cs, hcs, hx⟩ := Option.bind_eq_some_iff.1 hai
        obtain ⟨hcl, hcc⟩ := Fl.cells_get hcs
        have hs := hspot hi
        obtain ⟨b, o, s⟩ := a
        cases hs
        obtain ⟨t, X, c, rfl, hcode⟩ := task_cells_g hcl hx
        refine ⟨t, fun _ => ⟨b, o, rfl, X, c, fun j v hv => ?_, hcode⟩⟩
        have := hcc j v hv
        rw [Fl.add_add _ _ _ rfl] at this
        exact this
      · exact ⟨default, fun h => absurd h hi⟩
    refine ⟨(List.range len).map fun i => Classical.choose (hch i), by simp, fun i r hr => ?_, fun r hr => ?_, by omega⟩
    · have hlt : i < len := by
        rcases Nat.lt_or_ge i len with hlt | hge
        · exact hlt
        · rw [List.getElem?_eq_none (by simpa using hge)] at hr
          cases hr
      rw [List.getElem?_map, List.getElem?_range hlt] at hr
      injection hr with hr
      rw [← hr]
      obtain ⟨b, o, h1, X, c, h2, h3, h4, _⟩ := Classical.choose_spec (hch i) hlt
      exact ⟨b, o, h1, X, c, h2, h3, h4⟩
    · obtain ⟨i, hi, rfl⟩ := List.mem_map.1 hr
      obtain ⟨b, o, h1, X, c, h2, h3, h4, h5⟩ := Classical.choose_spec (hch i) (List.mem_range.1 hi)
      exact h5

theorem obj_cells_g {fuel : Nat} {cs : List Value} {x : DataW H × List MemPlace} (hl : cs.length = 8) (h : DataW.trod enc Tryz.prog w base sp held fuel 34 cs = some x) : ∃ (p : PO) (X : Option Addr) (c : Nat) (Y : Option Addr) (d : Nat), cs = ocells p X c Y d ∧ (0 ≤ p.sa ∧ p.sa < 4294967296) ∧ Row w X (p.ini.map (Value.int .u32)) ∧ (∀ y ∈ p.ini, 0 ≤ y ∧ y < 4294967296) ∧ Row w Y (p.rd.map (Value.int .i64)) ∧ p.ini.length ≤ maxLen ∧ p.rd.length ≤ maxLen ∧ OWg p := by
  obtain ⟨z0, e0, w0⟩ := On.int_leaf (n := 6) (i := 0) (u := 3) h (by kernel_rfl) Tryz.underlying3
  obtain ⟨z1, e1, w1⟩ := On.int_leaf (n := 6) (i := 1) (u := 3) h (by kernel_rfl) Tryz.underlying3
  obtain ⟨z2, e2, w2⟩ := On.int_leaf (n := 6) (i := 2) (u := 3) h (by kernel_rfl) Tryz.underlying3
  obtain ⟨z3, e3, w3⟩ := On.int_leaf (n := 6) (i := 3) (u := 3) h (by kernel_rfl) Tryz.underlying3
  obtain ⟨z4, e4, w4⟩ := On.int_leaf (n := 6) (i := 4) (u := 30) h (by kernel_rfl) Tryz.underlying30
  obtain ⟨A, il, ic, d5, p5, e5, t5⟩ := On.slice_leaf (n := 6) (i := 5) (u := 31) h (by kernel_rfl) Tryz.underlying31
  obtain ⟨z6, e6, w6⟩ := On.int_leaf (n := 6) (i := 6) (u := 3) h (by kernel_rfl) Tryz.underlying3
  obtain ⟨B, rl, rc, d7, p7, e7, t7⟩ := On.slice_leaf (n := 6) (i := 7) (u := 32) h (by kernel_rfl) Tryz.underlying32
  obtain ⟨ini, hil, hirow, hiwf, hi1, hi2⟩ := Fl.ints_of Tryz.underlying31 Tryz.underlying30 (by kernel_rfl) t5
  obtain ⟨rd, hrl, hrrow, hrwf, hr1, hr2⟩ := Fl.ints_of Tryz.underlying32 Tryz.underlying3 (by kernel_rfl) t7
  refine ⟨⟨z0, z1, z2, z3, z4, z6, rd, ini⟩, A, ic, B, rc, ?_, Fl.u32_bd w4, hirow, fun y hy => Fl.u32_bd (hiwf y hy), hrrow, Nat.le_trans (Nat.le_of_eq hil) (Nat.le_trans hi1 hi2), Nat.le_trans (Nat.le_of_eq hrl) (Nat.le_trans hr1 hr2), fun y hy => by
    rcases List.mem_cons.1 hy with hy | hy
    · rw [hy]; exact w0
    rcases List.mem_cons.1 hy with hy | hy
    · rw [hy]; exact w1
    rcases List.mem_cons.1 hy with hy | hy
    · rw [hy]; exact w2
    rcases List.mem_cons.1 hy with hy | hy
    · rw [hy]; exact w3
    rcases List.mem_cons.1 hy with hy | hy
    · rw [hy]; exact w6
    · exact hrwf y hy⟩
  apply List.ext_getElem?
  intro i
  match i with
  | 0 => exact e0
  | 1 => exact e1
  | 2 => exact e2
  | 3 => exact e3
  | 4 => exact e4
  | 5 => rw [e5]; simp [ocells, hil]
  | 6 => exact e6
  | 7 => rw [e7]; simp [ocells, hrl]
  | n + 8 => rw [List.getElem?_eq_none (by omega), List.getElem?_eq_none (by simp [ocells])]
theorem objs_in_g {A : Option Addr} {len cap : Nat} {d : DataW H} {p : List MemPlace} (h : DataW.Trod enc Tryz.prog w base sp held 23 (.slice A len cap) d p) :
    ∃ ts : List PO, ts.length = len ∧ OsAt w A ts ∧ (∀ p ∈ ts, OWg p) ∧ len ≤ maxLen := by
  have hkl : Tryz.prog.cellsOf 34 = 8 := by kernel_rfl
  obtain ⟨fuel, hf⟩ := h
  rcases DataW.trod_slice Tryz.underlying23 hf with ⟨hcs, _⟩ | ⟨a, l, c, elems, rest, m, _, hcs, _, _, hl, hm, hel, hall, _, _⟩
  · simp [Value.cells] at hcs
    obtain ⟨rfl, rfl, rfl⟩ := hcs
    exact ⟨[], rfl, fun i r hr => by simp at hr, fun r hr => by simp at hr, Nat.zero_le _⟩
  · simp [Value.cells] at hcs
    obtain ⟨rfl, rfl, rfl⟩ := hcs
    rw [hkl] at hall
    have hspot : ∀ {i : Nat}, i < len → a.spot = none := by
      intro i hi
      have hai := hall 0 (by omega)
      rw [List.getElem?_eq_getElem (by omega)] at hai
      obtain ⟨cs, hcs, hx⟩ := Option.bind_eq_some_iff.1 hai
      obtain ⟨hcl, hcc⟩ := Fl.cells_get hcs
      obtain ⟨v0, hv0⟩ : ∃ v, cs[0]? = some v := ⟨_, List.getElem?_eq_getElem (by rw [hcl]; omega)⟩
      have h0 := hcc 0 v0 hv0
      rw [Nat.zero_mul] at h0
      exact Fl.spot_zero (by simpa [Addr.add] using h0)
    have hch : ∀ i : Nat, ∃ p : PO, i < len → ∃ b o, some a = some (⟨b, o, none⟩ : Addr) ∧ ∃ X c Y d, (∀ j v, (ocells p X c Y d)[j]? = some v → w.cell? ⟨b, o + i * 8 + j, none⟩ = some v) ∧ (0 ≤ p.sa ∧ p.sa < 4294967296) ∧ Row w X (p.ini.map (Value.int .u32)) ∧ (∀ y ∈ p.ini, 0 ≤ y ∧ y < 4294967296) ∧ Row w Y (p.rd.map (Value.int .i64)) ∧ p.ini.length ≤ maxLen ∧ p.rd.length ≤ maxLen ∧ OWg p := by
      intro i
      by_cases hi : i < len
      · have hai := hall i hi
        rw [List.getElem?_eq_getElem (by omega)] at hai
        obtain ⟨cs, hcs, hx⟩ := Option.bind_eq_some_iff.1 hai
        obtain ⟨hcl, hcc⟩ := Fl.cells_get hcs
        have hs := hspot hi
        obtain ⟨b, o, s⟩ := a
        cases hs
        obtain ⟨t, X, c, Y, d, rfl, h1, h2, h3, h4⟩ := obj_cells_g hcl hx
        refine ⟨t, fun _ => ⟨b, o, rfl, X, c, Y, d, fun j v hv => ?_, h1, h2, h3, h4⟩⟩
        have := hcc j v hv
        rw [Fl.add_add _ _ _ rfl] at this
        exact this
      · exact ⟨default, fun h => absurd h hi⟩
    refine ⟨(List.range len).map fun i => Classical.choose (hch i), by simp, fun i r hr => ?_, fun r hr => ?_, by omega⟩
    · have hlt : i < len := by
        rcases Nat.lt_or_ge i len with hlt | hge
        · exact hlt
        · rw [List.getElem?_eq_none (by simpa using hge)] at hr
          cases hr
      rw [List.getElem?_map, List.getElem?_range hlt] at hr
      injection hr with hr
      rw [← hr]
      obtain ⟨b, o, h1, X, c, Y, d, h2, h3, h4, h5, h6, h7, h8, _⟩ := Classical.choose_spec (hch i) hlt
      exact ⟨b, o, h1, X, c, Y, d, h2, h3, h4, h5, h6, h7, h8⟩
    · obtain ⟨i, hi, rfl⟩ := List.mem_map.1 hr
      obtain ⟨b, o, h1, X, c, Y, d, h2, h3, h4, h5, h6, h7, h8, h9⟩ := Classical.choose_spec (hch i) (List.mem_range.1 hi)
      exact h9

end
set_option maxRecDepth 100000 in
theorem system_in_g {H : Type} {enc : TypeId × Value → H} {w : World} {base : Nat} {sp : Nat → Bool} {held : Bool} {r : Reach} {b0 : Nat} {v : Value} {d : DataW H} {p : List MemPlace}
    (hv : Value.okWide Tryz.prog w r b0 25 v) (h : DataW.Trod enc Tryz.prog w base sp held 25 v d p) :
    ∃ (A B : Option Addr) (n c m d : Nat) (s : PS), v = .agg #[.slice A n c, .slice B m d] ∧ SysAt w A n B m s ∧ SysWg s ∧ n ≤ maxLen ∧ m ≤ maxLen := by
  obtain ⟨cs, rfl, hsz⟩ := okWide_struct Tryz.underlying25 hv
  obtain ⟨fuel, hf⟩ := h
  have hc : (Value.agg cs).cells.toList = cs.toList := by simp [Value.cells]
  rw [hc] at hf
  obtain ⟨l⟩ := cs
  have h3 : l.length = 2 := by
    have := hsz.trans (show Tryz.prog.cellsOf 25 = 2 by kernel_rfl)
    simpa using this
  match l, h3 with
  | [c0, c1], _ =>
    obtain ⟨A, n, c, d0, p0, e0, t0⟩ := On.slice_leaf hf (show On.leafAt Tryz.prog 6 25 0 = some 22 by kernel_rfl) Tryz.underlying22
    obtain ⟨B, m, c', d1, p1, e1, t1⟩ := On.slice_leaf hf (show On.leafAt Tryz.prog 6 25 1 = some 23 by kernel_rfl) Tryz.underlying23
    simp at e0 e1
    subst e0 e1
    obtain ⟨ts, l0, w0, f0, m0⟩ := tasks_in_g t0
    obtain ⟨os, l1, w1, f1, m1⟩ := objs_in_g t1
    exact ⟨A, B, n, c, m, c', ⟨ts, os⟩, rfl, ⟨l0, l1, w0, w1⟩, ⟨f0, f1⟩, m0, m1⟩
theorem SysWg.sl {s : PS} (h : SysWg s) : ∀ o ∈ s.os, o.sl ≤ 9223372036854775807 := fun o ho => by
  have := h.os o ho o.sl (by simp)
  simp only [Lit.wf, IntKind.min, IntKind.max, IntKind.signed, IntKind.bits, Bool.and_eq_true] at this
  simp at this
  omega
theorem int_bd {x : Int} (h : (Lit.int .i64 x).wf = true) : -9223372036854775808 ≤ x ∧ x ≤ 9223372036854775807 := by
  simp only [Lit.wf, IntKind.min, IntKind.max, IntKind.signed, IntKind.bits, Bool.and_eq_true] at h
  simp at h
  omega
end Go.Proofs.YthhbhbfkbncegaaGreatDoor.Im
end
section
section
set_option linter.unusedVariables false
set_option linter.unusedSimpArgs false
namespace Go.Proofs.YthhbhbfkbncegaaGreatDoor.Sl
open Go.ChangeShapes Go.WideShapes Go.ChangeAt Go.RowKit Ws
open Im (PT PO PS TsAt OsAt SysAt tcells ocells)
theorem of_sl {s : PS} {i k : Int} (h : ∀ o ∈ s.os, o.sl ≤ 9223372036854775807) : (ofR s i k).sl ≤ 9223372036854775807 := by
  cases g : readsP s i k with
  | false => rw [of_no g]; decide
  | true =>
    rw [(of_k g).2.1]
    unfold obj
    rw [List.getD_eq_getElem?_getD]
    cases e : s.os[k.toNat]? with
    | none => decide
    | some o => exact h o (List.mem_of_getElem? e)
set_option maxRecDepth 100000 in
theorem ihope_any (A B : Option Addr) (n c m d : Nat) (s : PS) (i k : Int) (w : World) (hs : SysAt w A n B m s) (hnm : n ≤ maxLen ∧ m ≤ maxLen) (hf : ∀ p ∈ s.ts, p.code.length ≤ 200) (ho : Sy.OFew s.os 5000) (hT : Is.Tabs w) :
    Calls Tryz.prog 13 #[.agg #[.slice A n c, .slice B m d], .int .i64 i, .int .i64 k] w fun e w' => e = .returned (.bool (hopeR (ofR s i k))) ∧ Same w w' := by
  obtain ⟨w0, hw0⟩ : ∃ w0, w0 = w.alloc (.cells #[.slice A n c, .slice B m d] 25) := ⟨_, rfl⟩
  obtain ⟨g, hg⟩ : ∃ g, g = w.heap.size := ⟨_, rfl⟩
  have s0 : Same w w0 := hw0 ▸ (Same.refl w).alloc _
  have b0 : Blk w0 g 25 #[.slice A n c, .slice B m d] := by rw [hw0, hg]; exact Blk.new w _ _
  have HE0 := Lib.hid hw0
  have HG := Lib.hid hg
  have S0 := Lib.hid s0
  obtain ⟨c0, c1⟩ := (⟨b0.cell 0, b0.cell 1⟩ : _ ∧ _)
  simp only [List.getElem?_toArray, List.getElem?_cons_zero, List.getElem?_cons_succ] at c0 c1
  have OF := Lib.hid (of_any A B n c m d s i k w0 (hs.same s0) hnm hf ho (hT.same s0))
  have LM := Lib.hid (fun W => hope_any (ofR s i k) W)
  clear hw0 hg s0 b0 hs hT hf ho
  generalize (rcells (ofR s i k)).toArray = rc at *
  go_enter Tryz.func13, Tryz.ntmps13
  go_upto_region 1 with fail
  rw [← HE0.out, ← HG.out]
  clear HE0 HG
  go_wp2_with fail
  refine OF.out.mono ?_
  rintro e w1 ⟨rfl, s1⟩
  go_wp2_with fail
  refine (LM.out _).mono ?_
  rintro e w2 ⟨rfl, s2⟩
  go_wp2_with fail
  go_ret
  exact ⟨rfl, S0.out.trans (s1.trans s2)⟩
set_option maxRecDepth 100000 in
theorem iwrites_any (A B : Option Addr) (n c m d : Nat) (s : PS) (i k : Int) (r : Int) (br : -9223372036854775808 ≤ r ∧ r ≤ 9223372036854775807) (w : World) (hs : SysAt w A n B m s) (hnm : n ≤ maxLen ∧ m ≤ maxLen) (hf : ∀ p ∈ s.ts, p.code.length ≤ 200) (ho : Sy.OFew s.os 5000) (hT : Is.Tabs w) :
    Calls Tryz.prog 14 #[.agg #[.slice A n c, .slice B m d], .int .i64 i, .int .i64 k, .int .i64 r] w fun e w' => e = .returned (.int .i64 (wrR (ofR s i k) r)) ∧ Same w w' := by
  obtain ⟨w0, hw0⟩ : ∃ w0, w0 = w.alloc (.cells #[.slice A n c, .slice B m d] 25) := ⟨_, rfl⟩
  obtain ⟨g, hg⟩ : ∃ g, g = w.heap.size := ⟨_, rfl⟩
  have s0 : Same w w0 := hw0 ▸ (Same.refl w).alloc _
  have b0 : Blk w0 g 25 #[.slice A n c, .slice B m d] := by rw [hw0, hg]; exact Blk.new w _ _
  have HE0 := Lib.hid hw0
  have HG := Lib.hid hg
  have S0 := Lib.hid s0
  obtain ⟨c0, c1⟩ := (⟨b0.cell 0, b0.cell 1⟩ : _ ∧ _)
  simp only [List.getElem?_toArray, List.getElem?_cons_zero, List.getElem?_cons_succ] at c0 c1
  have OF := Lib.hid (of_any A B n c m d s i k w0 (hs.same s0) hnm hf ho (hT.same s0))
  have LM := Lib.hid (fun W => writes_sp (ofR s i k) r br W)
  clear hw0 hg s0 b0 hs hT hf ho
  generalize (rcells (ofR s i k)).toArray = rc at *
  go_enter Tryz.func14, Tryz.ntmps14
  go_upto_region 1 with fail
  rw [← HE0.out, ← HG.out]
  clear HE0 HG
  go_wp2_with fail
  refine OF.out.mono ?_
  rintro e w1 ⟨rfl, s1⟩
  go_wp2_with fail
  refine (LM.out _).mono ?_
  rintro e w2 ⟨rfl, s2⟩
  go_wp2_with fail
  go_ret
  exact ⟨rfl, S0.out.trans (s1.trans s2)⟩
set_option maxRecDepth 100000 in
theorem ifails_any (A B : Option Addr) (n c m d : Nat) (s : PS) (i k : Int) (r : Int) (br : -9223372036854775808 ≤ r ∧ r ≤ 9223372036854775807) (hsl : ∀ o ∈ s.os, o.sl ≤ 9223372036854775807) (w : World) (hs : SysAt w A n B m s) (hnm : n ≤ maxLen ∧ m ≤ maxLen) (hf : ∀ p ∈ s.ts, p.code.length ≤ 200) (ho : Sy.OFew s.os 5000) (hT : Is.Tabs w) :
    Calls Tryz.prog 16 #[.agg #[.slice A n c, .slice B m d], .int .i64 i, .int .i64 k, .int .i64 r] w fun e w' => e = .returned (.int .i64 (flR (ofR s i k) r)) ∧ Same w w' := by
  obtain ⟨w0, hw0⟩ : ∃ w0, w0 = w.alloc (.cells #[.slice A n c, .slice B m d] 25) := ⟨_, rfl⟩
  obtain ⟨g, hg⟩ : ∃ g, g = w.heap.size := ⟨_, rfl⟩
  have s0 : Same w w0 := hw0 ▸ (Same.refl w).alloc _
  have b0 : Blk w0 g 25 #[.slice A n c, .slice B m d] := by rw [hw0, hg]; exact Blk.new w _ _
  have HE0 := Lib.hid hw0
  have HG := Lib.hid hg
  have S0 := Lib.hid s0
  obtain ⟨c0, c1⟩ := (⟨b0.cell 0, b0.cell 1⟩ : _ ∧ _)
  simp only [List.getElem?_toArray, List.getElem?_cons_zero, List.getElem?_cons_succ] at c0 c1
  have OF := Lib.hid (of_any A B n c m d s i k w0 (hs.same s0) hnm hf ho (hT.same s0))
  have LM := Lib.hid (fun W => fails_sp (ofR s i k) r (of_sl hsl) br W)
  clear hw0 hg s0 b0 hs hT hf ho
  generalize (rcells (ofR s i k)).toArray = rc at *
  go_enter Tryz.func16, Tryz.ntmps16
  go_upto_region 1 with fail
  rw [← HE0.out, ← HG.out]
  clear HE0 HG
  go_wp2_with fail
  refine OF.out.mono ?_
  rintro e w1 ⟨rfl, s1⟩
  go_wp2_with fail
  refine (LM.out _).mono ?_
  rintro e w2 ⟨rfl, s2⟩
  go_wp2_with fail
  go_ret
  exact ⟨rfl, S0.out.trans (s1.trans s2)⟩
end Go.Proofs.YthhbhbfkbncegaaGreatDoor.Sl
end
section
section
set_option linter.unusedVariables false
set_option linter.unusedSimpArgs false
namespace Go.Proofs.YthhbhbfkbncegaaGreatDoor.Sl
open Go.ChangeShapes Go.WideShapes Go.ChangeAt Go.RowKit Ws
open Im (PT PO PS TsAt OsAt SysAt tcells ocells)
theorem pair_few (o : PO) (h : o.ini.length ≤ 100 ∧ o.rd.length ≤ 100) : (∀ p ∈ (pairS o).ts, p.code.length ≤ 200) ∧ Sy.OFew (pairS o).os 5000 := by
  refine ⟨fun p hp => ?_, by show ((1 : Nat) : Int) ≤ 5000; omega, fun p hp => ?_⟩
  · simp only [pairS, List.mem_cons, List.not_mem_nil, or_false] at hp
    rcases hp with rfl | rfl <;> decide
  · simp only [pairS, List.mem_cons, List.not_mem_nil, or_false] at hp
    subst hp
    exact h
theorem few37 : (∀ p ∈ s37.ts, p.code.length ≤ 200) ∧ Sy.OFew s37.os 5000 := pair_few _ ⟨by decide, by decide⟩
theorem sl37 : ∀ o ∈ s37.os, o.sl ≤ 9223372036854775807 := by
  intro p hp
  simp only [s37, List.mem_cons, List.not_mem_nil, or_false] at hp
  subst hp
  decide
set_option maxRecDepth 100000 in
set_option maxHeartbeats 4000000 in
theorem awake37 (w : World) (hT : Is.Tabs w) : Calls Tryz.prog 10 #[] w fun e w' => e = .returned (.bool true) ∧ Same w w' := by
  obtain ⟨u, hu⟩ : ∃ u, u = w.heap.size := ⟨_, rfl⟩
  obtain ⟨w1, hw1⟩ : ∃ w1, w1 = w.alloc (.cells #[.int .u32 1, .int .u32 2] 30) := ⟨_, rfl⟩
  have s1 : Same w w1 := hw1 ▸ (Same.refl w).alloc _
  have bu : Blk w1 u 30 #[.int .u32 1, .int .u32 2] := by rw [hw1, hu]; exact Blk.new w _ _
  have PR := Lib.hid (pair_any 3 2 0 3 0 0 (some ⟨u, 0, none⟩) none 2 2 0 0 [1, 2] w1 rfl (by unfold maxLen; omega) (by omega) (Cs.blk_row bu) (fun y hy => by simp only [List.mem_cons, List.not_mem_nil, or_false] at hy; rcases hy with rfl | rfl <;> omega))
  have E1 := Lib.hid hw1
  have U := Lib.hid hu
  have HT := Lib.hid (hT.same s1)
  have S1 := Lib.hid s1
  have HIS := Lib.hid (show (Tryz.prog.info? 25).map (·.size) = some (#[.slice none 0 0, .slice none 0 0] : Array Value).size by kernel_rfl)
  clear hw1 hu s1 bu hT
  unfold PairP at PR
  go_enter Tryz.func10, Tryz.ntmps10
  go_wp2_with fail
  rw [← U.out, ← E1.out]
  clear E1 U
  refine PR.out.mono ?_
  rintro e w2 ⟨a, b, rfl, hsy, s2⟩
  have HSY := Lib.hid hsy
  have S2 := Lib.hid (S1.out.trans s2)
  have HT := Lib.hid (HT.out.same s2)
  clear PR hsy s2 S1
  have BN := Lib.hid (Blk.new w2 25 #[.slice none 0 0, .slice none 0 0])
  have SN := Lib.hid ((Same.refl w2).alloc (.cells #[.slice none 0 0, .slice none 0 0] 25))
  go_upto_region 2 with (first | (refine wpList_store_row rfl 25 (.tmp 1) (.tmp 4) rfl w2.heap.size #[.slice (some ⟨a, 0, none⟩) 2 2, .slice (some ⟨b, 0, none⟩) 1 1] rfl rfl 25 #[.slice none 0 0, .slice none 0 0] BN.out HIS.out rfl (by simp [Value.oneCell']) ?_))
  obtain ⟨q, hq⟩ : ∃ g, g = w2.heap.size := ⟨_, rfl⟩
  obtain ⟨w3, hw3⟩ : ∃ x, x = World.setRow (w2.alloc (.cells #[.slice none 0 0, .slice none 0 0] 25)) q #[.slice (some ⟨a, 0, none⟩) 2 2, .slice (some ⟨b, 0, none⟩) 1 1] := ⟨_, rfl⟩
  have s3 : Same w2 w3 := by rw [hw3, hq]; exact Dm.chgRow SN.out (.inr (Nat.le_refl _)) _
  have bq : Blk w3 q 25 #[.slice (some ⟨a, 0, none⟩) 2 2, .slice (some ⟨b, 0, none⟩) 1 1] := by rw [hw3, hq]; exact Dm.rowb BN.out
  rw [← hq, ← hw3]
  clear hq hw3 BN SN
  have hsy3 : SysAt w3 (some ⟨a, 0, none⟩) 2 (some ⟨b, 0, none⟩) 1 s37 := HSY.out.same s3
  have hT3 := HT.out.same s3
  have S3 := Lib.hid (S2.out.trans s3)
  have hnm : 2 ≤ maxLen ∧ 1 ≤ maxLen := by unfold maxLen; omega
  have WR := Lib.hid (fun W (h : Same w3 W) => iwrites_any (some ⟨a, 0, none⟩) (some ⟨b, 0, none⟩) 2 2 1 1 s37 1 0 25 (by omega) W (hsy3.same h) hnm few37.1 few37.2 (hT3.same h))
  rw [s37_w] at WR
  have FL := Lib.hid (fun W (h : Same w3 W) => ifails_any (some ⟨a, 0, none⟩) (some ⟨b, 0, none⟩) 2 2 1 1 s37 1 0 25 (by omega) sl37 W (hsy3.same h) hnm few37.1 few37.2 (hT3.same h))
  rw [s37_f] at FL
  have JB := Lib.hid (fun W (h : Same w3 W) => ijob_any (some ⟨a, 0, none⟩) (some ⟨b, 0, none⟩) 2 2 1 1 s37 1 25 (by omega) sl37 W (hsy3.same h) hnm few37.1 few37.2 (hT3.same h))
  rw [s37_j] at JB
  have HO := Lib.hid (fun W (h : Same w3 W) => ihope_any (some ⟨a, 0, none⟩) (some ⟨b, 0, none⟩) 2 2 1 1 s37 1 0 W (hsy3.same h) hnm few37.1 few37.2 (hT3.same h))
  rw [s37_h] at HO
  have HQ := Lib.hid bq
  obtain ⟨c0, c1⟩ := (⟨bq.cell 0, bq.cell 1⟩ : _ ∧ _)
  simp only [List.getElem?_toArray, List.getElem?_cons_zero, List.getElem?_cons_succ] at c0 c1
  clear s3 bq hsy3 hT3 hnm HSY HT S2
  go_wp2_with fail
  refine (WR.out w3 (Same.refl _)).mono ?_
  rintro e w4 ⟨rfl, s4⟩
  have H4 := Lib.hid s4
  have c0 := s4.cell c0
  have c1 := s4.cell c1
  clear s4 WR
  go_wp2_with fail
  refine (FL.out _ H4.out).mono ?_
  rintro e w5 ⟨rfl, s5⟩
  have H5 := Lib.hid (H4.out.trans s5)
  have c0 := s5.cell c0
  have c1 := s5.cell c1
  clear s5 FL H4
  go_wp2_with fail
  refine (JB.out _ H5.out).mono ?_
  rintro e w6 ⟨rfl, s6⟩
  have H6 := Lib.hid (H5.out.trans s6)
  have c0 := s6.cell c0
  have c1 := s6.cell c1
  clear s6 JB H5
  go_wp2_with fail
  refine (HO.out _ H6.out).mono ?_
  rintro e w7 ⟨rfl, s7⟩
  go_wp2_with fail
  go_ret
  exact ⟨rfl, S3.out.trans (H6.out.trans s7)⟩
end Go.Proofs.YthhbhbfkbncegaaGreatDoor.Sl
end
section
set_option linter.unusedVariables false
set_option linter.unusedSimpArgs false
namespace Go.Proofs.YthhbhbfkbncegaaGreatDoor.Sl
open Go.ChangeShapes Go.WideShapes Go.ChangeAt Go.RowKit Ws
open Im (PT PO PS TsAt OsAt SysAt tcells ocells SysWg)
open Dm (demI dearI dearE)
theorem few_wid {os : List PO} {N : Int} (h : Sy.OFew os N) (hN : N ≤ 5000) : Sy.OFew os 5000 := ⟨Int.le_trans h.1 hN, h.2⟩
theorem hope_doc (s : PS) (i k : Int) : hopeR (ofR s i k) = (readsP s i k && decide ((obj s k).k = 3) && !aheadP s i k) := by
  cases h : readsP s i k with
  | false => rw [of_no h]; rfl
  | true =>
    cases g : aheadP s i k with
    | false => rw [of_behind h g]; simp [hopeR]
    | true => rw [of_ahead h g]; simp [hopeR]
/-- whether nobody of the first k goes ahead -/
def firstB (s : PS) (i : Int) : Nat → Bool
  | 0 => true
  | k + 1 => firstB s i k && !Ah.aheadI s.ts k i
theorem firstB_all {s : PS} {i : Int} : ∀ k, firstB s i k = true → ∀ j : Nat, j < k → Ah.aheadI s.ts j i = false
  | 0, _, j, hj => by omega
  | k + 1, h, j, hj => by
    unfold firstB at h
    rw [Bool.and_eq_true] at h
    by_cases g : j = k
    · subst g
      simpa using h.2
    · exact firstB_all k h.1 j (by omega)
end Go.Proofs.YthhbhbfkbncegaaGreatDoor.Sl
end
end
end
end
section
set_option linter.unusedVariables false
set_option linter.unusedSimpArgs false
namespace Go.Proofs.YthhbhbfkbncegaaGreatDoor.Sl
open Go.ChangeShapes Go.WideShapes Go.ChangeAt Go.RowKit Ws
open Im (PT PO PS TsAt OsAt SysAt tcells ocells SysWg)
open Dm (demI dearI dearE)

set_option maxRecDepth 100000 in
set_option maxHeartbeats 8000000 in
theorem interfereTells_walk (A B : Option Addr) (n c m d : Nat) (s : PS) (i k : Int) (r : Int) (br : -9223372036854775808 ≤ r ∧ r ≤ 9223372036854775807) (w : World) (hs : SysAt w A n B m s) (wf : SysWg s) (hnm : n ≤ maxLen ∧ m ≤ maxLen) (hT : Is.Tabs w) :
    Calls Tryz.prog 3 #[.agg #[.slice A n c, .slice B m d], .agg #[.int .i64 i, .int .i64 k], .int .i64 r] w fun e w' => e = .returned (.bool true) ∧ Same w w' := by
  obtain ⟨w0, hw0⟩ : ∃ w0, w0 = w.alloc (.cells #[.slice A n c, .slice B m d] 25) := ⟨_, rfl⟩
  obtain ⟨q0, hq0⟩ : ∃ q0, q0 = w.heap.size := ⟨_, rfl⟩
  obtain ⟨q1, hq1⟩ : ∃ q1, q1 = w0.heap.size := ⟨_, rfl⟩
  obtain ⟨w1, hw1⟩ : ∃ w1, w1 = w0.alloc (.cells #[.int .i64 i, .int .i64 k] 26) := ⟨_, rfl⟩
  have s0 : Same w w0 := hw0 ▸ (Same.refl w).alloc _
  have s1 : Same w0 w1 := hw1 ▸ (Same.refl w0).alloc _
  have b0 : Blk w0 q0 25 #[.slice A n c, .slice B m d] := by rw [hw0, hq0]; exact Blk.new w _ _
  have b1 : Blk w1 q1 26 #[.int .i64 i, .int .i64 k] := by rw [hw1, hq1]; exact Blk.new w0 _ _
  have e1 : w.heap.size + 1 = q1 := by rw [hq1, hw0]; show _ = (w.heap.push _).size; rw [Array.size_push]
  have S0 := Lib.hid (s0.trans s1)
  have B0 := Lib.hid (b0.same s1)
  have B1 := Lib.hid b1
  have HE0 := Lib.hid hw0
  have HE1 := Lib.hid hw1
  have HQ0 := Lib.hid hq0
  have E1 := Lib.hid e1
  have HS := Lib.hid (hs.same S0.out)
  have HT := Lib.hid (hT.same S0.out)
  have WF := Lib.hid wf
  have FE := Lib.hid (Sy.few31 A B n c m d s 20 w1 (hs.same S0.out) hnm)
  obtain ⟨c0, c1⟩ := (⟨B0.out.cell 0, B0.out.cell 1⟩ : _ ∧ _)
  simp only [List.getElem?_toArray, List.getElem?_cons_zero, List.getElem?_cons_succ] at c0 c1
  clear hw0 hw1 hq0 hq1 s0 s1 b0 b1 e1 hs hT wf
  go_enter Tryz.func3, Tryz.ntmps3
  go_upto_region 1 with fail
  rw [E1.out, ← HQ0.out, ← HE0.out, ← HE1.out]
  clear HE0 HE1 HQ0 E1
  go_wp2_with fail
  refine FE.out.mono ?_
  rintro e wf ⟨⟨bf, rfl, hbf⟩, sf⟩
  have SF := Lib.hid sf
  have B0 := Lib.hid (B0.out.same sf)
  have B1 := Lib.hid (B1.out.same sf)
  have AW := Lib.hid (fun W (h : Same wf W) => awake37 W (HT.out.same (sf.trans h)))
  have HT := Lib.hid (HT.out.same sf)
  have HS := Lib.hid (HS.out.same sf)
  clear sf FE c0 c1
  cases bf with
  | false =>
    clear hbf
    go_wp2_with fail
    refine (AW.out _ (Same.refl _)).mono ?_
    rintro e w3 ⟨rfl, s3⟩
    go_wp2_with fail
    go_ret
    exact ⟨rfl, S0.out.trans (SF.out.trans s3)⟩
  | true =>
    obtain ⟨hft, hfo⟩ := hbf rfl
    have hf : ∀ p ∈ s.ts, p.code.length ≤ 200 := hft.2
    have ho := few_wid hfo (by omega)
    have hsl := WF.out.sl
    have HO := Lib.hid (fun W (h : Same wf W) => ihope_any A B n c m d s i k W (HS.out.same h) hnm hf ho (HT.out.same h))
    have WR := Lib.hid (fun W (h : Same wf W) => iwrites_any A B n c m d s i k r br W (HS.out.same h) hnm hf ho (HT.out.same h))
    have FL := Lib.hid (fun W (h : Same wf W) => ifails_any A B n c m d s i k r br hsl W (HS.out.same h) hnm hf ho (HT.out.same h))
    have JB := Lib.hid (fun W (h : Same wf W) => ijob_any A B n c m d s i r br hsl W (HS.out.same h) hnm hf ho (HT.out.same h))
    have RR := Lib.hid (fun W (h : Same wf W) => rreads_any A B n c m d s i k W (HS.out.same h) hnm hf ho)
    have RW := Lib.hid (fun W (h : Same wf W) => rwrites37 A B n c m d s i k r br W (HS.out.same h) hnm hf ho)
    have RF := Lib.hid (fun W (h : Same wf W) => rfails37 A B n c m d s i k r br hsl W (HS.out.same h) hnm hf ho)
    have RJ := Lib.hid (fun W (h : Same wf W) => rjob37 A B n c m d s i r br hsl W (HS.out.same h) hnm hf ho)
    have HH := Lib.hid (hope_doc s i k)
    clear hbf hft hfo hf ho hsl
    generalize wrR (ofR s i k) r = x1 at *
    generalize flR (ofR s i k) r = x2 at *
    generalize jobI s i r = x3 at *
    generalize hopeR (ofR s i k) = x0 at *
    have ex0 : (x0 == x0) = true := by simp
    have ex1 : (x1 == x1) = true := by simp
    have ex2 : (x2 == x2) = true := by simp
    have ex3 : (x3 == x3) = true := by simp
    obtain ⟨c0, c1⟩ := (⟨B0.out.cell 0, B0.out.cell 1⟩ : _ ∧ _)
    simp only [List.getElem?_toArray, List.getElem?_cons_zero, List.getElem?_cons_succ] at c0 c1
    obtain ⟨e0, e1⟩ := (⟨B1.out.cell 0, B1.out.cell 1⟩ : _ ∧ _)
    simp only [List.getElem?_toArray, List.getElem?_cons_zero, List.getElem?_cons_succ] at e0 e1

    go_wp2_with fail
    go_quiet (fail)
    have SN := Lib.hid ((Same.refl wf).drewN nq)
    have c0 := SN.out.cell c0
    have c1 := SN.out.cell c1
    generalize wf.drewN nq = w3 at *
    go_wp2_with fail
    refine (RR.out _ SN.out).mono ?_
    rintro e wq ⟨rfl, s4⟩
    have S4 := Lib.hid (SN.out.trans s4)
    have c0 := s4.cell c0
    have c1 := s4.cell c1
    clear s4 SN RR e0 e1
    cases hrd : readsP s i k
    case' false =>
      have hx : x0 = false := by rw [HH.out, hrd]; rfl
      subst hx
      clear hrd HH
    case' true =>
      obtain ⟨_, k0, k1⟩ := reads_in hrd
      obtain ⟨kk, rfl⟩ : ∃ kk : Nat, k = kk := ⟨k.toNat, by omega⟩
      obtain ⟨o, hox⟩ : ∃ o, s.os[kk]? = some o := ⟨s.os[kk]'(by omega), List.getElem?_eq_getElem _⟩
      have HOB : obj s kk = o := by unfold obj; rw [Int.toNat_natCast, List.getD_eq_getElem?_getD, hox]; rfl
      have k2 : (kk : Int) < m := by have := HS.out.hm; omega
      have RA := Lib.hid (fun W (h : Same wf W) => Ah.rahead37 A B n c m d s i kk o W (HS.out.same h) hox)
      have HH := Lib.hid (show x0 = (decide (o.k = 3) && !Ah.aheadI s.ts o.ow i) by rw [HH.out, hrd]; unfold aheadP; rw [HOB]; simp)
      obtain ⟨bB, oB, rfl, Xo, co, Yo, do_, o0, o1, o2, o3, o4, o5, o6, o7, hsa, _⟩ := (HS.out.ho.same S4.out).at_ hox
      clear hrd hox HOB o1 o2 o3 o4 o5 o6 o7 hsa
      by_cases h3 : o.k = 3
      case' pos =>
        have f3 : (o.k == 3) = true := by simpa using h3
        have HH := Lib.hid (show x0 = !Ah.aheadI s.ts o.ow i by rw [HH.out, h3]; simp)
        clear h3
        generalize Ah.aheadI s.ts o.ow i = ab at *
        obtain rfl : x0 = !ab := HH.out
        clear HH
        go_wp2_with fail
        refine (RA.out _ S4.out).mono ?_
        rintro e wq ⟨rfl, s5⟩
        have S4 := Lib.hid (S4.out.trans s5)
        clear s5 RA o0
      case' neg =>
        have f3 : (o.k == 3) = false := by simpa using h3
        have hx : x0 = false := by rw [HH.out, decide_eq_false h3]; rfl
        subst hx
        clear h3 HH RA
    all_goals
      go_wp2_with fail
      have BB0 := Lib.hid (B0.out.same S4.out)
      refine wp_region_held_drew (S := fun w' => Same wq w') (by kernel_rfl) ?_ (fun hHeld => ?_)
      · exact (Same.refl wq).drew
      refine Ro.tn 0 ?_ ?_ ?_
      rotate_left
      · intro wS hSw; (try dsimp only at hSw); obtain ⟨v0, v1⟩ := (⟨(BB0.out.same hSw).cell 0, (BB0.out.same hSw).cell 1⟩ : _ ∧ _); simp only [List.getElem?_toArray, List.getElem?_cons_zero, List.getElem?_cons_succ] at v0 v1; go_simp; try with_reducible rfl
      try simp only [Ro.p]
      refine Ro.tn 1 ?_ ?_ ?_
      rotate_left
      · intro wS hSw; (try dsimp only at hSw); go_simp; try with_reducible rfl
      try simp only [Ro.p]
      refine Ro.tn 2 ?_ ?_ ?_
      rotate_left
      · intro wS hSw; (try dsimp only at hSw); go_simp; try with_reducible rfl
      try simp only [Ro.p]
      refine Ro.tn 4 ?_ ?_ ?_
      rotate_left
      · intro wS hSw; (try dsimp only at hSw); go_simp; try with_reducible rfl
      try simp only [Ro.p]
      refine Ro.one_on (i := 3) rfl (by kernel_rfl) (by rfl) (fun K hK => ?_)
      go_simp
      go_at_call 13
      refine (HO.out _ (S4.out.trans hHeld)).mono ?_
      rintro e wN ⟨rfl, sN⟩
      refine hK.out _ _ ?_ (fun hNew => ?_)
      · exact hHeld.trans sN
      clear hK K hHeld; have hHeld := hNew; clear hNew
      try simp only [Ro.p]
      refine Ro.tn 5 ?_ ?_ ?_
      rotate_left
      · intro wS hSw; (try dsimp only at hSw); go_simp; try with_reducible rfl
      try simp only [Ro.p]
      refine Ro.tn 6 ?_ ?_ ?_
      rotate_left
      · intro wS hSw; (try dsimp only at hSw); go_simp; try with_reducible rfl
      try simp only [Ro.p]
      refine Ro.tn 7 ?_ ?_ ?_
      rotate_left
      · intro wS hSw; (try dsimp only at hSw); obtain ⟨v0, v1⟩ := (⟨(BB0.out.same hSw).cell 0, (BB0.out.same hSw).cell 1⟩ : _ ∧ _); simp only [List.getElem?_toArray, List.getElem?_cons_zero, List.getElem?_cons_succ] at v0 v1; go_simp; try with_reducible rfl
      try simp only [Ro.p]
      refine Ro.tn 8 ?_ ?_ ?_
      rotate_left
      · intro wS hSw; (try dsimp only at hSw); go_simp; try with_reducible rfl
      try simp only [Ro.p]
      refine Ro.tn 9 ?_ ?_ ?_
      rotate_left
      · intro wS hSw; (try dsimp only at hSw); go_simp; try with_reducible rfl
      try simp only [Ro.p]
      refine Ro.tn 10 ?_ ?_ ?_
      rotate_left
      · intro wS hSw; (try dsimp only at hSw); go_simp; try with_reducible rfl
      try simp only [Ro.p]
      refine Ro.tn 12 ?_ ?_ ?_
      rotate_left
      · intro wS hSw; (try dsimp only at hSw); obtain ⟨v0, v1⟩ := (⟨(BB0.out.same hSw).cell 0, (BB0.out.same hSw).cell 1⟩ : _ ∧ _); simp only [List.getElem?_toArray, List.getElem?_cons_zero, List.getElem?_cons_succ] at v0 v1; go_simp; try with_reducible rfl
      try simp only [Ro.p]
      refine Ro.tn 13 ?_ ?_ ?_
      rotate_left
      · intro wS hSw; (try dsimp only at hSw); go_simp; try with_reducible rfl
      try simp only [Ro.p]
      refine Ro.tn 14 ?_ ?_ ?_
      rotate_left
      · intro wS hSw; (try dsimp only at hSw); go_simp; try with_reducible rfl
      try simp only [Ro.p]
      refine Ro.tn 15 ?_ ?_ ?_
      rotate_left
      · intro wS hSw; (try dsimp only at hSw); go_simp; try with_reducible rfl
      try simp only [Ro.p]
      refine Ro.one_on (i := 11) rfl (by kernel_rfl) (by rfl) (fun K hK => ?_)
      go_simp
      go_at_call 14
      refine (WR.out _ (S4.out.trans hHeld)).mono ?_
      rintro e wN ⟨rfl, sN⟩
      refine hK.out _ _ ?_ (fun hNew => ?_)
      · exact hHeld.trans sN
      clear hK K hHeld; have hHeld := hNew; clear hNew
      try simp only [Ro.p]
      refine Ro.one_on (i := 16) rfl (by kernel_rfl) (by rfl) (fun K hK => ?_)
      go_simp
      go_at_call 15
      refine (RW.out _ (S4.out.trans hHeld)).mono ?_
      rintro e wN ⟨rfl, sN⟩
      refine hK.out _ _ ?_ (fun hNew => ?_)
      · exact hHeld.trans sN
      clear hK K hHeld; have hHeld := hNew; clear hNew
      try simp only [Ro.p]
      refine Ro.tn 17 ?_ ?_ ?_
      rotate_left
      · intro wS hSw; (try dsimp only at hSw); go_simp; try with_reducible rfl
      try simp only [Ro.p]
      refine Ro.tn 18 ?_ ?_ ?_
      rotate_left
      · intro wS hSw; (try dsimp only at hSw); go_simp; try with_reducible rfl
      try simp only [Ro.p]
      refine Ro.tn 19 ?_ ?_ ?_
      rotate_left
      · intro wS hSw; (try dsimp only at hSw); go_simp; try with_reducible rfl
      try simp only [Ro.p]
      refine Ro.tn 20 ?_ ?_ ?_
      rotate_left
      · intro wS hSw; (try dsimp only at hSw); obtain ⟨v0, v1⟩ := (⟨(BB0.out.same hSw).cell 0, (BB0.out.same hSw).cell 1⟩ : _ ∧ _); simp only [List.getElem?_toArray, List.getElem?_cons_zero, List.getElem?_cons_succ] at v0 v1; go_simp; try with_reducible rfl
      try simp only [Ro.p]
      refine Ro.tn 21 ?_ ?_ ?_
      rotate_left
      · intro wS hSw; (try dsimp only at hSw); go_simp; try with_reducible rfl
      try simp only [Ro.p]
      refine Ro.tn 22 ?_ ?_ ?_
      rotate_left
      · intro wS hSw; (try dsimp only at hSw); go_simp; try with_reducible rfl
      try simp only [Ro.p]
      refine Ro.tn 23 ?_ ?_ ?_
      rotate_left
      · intro wS hSw; (try dsimp only at hSw); go_simp; try with_reducible rfl
      try simp only [Ro.p]
      refine Ro.tn 25 ?_ ?_ ?_
      rotate_left
      · intro wS hSw; (try dsimp only at hSw); obtain ⟨v0, v1⟩ := (⟨(BB0.out.same hSw).cell 0, (BB0.out.same hSw).cell 1⟩ : _ ∧ _); simp only [List.getElem?_toArray, List.getElem?_cons_zero, List.getElem?_cons_succ] at v0 v1; go_simp; try with_reducible rfl
      try simp only [Ro.p]
      refine Ro.tn 26 ?_ ?_ ?_
      rotate_left
      · intro wS hSw; (try dsimp only at hSw); go_simp; try with_reducible rfl
      try simp only [Ro.p]
      refine Ro.tn 27 ?_ ?_ ?_
      rotate_left
      · intro wS hSw; (try dsimp only at hSw); go_simp; try with_reducible rfl
      try simp only [Ro.p]
      refine Ro.tn 28 ?_ ?_ ?_
      rotate_left
      · intro wS hSw; (try dsimp only at hSw); go_simp; try with_reducible rfl
      try simp only [Ro.p]
      refine Ro.one_on (i := 24) rfl (by kernel_rfl) (by rfl) (fun K hK => ?_)
      go_simp
      go_at_call 16
      refine (FL.out _ (S4.out.trans hHeld)).mono ?_
      rintro e wN ⟨rfl, sN⟩
      refine hK.out _ _ ?_ (fun hNew => ?_)
      · exact hHeld.trans sN
      clear hK K hHeld; have hHeld := hNew; clear hNew
      try simp only [Ro.p]
      refine Ro.one_on (i := 29) rfl (by kernel_rfl) (by rfl) (fun K hK => ?_)
      go_simp
      go_at_call 17
      refine (RF.out _ (S4.out.trans hHeld)).mono ?_
      rintro e wN ⟨rfl, sN⟩
      refine hK.out _ _ ?_ (fun hNew => ?_)
      · exact hHeld.trans sN
      clear hK K hHeld; have hHeld := hNew; clear hNew
      try simp only [Ro.p]
      refine Ro.tn 30 ?_ ?_ ?_
      rotate_left
      · intro wS hSw; (try dsimp only at hSw); go_simp; try with_reducible rfl
      try simp only [Ro.p]
      refine Ro.tn 31 ?_ ?_ ?_
      rotate_left
      · intro wS hSw; (try dsimp only at hSw); go_simp; try with_reducible rfl
      try simp only [Ro.p]
      refine Ro.tn 32 ?_ ?_ ?_
      rotate_left
      · intro wS hSw; (try dsimp only at hSw); go_simp; try with_reducible rfl
      try simp only [Ro.p]
      refine Ro.tn 33 ?_ ?_ ?_
      rotate_left
      · intro wS hSw; (try dsimp only at hSw); obtain ⟨v0, v1⟩ := (⟨(BB0.out.same hSw).cell 0, (BB0.out.same hSw).cell 1⟩ : _ ∧ _); simp only [List.getElem?_toArray, List.getElem?_cons_zero, List.getElem?_cons_succ] at v0 v1; go_simp; try with_reducible rfl
      try simp only [Ro.p]
      refine Ro.tn 34 ?_ ?_ ?_
      rotate_left
      · intro wS hSw; (try dsimp only at hSw); go_simp; try with_reducible rfl
      try simp only [Ro.p]
      refine Ro.tn 35 ?_ ?_ ?_
      rotate_left
      · intro wS hSw; (try dsimp only at hSw); go_simp; try with_reducible rfl
      try simp only [Ro.p]
      refine Ro.tn 37 ?_ ?_ ?_
      rotate_left
      · intro wS hSw; (try dsimp only at hSw); obtain ⟨v0, v1⟩ := (⟨(BB0.out.same hSw).cell 0, (BB0.out.same hSw).cell 1⟩ : _ ∧ _); simp only [List.getElem?_toArray, List.getElem?_cons_zero, List.getElem?_cons_succ] at v0 v1; go_simp; try with_reducible rfl
      try simp only [Ro.p]
      refine Ro.tn 38 ?_ ?_ ?_
      rotate_left
      · intro wS hSw; (try dsimp only at hSw); go_simp; try with_reducible rfl
      try simp only [Ro.p]
      refine Ro.tn 39 ?_ ?_ ?_
      rotate_left
      · intro wS hSw; (try dsimp only at hSw); go_simp; try with_reducible rfl
      try simp only [Ro.p]
      refine Ro.one_on (i := 36) rfl (by kernel_rfl) (by rfl) (fun K hK => ?_)
      go_simp
      go_at_call 18
      refine (JB.out _ (S4.out.trans hHeld)).mono ?_
      rintro e wN ⟨rfl, sN⟩
      refine hK.out _ _ ?_ (fun hNew => ?_)
      · exact hHeld.trans sN
      clear hK K hHeld; have hHeld := hNew; clear hNew
      try simp only [Ro.p]
      refine Ro.one_on (i := 40) rfl (by kernel_rfl) (by rfl) (fun K hK => ?_)
      go_simp
      go_at_call 19
      refine (RJ.out _ (S4.out.trans hHeld)).mono ?_
      rintro e wN ⟨rfl, sN⟩
      refine hK.out _ _ ?_ (fun hNew => ?_)
      · exact hHeld.trans sN
      clear hK K hHeld; have hHeld := hNew; clear hNew
      try simp only [Ro.p]
      refine Ro.tn 41 ?_ ?_ ?_
      rotate_left
      · intro wS hSw; (try dsimp only at hSw); go_simp; try with_reducible rfl
      try simp only [Ro.p]
      refine Ro.tn 42 ?_ ?_ ?_
      rotate_left
      · intro wS hSw; (try dsimp only at hSw); go_simp; try with_reducible rfl
      try simp only [Ro.p]
      refine Ro.tn 43 ?_ ?_ ?_
      rotate_left
      · intro wS hSw; (try dsimp only at hSw); go_simp; try with_reducible rfl
      try simp only [Ro.p]
      refine Ro.one_on (i := 44) rfl (by kernel_rfl) (by rfl) (fun K hK => ?_)
      go_simp
      go_at_call 10
      refine (AW.out _ (S4.out.trans hHeld)).mono ?_
      rintro e wN ⟨rfl, sN⟩
      refine hK.out _ _ ?_ (fun hNew => ?_)
      · exact hHeld.trans sN
      clear hK K hHeld; have hHeld := hNew; clear hNew
      try simp only [Ro.p]
      refine Ro.tn 45 ?_ ?_ ?_
      rotate_left
      · intro wS hSw; (try dsimp only at hSw); go_simp; try with_reducible rfl
      try simp only [Ro.p]
      refine Ro.tn 46 ?_ ?_ ?_
      rotate_left
      · intro wS hSw; (try dsimp only at hSw); go_simp; try with_reducible rfl
      try simp only [Ro.p]
      refine wpAnyH_done (by kernel_rfl) ?_ _
      go_wp2_with fail
      go_ret
      exact ⟨rfl, S0.out.trans (SF.out.trans (S4.out.trans hHeld))⟩
end Go.Proofs.YthhbhbfkbncegaaGreatDoor.Sl
end
end
