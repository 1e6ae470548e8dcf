/-

  The example of four slots (the law's awake).
-/
import Derived.Test.YtejajmdmfipplabDoorChenGo
import Derived.Test.YtejajmdmfipplabDoorMemFn
import Derived.Deep.LoopGhost
set_option linter.unusedSimpArgs false
set_option linter.unusedVariables false
namespace Go.Proofs.YtejajmdmfipplabDoor.Ch
open Go.ChangeShapes Go.WideShapes Go.ChangeAt Go.RowKit Ws Mm Pa
open Go.Proofs.YtejajmdmfipplabDoor.Ob (obj_cells)

/-- so many steps, one behind the other -/
def it (o : Op.Im) : Nat → Op.St × List Int → Op.St × List Int
  | 0, r => r
  | k + 1, r => Op.chen o (it o k r).1 (it o k r).2

theorem it_ok (o : Op.Im) (hw : Op.chenAl o) (r : Op.St × List Int) (h : Op.chenOk o r.1 ∧ Op.Wd r.1.rc ∧ Op.Wd r.2) : ∀ k, (∀ j, j < k → (it o j r).1.over = false) →
    Op.chenOk o (it o k r).1 ∧ Op.Wd (it o k r).1.rc ∧ Op.Wd (it o k r).2 ∧ (it o k r).2.length = r.2.length ∧ (it o k r).1.steps = r.1.steps + k
  | 0, _ => ⟨h.1, h.2.1, h.2.2, rfl, rfl⟩
  | k + 1, hj => by
    obtain ⟨h1, h2, h3, h4, h5⟩ := it_ok o hw r h k (fun j hjk => hj j (by omega))
    have f := Op.chen_fine o _ _ hw h1 h2 h3 (hj k (by omega))
    exact ⟨f.ok, f.wrc, f.words, f.len.trans h4, by show (Op.chen o _ _).1.steps = _; rw [f.steps, h5]; omega⟩

theorem row_lit (w : World) (T : TypeId) (cs : List Value) : Row (w.alloc (.cells cs.toArray T)) (some ⟨w.heap.size, 0, none⟩) cs := by
  intro j u hj
  refine ⟨_, _, rfl, ?_⟩
  rw [Nat.zero_add]
  exact (Same.refl _).new (by rw [List.getElem?_toArray]; exact hj)
def oA : Op.Im := ⟨0, 1, 1, 0, 0, 0, true⟩
def rA : Op.St × List Int := (Op.start [7], lay0 1 0 1 0 [5])
theorem rA_over (k : Nat) (h : k < 5) : (it oA k rA).1.over = false := by
  match k, h with
  | 0, _ | 1, _ | 2, _ | 3, _ | 4, _ => rfl
theorem rA_end : (it oA 5 rA).1.over = true ∧ (it oA 5 rA).1.steps = 5 ∧ (it oA 5 rA).2 = [1, 0, 5, 7, 0] := ⟨rfl, rfl, rfl⟩
theorem rA_ok : Op.chenOk oA rA.1 ∧ Op.Wd rA.1.rc ∧ Op.Wd rA.2 := by
  refine ⟨Op.chen_start _ _ (fun _ => rfl) (fun h => by cases h), ?_, ?_⟩
  · intro x hx
    simp [rA, Op.start] at hx
    omega
  · intro x hx
    have e : rA.2 = [0, 0, 5, 0, 0] := rfl
    rw [e] at hx
    simp at hx
    omega

set_option maxHeartbeats 2000000 in
set_option maxRecDepth 100000 in
theorem awake_any (w : World) (hT : TZ w) : Calls Tryd.prog 14 #[] w fun e w' => e = .returned (.bool true) ∧ Same w w' := by
  have hr1 : rightB (1 : Nat) (0 : Nat) (0 : Nat) 0 1 1 = true := by decide
  have HR1 := Lib.hid hr1
  have HTZ := Lib.hid hT
  have HTL : Hid (2 < w.heap.size) := Lib.hid hT.lt
  clear hT
  have HSA : Hid (0 ≤ (0 : Int) ∧ (0 : Int) < 4294967296) := Lib.hid (by decide)
  clear hr1
  have z1 : (w.alloc (.cells #[.int .u32 5] 22)).heap.size = w.heap.size + 1 := by simp
  have z2 : ((w.alloc (.cells #[.int .u32 5] 22)).alloc (.cells #[.int .i64 1] 3)).heap.size = w.heap.size + 1 + 1 := by simp
  have z3 : (((w.alloc (.cells #[.int .u32 5] 22)).alloc (.cells #[.int .i64 1] 3)).alloc (.cells #[.int .i64 2, .int .i64 1, .int .i64 0, .int .i64 0, .int .u32 0, .slice (some ⟨w.heap.size, 0, none⟩) 1 1, .int .i64 0, .slice (some ⟨w.heap.size + 1, 0, none⟩) 1 1] 45)).heap.size = w.heap.size + 1 + 1 + 1 := by simp
  have s12 : Same (w.alloc (.cells #[.int .u32 5] 22)) ((((w.alloc (.cells #[.int .u32 5] 22)).alloc (.cells #[.int .i64 1] 3)).alloc (.cells #[.int .i64 2, .int .i64 1, .int .i64 0, .int .i64 0, .int .u32 0, .slice (some ⟨w.heap.size, 0, none⟩) 1 1, .int .i64 0, .slice (some ⟨w.heap.size + 1, 0, none⟩) 1 1] 45)).alloc (.cells #[.int .u32 7] 22)) := (((Same.refl (w.alloc (.cells #[.int .u32 5] 22))).alloc _).alloc _).alloc _
  have r5 : Row ((((w.alloc (.cells #[.int .u32 5] 22)).alloc (.cells #[.int .i64 1] 3)).alloc (.cells #[.int .i64 2, .int .i64 1, .int .i64 0, .int .i64 0, .int .u32 0, .slice (some ⟨w.heap.size, 0, none⟩) 1 1, .int .i64 0, .slice (some ⟨w.heap.size + 1, 0, none⟩) 1 1] 45)).alloc (.cells #[.int .u32 7] 22)) (some ⟨w.heap.size, 0, none⟩) (([5] : List Int).map (Value.int .u32)) := by
    intro j u hj
    cases j with
    | zero =>
      simp at hj
      subst hj
      exact ⟨_, _, rfl, s12.cell ((Same.refl (w.alloc (.cells #[.int .u32 5] 22))).new rfl)⟩
    | succ j => simp at hj
  have r7 : Row ((((w.alloc (.cells #[.int .u32 5] 22)).alloc (.cells #[.int .i64 1] 3)).alloc (.cells #[.int .i64 2, .int .i64 1, .int .i64 0, .int .i64 0, .int .u32 0, .slice (some ⟨w.heap.size, 0, none⟩) 1 1, .int .i64 0, .slice (some ⟨w.heap.size + 1, 0, none⟩) 1 1] 45)).alloc (.cells #[.int .u32 7] 22)) (some ⟨w.heap.size + 1 + 1 + 1, 0, none⟩) (([7] : List Int).map (Value.int .u32)) := by
    intro j u hj
    cases j with
    | zero =>
      simp at hj
      subst hj
      exact ⟨_, _, rfl, by rw [← z3]; exact (Same.refl ((((w.alloc (.cells #[.int .u32 5] 22)).alloc (.cells #[.int .i64 1] 3)).alloc (.cells #[.int .i64 2, .int .i64 1, .int .i64 0, .int .i64 0, .int .u32 0, .slice (some ⟨w.heap.size, 0, none⟩) 1 1, .int .i64 0, .slice (some ⟨w.heap.size + 1, 0, none⟩) 1 1] 45)).alloc (.cells #[.int .u32 7] 22))).new rfl⟩
    | succ j => simp at hj
  have hb : Blk ((((w.alloc (.cells #[.int .u32 5] 22)).alloc (.cells #[.int .i64 1] 3)).alloc (.cells #[.int .i64 2, .int .i64 1, .int .i64 0, .int .i64 0, .int .u32 0, .slice (some ⟨w.heap.size, 0, none⟩) 1 1, .int .i64 0, .slice (some ⟨w.heap.size + 1, 0, none⟩) 1 1] 45)).alloc (.cells #[.int .u32 7] 22)) (w.heap.size + 1 + 1) 45 #[.int .i64 2, .int .i64 1, .int .i64 0, .int .i64 0, .int .u32 0, .slice (some ⟨w.heap.size, 0, none⟩) 1 1, .int .i64 0, .slice (some ⟨w.heap.size + 1, 0, none⟩) 1 1] := by
    rw [← z2]
    exact (Blk.new ((w.alloc (.cells #[.int .u32 5] 22)).alloc (.cells #[.int .i64 1] 3)) 45 #[.int .i64 2, .int .i64 1, .int .i64 0, .int .i64 0, .int .u32 0, .slice (some ⟨w.heap.size, 0, none⟩) 1 1, .int .i64 0, .slice (some ⟨w.heap.size + 1, 0, none⟩) 1 1]).same ((Same.refl _).alloc _)
  have hs : Same w ((((w.alloc (.cells #[.int .u32 5] 22)).alloc (.cells #[.int .i64 1] 3)).alloc (.cells #[.int .i64 2, .int .i64 1, .int .i64 0, .int .i64 0, .int .u32 0, .slice (some ⟨w.heap.size, 0, none⟩) 1 1, .int .i64 0, .slice (some ⟨w.heap.size + 1, 0, none⟩) 1 1] 45)).alloc (.cells #[.int .u32 7] 22)) := ((((Same.refl w).alloc _).alloc _).alloc _).alloc _
  have R5 := Lib.hid r5
  have R7 := Lib.hid r7
  have HB := Lib.hid hb
  have HS := Lib.hid hs
  clear z1 z2 z3 s12 r5 r7 hb hs
  go_enter Tryd.func14, Tryd.ntmps14
  go_wp2_with fail
  generalize ((((w.alloc (.cells #[.int .u32 5] 22)).alloc (.cells #[.int .i64 1] 3)).alloc (.cells #[.int .i64 2, .int .i64 1, .int .i64 0, .int .i64 0, .int .u32 0, .slice (some ⟨w.heap.size, 0, none⟩) 1 1, .int .i64 0, .slice (some ⟨w.heap.size + 1, 0, none⟩) 1 1] 45)).alloc (.cells #[.int .u32 7] 22)) = w4 at *
  obtain ⟨q5, hq5⟩ : ∃ q, q = w.heap.size := ⟨_, rfl⟩
  rw [← hq5]
  rw [← hq5] at R5 R7 HB
  have HQ5 := Lib.hid hq5
  clear hq5
  refine (begin_wr 1 0 0 0 0 0 (some ⟨q5, 0, none⟩) (some ⟨q5 + 1, 0, none⟩) 1 1 1 1 [7] (some ⟨q5 + 1 + 1 + 1, 0, none⟩) 1 w4 HR1.out rfl R7.out HSA.out).mono ?_
  rintro e w5 ⟨g, p, rfl, s5, hg5, fb5⟩
  have HB5 := Lib.hid (HB.out.same s5)
  have R55 := Lib.hid (R5.out.same s5)
  have HS5 := Lib.hid (HS.out.trans s5)
  have HF5 := Lib.hid fb5
  have HG5 : Hid (w.heap.size ≤ g) := Lib.hid (Nat.le_trans HS.out.size hg5)
  clear s5 hg5 fb5 HB R5 R7 HS
  obtain ⟨d0, d1, d2, d3, d4, d5, d6, d7⟩ := obj_cells HB5.out
  go_wp2_with fail
  refine (lay_yes 1 0 (0 : Nat) 0 0 (some ⟨q5, 0, none⟩) (some ⟨q5 + 1, 0, none⟩) 1 1 1 1 [5] w5 HR1.out R55.out rfl HSA.out).mono ?_
  rintro e w6 ⟨gl, rfl, s6, o6⟩
  have HF6 := Lib.hid (HF5.out.same s6)
  have HS6 := Lib.hid (HS5.out.trans s6)
  have HR6 := Lib.hid o6.row
  clear s6 o6 d0 d1 d2 d3 d4 d5 d6 d7 HB5 R55 HF5 HS5
  go_wp2_with fail
  refine (memory_any (some ⟨gl, 0, none⟩) 5 5 (lay0 1 0 1 0 [5]) w6 rfl (by omega) HR6.out).mono ?_
  rintro e w7 ⟨gm, rfl, s7, m7⟩
  have HF7 := Lib.hid (HF6.out.same s7)
  have HS7 := Lib.hid (HS6.out.trans s7)
  have HM7 := Lib.hid m7
  have HGN : Hid (¬ w6.heap.size ≤ g) := Lib.hid (by have := HF6.out.blk.lt; omega)
  have HW6 : Hid (w.heap.size ≤ w6.heap.size) := Lib.hid HS6.out.size
  clear s7 m7 HF6 HS6 HR6
  go_wp2_with fail
  go_loopg [] 5 (fun gk wx => ∃ k : Nat, k + gk = 5 ∧ ∃ p st, FB wx g 96 oA 5 (it oA k rA).1 p ∧ Mem wx (fun i => w6.heap.size ≤ i) gm (it oA k rA).2 st ∧ Same w wx)
  case atStart => exact ⟨0, rfl, p, 0, HF7.out, HM7.out, HS7.out⟩
  case round =>
    obtain ⟨k, hk, p, st, fb, m, s⟩ := hrel
    have HFB := Lib.hid fb
    have HM := Lib.hid m
    have HSS := Lib.hid s
    clear fb m s
    cases gk with
    | zero =>
      obtain rfl : k = 5 := by omega
      go_wp2_with fail
      refine (step_over wr HFB.out (some ⟨gm, 0, none⟩) rA_end.1).mono ?_
      rintro e w8 ⟨rfl, s8⟩
      have HF8 := Lib.hid (HFB.out.same s8)
      have HM8 := Lib.hid (HM.out.same s8)
      have HS8 := Lib.hid (HSS.out.trans s8)
      clear s8 HFB HM HSS
      have HST := Lib.hid (steps_any w8 HF8.out)
      rw [rA_end.2.1] at HST
      go_wp2_with fail
      refine HST.out.mono ?_
      rintro e w' ⟨rfl, rfl⟩
      have HWD := Lib.hid (words_any w8 HM8.out)
      rw [rA_end.2.2] at HWD
      go_wp2_with fail
      refine HWD.out.mono ?_
      rintro e w9 ⟨g9, c9, rfl, s9, o9⟩
      have HO9 := Lib.hid o9.row
      have HS9 := Lib.hid (HS8.out.trans s9)
      clear s9 o9
      go_wp2_with fail
      have HL9 : Hid (Row (w9.alloc (.cells #[.int .u32 1, .int .u32 0, .int .u32 5, .int .u32 7, .int .u32 0] 22)) (some ⟨w9.heap.size, 0, none⟩) (([1, 0, 5, 7, 0] : List Int).map (Value.int .u32))) := Lib.hid (row_lit w9 22 _)
      refine (words_eq _ _ 5 5 _ _ [1, 0, 5, 7, 0] [1, 0, 5, 7, 0] _ rfl rfl (HO9.out.same ((Same.refl w9).alloc _)) HL9.out (by omega) (by omega)).mono ?_
      rintro e w10 ⟨rfl, q, rfl⟩
      rw [decide_eq_true rfl]
      go_wp2
      go_ret
      exact ⟨rfl, (HS9.out.alloc _).drewN q⟩
    | succ gk =>
      have hk5 : k < 5 := by omega
      have OK := it_ok oA ⟨⟨by decide, by decide⟩, ⟨by decide, by decide⟩, by decide⟩ rA rA_ok k (fun j hj => rA_over j (by omega))
      have ov := rA_over k hk5
      have ST := step_go wr (HTZ.out.same HSS.out) ⟨by have := HTL.out; have := HW6.out; omega, by have := HTL.out; have := HG5.out; omega⟩ HFB.out HM.out HGN.out OK.2.2.1 OK.1 ⟨⟨by decide, by decide⟩, ⟨by decide, by decide⟩, by decide⟩ (by rw [OK.2.2.2.1]; decide) rfl ov (by rw [OK.2.2.2.2]; show 0 + k ≤ 1000; omega)
      have HST := Lib.hid ST
      clear OK ov ST
      go_wp2_with fail
      refine HST.out.mono ?_
      rintro e w8 ⟨rfl, p', fb', m', c'⟩
      have HF8 := Lib.hid fb'
      have HM8 := Lib.hid m'
      have HS8 := Lib.hid (HSS.out.more c' (fun i hi => by rcases hi with hi | hi; exact Nat.le_trans HW6.out hi; rw [hi]; exact HG5.out))
      clear fb' m' c'
      go_wp2
      go_roundg gk
      case rel => exact ⟨k + 1, by omega, p', _, HF8.out, HM8.out, HS8.out⟩
      case measure => omega

end Go.Proofs.YtejajmdmfipplabDoor.Ch
