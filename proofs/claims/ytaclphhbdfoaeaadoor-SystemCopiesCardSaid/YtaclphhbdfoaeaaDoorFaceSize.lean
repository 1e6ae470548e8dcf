/-

  How many words an object of any kind has: of package object, and of the document.
-/
import Derived.Test.YtaclphhbdfoaeaaDoorFace
set_option linter.unusedVariables false
set_option linter.unusedSimpArgs false
namespace Go.Proofs.YtaclphhbdfoaeaaDoor.Fc
open Go.ChangeShapes Go.WideShapes Go.ChangeAt Go.RowKit Ws

def sizeF (k wd sl cp sa : Int) (il rl : Nat) : Int := if rightF k wd sl cp sa il rl = true then (if k = 1 then 4 + 4 * wd else if k = 2 then 1 + (rl : Int) + ((rl : Int) + 2) * wd else if k = 3 then 1 + wd else if k = 4 then 1 + sl * wd else if k = 5 then 1 + (rl : Int) + sl * wd else if k = 6 then 2 + sl * wd else 0) else 0
theorem size_1 (wd sl cp sa : Int) (il rl : Nat) : sizeF 1 wd sl cp sa il rl = if Fo.rightB wd sl cp sa il rl = true then 4 + 4 * wd else 0 := by unfold sizeF; rw [right_1]; simp
theorem size_2 (wd sl cp sa : Int) (il rl : Nat) : sizeF 2 wd sl cp sa il rl = if Ch.rightB wd sl cp sa il rl = true then 1 + (rl : Int) + ((rl : Int) + 2) * wd else 0 := by unfold sizeF; rw [right_2]; simp
theorem size_3 (wd sl cp sa : Int) (il rl : Nat) : sizeF 3 wd sl cp sa il rl = if Sq.rightB wd sl cp sa il rl = true then 1 + wd else 0 := by unfold sizeF; rw [right_3]; simp
theorem size_4 (wd sl cp sa : Int) (il rl : Nat) : sizeF 4 wd sl cp sa il rl = if Rg.rightB wd sl cp sa il rl = true then 1 + sl * wd else 0 := by unfold sizeF; rw [right_4]; simp
theorem size_5 (wd sl cp sa : Int) (il rl : Nat) : sizeF 5 wd sl cp sa il rl = if Cb.rightB wd sl cp sa il rl = true then 1 + (rl : Int) + sl * wd else 0 := by unfold sizeF; rw [right_5]; simp
theorem size_6 (wd sl cp sa : Int) (il rl : Nat) : sizeF 6 wd sl cp sa il rl = if Ff.rightB wd sl cp sa il rl = true then 2 + sl * wd else 0 := by unfold sizeF; rw [right_6]; simp
theorem size_none0 {k : Int} (wd sl cp sa : Int) (il rl : Nat) (h : k < 1 ∨ 6 < k) : sizeF k wd sl cp sa il rl = 0 := by
  unfold sizeF
  rw [right_none wd sl cp sa il rl h, if_neg Bool.false_ne_true]
theorem sz_1 (wd sl cp sa ow : Int) (ia ra : Option Addr) (il ic rl rc : Nat) (w : World) :
    Calls Tryd.prog 71 #[.agg #[.int .i64 1, .int .i64 wd, .int .i64 sl, .int .i64 cp, .int .u32 sa, .slice ia il ic, .int .i64 ow, .slice ra rl rc]] w fun e w' => e = .returned (.int .i64 (sizeF 1 wd sl cp sa il rl)) ∧ Same w w' := by
  rw [size_1]
  cases h : Fo.rightB wd sl cp sa il rl
  · rw [if_neg Bool.false_ne_true]
    exact Fo.size_no wd sl cp sa ow ia ra il ic rl rc w h
  · rw [if_pos rfl]
    exact Fo.size_yes wd sl cp sa ow ia ra il ic rl rc w h
set_option maxRecDepth 100000 in
theorem size_of_1 (wd sl cp sa ow : Int) (ia ra : Option Addr) (il ic rl rc : Nat) (w : World) :
    Calls Tryd.prog 64 #[.agg #[.int .i64 1, .int .i64 wd, .int .i64 sl, .int .i64 cp, .int .u32 sa, .slice ia il ic, .int .i64 ow, .slice ra rl rc]] w fun e w' => e = .returned (.int .i64 (sizeF 1 wd sl cp sa il rl)) ∧ Same w w' := by
  have HC := Lib.hid (fun w' => sz_1 wd sl cp sa ow ia ra il ic rl rc w')
  have hb0 := Blk.new w 39 #[.int .i64 1, .int .i64 wd, .int .i64 sl, .int .i64 cp, .int .u32 sa, .slice ia il ic, .int .i64 ow, .slice ra rl rc]
  have HS0 := Lib.hid ((Same.refl w).alloc (.cells #[.int .i64 1, .int .i64 wd, .int .i64 sl, .int .i64 cp, .int .u32 sa, .slice ia il ic, .int .i64 ow, .slice ra rl rc] 39))
  have HB0 := Lib.hid hb0
  clear hb0
  generalize sizeF 1 wd sl cp sa il rl = rb at *
  go_enter Tryd.func64, Tryd.ntmps64
  go_wp2_with fail
  refine (face_1 _).mono ?_
  rintro e w2 ⟨rfl, s2⟩
  have HZ := Lib.hid (Blk.new w2 97 #[.string ⟨#[]⟩, .nilFunc, .nilFunc, .nilFunc, .nilFunc])
  have HS2 := Lib.hid (HS0.out.trans s2)
  have hb2 := HB0.out.same s2
  have hlt := hb2.lt
  have hb3 := (hb2.same ((Same.refl w2).alloc (.cells #[.string ⟨#[]⟩, .nilFunc, .nilFunc, .nilFunc, .nilFunc] 97)))
  have HB := Lib.hid (Blk.chg hb3 (chg_setRow (Chg.refl (fun i => i = w2.heap.size) _) (.inl rfl) #[.string ⟨#[102, 111, 117, 114]⟩, .func (.func 70) #[] #[], .func (.func 71) #[] #[], .func (.func 72) #[] #[], .func (.func 73) #[] #[]]) (by omega))
  have HF := Lib.hid (row_blk (cs := #[.string ⟨#[102, 111, 117, 114]⟩, .func (.func 70) #[] #[], .func (.func 71) #[] #[], .func (.func 72) #[] #[], .func (.func 73) #[] #[]]) HZ.out)
  have HS3 := Lib.hid (show Same w ((w2.alloc (.cells #[.string ⟨#[]⟩, .nilFunc, .nilFunc, .nilFunc, .nilFunc] 97)).setRow w2.heap.size #[.string ⟨#[102, 111, 117, 114]⟩, .func (.func 70) #[] #[], .func (.func 71) #[] #[], .func (.func 72) #[] #[], .func (.func 73) #[] #[]]) from chg_setRow (HS2.out.alloc _) (.inr HS2.out.size) _)
  clear s2 hb2 hb3 hlt HB0 HS0
  have d0 : ((w2.alloc (.cells #[.string ⟨#[]⟩, .nilFunc, .nilFunc, .nilFunc, .nilFunc] 97)).setRow w2.heap.size #[.string ⟨#[102, 111, 117, 114]⟩, .func (.func 70) #[] #[], .func (.func 71) #[] #[], .func (.func 72) #[] #[], .func (.func 73) #[] #[]]).cell? ⟨w.heap.size, 0, none⟩ = some (.int .i64 1) := HB.out.cell 0
  have d1 : ((w2.alloc (.cells #[.string ⟨#[]⟩, .nilFunc, .nilFunc, .nilFunc, .nilFunc] 97)).setRow w2.heap.size #[.string ⟨#[102, 111, 117, 114]⟩, .func (.func 70) #[] #[], .func (.func 71) #[] #[], .func (.func 72) #[] #[], .func (.func 73) #[] #[]]).cell? ⟨w.heap.size, 1, none⟩ = some (.int .i64 wd) := HB.out.cell 1
  have d2 : ((w2.alloc (.cells #[.string ⟨#[]⟩, .nilFunc, .nilFunc, .nilFunc, .nilFunc] 97)).setRow w2.heap.size #[.string ⟨#[102, 111, 117, 114]⟩, .func (.func 70) #[] #[], .func (.func 71) #[] #[], .func (.func 72) #[] #[], .func (.func 73) #[] #[]]).cell? ⟨w.heap.size, 2, none⟩ = some (.int .i64 sl) := HB.out.cell 2
  have d3 : ((w2.alloc (.cells #[.string ⟨#[]⟩, .nilFunc, .nilFunc, .nilFunc, .nilFunc] 97)).setRow w2.heap.size #[.string ⟨#[102, 111, 117, 114]⟩, .func (.func 70) #[] #[], .func (.func 71) #[] #[], .func (.func 72) #[] #[], .func (.func 73) #[] #[]]).cell? ⟨w.heap.size, 3, none⟩ = some (.int .i64 cp) := HB.out.cell 3
  have d4 : ((w2.alloc (.cells #[.string ⟨#[]⟩, .nilFunc, .nilFunc, .nilFunc, .nilFunc] 97)).setRow w2.heap.size #[.string ⟨#[102, 111, 117, 114]⟩, .func (.func 70) #[] #[], .func (.func 71) #[] #[], .func (.func 72) #[] #[], .func (.func 73) #[] #[]]).cell? ⟨w.heap.size, 4, none⟩ = some (.int .u32 sa) := HB.out.cell 4
  have d5 : ((w2.alloc (.cells #[.string ⟨#[]⟩, .nilFunc, .nilFunc, .nilFunc, .nilFunc] 97)).setRow w2.heap.size #[.string ⟨#[102, 111, 117, 114]⟩, .func (.func 70) #[] #[], .func (.func 71) #[] #[], .func (.func 72) #[] #[], .func (.func 73) #[] #[]]).cell? ⟨w.heap.size, 5, none⟩ = some (.slice ia il ic) := HB.out.cell 5
  have d6 : ((w2.alloc (.cells #[.string ⟨#[]⟩, .nilFunc, .nilFunc, .nilFunc, .nilFunc] 97)).setRow w2.heap.size #[.string ⟨#[102, 111, 117, 114]⟩, .func (.func 70) #[] #[], .func (.func 71) #[] #[], .func (.func 72) #[] #[], .func (.func 73) #[] #[]]).cell? ⟨w.heap.size, 6, none⟩ = some (.int .i64 ow) := HB.out.cell 6
  have d7 : ((w2.alloc (.cells #[.string ⟨#[]⟩, .nilFunc, .nilFunc, .nilFunc, .nilFunc] 97)).setRow w2.heap.size #[.string ⟨#[102, 111, 117, 114]⟩, .func (.func 70) #[] #[], .func (.func 71) #[] #[], .func (.func 72) #[] #[], .func (.func 73) #[] #[]]).cell? ⟨w.heap.size, 7, none⟩ = some (.slice ra rl rc) := HB.out.cell 7
  have df : ((w2.alloc (.cells #[.string ⟨#[]⟩, .nilFunc, .nilFunc, .nilFunc, .nilFunc] 97)).setRow w2.heap.size #[.string ⟨#[102, 111, 117, 114]⟩, .func (.func 70) #[] #[], .func (.func 71) #[] #[], .func (.func 72) #[] #[], .func (.func 73) #[] #[]]).cell? ⟨w2.heap.size, 2, none⟩ = some (.func (.func 71) #[] #[]) := HF.out.cell 2
  go_wp2_with (refine wpList_store_row rfl 97 (.tmp 3) (.tmp 9) rfl w2.heap.size #[.string ⟨#[102, 111, 117, 114]⟩, .func (.func 70) #[] #[], .func (.func 71) #[] #[], .func (.func 72) #[] #[], .func (.func 73) #[] #[]] rfl rfl 97 #[.string ⟨#[]⟩, .nilFunc, .nilFunc, .nilFunc, .nilFunc] HZ.out face_size rfl one_1 ?_)
  refine (HC.out _).mono ?_
  rintro e w4 ⟨rfl, s4⟩
  go_wp2_with fail
  go_ret
  exact ⟨rfl, HS3.out.trans s4⟩
theorem sz_2 (wd sl cp sa ow : Int) (ia ra : Option Addr) (il ic rl rc : Nat) (w : World) (hsa : 0 ≤ sa ∧ sa < 4294967296 := by assumption) :
    Calls Tryd.prog 75 #[.agg #[.int .i64 2, .int .i64 wd, .int .i64 sl, .int .i64 cp, .int .u32 sa, .slice ia il ic, .int .i64 ow, .slice ra rl rc]] w fun e w' => e = .returned (.int .i64 (sizeF 2 wd sl cp sa il rl)) ∧ Same w w' := by
  rw [size_2]
  cases h : Ch.rightB wd sl cp sa il rl
  · rw [if_neg Bool.false_ne_true]
    exact Ch.size_no wd sl cp sa ow ia ra il ic rl rc w h
  · rw [if_pos rfl]
    exact Ch.size_yes wd sl cp sa ow ia ra il ic rl rc w h
set_option maxRecDepth 100000 in
theorem size_of_2 (wd sl cp sa ow : Int) (ia ra : Option Addr) (il ic rl rc : Nat) (w : World) (hsa : 0 ≤ sa ∧ sa < 4294967296 := by assumption) :
    Calls Tryd.prog 64 #[.agg #[.int .i64 2, .int .i64 wd, .int .i64 sl, .int .i64 cp, .int .u32 sa, .slice ia il ic, .int .i64 ow, .slice ra rl rc]] w fun e w' => e = .returned (.int .i64 (sizeF 2 wd sl cp sa il rl)) ∧ Same w w' := by
  have HC := Lib.hid (fun w' => sz_2 wd sl cp sa ow ia ra il ic rl rc w')
  have hb0 := Blk.new w 39 #[.int .i64 2, .int .i64 wd, .int .i64 sl, .int .i64 cp, .int .u32 sa, .slice ia il ic, .int .i64 ow, .slice ra rl rc]
  have HS0 := Lib.hid ((Same.refl w).alloc (.cells #[.int .i64 2, .int .i64 wd, .int .i64 sl, .int .i64 cp, .int .u32 sa, .slice ia il ic, .int .i64 ow, .slice ra rl rc] 39))
  have HB0 := Lib.hid hb0
  clear hb0
  generalize sizeF 2 wd sl cp sa il rl = rb at *
  go_enter Tryd.func64, Tryd.ntmps64
  go_wp2_with fail
  refine (face_2 _).mono ?_
  rintro e w2 ⟨rfl, s2⟩
  have HZ := Lib.hid (Blk.new w2 97 #[.string ⟨#[]⟩, .nilFunc, .nilFunc, .nilFunc, .nilFunc])
  have HS2 := Lib.hid (HS0.out.trans s2)
  have hb2 := HB0.out.same s2
  have hlt := hb2.lt
  have hb3 := (hb2.same ((Same.refl w2).alloc (.cells #[.string ⟨#[]⟩, .nilFunc, .nilFunc, .nilFunc, .nilFunc] 97)))
  have HB := Lib.hid (Blk.chg hb3 (chg_setRow (Chg.refl (fun i => i = w2.heap.size) _) (.inl rfl) #[.string ⟨#[99, 104, 101, 110]⟩, .func (.func 74) #[] #[], .func (.func 75) #[] #[], .func (.func 76) #[] #[], .func (.func 77) #[] #[]]) (by omega))
  have HF := Lib.hid (row_blk (cs := #[.string ⟨#[99, 104, 101, 110]⟩, .func (.func 74) #[] #[], .func (.func 75) #[] #[], .func (.func 76) #[] #[], .func (.func 77) #[] #[]]) HZ.out)
  have HS3 := Lib.hid (show Same w ((w2.alloc (.cells #[.string ⟨#[]⟩, .nilFunc, .nilFunc, .nilFunc, .nilFunc] 97)).setRow w2.heap.size #[.string ⟨#[99, 104, 101, 110]⟩, .func (.func 74) #[] #[], .func (.func 75) #[] #[], .func (.func 76) #[] #[], .func (.func 77) #[] #[]]) from chg_setRow (HS2.out.alloc _) (.inr HS2.out.size) _)
  clear s2 hb2 hb3 hlt HB0 HS0
  have d0 : ((w2.alloc (.cells #[.string ⟨#[]⟩, .nilFunc, .nilFunc, .nilFunc, .nilFunc] 97)).setRow w2.heap.size #[.string ⟨#[99, 104, 101, 110]⟩, .func (.func 74) #[] #[], .func (.func 75) #[] #[], .func (.func 76) #[] #[], .func (.func 77) #[] #[]]).cell? ⟨w.heap.size, 0, none⟩ = some (.int .i64 2) := HB.out.cell 0
  have d1 : ((w2.alloc (.cells #[.string ⟨#[]⟩, .nilFunc, .nilFunc, .nilFunc, .nilFunc] 97)).setRow w2.heap.size #[.string ⟨#[99, 104, 101, 110]⟩, .func (.func 74) #[] #[], .func (.func 75) #[] #[], .func (.func 76) #[] #[], .func (.func 77) #[] #[]]).cell? ⟨w.heap.size, 1, none⟩ = some (.int .i64 wd) := HB.out.cell 1
  have d2 : ((w2.alloc (.cells #[.string ⟨#[]⟩, .nilFunc, .nilFunc, .nilFunc, .nilFunc] 97)).setRow w2.heap.size #[.string ⟨#[99, 104, 101, 110]⟩, .func (.func 74) #[] #[], .func (.func 75) #[] #[], .func (.func 76) #[] #[], .func (.func 77) #[] #[]]).cell? ⟨w.heap.size, 2, none⟩ = some (.int .i64 sl) := HB.out.cell 2
  have d3 : ((w2.alloc (.cells #[.string ⟨#[]⟩, .nilFunc, .nilFunc, .nilFunc, .nilFunc] 97)).setRow w2.heap.size #[.string ⟨#[99, 104, 101, 110]⟩, .func (.func 74) #[] #[], .func (.func 75) #[] #[], .func (.func 76) #[] #[], .func (.func 77) #[] #[]]).cell? ⟨w.heap.size, 3, none⟩ = some (.int .i64 cp) := HB.out.cell 3
  have d4 : ((w2.alloc (.cells #[.string ⟨#[]⟩, .nilFunc, .nilFunc, .nilFunc, .nilFunc] 97)).setRow w2.heap.size #[.string ⟨#[99, 104, 101, 110]⟩, .func (.func 74) #[] #[], .func (.func 75) #[] #[], .func (.func 76) #[] #[], .func (.func 77) #[] #[]]).cell? ⟨w.heap.size, 4, none⟩ = some (.int .u32 sa) := HB.out.cell 4
  have d5 : ((w2.alloc (.cells #[.string ⟨#[]⟩, .nilFunc, .nilFunc, .nilFunc, .nilFunc] 97)).setRow w2.heap.size #[.string ⟨#[99, 104, 101, 110]⟩, .func (.func 74) #[] #[], .func (.func 75) #[] #[], .func (.func 76) #[] #[], .func (.func 77) #[] #[]]).cell? ⟨w.heap.size, 5, none⟩ = some (.slice ia il ic) := HB.out.cell 5
  have d6 : ((w2.alloc (.cells #[.string ⟨#[]⟩, .nilFunc, .nilFunc, .nilFunc, .nilFunc] 97)).setRow w2.heap.size #[.string ⟨#[99, 104, 101, 110]⟩, .func (.func 74) #[] #[], .func (.func 75) #[] #[], .func (.func 76) #[] #[], .func (.func 77) #[] #[]]).cell? ⟨w.heap.size, 6, none⟩ = some (.int .i64 ow) := HB.out.cell 6
  have d7 : ((w2.alloc (.cells #[.string ⟨#[]⟩, .nilFunc, .nilFunc, .nilFunc, .nilFunc] 97)).setRow w2.heap.size #[.string ⟨#[99, 104, 101, 110]⟩, .func (.func 74) #[] #[], .func (.func 75) #[] #[], .func (.func 76) #[] #[], .func (.func 77) #[] #[]]).cell? ⟨w.heap.size, 7, none⟩ = some (.slice ra rl rc) := HB.out.cell 7
  have df : ((w2.alloc (.cells #[.string ⟨#[]⟩, .nilFunc, .nilFunc, .nilFunc, .nilFunc] 97)).setRow w2.heap.size #[.string ⟨#[99, 104, 101, 110]⟩, .func (.func 74) #[] #[], .func (.func 75) #[] #[], .func (.func 76) #[] #[], .func (.func 77) #[] #[]]).cell? ⟨w2.heap.size, 2, none⟩ = some (.func (.func 75) #[] #[]) := HF.out.cell 2
  go_wp2_with (refine wpList_store_row rfl 97 (.tmp 3) (.tmp 9) rfl w2.heap.size #[.string ⟨#[99, 104, 101, 110]⟩, .func (.func 74) #[] #[], .func (.func 75) #[] #[], .func (.func 76) #[] #[], .func (.func 77) #[] #[]] rfl rfl 97 #[.string ⟨#[]⟩, .nilFunc, .nilFunc, .nilFunc, .nilFunc] HZ.out face_size rfl one_2 ?_)
  refine (HC.out _).mono ?_
  rintro e w4 ⟨rfl, s4⟩
  go_wp2_with fail
  go_ret
  exact ⟨rfl, HS3.out.trans s4⟩
theorem sz_3 (wd sl cp sa ow : Int) (ia ra : Option Addr) (il ic rl rc : Nat) (w : World) (hsa : 0 ≤ sa ∧ sa < 4294967296 := by assumption) :
    Calls Tryd.prog 79 #[.agg #[.int .i64 3, .int .i64 wd, .int .i64 sl, .int .i64 cp, .int .u32 sa, .slice ia il ic, .int .i64 ow, .slice ra rl rc]] w fun e w' => e = .returned (.int .i64 (sizeF 3 wd sl cp sa il rl)) ∧ Same w w' := by
  rw [size_3]
  cases h : Sq.rightB wd sl cp sa il rl
  · rw [if_neg Bool.false_ne_true]
    exact Sq.size_no wd sl cp sa ow ia ra il ic rl rc w h
  · rw [if_pos rfl]
    exact Sq.size_yes wd sl cp sa ow ia ra il ic rl rc w h
set_option maxRecDepth 100000 in
theorem size_of_3 (wd sl cp sa ow : Int) (ia ra : Option Addr) (il ic rl rc : Nat) (w : World) (hsa : 0 ≤ sa ∧ sa < 4294967296 := by assumption) :
    Calls Tryd.prog 64 #[.agg #[.int .i64 3, .int .i64 wd, .int .i64 sl, .int .i64 cp, .int .u32 sa, .slice ia il ic, .int .i64 ow, .slice ra rl rc]] w fun e w' => e = .returned (.int .i64 (sizeF 3 wd sl cp sa il rl)) ∧ Same w w' := by
  have HC := Lib.hid (fun w' => sz_3 wd sl cp sa ow ia ra il ic rl rc w')
  have hb0 := Blk.new w 39 #[.int .i64 3, .int .i64 wd, .int .i64 sl, .int .i64 cp, .int .u32 sa, .slice ia il ic, .int .i64 ow, .slice ra rl rc]
  have HS0 := Lib.hid ((Same.refl w).alloc (.cells #[.int .i64 3, .int .i64 wd, .int .i64 sl, .int .i64 cp, .int .u32 sa, .slice ia il ic, .int .i64 ow, .slice ra rl rc] 39))
  have HB0 := Lib.hid hb0
  clear hb0
  generalize sizeF 3 wd sl cp sa il rl = rb at *
  go_enter Tryd.func64, Tryd.ntmps64
  go_wp2_with fail
  refine (face_3 _).mono ?_
  rintro e w2 ⟨rfl, s2⟩
  have HZ := Lib.hid (Blk.new w2 97 #[.string ⟨#[]⟩, .nilFunc, .nilFunc, .nilFunc, .nilFunc])
  have HS2 := Lib.hid (HS0.out.trans s2)
  have hb2 := HB0.out.same s2
  have hlt := hb2.lt
  have hb3 := (hb2.same ((Same.refl w2).alloc (.cells #[.string ⟨#[]⟩, .nilFunc, .nilFunc, .nilFunc, .nilFunc] 97)))
  have HB := Lib.hid (Blk.chg hb3 (chg_setRow (Chg.refl (fun i => i = w2.heap.size) _) (.inl rfl) #[.string ⟨#[115, 101, 113]⟩, .func (.func 78) #[] #[], .func (.func 79) #[] #[], .func (.func 80) #[] #[], .func (.func 81) #[] #[]]) (by omega))
  have HF := Lib.hid (row_blk (cs := #[.string ⟨#[115, 101, 113]⟩, .func (.func 78) #[] #[], .func (.func 79) #[] #[], .func (.func 80) #[] #[], .func (.func 81) #[] #[]]) HZ.out)
  have HS3 := Lib.hid (show Same w ((w2.alloc (.cells #[.string ⟨#[]⟩, .nilFunc, .nilFunc, .nilFunc, .nilFunc] 97)).setRow w2.heap.size #[.string ⟨#[115, 101, 113]⟩, .func (.func 78) #[] #[], .func (.func 79) #[] #[], .func (.func 80) #[] #[], .func (.func 81) #[] #[]]) from chg_setRow (HS2.out.alloc _) (.inr HS2.out.size) _)
  clear s2 hb2 hb3 hlt HB0 HS0
  have d0 : ((w2.alloc (.cells #[.string ⟨#[]⟩, .nilFunc, .nilFunc, .nilFunc, .nilFunc] 97)).setRow w2.heap.size #[.string ⟨#[115, 101, 113]⟩, .func (.func 78) #[] #[], .func (.func 79) #[] #[], .func (.func 80) #[] #[], .func (.func 81) #[] #[]]).cell? ⟨w.heap.size, 0, none⟩ = some (.int .i64 3) := HB.out.cell 0
  have d1 : ((w2.alloc (.cells #[.string ⟨#[]⟩, .nilFunc, .nilFunc, .nilFunc, .nilFunc] 97)).setRow w2.heap.size #[.string ⟨#[115, 101, 113]⟩, .func (.func 78) #[] #[], .func (.func 79) #[] #[], .func (.func 80) #[] #[], .func (.func 81) #[] #[]]).cell? ⟨w.heap.size, 1, none⟩ = some (.int .i64 wd) := HB.out.cell 1
  have d2 : ((w2.alloc (.cells #[.string ⟨#[]⟩, .nilFunc, .nilFunc, .nilFunc, .nilFunc] 97)).setRow w2.heap.size #[.string ⟨#[115, 101, 113]⟩, .func (.func 78) #[] #[], .func (.func 79) #[] #[], .func (.func 80) #[] #[], .func (.func 81) #[] #[]]).cell? ⟨w.heap.size, 2, none⟩ = some (.int .i64 sl) := HB.out.cell 2
  have d3 : ((w2.alloc (.cells #[.string ⟨#[]⟩, .nilFunc, .nilFunc, .nilFunc, .nilFunc] 97)).setRow w2.heap.size #[.string ⟨#[115, 101, 113]⟩, .func (.func 78) #[] #[], .func (.func 79) #[] #[], .func (.func 80) #[] #[], .func (.func 81) #[] #[]]).cell? ⟨w.heap.size, 3, none⟩ = some (.int .i64 cp) := HB.out.cell 3
  have d4 : ((w2.alloc (.cells #[.string ⟨#[]⟩, .nilFunc, .nilFunc, .nilFunc, .nilFunc] 97)).setRow w2.heap.size #[.string ⟨#[115, 101, 113]⟩, .func (.func 78) #[] #[], .func (.func 79) #[] #[], .func (.func 80) #[] #[], .func (.func 81) #[] #[]]).cell? ⟨w.heap.size, 4, none⟩ = some (.int .u32 sa) := HB.out.cell 4
  have d5 : ((w2.alloc (.cells #[.string ⟨#[]⟩, .nilFunc, .nilFunc, .nilFunc, .nilFunc] 97)).setRow w2.heap.size #[.string ⟨#[115, 101, 113]⟩, .func (.func 78) #[] #[], .func (.func 79) #[] #[], .func (.func 80) #[] #[], .func (.func 81) #[] #[]]).cell? ⟨w.heap.size, 5, none⟩ = some (.slice ia il ic) := HB.out.cell 5
  have d6 : ((w2.alloc (.cells #[.string ⟨#[]⟩, .nilFunc, .nilFunc, .nilFunc, .nilFunc] 97)).setRow w2.heap.size #[.string ⟨#[115, 101, 113]⟩, .func (.func 78) #[] #[], .func (.func 79) #[] #[], .func (.func 80) #[] #[], .func (.func 81) #[] #[]]).cell? ⟨w.heap.size, 6, none⟩ = some (.int .i64 ow) := HB.out.cell 6
  have d7 : ((w2.alloc (.cells #[.string ⟨#[]⟩, .nilFunc, .nilFunc, .nilFunc, .nilFunc] 97)).setRow w2.heap.size #[.string ⟨#[115, 101, 113]⟩, .func (.func 78) #[] #[], .func (.func 79) #[] #[], .func (.func 80) #[] #[], .func (.func 81) #[] #[]]).cell? ⟨w.heap.size, 7, none⟩ = some (.slice ra rl rc) := HB.out.cell 7
  have df : ((w2.alloc (.cells #[.string ⟨#[]⟩, .nilFunc, .nilFunc, .nilFunc, .nilFunc] 97)).setRow w2.heap.size #[.string ⟨#[115, 101, 113]⟩, .func (.func 78) #[] #[], .func (.func 79) #[] #[], .func (.func 80) #[] #[], .func (.func 81) #[] #[]]).cell? ⟨w2.heap.size, 2, none⟩ = some (.func (.func 79) #[] #[]) := HF.out.cell 2
  go_wp2_with (refine wpList_store_row rfl 97 (.tmp 3) (.tmp 9) rfl w2.heap.size #[.string ⟨#[115, 101, 113]⟩, .func (.func 78) #[] #[], .func (.func 79) #[] #[], .func (.func 80) #[] #[], .func (.func 81) #[] #[]] rfl rfl 97 #[.string ⟨#[]⟩, .nilFunc, .nilFunc, .nilFunc, .nilFunc] HZ.out face_size rfl one_3 ?_)
  refine (HC.out _).mono ?_
  rintro e w4 ⟨rfl, s4⟩
  go_wp2_with fail
  go_ret
  exact ⟨rfl, HS3.out.trans s4⟩
theorem sz_4 (wd sl cp sa ow : Int) (ia ra : Option Addr) (il ic rl rc : Nat) (w : World) (hsa : 0 ≤ sa ∧ sa < 4294967296 := by assumption) :
    Calls Tryd.prog 83 #[.agg #[.int .i64 4, .int .i64 wd, .int .i64 sl, .int .i64 cp, .int .u32 sa, .slice ia il ic, .int .i64 ow, .slice ra rl rc]] w fun e w' => e = .returned (.int .i64 (sizeF 4 wd sl cp sa il rl)) ∧ Same w w' := by
  rw [size_4]
  cases h : Rg.rightB wd sl cp sa il rl
  · rw [if_neg Bool.false_ne_true]
    exact Rg.size_no wd sl cp sa ow ia ra il ic rl rc w h
  · rw [if_pos rfl]
    exact Rg.size_yes wd sl cp sa ow ia ra il ic rl rc w h
set_option maxRecDepth 100000 in
theorem size_of_4 (wd sl cp sa ow : Int) (ia ra : Option Addr) (il ic rl rc : Nat) (w : World) (hsa : 0 ≤ sa ∧ sa < 4294967296 := by assumption) :
    Calls Tryd.prog 64 #[.agg #[.int .i64 4, .int .i64 wd, .int .i64 sl, .int .i64 cp, .int .u32 sa, .slice ia il ic, .int .i64 ow, .slice ra rl rc]] w fun e w' => e = .returned (.int .i64 (sizeF 4 wd sl cp sa il rl)) ∧ Same w w' := by
  have HC := Lib.hid (fun w' => sz_4 wd sl cp sa ow ia ra il ic rl rc w')
  have hb0 := Blk.new w 39 #[.int .i64 4, .int .i64 wd, .int .i64 sl, .int .i64 cp, .int .u32 sa, .slice ia il ic, .int .i64 ow, .slice ra rl rc]
  have HS0 := Lib.hid ((Same.refl w).alloc (.cells #[.int .i64 4, .int .i64 wd, .int .i64 sl, .int .i64 cp, .int .u32 sa, .slice ia il ic, .int .i64 ow, .slice ra rl rc] 39))
  have HB0 := Lib.hid hb0
  clear hb0
  generalize sizeF 4 wd sl cp sa il rl = rb at *
  go_enter Tryd.func64, Tryd.ntmps64
  go_wp2_with fail
  refine (face_4 _).mono ?_
  rintro e w2 ⟨rfl, s2⟩
  have HZ := Lib.hid (Blk.new w2 97 #[.string ⟨#[]⟩, .nilFunc, .nilFunc, .nilFunc, .nilFunc])
  have HS2 := Lib.hid (HS0.out.trans s2)
  have hb2 := HB0.out.same s2
  have hlt := hb2.lt
  have hb3 := (hb2.same ((Same.refl w2).alloc (.cells #[.string ⟨#[]⟩, .nilFunc, .nilFunc, .nilFunc, .nilFunc] 97)))
  have HB := Lib.hid (Blk.chg hb3 (chg_setRow (Chg.refl (fun i => i = w2.heap.size) _) (.inl rfl) #[.string ⟨#[114, 105, 110, 103]⟩, .func (.func 82) #[] #[], .func (.func 83) #[] #[], .func (.func 84) #[] #[], .func (.func 85) #[] #[]]) (by omega))
  have HF := Lib.hid (row_blk (cs := #[.string ⟨#[114, 105, 110, 103]⟩, .func (.func 82) #[] #[], .func (.func 83) #[] #[], .func (.func 84) #[] #[], .func (.func 85) #[] #[]]) HZ.out)
  have HS3 := Lib.hid (show Same w ((w2.alloc (.cells #[.string ⟨#[]⟩, .nilFunc, .nilFunc, .nilFunc, .nilFunc] 97)).setRow w2.heap.size #[.string ⟨#[114, 105, 110, 103]⟩, .func (.func 82) #[] #[], .func (.func 83) #[] #[], .func (.func 84) #[] #[], .func (.func 85) #[] #[]]) from chg_setRow (HS2.out.alloc _) (.inr HS2.out.size) _)
  clear s2 hb2 hb3 hlt HB0 HS0
  have d0 : ((w2.alloc (.cells #[.string ⟨#[]⟩, .nilFunc, .nilFunc, .nilFunc, .nilFunc] 97)).setRow w2.heap.size #[.string ⟨#[114, 105, 110, 103]⟩, .func (.func 82) #[] #[], .func (.func 83) #[] #[], .func (.func 84) #[] #[], .func (.func 85) #[] #[]]).cell? ⟨w.heap.size, 0, none⟩ = some (.int .i64 4) := HB.out.cell 0
  have d1 : ((w2.alloc (.cells #[.string ⟨#[]⟩, .nilFunc, .nilFunc, .nilFunc, .nilFunc] 97)).setRow w2.heap.size #[.string ⟨#[114, 105, 110, 103]⟩, .func (.func 82) #[] #[], .func (.func 83) #[] #[], .func (.func 84) #[] #[], .func (.func 85) #[] #[]]).cell? ⟨w.heap.size, 1, none⟩ = some (.int .i64 wd) := HB.out.cell 1
  have d2 : ((w2.alloc (.cells #[.string ⟨#[]⟩, .nilFunc, .nilFunc, .nilFunc, .nilFunc] 97)).setRow w2.heap.size #[.string ⟨#[114, 105, 110, 103]⟩, .func (.func 82) #[] #[], .func (.func 83) #[] #[], .func (.func 84) #[] #[], .func (.func 85) #[] #[]]).cell? ⟨w.heap.size, 2, none⟩ = some (.int .i64 sl) := HB.out.cell 2
  have d3 : ((w2.alloc (.cells #[.string ⟨#[]⟩, .nilFunc, .nilFunc, .nilFunc, .nilFunc] 97)).setRow w2.heap.size #[.string ⟨#[114, 105, 110, 103]⟩, .func (.func 82) #[] #[], .func (.func 83) #[] #[], .func (.func 84) #[] #[], .func (.func 85) #[] #[]]).cell? ⟨w.heap.size, 3, none⟩ = some (.int .i64 cp) := HB.out.cell 3
  have d4 : ((w2.alloc (.cells #[.string ⟨#[]⟩, .nilFunc, .nilFunc, .nilFunc, .nilFunc] 97)).setRow w2.heap.size #[.string ⟨#[114, 105, 110, 103]⟩, .func (.func 82) #[] #[], .func (.func 83) #[] #[], .func (.func 84) #[] #[], .func (.func 85) #[] #[]]).cell? ⟨w.heap.size, 4, none⟩ = some (.int .u32 sa) := HB.out.cell 4
  have d5 : ((w2.alloc (.cells #[.string ⟨#[]⟩, .nilFunc, .nilFunc, .nilFunc, .nilFunc] 97)).setRow w2.heap.size #[.string ⟨#[114, 105, 110, 103]⟩, .func (.func 82) #[] #[], .func (.func 83) #[] #[], .func (.func 84) #[] #[], .func (.func 85) #[] #[]]).cell? ⟨w.heap.size, 5, none⟩ = some (.slice ia il ic) := HB.out.cell 5
  have d6 : ((w2.alloc (.cells #[.string ⟨#[]⟩, .nilFunc, .nilFunc, .nilFunc, .nilFunc] 97)).setRow w2.heap.size #[.string ⟨#[114, 105, 110, 103]⟩, .func (.func 82) #[] #[], .func (.func 83) #[] #[], .func (.func 84) #[] #[], .func (.func 85) #[] #[]]).cell? ⟨w.heap.size, 6, none⟩ = some (.int .i64 ow) := HB.out.cell 6
  have d7 : ((w2.alloc (.cells #[.string ⟨#[]⟩, .nilFunc, .nilFunc, .nilFunc, .nilFunc] 97)).setRow w2.heap.size #[.string ⟨#[114, 105, 110, 103]⟩, .func (.func 82) #[] #[], .func (.func 83) #[] #[], .func (.func 84) #[] #[], .func (.func 85) #[] #[]]).cell? ⟨w.heap.size, 7, none⟩ = some (.slice ra rl rc) := HB.out.cell 7
  have df : ((w2.alloc (.cells #[.string ⟨#[]⟩, .nilFunc, .nilFunc, .nilFunc, .nilFunc] 97)).setRow w2.heap.size #[.string ⟨#[114, 105, 110, 103]⟩, .func (.func 82) #[] #[], .func (.func 83) #[] #[], .func (.func 84) #[] #[], .func (.func 85) #[] #[]]).cell? ⟨w2.heap.size, 2, none⟩ = some (.func (.func 83) #[] #[]) := HF.out.cell 2
  go_wp2_with (refine wpList_store_row rfl 97 (.tmp 3) (.tmp 9) rfl w2.heap.size #[.string ⟨#[114, 105, 110, 103]⟩, .func (.func 82) #[] #[], .func (.func 83) #[] #[], .func (.func 84) #[] #[], .func (.func 85) #[] #[]] rfl rfl 97 #[.string ⟨#[]⟩, .nilFunc, .nilFunc, .nilFunc, .nilFunc] HZ.out face_size rfl one_4 ?_)
  refine (HC.out _).mono ?_
  rintro e w4 ⟨rfl, s4⟩
  go_wp2_with fail
  go_ret
  exact ⟨rfl, HS3.out.trans s4⟩
theorem sz_5 (wd sl cp sa ow : Int) (ia ra : Option Addr) (il ic rl rc : Nat) (w : World) (hsa : 0 ≤ sa ∧ sa < 4294967296 := by assumption) :
    Calls Tryd.prog 87 #[.agg #[.int .i64 5, .int .i64 wd, .int .i64 sl, .int .i64 cp, .int .u32 sa, .slice ia il ic, .int .i64 ow, .slice ra rl rc]] w fun e w' => e = .returned (.int .i64 (sizeF 5 wd sl cp sa il rl)) ∧ Same w w' := by
  rw [size_5]
  cases h : Cb.rightB wd sl cp sa il rl
  · rw [if_neg Bool.false_ne_true]
    exact Cb.size_no wd sl cp sa ow ia ra il ic rl rc w h
  · rw [if_pos rfl]
    exact Cb.size_yes wd sl cp sa ow ia ra il ic rl rc w h
set_option maxRecDepth 100000 in
theorem size_of_5 (wd sl cp sa ow : Int) (ia ra : Option Addr) (il ic rl rc : Nat) (w : World) (hsa : 0 ≤ sa ∧ sa < 4294967296 := by assumption) :
    Calls Tryd.prog 64 #[.agg #[.int .i64 5, .int .i64 wd, .int .i64 sl, .int .i64 cp, .int .u32 sa, .slice ia il ic, .int .i64 ow, .slice ra rl rc]] w fun e w' => e = .returned (.int .i64 (sizeF 5 wd sl cp sa il rl)) ∧ Same w w' := by
  have HC := Lib.hid (fun w' => sz_5 wd sl cp sa ow ia ra il ic rl rc w')
  have hb0 := Blk.new w 39 #[.int .i64 5, .int .i64 wd, .int .i64 sl, .int .i64 cp, .int .u32 sa, .slice ia il ic, .int .i64 ow, .slice ra rl rc]
  have HS0 := Lib.hid ((Same.refl w).alloc (.cells #[.int .i64 5, .int .i64 wd, .int .i64 sl, .int .i64 cp, .int .u32 sa, .slice ia il ic, .int .i64 ow, .slice ra rl rc] 39))
  have HB0 := Lib.hid hb0
  clear hb0
  generalize sizeF 5 wd sl cp sa il rl = rb at *
  go_enter Tryd.func64, Tryd.ntmps64
  go_wp2_with fail
  refine (face_5 _).mono ?_
  rintro e w2 ⟨rfl, s2⟩
  have HZ := Lib.hid (Blk.new w2 97 #[.string ⟨#[]⟩, .nilFunc, .nilFunc, .nilFunc, .nilFunc])
  have HS2 := Lib.hid (HS0.out.trans s2)
  have hb2 := HB0.out.same s2
  have hlt := hb2.lt
  have hb3 := (hb2.same ((Same.refl w2).alloc (.cells #[.string ⟨#[]⟩, .nilFunc, .nilFunc, .nilFunc, .nilFunc] 97)))
  have HB := Lib.hid (Blk.chg hb3 (chg_setRow (Chg.refl (fun i => i = w2.heap.size) _) (.inl rfl) #[.string ⟨#[99, 97, 98]⟩, .func (.func 86) #[] #[], .func (.func 87) #[] #[], .func (.func 88) #[] #[], .func (.func 89) #[] #[]]) (by omega))
  have HF := Lib.hid (row_blk (cs := #[.string ⟨#[99, 97, 98]⟩, .func (.func 86) #[] #[], .func (.func 87) #[] #[], .func (.func 88) #[] #[], .func (.func 89) #[] #[]]) HZ.out)
  have HS3 := Lib.hid (show Same w ((w2.alloc (.cells #[.string ⟨#[]⟩, .nilFunc, .nilFunc, .nilFunc, .nilFunc] 97)).setRow w2.heap.size #[.string ⟨#[99, 97, 98]⟩, .func (.func 86) #[] #[], .func (.func 87) #[] #[], .func (.func 88) #[] #[], .func (.func 89) #[] #[]]) from chg_setRow (HS2.out.alloc _) (.inr HS2.out.size) _)
  clear s2 hb2 hb3 hlt HB0 HS0
  have d0 : ((w2.alloc (.cells #[.string ⟨#[]⟩, .nilFunc, .nilFunc, .nilFunc, .nilFunc] 97)).setRow w2.heap.size #[.string ⟨#[99, 97, 98]⟩, .func (.func 86) #[] #[], .func (.func 87) #[] #[], .func (.func 88) #[] #[], .func (.func 89) #[] #[]]).cell? ⟨w.heap.size, 0, none⟩ = some (.int .i64 5) := HB.out.cell 0
  have d1 : ((w2.alloc (.cells #[.string ⟨#[]⟩, .nilFunc, .nilFunc, .nilFunc, .nilFunc] 97)).setRow w2.heap.size #[.string ⟨#[99, 97, 98]⟩, .func (.func 86) #[] #[], .func (.func 87) #[] #[], .func (.func 88) #[] #[], .func (.func 89) #[] #[]]).cell? ⟨w.heap.size, 1, none⟩ = some (.int .i64 wd) := HB.out.cell 1
  have d2 : ((w2.alloc (.cells #[.string ⟨#[]⟩, .nilFunc, .nilFunc, .nilFunc, .nilFunc] 97)).setRow w2.heap.size #[.string ⟨#[99, 97, 98]⟩, .func (.func 86) #[] #[], .func (.func 87) #[] #[], .func (.func 88) #[] #[], .func (.func 89) #[] #[]]).cell? ⟨w.heap.size, 2, none⟩ = some (.int .i64 sl) := HB.out.cell 2
  have d3 : ((w2.alloc (.cells #[.string ⟨#[]⟩, .nilFunc, .nilFunc, .nilFunc, .nilFunc] 97)).setRow w2.heap.size #[.string ⟨#[99, 97, 98]⟩, .func (.func 86) #[] #[], .func (.func 87) #[] #[], .func (.func 88) #[] #[], .func (.func 89) #[] #[]]).cell? ⟨w.heap.size, 3, none⟩ = some (.int .i64 cp) := HB.out.cell 3
  have d4 : ((w2.alloc (.cells #[.string ⟨#[]⟩, .nilFunc, .nilFunc, .nilFunc, .nilFunc] 97)).setRow w2.heap.size #[.string ⟨#[99, 97, 98]⟩, .func (.func 86) #[] #[], .func (.func 87) #[] #[], .func (.func 88) #[] #[], .func (.func 89) #[] #[]]).cell? ⟨w.heap.size, 4, none⟩ = some (.int .u32 sa) := HB.out.cell 4
  have d5 : ((w2.alloc (.cells #[.string ⟨#[]⟩, .nilFunc, .nilFunc, .nilFunc, .nilFunc] 97)).setRow w2.heap.size #[.string ⟨#[99, 97, 98]⟩, .func (.func 86) #[] #[], .func (.func 87) #[] #[], .func (.func 88) #[] #[], .func (.func 89) #[] #[]]).cell? ⟨w.heap.size, 5, none⟩ = some (.slice ia il ic) := HB.out.cell 5
  have d6 : ((w2.alloc (.cells #[.string ⟨#[]⟩, .nilFunc, .nilFunc, .nilFunc, .nilFunc] 97)).setRow w2.heap.size #[.string ⟨#[99, 97, 98]⟩, .func (.func 86) #[] #[], .func (.func 87) #[] #[], .func (.func 88) #[] #[], .func (.func 89) #[] #[]]).cell? ⟨w.heap.size, 6, none⟩ = some (.int .i64 ow) := HB.out.cell 6
  have d7 : ((w2.alloc (.cells #[.string ⟨#[]⟩, .nilFunc, .nilFunc, .nilFunc, .nilFunc] 97)).setRow w2.heap.size #[.string ⟨#[99, 97, 98]⟩, .func (.func 86) #[] #[], .func (.func 87) #[] #[], .func (.func 88) #[] #[], .func (.func 89) #[] #[]]).cell? ⟨w.heap.size, 7, none⟩ = some (.slice ra rl rc) := HB.out.cell 7
  have df : ((w2.alloc (.cells #[.string ⟨#[]⟩, .nilFunc, .nilFunc, .nilFunc, .nilFunc] 97)).setRow w2.heap.size #[.string ⟨#[99, 97, 98]⟩, .func (.func 86) #[] #[], .func (.func 87) #[] #[], .func (.func 88) #[] #[], .func (.func 89) #[] #[]]).cell? ⟨w2.heap.size, 2, none⟩ = some (.func (.func 87) #[] #[]) := HF.out.cell 2
  go_wp2_with (refine wpList_store_row rfl 97 (.tmp 3) (.tmp 9) rfl w2.heap.size #[.string ⟨#[99, 97, 98]⟩, .func (.func 86) #[] #[], .func (.func 87) #[] #[], .func (.func 88) #[] #[], .func (.func 89) #[] #[]] rfl rfl 97 #[.string ⟨#[]⟩, .nilFunc, .nilFunc, .nilFunc, .nilFunc] HZ.out face_size rfl one_5 ?_)
  refine (HC.out _).mono ?_
  rintro e w4 ⟨rfl, s4⟩
  go_wp2_with fail
  go_ret
  exact ⟨rfl, HS3.out.trans s4⟩
theorem sz_6 (wd sl cp sa ow : Int) (ia ra : Option Addr) (il ic rl rc : Nat) (w : World) (hsa : 0 ≤ sa ∧ sa < 4294967296 := by assumption) :
    Calls Tryd.prog 91 #[.agg #[.int .i64 6, .int .i64 wd, .int .i64 sl, .int .i64 cp, .int .u32 sa, .slice ia il ic, .int .i64 ow, .slice ra rl rc]] w fun e w' => e = .returned (.int .i64 (sizeF 6 wd sl cp sa il rl)) ∧ Same w w' := by
  rw [size_6]
  cases h : Ff.rightB wd sl cp sa il rl
  · rw [if_neg Bool.false_ne_true]
    exact Ff.size_no wd sl cp sa ow ia ra il ic rl rc w h
  · rw [if_pos rfl]
    exact Ff.size_yes wd sl cp sa ow ia ra il ic rl rc w h
set_option maxRecDepth 100000 in
theorem size_of_6 (wd sl cp sa ow : Int) (ia ra : Option Addr) (il ic rl rc : Nat) (w : World) (hsa : 0 ≤ sa ∧ sa < 4294967296 := by assumption) :
    Calls Tryd.prog 64 #[.agg #[.int .i64 6, .int .i64 wd, .int .i64 sl, .int .i64 cp, .int .u32 sa, .slice ia il ic, .int .i64 ow, .slice ra rl rc]] w fun e w' => e = .returned (.int .i64 (sizeF 6 wd sl cp sa il rl)) ∧ Same w w' := by
  have HC := Lib.hid (fun w' => sz_6 wd sl cp sa ow ia ra il ic rl rc w')
  have hb0 := Blk.new w 39 #[.int .i64 6, .int .i64 wd, .int .i64 sl, .int .i64 cp, .int .u32 sa, .slice ia il ic, .int .i64 ow, .slice ra rl rc]
  have HS0 := Lib.hid ((Same.refl w).alloc (.cells #[.int .i64 6, .int .i64 wd, .int .i64 sl, .int .i64 cp, .int .u32 sa, .slice ia il ic, .int .i64 ow, .slice ra rl rc] 39))
  have HB0 := Lib.hid hb0
  clear hb0
  generalize sizeF 6 wd sl cp sa il rl = rb at *
  go_enter Tryd.func64, Tryd.ntmps64
  go_wp2_with fail
  refine (face_6 _).mono ?_
  rintro e w2 ⟨rfl, s2⟩
  have HZ := Lib.hid (Blk.new w2 97 #[.string ⟨#[]⟩, .nilFunc, .nilFunc, .nilFunc, .nilFunc])
  have HS2 := Lib.hid (HS0.out.trans s2)
  have hb2 := HB0.out.same s2
  have hlt := hb2.lt
  have hb3 := (hb2.same ((Same.refl w2).alloc (.cells #[.string ⟨#[]⟩, .nilFunc, .nilFunc, .nilFunc, .nilFunc] 97)))
  have HB := Lib.hid (Blk.chg hb3 (chg_setRow (Chg.refl (fun i => i = w2.heap.size) _) (.inl rfl) #[.string ⟨#[102, 105, 102, 111]⟩, .func (.func 90) #[] #[], .func (.func 91) #[] #[], .func (.func 92) #[] #[], .func (.func 93) #[] #[]]) (by omega))
  have HF := Lib.hid (row_blk (cs := #[.string ⟨#[102, 105, 102, 111]⟩, .func (.func 90) #[] #[], .func (.func 91) #[] #[], .func (.func 92) #[] #[], .func (.func 93) #[] #[]]) HZ.out)
  have HS3 := Lib.hid (show Same w ((w2.alloc (.cells #[.string ⟨#[]⟩, .nilFunc, .nilFunc, .nilFunc, .nilFunc] 97)).setRow w2.heap.size #[.string ⟨#[102, 105, 102, 111]⟩, .func (.func 90) #[] #[], .func (.func 91) #[] #[], .func (.func 92) #[] #[], .func (.func 93) #[] #[]]) from chg_setRow (HS2.out.alloc _) (.inr HS2.out.size) _)
  clear s2 hb2 hb3 hlt HB0 HS0
  have d0 : ((w2.alloc (.cells #[.string ⟨#[]⟩, .nilFunc, .nilFunc, .nilFunc, .nilFunc] 97)).setRow w2.heap.size #[.string ⟨#[102, 105, 102, 111]⟩, .func (.func 90) #[] #[], .func (.func 91) #[] #[], .func (.func 92) #[] #[], .func (.func 93) #[] #[]]).cell? ⟨w.heap.size, 0, none⟩ = some (.int .i64 6) := HB.out.cell 0
  have d1 : ((w2.alloc (.cells #[.string ⟨#[]⟩, .nilFunc, .nilFunc, .nilFunc, .nilFunc] 97)).setRow w2.heap.size #[.string ⟨#[102, 105, 102, 111]⟩, .func (.func 90) #[] #[], .func (.func 91) #[] #[], .func (.func 92) #[] #[], .func (.func 93) #[] #[]]).cell? ⟨w.heap.size, 1, none⟩ = some (.int .i64 wd) := HB.out.cell 1
  have d2 : ((w2.alloc (.cells #[.string ⟨#[]⟩, .nilFunc, .nilFunc, .nilFunc, .nilFunc] 97)).setRow w2.heap.size #[.string ⟨#[102, 105, 102, 111]⟩, .func (.func 90) #[] #[], .func (.func 91) #[] #[], .func (.func 92) #[] #[], .func (.func 93) #[] #[]]).cell? ⟨w.heap.size, 2, none⟩ = some (.int .i64 sl) := HB.out.cell 2
  have d3 : ((w2.alloc (.cells #[.string ⟨#[]⟩, .nilFunc, .nilFunc, .nilFunc, .nilFunc] 97)).setRow w2.heap.size #[.string ⟨#[102, 105, 102, 111]⟩, .func (.func 90) #[] #[], .func (.func 91) #[] #[], .func (.func 92) #[] #[], .func (.func 93) #[] #[]]).cell? ⟨w.heap.size, 3, none⟩ = some (.int .i64 cp) := HB.out.cell 3
  have d4 : ((w2.alloc (.cells #[.string ⟨#[]⟩, .nilFunc, .nilFunc, .nilFunc, .nilFunc] 97)).setRow w2.heap.size #[.string ⟨#[102, 105, 102, 111]⟩, .func (.func 90) #[] #[], .func (.func 91) #[] #[], .func (.func 92) #[] #[], .func (.func 93) #[] #[]]).cell? ⟨w.heap.size, 4, none⟩ = some (.int .u32 sa) := HB.out.cell 4
  have d5 : ((w2.alloc (.cells #[.string ⟨#[]⟩, .nilFunc, .nilFunc, .nilFunc, .nilFunc] 97)).setRow w2.heap.size #[.string ⟨#[102, 105, 102, 111]⟩, .func (.func 90) #[] #[], .func (.func 91) #[] #[], .func (.func 92) #[] #[], .func (.func 93) #[] #[]]).cell? ⟨w.heap.size, 5, none⟩ = some (.slice ia il ic) := HB.out.cell 5
  have d6 : ((w2.alloc (.cells #[.string ⟨#[]⟩, .nilFunc, .nilFunc, .nilFunc, .nilFunc] 97)).setRow w2.heap.size #[.string ⟨#[102, 105, 102, 111]⟩, .func (.func 90) #[] #[], .func (.func 91) #[] #[], .func (.func 92) #[] #[], .func (.func 93) #[] #[]]).cell? ⟨w.heap.size, 6, none⟩ = some (.int .i64 ow) := HB.out.cell 6
  have d7 : ((w2.alloc (.cells #[.string ⟨#[]⟩, .nilFunc, .nilFunc, .nilFunc, .nilFunc] 97)).setRow w2.heap.size #[.string ⟨#[102, 105, 102, 111]⟩, .func (.func 90) #[] #[], .func (.func 91) #[] #[], .func (.func 92) #[] #[], .func (.func 93) #[] #[]]).cell? ⟨w.heap.size, 7, none⟩ = some (.slice ra rl rc) := HB.out.cell 7
  have df : ((w2.alloc (.cells #[.string ⟨#[]⟩, .nilFunc, .nilFunc, .nilFunc, .nilFunc] 97)).setRow w2.heap.size #[.string ⟨#[102, 105, 102, 111]⟩, .func (.func 90) #[] #[], .func (.func 91) #[] #[], .func (.func 92) #[] #[], .func (.func 93) #[] #[]]).cell? ⟨w2.heap.size, 2, none⟩ = some (.func (.func 91) #[] #[]) := HF.out.cell 2
  go_wp2_with (refine wpList_store_row rfl 97 (.tmp 3) (.tmp 9) rfl w2.heap.size #[.string ⟨#[102, 105, 102, 111]⟩, .func (.func 90) #[] #[], .func (.func 91) #[] #[], .func (.func 92) #[] #[], .func (.func 93) #[] #[]] rfl rfl 97 #[.string ⟨#[]⟩, .nilFunc, .nilFunc, .nilFunc, .nilFunc] HZ.out face_size rfl one_6 ?_)
  refine (HC.out _).mono ?_
  rintro e w4 ⟨rfl, s4⟩
  go_wp2_with fail
  go_ret
  exact ⟨rfl, HS3.out.trans s4⟩
set_option maxRecDepth 100000 in
theorem size_of_none (k : Int) (wd sl cp sa ow : Int) (ia ra : Option Addr) (il ic rl rc : Nat) (w : World) (h : k < 1 ∨ 6 < k) :
    Calls Tryd.prog 64 #[.agg #[.int .i64 k, .int .i64 wd, .int .i64 sl, .int .i64 cp, .int .u32 sa, .slice ia il ic, .int .i64 ow, .slice ra rl rc]] w fun e w' => e = .returned (.int .i64 0) ∧ Same w w' := by
  have hb0 := Blk.new w 39 #[.int .i64 k, .int .i64 wd, .int .i64 sl, .int .i64 cp, .int .u32 sa, .slice ia il ic, .int .i64 ow, .slice ra rl rc]
  have HS0 := Lib.hid ((Same.refl w).alloc (.cells #[.int .i64 k, .int .i64 wd, .int .i64 sl, .int .i64 cp, .int .u32 sa, .slice ia il ic, .int .i64 ow, .slice ra rl rc] 39))
  have d0 := hb0.cell 0
  have HFN := Lib.hid (fun w' => face_none k h w')
  clear hb0 h
  go_enter Tryd.func64, Tryd.ntmps64
  go_wp2_with fail
  refine (HFN.out _).mono ?_
  rintro e w2 ⟨rfl, s2⟩
  have HZ := Lib.hid (Blk.new w2 97 #[.string ⟨#[]⟩, .nilFunc, .nilFunc, .nilFunc, .nilFunc])
  have HS2 := Lib.hid (HS0.out.trans s2)
  have HS3 := Lib.hid (show Same w ((w2.alloc (.cells #[.string ⟨#[]⟩, .nilFunc, .nilFunc, .nilFunc, .nilFunc] 97)).setRow w2.heap.size #[.string ⟨#[]⟩, .nilFunc, .nilFunc, .nilFunc, .nilFunc]) from chg_setRow (HS2.out.alloc _) (.inr HS2.out.size) _)
  clear s2 HS0
  go_wp2_with (refine wpList_store_row rfl 97 (.tmp 3) (.tmp 9) rfl w2.heap.size #[.string ⟨#[]⟩, .nilFunc, .nilFunc, .nilFunc, .nilFunc] rfl rfl 97 #[.string ⟨#[]⟩, .nilFunc, .nilFunc, .nilFunc, .nilFunc] HZ.out face_size rfl one_0 ?_)
  go_ret
  exact ⟨rfl, HS3.out⟩
theorem size_any (k : Int) (wd sl cp sa ow : Int) (ia ra : Option Addr) (il ic rl rc : Nat) (w : World) (hsa : 0 ≤ sa ∧ sa < 4294967296) :
    Calls Tryd.prog 64 #[.agg #[.int .i64 k, .int .i64 wd, .int .i64 sl, .int .i64 cp, .int .u32 sa, .slice ia il ic, .int .i64 ow, .slice ra rl rc]] w fun e w' => e = .returned (.int .i64 (sizeF k wd sl cp sa il rl)) ∧ Same w w' := by
  by_cases h : k < 1 ∨ 6 < k
  · rw [size_none0 wd sl cp sa il rl h]
    exact size_of_none k wd sl cp sa ow ia ra il ic rl rc w h
  rcases (show k = 1 ∨ k = 2 ∨ k = 3 ∨ k = 4 ∨ k = 5 ∨ k = 6 by omega) with rfl | rfl | rfl | rfl | rfl | rfl
  · exact size_of_1 wd sl cp sa ow ia ra il ic rl rc w
  · exact size_of_2 wd sl cp sa ow ia ra il ic rl rc w
  · exact size_of_3 wd sl cp sa ow ia ra il ic rl rc w
  · exact size_of_4 wd sl cp sa ow ia ra il ic rl rc w
  · exact size_of_5 wd sl cp sa ow ia ra il ic rl rc w
  · exact size_of_6 wd sl cp sa ow ia ra il ic rl rc w
end Go.Proofs.YtaclphhbdfoaeaaDoor.Fc
