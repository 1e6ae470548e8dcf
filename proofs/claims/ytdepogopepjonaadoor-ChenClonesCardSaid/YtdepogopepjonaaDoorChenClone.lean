/-

  Package four: an operation that stands where another one does.
-/
import Derived.Test.YtdepogopepjonaaDoorChenBegin
set_option linter.unusedSimpArgs false
set_option linter.unusedVariables false
namespace Go.Proofs.YtdepogopepjonaaDoor.Ch
open Go.ChangeShapes Go.WideShapes Go.ChangeAt Go.RowKit Ws Mm Pa
open Go.Proofs.YtdepogopepjonaaDoor.Ob (one_all chg_setRow row_blk)

theorem op_info : (Tryd.prog.info? 75).map (·.size) = some 23 := by kernel_rfl
theorem cells23 (p : Pt) (o : Op.Im) (s : Op.St) (h : p.rc.length = 8) : (p.cells (exf o s)).length = 23 := by simp [Pt.cells, Pt.tail, exf, ex4, h]
theorem one23 (p : Pt) (o : Op.Im) (s : Op.St) : (p.cells (exf o s)).toArray.all (·.oneCell') = true := by
  refine one_all ?_
  unfold Pt.cells Pt.tail exf ex4
  simp only [List.all_cons, List.all_append, List.all_map, List.all_nil]
  have : (p.rc.all (fun x => (Value.int IntKind.u32 x).oneCell')) = true := by
    rw [List.all_eq_true]
    intro x _
    rfl
  simp only [Function.comp_def, this]
  rfl

set_option maxRecDepth 100000 in
theorem clone_any {g : Nat} {o : Op.Im} {size : Nat} {s : Op.St} {p : Pt} (w : World) (h : FB w g 75 o size s p) :
    Calls Tryd.prog 25 #[.pointer (some ⟨g, 0, none⟩)] w fun e w' => ∃ g', e = .returned (.pointer (some ⟨g', 0, none⟩)) ∧ Same w w' ∧ w.heap.size ≤ g' ∧ FB w' g' 75 o size s p := by
  have h23 := cells23 p o s h.blk.rec8
  obtain ⟨cs, hcs⟩ : ∃ cs, cs = (p.cells (exf o s)).toArray := ⟨_, rfl⟩
  have hsz : cs.size = 23 := by rw [hcs, List.size_toArray]; exact h23
  have hone : cs.all (·.oneCell') = true := by rw [hcs]; exact one23 p o s
  have hblk : Blk w g 75 cs := by rw [hcs]; exact h.blk.blk
  have hi : (Tryd.prog.info? 75).map (·.size) = some cs.size := by rw [hsz]; exact op_info
  have HI := Lib.hid hi
  have HB := Lib.hid hblk
  have HN := Lib.hid (Blk.new w 75 #[.bool false, .int .i64 0, .int .i64 0, .int .i64 0, .int .i64 0, .int .i64 0, .int .i64 0, .int .u32 0, .int .u32 0, .int .u32 0, .int .u32 0, .int .u32 0, .int .u32 0, .int .u32 0, .int .u32 0, .int .i64 0, .int .i64 0, .bool false, .int .i64 0, .int .i64 0, .int .u64 0, .int .u32 0, .int .i64 0])
  have HO : Hid ((#[.bool false, .int .i64 0, .int .i64 0, .int .i64 0, .int .i64 0, .int .i64 0, .int .i64 0, .int .u32 0, .int .u32 0, .int .u32 0, .int .u32 0, .int .u32 0, .int .u32 0, .int .u32 0, .int .u32 0, .int .i64 0, .int .i64 0, .bool false, .int .i64 0, .int .i64 0, .int .u64 0, .int .u32 0, .int .i64 0] : Array Value).size = cs.size) := Lib.hid (by rw [hsz]; rfl)
  have H1 := Lib.hid hone
  have HC := Lib.hid hcs
  have HF := Lib.hid h
  clear h23 hsz hone hblk hi hcs h
  go_enter Tryd.func25, Tryd.ntmps25
  go_wp2_with (first | (refine wpList_load_row rfl 75 (.tmp 7) rfl g rfl 75 cs (0, 0) _ HB.out Tryd.underlying75 rfl HI.out ?_) | (refine wpList_load_row rfl 75 (.tmp 7) rfl g rfl 75 cs (0, 0) _ (HB.out.same ((Same.refl w).alloc _)) Tryd.underlying75 rfl HI.out ?_) | (refine wpList_store_row rfl 75 (.tmp 3) (.tmp 8) rfl w.heap.size cs rfl rfl 75 #[.bool false, .int .i64 0, .int .i64 0, .int .i64 0, .int .i64 0, .int .i64 0, .int .i64 0, .int .u32 0, .int .u32 0, .int .u32 0, .int .u32 0, .int .u32 0, .int .u32 0, .int .u32 0, .int .u32 0, .int .i64 0, .int .i64 0, .bool false, .int .i64 0, .int .i64 0, .int .u64 0, .int .u32 0, .int .i64 0] HN.out HI.out HO.out H1.out ?_))
  go_ret
  have hs : Same w ((w.alloc (.cells #[.bool false, .int .i64 0, .int .i64 0, .int .i64 0, .int .i64 0, .int .i64 0, .int .i64 0, .int .u32 0, .int .u32 0, .int .u32 0, .int .u32 0, .int .u32 0, .int .u32 0, .int .u32 0, .int .u32 0, .int .i64 0, .int .i64 0, .bool false, .int .i64 0, .int .i64 0, .int .u64 0, .int .u32 0, .int .i64 0] 75)).setRow w.heap.size cs) := ((Same.refl w).alloc _).more (chg_setRow (Chg.refl (fun i => i = w.heap.size) _) (.inl rfl) _) (fun i hi => by omega)
  have hb := row_blk (cs := cs) HN.out
  rw [HC.out] at hb hs ⊢
  exact ⟨_, rfl, hs, Nat.le_refl _, ⟨HF.out.blk.rec8, hb⟩, HF.out.imp⟩

end Go.Proofs.YtdepogopepjonaaDoor.Ch
