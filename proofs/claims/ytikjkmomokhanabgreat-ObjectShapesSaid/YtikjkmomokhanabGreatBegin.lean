/-

  How an operation begins (package operation), of a kind of registers.
-/
import Derived.Test.YtikjkmomokhanabGreatObj
set_option linter.unusedSimpArgs false
set_option linter.unusedVariables false
namespace Go.Proofs.YtikjkmomokhanabGreat.Ob
open Go.ChangeShapes Go.WideShapes Go.ChangeAt Go.RowKit Ws Mm Pa

theorem results_cell_tmp {P : Program} {fn : Func} {p t : Tmp} {ty : TypeId} (h : fn.results = #[.cell p ty, .tmp t]) (tmps : Array Value) (w : World) (g : Nat) (T : TypeId) (cs : Array Value) (fr : Nat × Nat) (d : TypeDesc)
    (hp : tmps.getD p undef = .pointer (some ⟨g, 0, none⟩)) (hg : w.heap[g]? = some (.cells cs T fr))
    (hu : P.underlying ty = some d) (hd : (match d with | .struct _ | .array _ _ => true | _ => false) = true) (hi : (P.info? ty).map (·.size) = some cs.size) :
    (results fn tmps).run P w = .ok (.tuple #[.agg cs, tmps.getD t undef]) w := by
  have hp' : tmps[p]?.getD undef = .pointer (some ⟨g, 0, none⟩) := by simpa using hp
  simp [results, h, hp', asAddr, run_loadVar_row w g T ty cs fr d hg hu hd hi]
theorem chg_setRow {S : Nat → Prop} {a b : World} (h : Chg S a b) {g : Nat} (hg : S g ∨ a.heap.size ≤ g) (cs : Array Value) : Chg S a (b.setRow g cs) := by
  refine ⟨h.os, h.tape, h.output, by simpa [World.setRow] using h.size, fun i hi hn => ?_⟩
  rw [← h.block i hi hn]
  unfold World.setRow
  simp only [Array.getElem?_modify]
  rw [if_neg]
  rintro rfl
  rcases hg with hg | hg
  · exact hn hg
  · omega
theorem part_info : (Tryz.prog.info? 135).map (·.size) = some 19 := by kernel_rfl

theorem one_all {cs : List Value} (h : cs.all (fun v => v.oneCell') = true) : cs.toArray.all (·.oneCell') = true := by
  rw [List.all_toArray]
  exact h

/-- a block of a part, and one that is set -/
theorem row_blk {w : World} {g : Nat} {T : TypeId} {old cs : Array Value} (h : Blk w g T old) : Blk (w.setRow g cs) g T cs := setRow_heap w g old cs T (0, 0) h

set_option maxHeartbeats 1000000 in
set_option maxRecDepth 100000 in
theorem obegin_arg1 (k wd sl cp sa ow : Int) (ia ra : Option Addr) (il ic rl rc : Nat) (size at_ op reader : Int) (A : Option Addr) (m c : Nat) (w : World) (b0 : (size == 0) = true) :
    Calls Tryz.prog 118 #[.agg #[.int .i64 k, .int .i64 wd, .int .i64 sl, .int .i64 cp, .int .u32 sa, .slice ia il ic, .int .i64 ow, .slice ra rl rc], .int .i64 size, .int .i64 at_, .int .i64 op, .int .i64 reader, .slice A m c] w fun e w' => e = .returned (.tuple #[.agg #[.bool false, .int .i64 0, .int .i64 0, .int .i64 0, .int .i64 0, .int .i64 0, .int .i64 0, .int .u32 0, .int .u32 0, .int .u32 0, .int .u32 0, .int .u32 0, .int .u32 0, .int .u32 0, .int .u32 0, .int .i64 0, .int .i64 0, .bool false, .int .i64 0], .int .i64 1]) ∧ Same w w' := by
  have hb := Blk.new (w.alloc (.cells #[.int .i64 k, .int .i64 wd, .int .i64 sl, .int .i64 cp, .int .u32 sa, .slice ia il ic, .int .i64 ow, .slice ra rl rc] 26)) 135 #[.bool false, .int .i64 0, .int .i64 0, .int .i64 0, .int .i64 0, .int .i64 0, .int .i64 0, .int .u32 0, .int .u32 0, .int .u32 0, .int .u32 0, .int .u32 0, .int .u32 0, .int .u32 0, .int .u32 0, .int .i64 0, .int .i64 0, .bool false, .int .i64 0]
  have hs := ((Same.refl w).alloc (.cells #[.int .i64 k, .int .i64 wd, .int .i64 sl, .int .i64 cp, .int .u32 sa, .slice ia il ic, .int .i64 ow, .slice ra rl rc] 26)).alloc (.cells #[.bool false, .int .i64 0, .int .i64 0, .int .i64 0, .int .i64 0, .int .i64 0, .int .i64 0, .int .u32 0, .int .u32 0, .int .u32 0, .int .u32 0, .int .u32 0, .int .u32 0, .int .u32 0, .int .u32 0, .int .i64 0, .int .i64 0, .bool false, .int .i64 0] 135)
  have hz : (w.alloc (.cells #[.int .i64 k, .int .i64 wd, .int .i64 sl, .int .i64 cp, .int .u32 sa, .slice ia il ic, .int .i64 ow, .slice ra rl rc] 26)).heap.size = w.heap.size + 1 := by simp
  rw [hz] at hb
  have HB := Lib.hid hb
  have HS := Lib.hid hs
  have h1 : (#[.bool false, .int .i64 0, .int .i64 0, .int .i64 0, .int .i64 0, .int .i64 0, .int .i64 0, .int .u32 0, .int .u32 0, .int .u32 0, .int .u32 0, .int .u32 0, .int .u32 0, .int .u32 0, .int .u32 0, .int .i64 0, .int .i64 0, .bool false, .int .i64 0] : Array Value).all (·.oneCell') = true := one_all (by rfl)
  have H1 := Lib.hid h1
  clear hb hs hz h1
  go_enter Tryz.func118, Tryz.ntmps118
  go_wp2_with (refine wpList_store_row rfl 135 (.tmp 12) (.tmp 26) rfl (w.heap.size + 1) #[.bool false, .int .i64 0, .int .i64 0, .int .i64 0, .int .i64 0, .int .i64 0, .int .i64 0, .int .u32 0, .int .u32 0, .int .u32 0, .int .u32 0, .int .u32 0, .int .u32 0, .int .u32 0, .int .u32 0, .int .i64 0, .int .i64 0, .bool false, .int .i64 0] rfl rfl 135 #[.bool false, .int .i64 0, .int .i64 0, .int .i64 0, .int .i64 0, .int .i64 0, .int .i64 0, .int .u32 0, .int .u32 0, .int .u32 0, .int .u32 0, .int .u32 0, .int .u32 0, .int .u32 0, .int .u32 0, .int .i64 0, .int .i64 0, .bool false, .int .i64 0] HB.out part_info rfl H1.out ?_)
  refine bodyPost_ret (v := .tuple #[.agg #[.bool false, .int .i64 0, .int .i64 0, .int .i64 0, .int .i64 0, .int .i64 0, .int .i64 0, .int .u32 0, .int .u32 0, .int .u32 0, .int .u32 0, .int .u32 0, .int .u32 0, .int .u32 0, .int .u32 0, .int .i64 0, .int .i64 0, .bool false, .int .i64 0], .int .i64 1]) (results_cell_tmp Tryz.results118 _ _ (w.heap.size + 1) 135 #[.bool false, .int .i64 0, .int .i64 0, .int .i64 0, .int .i64 0, .int .i64 0, .int .i64 0, .int .u32 0, .int .u32 0, .int .u32 0, .int .u32 0, .int .u32 0, .int .u32 0, .int .u32 0, .int .u32 0, .int .i64 0, .int .i64 0, .bool false, .int .i64 0] (0, 0) _ rfl (row_blk HB.out) Tryz.underlying135 rfl part_info) rfl ⟨rfl, ?_⟩
  exact HS.out.more (chg_setRow (Chg.refl (fun i => i = w.heap.size + 1) _) (.inl rfl) _) (fun i hi => by omega)
set_option maxHeartbeats 1000000 in
set_option maxRecDepth 100000 in
theorem obegin_arg2 (k wd sl cp sa ow : Int) (ia ra : Option Addr) (il ic rl rc : Nat) (size at_ op reader : Int) (A : Option Addr) (m c : Nat) (w : World) (b0 : (size == 0) = false) (ha : at_ < 0) :
    Calls Tryz.prog 118 #[.agg #[.int .i64 k, .int .i64 wd, .int .i64 sl, .int .i64 cp, .int .u32 sa, .slice ia il ic, .int .i64 ow, .slice ra rl rc], .int .i64 size, .int .i64 at_, .int .i64 op, .int .i64 reader, .slice A m c] w fun e w' => e = .returned (.tuple #[.agg #[.bool false, .int .i64 0, .int .i64 0, .int .i64 0, .int .i64 0, .int .i64 0, .int .i64 0, .int .u32 0, .int .u32 0, .int .u32 0, .int .u32 0, .int .u32 0, .int .u32 0, .int .u32 0, .int .u32 0, .int .i64 0, .int .i64 0, .bool false, .int .i64 0], .int .i64 1]) ∧ Same w w' := by
  have hb := Blk.new (w.alloc (.cells #[.int .i64 k, .int .i64 wd, .int .i64 sl, .int .i64 cp, .int .u32 sa, .slice ia il ic, .int .i64 ow, .slice ra rl rc] 26)) 135 #[.bool false, .int .i64 0, .int .i64 0, .int .i64 0, .int .i64 0, .int .i64 0, .int .i64 0, .int .u32 0, .int .u32 0, .int .u32 0, .int .u32 0, .int .u32 0, .int .u32 0, .int .u32 0, .int .u32 0, .int .i64 0, .int .i64 0, .bool false, .int .i64 0]
  have hs := ((Same.refl w).alloc (.cells #[.int .i64 k, .int .i64 wd, .int .i64 sl, .int .i64 cp, .int .u32 sa, .slice ia il ic, .int .i64 ow, .slice ra rl rc] 26)).alloc (.cells #[.bool false, .int .i64 0, .int .i64 0, .int .i64 0, .int .i64 0, .int .i64 0, .int .i64 0, .int .u32 0, .int .u32 0, .int .u32 0, .int .u32 0, .int .u32 0, .int .u32 0, .int .u32 0, .int .u32 0, .int .i64 0, .int .i64 0, .bool false, .int .i64 0] 135)
  have hz : (w.alloc (.cells #[.int .i64 k, .int .i64 wd, .int .i64 sl, .int .i64 cp, .int .u32 sa, .slice ia il ic, .int .i64 ow, .slice ra rl rc] 26)).heap.size = w.heap.size + 1 := by simp
  rw [hz] at hb
  have HB := Lib.hid hb
  have HS := Lib.hid hs
  have h1 : (#[.bool false, .int .i64 0, .int .i64 0, .int .i64 0, .int .i64 0, .int .i64 0, .int .i64 0, .int .u32 0, .int .u32 0, .int .u32 0, .int .u32 0, .int .u32 0, .int .u32 0, .int .u32 0, .int .u32 0, .int .i64 0, .int .i64 0, .bool false, .int .i64 0] : Array Value).all (·.oneCell') = true := one_all (by rfl)
  have H1 := Lib.hid h1
  clear hb hs hz h1
  go_enter Tryz.func118, Tryz.ntmps118
  go_wp2_with (refine wpList_store_row rfl 135 (.tmp 12) (.tmp 26) rfl (w.heap.size + 1) #[.bool false, .int .i64 0, .int .i64 0, .int .i64 0, .int .i64 0, .int .i64 0, .int .i64 0, .int .u32 0, .int .u32 0, .int .u32 0, .int .u32 0, .int .u32 0, .int .u32 0, .int .u32 0, .int .u32 0, .int .i64 0, .int .i64 0, .bool false, .int .i64 0] rfl rfl 135 #[.bool false, .int .i64 0, .int .i64 0, .int .i64 0, .int .i64 0, .int .i64 0, .int .i64 0, .int .u32 0, .int .u32 0, .int .u32 0, .int .u32 0, .int .u32 0, .int .u32 0, .int .u32 0, .int .u32 0, .int .i64 0, .int .i64 0, .bool false, .int .i64 0] HB.out part_info rfl H1.out ?_)
  refine bodyPost_ret (v := .tuple #[.agg #[.bool false, .int .i64 0, .int .i64 0, .int .i64 0, .int .i64 0, .int .i64 0, .int .i64 0, .int .u32 0, .int .u32 0, .int .u32 0, .int .u32 0, .int .u32 0, .int .u32 0, .int .u32 0, .int .u32 0, .int .i64 0, .int .i64 0, .bool false, .int .i64 0], .int .i64 1]) (results_cell_tmp Tryz.results118 _ _ (w.heap.size + 1) 135 #[.bool false, .int .i64 0, .int .i64 0, .int .i64 0, .int .i64 0, .int .i64 0, .int .i64 0, .int .u32 0, .int .u32 0, .int .u32 0, .int .u32 0, .int .u32 0, .int .u32 0, .int .u32 0, .int .u32 0, .int .i64 0, .int .i64 0, .bool false, .int .i64 0] (0, 0) _ rfl (row_blk (HB.out)) Tryz.underlying135 rfl part_info) rfl ⟨rfl, ?_⟩
  exact (HS.out).more (chg_setRow (Chg.refl (fun i => i = w.heap.size + 1) _) (.inl rfl) _) (fun i hi => by omega)

set_option maxHeartbeats 1000000 in
set_option maxRecDepth 100000 in
theorem obegin_call (k wd sl cp sa ow : Int) (ia ra : Option Addr) (il ic rl rc : Nat) (size at_ op reader : Int) (A : Option Addr) (m c : Nat) (w : World) (b0 : (size == 0) = false) (ha : 0 ≤ at_) (hk : k = 1 ∨ k = 2 ∨ k = 3 ∨ k = 4 ∨ k = 5) (n2 : (op != 2) = true) (n1 : (op != 1) = true) :
    Calls Tryz.prog 118 #[.agg #[.int .i64 k, .int .i64 wd, .int .i64 sl, .int .i64 cp, .int .u32 sa, .slice ia il ic, .int .i64 ow, .slice ra rl rc], .int .i64 size, .int .i64 at_, .int .i64 op, .int .i64 reader, .slice A m c] w fun e w' => e = .returned (.tuple #[.agg #[.bool false, .int .i64 0, .int .i64 0, .int .i64 0, .int .i64 0, .int .i64 0, .int .i64 0, .int .u32 0, .int .u32 0, .int .u32 0, .int .u32 0, .int .u32 0, .int .u32 0, .int .u32 0, .int .u32 0, .int .i64 0, .int .i64 0, .bool false, .int .i64 0], .int .i64 9]) ∧ Same w w' := by
  have hb := Blk.new (w.alloc (.cells #[.int .i64 k, .int .i64 wd, .int .i64 sl, .int .i64 cp, .int .u32 sa, .slice ia il ic, .int .i64 ow, .slice ra rl rc] 26)) 135 #[.bool false, .int .i64 0, .int .i64 0, .int .i64 0, .int .i64 0, .int .i64 0, .int .i64 0, .int .u32 0, .int .u32 0, .int .u32 0, .int .u32 0, .int .u32 0, .int .u32 0, .int .u32 0, .int .u32 0, .int .i64 0, .int .i64 0, .bool false, .int .i64 0]
  have hs := ((Same.refl w).alloc (.cells #[.int .i64 k, .int .i64 wd, .int .i64 sl, .int .i64 cp, .int .u32 sa, .slice ia il ic, .int .i64 ow, .slice ra rl rc] 26)).alloc (.cells #[.bool false, .int .i64 0, .int .i64 0, .int .i64 0, .int .i64 0, .int .i64 0, .int .i64 0, .int .u32 0, .int .u32 0, .int .u32 0, .int .u32 0, .int .u32 0, .int .u32 0, .int .u32 0, .int .u32 0, .int .i64 0, .int .i64 0, .bool false, .int .i64 0] 135)
  have hz : (w.alloc (.cells #[.int .i64 k, .int .i64 wd, .int .i64 sl, .int .i64 cp, .int .u32 sa, .slice ia il ic, .int .i64 ow, .slice ra rl rc] 26)).heap.size = w.heap.size + 1 := by simp
  rw [hz] at hb
  have HB := Lib.hid hb
  have HS := Lib.hid hs
  have h1 : (#[.bool false, .int .i64 0, .int .i64 0, .int .i64 0, .int .i64 0, .int .i64 0, .int .i64 0, .int .u32 0, .int .u32 0, .int .u32 0, .int .u32 0, .int .u32 0, .int .u32 0, .int .u32 0, .int .u32 0, .int .i64 0, .int .i64 0, .bool false, .int .i64 0] : Array Value).all (·.oneCell') = true := one_all (by rfl)
  have H1 := Lib.hid h1
  clear hb hs hz h1
  have hna : ¬ at_ < 0 := by omega
  clear ha
  go_enter Tryz.func118, Tryz.ntmps118
  go_wp2_with (first | (go_at_call 45; ((with_reducible refine (ops_reg k hk _).mono ?_); rintro e w' ⟨rfl, rfl⟩)) | (refine wpList_store_row rfl 135 (.tmp 12) (.tmp 42) rfl (w.heap.size + 1) #[.bool false, .int .i64 0, .int .i64 0, .int .i64 0, .int .i64 0, .int .i64 0, .int .i64 0, .int .u32 0, .int .u32 0, .int .u32 0, .int .u32 0, .int .u32 0, .int .u32 0, .int .u32 0, .int .u32 0, .int .i64 0, .int .i64 0, .bool false, .int .i64 0] rfl rfl 135 #[.bool false, .int .i64 0, .int .i64 0, .int .i64 0, .int .i64 0, .int .i64 0, .int .i64 0, .int .u32 0, .int .u32 0, .int .u32 0, .int .u32 0, .int .u32 0, .int .u32 0, .int .u32 0, .int .u32 0, .int .i64 0, .int .i64 0, .bool false, .int .i64 0] HB.out part_info rfl H1.out ?_))
  refine bodyPost_ret (v := .tuple #[.agg #[.bool false, .int .i64 0, .int .i64 0, .int .i64 0, .int .i64 0, .int .i64 0, .int .i64 0, .int .u32 0, .int .u32 0, .int .u32 0, .int .u32 0, .int .u32 0, .int .u32 0, .int .u32 0, .int .u32 0, .int .i64 0, .int .i64 0, .bool false, .int .i64 0], .int .i64 9]) (results_cell_tmp Tryz.results118 _ _ (w.heap.size + 1) 135 #[.bool false, .int .i64 0, .int .i64 0, .int .i64 0, .int .i64 0, .int .i64 0, .int .i64 0, .int .u32 0, .int .u32 0, .int .u32 0, .int .u32 0, .int .u32 0, .int .u32 0, .int .u32 0, .int .u32 0, .int .i64 0, .int .i64 0, .bool false, .int .i64 0] (0, 0) _ rfl (row_blk (HB.out)) Tryz.underlying135 rfl part_info) rfl ⟨rfl, ?_⟩
  exact (HS.out).more (chg_setRow (Chg.refl (fun i => i = w.heap.size + 1) _) (.inl rfl) _) (fun i hi => by omega)

set_option maxHeartbeats 1000000 in
set_option maxRecDepth 100000 in
theorem obegin_range_wr (k wd sl cp sa ow : Int) (ia ra : Option Addr) (il ic rl rc : Nat) (size at_ reader : Int) (A : Option Addr) (m c : Nat) (w : World) (b0 : (size == 0) = false) (ha : 0 ≤ at_) (hk : k = 1 ∨ k = 2 ∨ k = 3 ∨ k = 4 ∨ k = 5) (hr : reader ≠ 0) :
    Calls Tryz.prog 118 #[.agg #[.int .i64 k, .int .i64 wd, .int .i64 sl, .int .i64 cp, .int .u32 sa, .slice ia il ic, .int .i64 ow, .slice ra rl rc], .int .i64 size, .int .i64 at_, .int .i64 2, .int .i64 reader, .slice A m c] w fun e w' => e = .returned (.tuple #[.agg #[.bool false, .int .i64 0, .int .i64 0, .int .i64 0, .int .i64 0, .int .i64 0, .int .i64 0, .int .u32 0, .int .u32 0, .int .u32 0, .int .u32 0, .int .u32 0, .int .u32 0, .int .u32 0, .int .u32 0, .int .i64 0, .int .i64 0, .bool false, .int .i64 0], .int .i64 5]) ∧ Same w w' := by
  have hb := Blk.new (w.alloc (.cells #[.int .i64 k, .int .i64 wd, .int .i64 sl, .int .i64 cp, .int .u32 sa, .slice ia il ic, .int .i64 ow, .slice ra rl rc] 26)) 135 #[.bool false, .int .i64 0, .int .i64 0, .int .i64 0, .int .i64 0, .int .i64 0, .int .i64 0, .int .u32 0, .int .u32 0, .int .u32 0, .int .u32 0, .int .u32 0, .int .u32 0, .int .u32 0, .int .u32 0, .int .i64 0, .int .i64 0, .bool false, .int .i64 0]
  have hs := ((Same.refl w).alloc (.cells #[.int .i64 k, .int .i64 wd, .int .i64 sl, .int .i64 cp, .int .u32 sa, .slice ia il ic, .int .i64 ow, .slice ra rl rc] 26)).alloc (.cells #[.bool false, .int .i64 0, .int .i64 0, .int .i64 0, .int .i64 0, .int .i64 0, .int .i64 0, .int .u32 0, .int .u32 0, .int .u32 0, .int .u32 0, .int .u32 0, .int .u32 0, .int .u32 0, .int .u32 0, .int .i64 0, .int .i64 0, .bool false, .int .i64 0] 135)
  have hz : (w.alloc (.cells #[.int .i64 k, .int .i64 wd, .int .i64 sl, .int .i64 cp, .int .u32 sa, .slice ia il ic, .int .i64 ow, .slice ra rl rc] 26)).heap.size = w.heap.size + 1 := by simp
  rw [hz] at hb
  have HB := Lib.hid hb
  have HS := Lib.hid hs
  have h1 : (#[.bool false, .int .i64 0, .int .i64 0, .int .i64 0, .int .i64 0, .int .i64 0, .int .i64 0, .int .u32 0, .int .u32 0, .int .u32 0, .int .u32 0, .int .u32 0, .int .u32 0, .int .u32 0, .int .u32 0, .int .i64 0, .int .i64 0, .bool false, .int .i64 0] : Array Value).all (·.oneCell') = true := one_all (by rfl)
  have H1 := Lib.hid h1
  clear hb hs hz h1
  have hna : ¬ at_ < 0 := by omega
  clear ha
  go_enter Tryz.func118, Tryz.ntmps118
  go_wp2_with fail
  refine (ops_reg k hk _).mono ?_
  rintro e w' ⟨rfl, rfl⟩
  go_wp2_with fail
  go_quiet (fail)
  have HBQ : Hid (Blk (((w.alloc (.cells #[.int .i64 k, .int .i64 wd, .int .i64 sl, .int .i64 cp, .int .u32 sa, .slice ia il ic, .int .i64 ow, .slice ra rl rc] 26)).alloc (.cells #[.bool false, .int .i64 0, .int .i64 0, .int .i64 0, .int .i64 0, .int .i64 0, .int .i64 0, .int .u32 0, .int .u32 0, .int .u32 0, .int .u32 0, .int .u32 0, .int .u32 0, .int .u32 0, .int .u32 0, .int .i64 0, .int .i64 0, .bool false, .int .i64 0] 135)).drewN nq) (w.heap.size + 1) 135 #[.bool false, .int .i64 0, .int .i64 0, .int .i64 0, .int .i64 0, .int .i64 0, .int .i64 0, .int .u32 0, .int .u32 0, .int .u32 0, .int .u32 0, .int .u32 0, .int .u32 0, .int .u32 0, .int .u32 0, .int .i64 0, .int .i64 0, .bool false, .int .i64 0]) := Lib.hid (HB.out.same ((Same.refl _).drewN nq))
  have HSQ : Hid (Same w (((w.alloc (.cells #[.int .i64 k, .int .i64 wd, .int .i64 sl, .int .i64 cp, .int .u32 sa, .slice ia il ic, .int .i64 ow, .slice ra rl rc] 26)).alloc (.cells #[.bool false, .int .i64 0, .int .i64 0, .int .i64 0, .int .i64 0, .int .i64 0, .int .i64 0, .int .u32 0, .int .u32 0, .int .u32 0, .int .u32 0, .int .u32 0, .int .u32 0, .int .u32 0, .int .u32 0, .int .i64 0, .int .i64 0, .bool false, .int .i64 0] 135)).drewN nq)) := Lib.hid (HS.out.drewN nq)
  go_wp2_with fail
  refine (within_no _ _ _ (by omega) _).mono ?_
  rintro e w' ⟨rfl, rfl⟩
  go_wp2_with (refine wpList_store_row rfl 135 (.tmp 12) (.tmp 56) rfl (w.heap.size + 1) #[.bool false, .int .i64 0, .int .i64 0, .int .i64 0, .int .i64 0, .int .i64 0, .int .i64 0, .int .u32 0, .int .u32 0, .int .u32 0, .int .u32 0, .int .u32 0, .int .u32 0, .int .u32 0, .int .u32 0, .int .i64 0, .int .i64 0, .bool false, .int .i64 0] rfl rfl 135 #[.bool false, .int .i64 0, .int .i64 0, .int .i64 0, .int .i64 0, .int .i64 0, .int .i64 0, .int .u32 0, .int .u32 0, .int .u32 0, .int .u32 0, .int .u32 0, .int .u32 0, .int .u32 0, .int .u32 0, .int .i64 0, .int .i64 0, .bool false, .int .i64 0] HBQ.out part_info rfl H1.out ?_)
  refine bodyPost_ret (v := .tuple #[.agg #[.bool false, .int .i64 0, .int .i64 0, .int .i64 0, .int .i64 0, .int .i64 0, .int .i64 0, .int .u32 0, .int .u32 0, .int .u32 0, .int .u32 0, .int .u32 0, .int .u32 0, .int .u32 0, .int .u32 0, .int .i64 0, .int .i64 0, .bool false, .int .i64 0], .int .i64 5]) (results_cell_tmp Tryz.results118 _ _ (w.heap.size + 1) 135 #[.bool false, .int .i64 0, .int .i64 0, .int .i64 0, .int .i64 0, .int .i64 0, .int .i64 0, .int .u32 0, .int .u32 0, .int .u32 0, .int .u32 0, .int .u32 0, .int .u32 0, .int .u32 0, .int .u32 0, .int .i64 0, .int .i64 0, .bool false, .int .i64 0] (0, 0) _ rfl (row_blk (HBQ.out)) Tryz.underlying135 rfl part_info) rfl ⟨rfl, ?_⟩
  exact (HSQ.out).more (chg_setRow (Chg.refl (fun i => i = w.heap.size + 1) _) (.inl rfl) _) (fun i hi => by omega)

set_option maxHeartbeats 400000 in
set_option maxRecDepth 100000 in
theorem obegin_range_rd (k wd sl cp sa ow : Int) (ia ra : Option Addr) (il ic rl rc : Nat) (size at_ reader : Int) (A : Option Addr) (m c : Nat) (w : World) (b0 : (size == 0) = false) (ha : 0 ≤ at_) (hk : k = 1 ∨ k = 2 ∨ k = 3 ∨ k = 4 ∨ k = 5) (hw8 : 1 ≤ wd ∧ wd ≤ 8) (hrl : 1 ≤ rl ∧ rl ≤ 4) (hm : m ≤ 5000) (hr : ¬ (0 ≤ reader ∧ reader ≤ (rl : Int) - 1)) :
    Calls Tryz.prog 118 #[.agg #[.int .i64 k, .int .i64 wd, .int .i64 sl, .int .i64 cp, .int .u32 sa, .slice ia il ic, .int .i64 ow, .slice ra rl rc], .int .i64 size, .int .i64 at_, .int .i64 1, .int .i64 reader, .slice A m c] w fun e w' => e = .returned (.tuple #[.agg #[.bool false, .int .i64 0, .int .i64 0, .int .i64 0, .int .i64 0, .int .i64 0, .int .i64 0, .int .u32 0, .int .u32 0, .int .u32 0, .int .u32 0, .int .u32 0, .int .u32 0, .int .u32 0, .int .u32 0, .int .i64 0, .int .i64 0, .bool false, .int .i64 0], .int .i64 5]) ∧ Same w w' := by
  have hb := Blk.new (w.alloc (.cells #[.int .i64 k, .int .i64 wd, .int .i64 sl, .int .i64 cp, .int .u32 sa, .slice ia il ic, .int .i64 ow, .slice ra rl rc] 26)) 135 #[.bool false, .int .i64 0, .int .i64 0, .int .i64 0, .int .i64 0, .int .i64 0, .int .i64 0, .int .u32 0, .int .u32 0, .int .u32 0, .int .u32 0, .int .u32 0, .int .u32 0, .int .u32 0, .int .u32 0, .int .i64 0, .int .i64 0, .bool false, .int .i64 0]
  have ho := (Blk.new w 26 #[.int .i64 k, .int .i64 wd, .int .i64 sl, .int .i64 cp, .int .u32 sa, .slice ia il ic, .int .i64 ow, .slice ra rl rc]).same ((Same.refl (w.alloc (.cells #[.int .i64 k, .int .i64 wd, .int .i64 sl, .int .i64 cp, .int .u32 sa, .slice ia il ic, .int .i64 ow, .slice ra rl rc] 26))).alloc (.cells #[.bool false, .int .i64 0, .int .i64 0, .int .i64 0, .int .i64 0, .int .i64 0, .int .i64 0, .int .u32 0, .int .u32 0, .int .u32 0, .int .u32 0, .int .u32 0, .int .u32 0, .int .u32 0, .int .u32 0, .int .i64 0, .int .i64 0, .bool false, .int .i64 0] 135))
  have hs := ((Same.refl w).alloc (.cells #[.int .i64 k, .int .i64 wd, .int .i64 sl, .int .i64 cp, .int .u32 sa, .slice ia il ic, .int .i64 ow, .slice ra rl rc] 26)).alloc (.cells #[.bool false, .int .i64 0, .int .i64 0, .int .i64 0, .int .i64 0, .int .i64 0, .int .i64 0, .int .u32 0, .int .u32 0, .int .u32 0, .int .u32 0, .int .u32 0, .int .u32 0, .int .u32 0, .int .u32 0, .int .i64 0, .int .i64 0, .bool false, .int .i64 0] 135)
  have hz : (w.alloc (.cells #[.int .i64 k, .int .i64 wd, .int .i64 sl, .int .i64 cp, .int .u32 sa, .slice ia il ic, .int .i64 ow, .slice ra rl rc] 26)).heap.size = w.heap.size + 1 := by simp
  have hz2 : ((w.alloc (.cells #[.int .i64 k, .int .i64 wd, .int .i64 sl, .int .i64 cp, .int .u32 sa, .slice ia il ic, .int .i64 ow, .slice ra rl rc] 26)).alloc (.cells #[.bool false, .int .i64 0, .int .i64 0, .int .i64 0, .int .i64 0, .int .i64 0, .int .i64 0, .int .u32 0, .int .u32 0, .int .u32 0, .int .u32 0, .int .u32 0, .int .u32 0, .int .u32 0, .int .u32 0, .int .i64 0, .int .i64 0, .bool false, .int .i64 0] 135)).heap.size = w.heap.size + 2 := by simp
  rw [hz] at hb
  have HB := Lib.hid hb
  have HO := Lib.hid ho
  have HS := Lib.hid hs
  have HZ2 := Lib.hid hz2
  have h1 : (#[.bool false, .int .i64 0, .int .i64 0, .int .i64 0, .int .i64 0, .int .i64 0, .int .i64 0, .int .u32 0, .int .u32 0, .int .u32 0, .int .u32 0, .int .u32 0, .int .u32 0, .int .u32 0, .int .u32 0, .int .i64 0, .int .i64 0, .bool false, .int .i64 0] : Array Value).all (·.oneCell') = true := one_all (by rfl)
  have H1 := Lib.hid h1
  clear hb hs hz h1 ho hz2
  have hna : ¬ at_ < 0 := by omega
  obtain ⟨hw1, hw2⟩ := hw8
  obtain ⟨hl1, hl2⟩ := hrl
  have q1 : (1 : Int) ≤ rl := by omega
  have q2 : (rl : Int) ≤ 4 := by omega
  clear ha
  go_enter Tryz.func118, Tryz.ntmps118
  go_wp2_with fail
  refine (ops_reg k hk _).mono ?_
  rintro e w' ⟨rfl, rfl⟩
  go_wp2_with fail
  go_quiet (fail)
  have HBQ : Hid (Blk (((w.alloc (.cells #[.int .i64 k, .int .i64 wd, .int .i64 sl, .int .i64 cp, .int .u32 sa, .slice ia il ic, .int .i64 ow, .slice ra rl rc] 26)).alloc (.cells #[.bool false, .int .i64 0, .int .i64 0, .int .i64 0, .int .i64 0, .int .i64 0, .int .i64 0, .int .u32 0, .int .u32 0, .int .u32 0, .int .u32 0, .int .u32 0, .int .u32 0, .int .u32 0, .int .u32 0, .int .i64 0, .int .i64 0, .bool false, .int .i64 0] 135)).drewN nq) (w.heap.size + 1) 135 #[.bool false, .int .i64 0, .int .i64 0, .int .i64 0, .int .i64 0, .int .i64 0, .int .i64 0, .int .u32 0, .int .u32 0, .int .u32 0, .int .u32 0, .int .u32 0, .int .u32 0, .int .u32 0, .int .u32 0, .int .i64 0, .int .i64 0, .bool false, .int .i64 0]) := Lib.hid (HB.out.same ((Same.refl _).drewN nq))
  have HOQ : Hid (Blk (((w.alloc (.cells #[.int .i64 k, .int .i64 wd, .int .i64 sl, .int .i64 cp, .int .u32 sa, .slice ia il ic, .int .i64 ow, .slice ra rl rc] 26)).alloc (.cells #[.bool false, .int .i64 0, .int .i64 0, .int .i64 0, .int .i64 0, .int .i64 0, .int .i64 0, .int .u32 0, .int .u32 0, .int .u32 0, .int .u32 0, .int .u32 0, .int .u32 0, .int .u32 0, .int .u32 0, .int .i64 0, .int .i64 0, .bool false, .int .i64 0] 135)).drewN nq) w.heap.size 26 #[.int .i64 k, .int .i64 wd, .int .i64 sl, .int .i64 cp, .int .u32 sa, .slice ia il ic, .int .i64 ow, .slice ra rl rc]) := Lib.hid (HO.out.same ((Same.refl _).drewN nq))
  have HSQ : Hid (Same w (((w.alloc (.cells #[.int .i64 k, .int .i64 wd, .int .i64 sl, .int .i64 cp, .int .u32 sa, .slice ia il ic, .int .i64 ow, .slice ra rl rc] 26)).alloc (.cells #[.bool false, .int .i64 0, .int .i64 0, .int .i64 0, .int .i64 0, .int .i64 0, .int .i64 0, .int .u32 0, .int .u32 0, .int .u32 0, .int .u32 0, .int .u32 0, .int .u32 0, .int .u32 0, .int .u32 0, .int .i64 0, .int .i64 0, .bool false, .int .i64 0] 135)).drewN nq)) := Lib.hid (HS.out.drewN nq)
  have HZQ : Hid ((((w.alloc (.cells #[.int .i64 k, .int .i64 wd, .int .i64 sl, .int .i64 cp, .int .u32 sa, .slice ia il ic, .int .i64 ow, .slice ra rl rc] 26)).alloc (.cells #[.bool false, .int .i64 0, .int .i64 0, .int .i64 0, .int .i64 0, .int .i64 0, .int .i64 0, .int .u32 0, .int .u32 0, .int .u32 0, .int .u32 0, .int .u32 0, .int .u32 0, .int .u32 0, .int .u32 0, .int .i64 0, .int .i64 0, .bool false, .int .i64 0] 135)).drewN nq).heap.size = w.heap.size + 2) := Lib.hid HZ2.out
  clear HB HO HS HZ2
  generalize ((w.alloc (.cells #[.int .i64 k, .int .i64 wd, .int .i64 sl, .int .i64 cp, .int .u32 sa, .slice ia il ic, .int .i64 ow, .slice ra rl rc] 26)).alloc (.cells #[.bool false, .int .i64 0, .int .i64 0, .int .i64 0, .int .i64 0, .int .i64 0, .int .i64 0, .int .u32 0, .int .u32 0, .int .u32 0, .int .u32 0, .int .u32 0, .int .u32 0, .int .u32 0, .int .u32 0, .int .i64 0, .int .i64 0, .bool false, .int .i64 0] 135)).drewN nq = w2 at *
  obtain ⟨d0, d1, d2, d3, d4, d5, d6, d7⟩ := obj_cells HOQ.out
  go_wp2_with fail
  refine (within_no _ _ _ (hr) _).mono ?_
  rintro e w' ⟨rfl, rfl⟩
  go_wp2_with (refine wpList_store_row rfl 135 (.tmp 12) (.tmp 56) rfl (w.heap.size + 1) #[.bool false, .int .i64 0, .int .i64 0, .int .i64 0, .int .i64 0, .int .i64 0, .int .i64 0, .int .u32 0, .int .u32 0, .int .u32 0, .int .u32 0, .int .u32 0, .int .u32 0, .int .u32 0, .int .u32 0, .int .i64 0, .int .i64 0, .bool false, .int .i64 0] rfl rfl 135 #[.bool false, .int .i64 0, .int .i64 0, .int .i64 0, .int .i64 0, .int .i64 0, .int .i64 0, .int .u32 0, .int .u32 0, .int .u32 0, .int .u32 0, .int .u32 0, .int .u32 0, .int .u32 0, .int .u32 0, .int .i64 0, .int .i64 0, .bool false, .int .i64 0] HBQ.out part_info rfl H1.out ?_)
  refine bodyPost_ret (v := .tuple #[.agg #[.bool false, .int .i64 0, .int .i64 0, .int .i64 0, .int .i64 0, .int .i64 0, .int .i64 0, .int .u32 0, .int .u32 0, .int .u32 0, .int .u32 0, .int .u32 0, .int .u32 0, .int .u32 0, .int .u32 0, .int .i64 0, .int .i64 0, .bool false, .int .i64 0], .int .i64 5]) (results_cell_tmp Tryz.results118 _ _ (w.heap.size + 1) 135 #[.bool false, .int .i64 0, .int .i64 0, .int .i64 0, .int .i64 0, .int .i64 0, .int .i64 0, .int .u32 0, .int .u32 0, .int .u32 0, .int .u32 0, .int .u32 0, .int .u32 0, .int .u32 0, .int .u32 0, .int .i64 0, .int .i64 0, .bool false, .int .i64 0] (0, 0) _ rfl (row_blk HBQ.out) Tryz.underlying135 rfl part_info) rfl ⟨rfl, ?_⟩
  exact HSQ.out.more (chg_setRow (Chg.refl (fun i => i = w.heap.size + 1) _) (.inl rfl) _) (fun i hi => by omega)

set_option maxHeartbeats 400000 in
set_option maxRecDepth 100000 in
theorem obegin_form_wr (k wd sl cp sa ow : Int) (ia ra : Option Addr) (il ic rl rc : Nat) (size at_ reader : Int) (A : Option Addr) (m c : Nat) (w : World) (b0 : (size == 0) = false) (ha : 0 ≤ at_) (hk : k = 1 ∨ k = 2 ∨ k = 3 ∨ k = 4 ∨ k = 5) (hw8 : 1 ≤ wd ∧ wd ≤ 8) (hrl : 1 ≤ rl ∧ rl ≤ 4) (hm : m ≤ 5000) (hr : reader = 0) (hf : ((m : Int) != wd) = true) :
    Calls Tryz.prog 118 #[.agg #[.int .i64 k, .int .i64 wd, .int .i64 sl, .int .i64 cp, .int .u32 sa, .slice ia il ic, .int .i64 ow, .slice ra rl rc], .int .i64 size, .int .i64 at_, .int .i64 2, .int .i64 reader, .slice A m c] w fun e w' => e = .returned (.tuple #[.agg #[.bool false, .int .i64 0, .int .i64 0, .int .i64 0, .int .i64 0, .int .i64 0, .int .i64 0, .int .u32 0, .int .u32 0, .int .u32 0, .int .u32 0, .int .u32 0, .int .u32 0, .int .u32 0, .int .u32 0, .int .i64 0, .int .i64 0, .bool false, .int .i64 0], .int .i64 4]) ∧ Same w w' := by
  have hb := Blk.new (w.alloc (.cells #[.int .i64 k, .int .i64 wd, .int .i64 sl, .int .i64 cp, .int .u32 sa, .slice ia il ic, .int .i64 ow, .slice ra rl rc] 26)) 135 #[.bool false, .int .i64 0, .int .i64 0, .int .i64 0, .int .i64 0, .int .i64 0, .int .i64 0, .int .u32 0, .int .u32 0, .int .u32 0, .int .u32 0, .int .u32 0, .int .u32 0, .int .u32 0, .int .u32 0, .int .i64 0, .int .i64 0, .bool false, .int .i64 0]
  have ho := (Blk.new w 26 #[.int .i64 k, .int .i64 wd, .int .i64 sl, .int .i64 cp, .int .u32 sa, .slice ia il ic, .int .i64 ow, .slice ra rl rc]).same ((Same.refl (w.alloc (.cells #[.int .i64 k, .int .i64 wd, .int .i64 sl, .int .i64 cp, .int .u32 sa, .slice ia il ic, .int .i64 ow, .slice ra rl rc] 26))).alloc (.cells #[.bool false, .int .i64 0, .int .i64 0, .int .i64 0, .int .i64 0, .int .i64 0, .int .i64 0, .int .u32 0, .int .u32 0, .int .u32 0, .int .u32 0, .int .u32 0, .int .u32 0, .int .u32 0, .int .u32 0, .int .i64 0, .int .i64 0, .bool false, .int .i64 0] 135))
  have hs := ((Same.refl w).alloc (.cells #[.int .i64 k, .int .i64 wd, .int .i64 sl, .int .i64 cp, .int .u32 sa, .slice ia il ic, .int .i64 ow, .slice ra rl rc] 26)).alloc (.cells #[.bool false, .int .i64 0, .int .i64 0, .int .i64 0, .int .i64 0, .int .i64 0, .int .i64 0, .int .u32 0, .int .u32 0, .int .u32 0, .int .u32 0, .int .u32 0, .int .u32 0, .int .u32 0, .int .u32 0, .int .i64 0, .int .i64 0, .bool false, .int .i64 0] 135)
  have hz : (w.alloc (.cells #[.int .i64 k, .int .i64 wd, .int .i64 sl, .int .i64 cp, .int .u32 sa, .slice ia il ic, .int .i64 ow, .slice ra rl rc] 26)).heap.size = w.heap.size + 1 := by simp
  have hz2 : ((w.alloc (.cells #[.int .i64 k, .int .i64 wd, .int .i64 sl, .int .i64 cp, .int .u32 sa, .slice ia il ic, .int .i64 ow, .slice ra rl rc] 26)).alloc (.cells #[.bool false, .int .i64 0, .int .i64 0, .int .i64 0, .int .i64 0, .int .i64 0, .int .i64 0, .int .u32 0, .int .u32 0, .int .u32 0, .int .u32 0, .int .u32 0, .int .u32 0, .int .u32 0, .int .u32 0, .int .i64 0, .int .i64 0, .bool false, .int .i64 0] 135)).heap.size = w.heap.size + 2 := by simp
  rw [hz] at hb
  have HB := Lib.hid hb
  have HO := Lib.hid ho
  have HS := Lib.hid hs
  have HZ2 := Lib.hid hz2
  have h1 : (#[.bool false, .int .i64 0, .int .i64 0, .int .i64 0, .int .i64 0, .int .i64 0, .int .i64 0, .int .u32 0, .int .u32 0, .int .u32 0, .int .u32 0, .int .u32 0, .int .u32 0, .int .u32 0, .int .u32 0, .int .i64 0, .int .i64 0, .bool false, .int .i64 0] : Array Value).all (·.oneCell') = true := one_all (by rfl)
  have H1 := Lib.hid h1
  clear hb hs hz h1 ho hz2
  subst hr
  have hna : ¬ at_ < 0 := by omega
  obtain ⟨hw1, hw2⟩ := hw8
  obtain ⟨hl1, hl2⟩ := hrl
  have q1 : (1 : Int) ≤ rl := by omega
  have q2 : (rl : Int) ≤ 4 := by omega
  clear ha
  go_enter Tryz.func118, Tryz.ntmps118
  go_wp2_with fail
  refine (ops_reg k hk _).mono ?_
  rintro e w' ⟨rfl, rfl⟩
  go_wp2_with fail
  go_quiet (fail)
  have HBQ : Hid (Blk (((w.alloc (.cells #[.int .i64 k, .int .i64 wd, .int .i64 sl, .int .i64 cp, .int .u32 sa, .slice ia il ic, .int .i64 ow, .slice ra rl rc] 26)).alloc (.cells #[.bool false, .int .i64 0, .int .i64 0, .int .i64 0, .int .i64 0, .int .i64 0, .int .i64 0, .int .u32 0, .int .u32 0, .int .u32 0, .int .u32 0, .int .u32 0, .int .u32 0, .int .u32 0, .int .u32 0, .int .i64 0, .int .i64 0, .bool false, .int .i64 0] 135)).drewN nq) (w.heap.size + 1) 135 #[.bool false, .int .i64 0, .int .i64 0, .int .i64 0, .int .i64 0, .int .i64 0, .int .i64 0, .int .u32 0, .int .u32 0, .int .u32 0, .int .u32 0, .int .u32 0, .int .u32 0, .int .u32 0, .int .u32 0, .int .i64 0, .int .i64 0, .bool false, .int .i64 0]) := Lib.hid (HB.out.same ((Same.refl _).drewN nq))
  have HOQ : Hid (Blk (((w.alloc (.cells #[.int .i64 k, .int .i64 wd, .int .i64 sl, .int .i64 cp, .int .u32 sa, .slice ia il ic, .int .i64 ow, .slice ra rl rc] 26)).alloc (.cells #[.bool false, .int .i64 0, .int .i64 0, .int .i64 0, .int .i64 0, .int .i64 0, .int .i64 0, .int .u32 0, .int .u32 0, .int .u32 0, .int .u32 0, .int .u32 0, .int .u32 0, .int .u32 0, .int .u32 0, .int .i64 0, .int .i64 0, .bool false, .int .i64 0] 135)).drewN nq) w.heap.size 26 #[.int .i64 k, .int .i64 wd, .int .i64 sl, .int .i64 cp, .int .u32 sa, .slice ia il ic, .int .i64 ow, .slice ra rl rc]) := Lib.hid (HO.out.same ((Same.refl _).drewN nq))
  have HSQ : Hid (Same w (((w.alloc (.cells #[.int .i64 k, .int .i64 wd, .int .i64 sl, .int .i64 cp, .int .u32 sa, .slice ia il ic, .int .i64 ow, .slice ra rl rc] 26)).alloc (.cells #[.bool false, .int .i64 0, .int .i64 0, .int .i64 0, .int .i64 0, .int .i64 0, .int .i64 0, .int .u32 0, .int .u32 0, .int .u32 0, .int .u32 0, .int .u32 0, .int .u32 0, .int .u32 0, .int .u32 0, .int .i64 0, .int .i64 0, .bool false, .int .i64 0] 135)).drewN nq)) := Lib.hid (HS.out.drewN nq)
  have HZQ : Hid ((((w.alloc (.cells #[.int .i64 k, .int .i64 wd, .int .i64 sl, .int .i64 cp, .int .u32 sa, .slice ia il ic, .int .i64 ow, .slice ra rl rc] 26)).alloc (.cells #[.bool false, .int .i64 0, .int .i64 0, .int .i64 0, .int .i64 0, .int .i64 0, .int .i64 0, .int .u32 0, .int .u32 0, .int .u32 0, .int .u32 0, .int .u32 0, .int .u32 0, .int .u32 0, .int .u32 0, .int .i64 0, .int .i64 0, .bool false, .int .i64 0] 135)).drewN nq).heap.size = w.heap.size + 2) := Lib.hid HZ2.out
  clear HB HO HS HZ2
  generalize ((w.alloc (.cells #[.int .i64 k, .int .i64 wd, .int .i64 sl, .int .i64 cp, .int .u32 sa, .slice ia il ic, .int .i64 ow, .slice ra rl rc] 26)).alloc (.cells #[.bool false, .int .i64 0, .int .i64 0, .int .i64 0, .int .i64 0, .int .i64 0, .int .i64 0, .int .u32 0, .int .u32 0, .int .u32 0, .int .u32 0, .int .u32 0, .int .u32 0, .int .u32 0, .int .u32 0, .int .i64 0, .int .i64 0, .bool false, .int .i64 0] 135)).drewN nq = w2 at *
  obtain ⟨d0, d1, d2, d3, d4, d5, d6, d7⟩ := obj_cells HOQ.out
  go_wp2_with fail
  refine (within_yes _ _ _ (by omega) _).mono ?_
  rintro e w' ⟨rfl, rfl⟩
  go_wp2_with (refine wpList_store_row rfl 135 (.tmp 12) (.tmp 61) rfl (w.heap.size + 1) #[.bool false, .int .i64 0, .int .i64 0, .int .i64 0, .int .i64 0, .int .i64 0, .int .i64 0, .int .u32 0, .int .u32 0, .int .u32 0, .int .u32 0, .int .u32 0, .int .u32 0, .int .u32 0, .int .u32 0, .int .i64 0, .int .i64 0, .bool false, .int .i64 0] rfl rfl 135 #[.bool false, .int .i64 0, .int .i64 0, .int .i64 0, .int .i64 0, .int .i64 0, .int .i64 0, .int .u32 0, .int .u32 0, .int .u32 0, .int .u32 0, .int .u32 0, .int .u32 0, .int .u32 0, .int .u32 0, .int .i64 0, .int .i64 0, .bool false, .int .i64 0] HBQ.out part_info rfl H1.out ?_)
  refine bodyPost_ret (v := .tuple #[.agg #[.bool false, .int .i64 0, .int .i64 0, .int .i64 0, .int .i64 0, .int .i64 0, .int .i64 0, .int .u32 0, .int .u32 0, .int .u32 0, .int .u32 0, .int .u32 0, .int .u32 0, .int .u32 0, .int .u32 0, .int .i64 0, .int .i64 0, .bool false, .int .i64 0], .int .i64 4]) (results_cell_tmp Tryz.results118 _ _ (w.heap.size + 1) 135 #[.bool false, .int .i64 0, .int .i64 0, .int .i64 0, .int .i64 0, .int .i64 0, .int .i64 0, .int .u32 0, .int .u32 0, .int .u32 0, .int .u32 0, .int .u32 0, .int .u32 0, .int .u32 0, .int .u32 0, .int .i64 0, .int .i64 0, .bool false, .int .i64 0] (0, 0) _ rfl (row_blk HBQ.out) Tryz.underlying135 rfl part_info) rfl ⟨rfl, ?_⟩
  exact HSQ.out.more (chg_setRow (Chg.refl (fun i => i = w.heap.size + 1) _) (.inl rfl) _) (fun i hi => by omega)

set_option maxHeartbeats 400000 in
set_option maxRecDepth 100000 in
theorem obegin_form_rd (k wd sl cp sa ow : Int) (ia ra : Option Addr) (il ic rl rc : Nat) (size at_ reader : Int) (A : Option Addr) (m c : Nat) (w : World) (b0 : (size == 0) = false) (ha : 0 ≤ at_) (hk : k = 1 ∨ k = 2 ∨ k = 3 ∨ k = 4 ∨ k = 5) (hw8 : 1 ≤ wd ∧ wd ≤ 8) (hrl : 1 ≤ rl ∧ rl ≤ 4) (hm : m ≤ 5000) (hr : 0 ≤ reader ∧ reader ≤ (rl : Int) - 1) (hf : ((m : Int) != 0) = true) :
    Calls Tryz.prog 118 #[.agg #[.int .i64 k, .int .i64 wd, .int .i64 sl, .int .i64 cp, .int .u32 sa, .slice ia il ic, .int .i64 ow, .slice ra rl rc], .int .i64 size, .int .i64 at_, .int .i64 1, .int .i64 reader, .slice A m c] w fun e w' => e = .returned (.tuple #[.agg #[.bool false, .int .i64 0, .int .i64 0, .int .i64 0, .int .i64 0, .int .i64 0, .int .i64 0, .int .u32 0, .int .u32 0, .int .u32 0, .int .u32 0, .int .u32 0, .int .u32 0, .int .u32 0, .int .u32 0, .int .i64 0, .int .i64 0, .bool false, .int .i64 0], .int .i64 4]) ∧ Same w w' := by
  have hb := Blk.new (w.alloc (.cells #[.int .i64 k, .int .i64 wd, .int .i64 sl, .int .i64 cp, .int .u32 sa, .slice ia il ic, .int .i64 ow, .slice ra rl rc] 26)) 135 #[.bool false, .int .i64 0, .int .i64 0, .int .i64 0, .int .i64 0, .int .i64 0, .int .i64 0, .int .u32 0, .int .u32 0, .int .u32 0, .int .u32 0, .int .u32 0, .int .u32 0, .int .u32 0, .int .u32 0, .int .i64 0, .int .i64 0, .bool false, .int .i64 0]
  have ho := (Blk.new w 26 #[.int .i64 k, .int .i64 wd, .int .i64 sl, .int .i64 cp, .int .u32 sa, .slice ia il ic, .int .i64 ow, .slice ra rl rc]).same ((Same.refl (w.alloc (.cells #[.int .i64 k, .int .i64 wd, .int .i64 sl, .int .i64 cp, .int .u32 sa, .slice ia il ic, .int .i64 ow, .slice ra rl rc] 26))).alloc (.cells #[.bool false, .int .i64 0, .int .i64 0, .int .i64 0, .int .i64 0, .int .i64 0, .int .i64 0, .int .u32 0, .int .u32 0, .int .u32 0, .int .u32 0, .int .u32 0, .int .u32 0, .int .u32 0, .int .u32 0, .int .i64 0, .int .i64 0, .bool false, .int .i64 0] 135))
  have hs := ((Same.refl w).alloc (.cells #[.int .i64 k, .int .i64 wd, .int .i64 sl, .int .i64 cp, .int .u32 sa, .slice ia il ic, .int .i64 ow, .slice ra rl rc] 26)).alloc (.cells #[.bool false, .int .i64 0, .int .i64 0, .int .i64 0, .int .i64 0, .int .i64 0, .int .i64 0, .int .u32 0, .int .u32 0, .int .u32 0, .int .u32 0, .int .u32 0, .int .u32 0, .int .u32 0, .int .u32 0, .int .i64 0, .int .i64 0, .bool false, .int .i64 0] 135)
  have hz : (w.alloc (.cells #[.int .i64 k, .int .i64 wd, .int .i64 sl, .int .i64 cp, .int .u32 sa, .slice ia il ic, .int .i64 ow, .slice ra rl rc] 26)).heap.size = w.heap.size + 1 := by simp
  have hz2 : ((w.alloc (.cells #[.int .i64 k, .int .i64 wd, .int .i64 sl, .int .i64 cp, .int .u32 sa, .slice ia il ic, .int .i64 ow, .slice ra rl rc] 26)).alloc (.cells #[.bool false, .int .i64 0, .int .i64 0, .int .i64 0, .int .i64 0, .int .i64 0, .int .i64 0, .int .u32 0, .int .u32 0, .int .u32 0, .int .u32 0, .int .u32 0, .int .u32 0, .int .u32 0, .int .u32 0, .int .i64 0, .int .i64 0, .bool false, .int .i64 0] 135)).heap.size = w.heap.size + 2 := by simp
  rw [hz] at hb
  have HB := Lib.hid hb
  have HO := Lib.hid ho
  have HS := Lib.hid hs
  have HZ2 := Lib.hid hz2
  have h1 : (#[.bool false, .int .i64 0, .int .i64 0, .int .i64 0, .int .i64 0, .int .i64 0, .int .i64 0, .int .u32 0, .int .u32 0, .int .u32 0, .int .u32 0, .int .u32 0, .int .u32 0, .int .u32 0, .int .u32 0, .int .i64 0, .int .i64 0, .bool false, .int .i64 0] : Array Value).all (·.oneCell') = true := one_all (by rfl)
  have H1 := Lib.hid h1
  clear hb hs hz h1 ho hz2
  have hna : ¬ at_ < 0 := by omega
  obtain ⟨hw1, hw2⟩ := hw8
  obtain ⟨hl1, hl2⟩ := hrl
  have q1 : (1 : Int) ≤ rl := by omega
  have q2 : (rl : Int) ≤ 4 := by omega
  clear ha
  go_enter Tryz.func118, Tryz.ntmps118
  go_wp2_with fail
  refine (ops_reg k hk _).mono ?_
  rintro e w' ⟨rfl, rfl⟩
  go_wp2_with fail
  go_quiet (fail)
  have HBQ : Hid (Blk (((w.alloc (.cells #[.int .i64 k, .int .i64 wd, .int .i64 sl, .int .i64 cp, .int .u32 sa, .slice ia il ic, .int .i64 ow, .slice ra rl rc] 26)).alloc (.cells #[.bool false, .int .i64 0, .int .i64 0, .int .i64 0, .int .i64 0, .int .i64 0, .int .i64 0, .int .u32 0, .int .u32 0, .int .u32 0, .int .u32 0, .int .u32 0, .int .u32 0, .int .u32 0, .int .u32 0, .int .i64 0, .int .i64 0, .bool false, .int .i64 0] 135)).drewN nq) (w.heap.size + 1) 135 #[.bool false, .int .i64 0, .int .i64 0, .int .i64 0, .int .i64 0, .int .i64 0, .int .i64 0, .int .u32 0, .int .u32 0, .int .u32 0, .int .u32 0, .int .u32 0, .int .u32 0, .int .u32 0, .int .u32 0, .int .i64 0, .int .i64 0, .bool false, .int .i64 0]) := Lib.hid (HB.out.same ((Same.refl _).drewN nq))
  have HOQ : Hid (Blk (((w.alloc (.cells #[.int .i64 k, .int .i64 wd, .int .i64 sl, .int .i64 cp, .int .u32 sa, .slice ia il ic, .int .i64 ow, .slice ra rl rc] 26)).alloc (.cells #[.bool false, .int .i64 0, .int .i64 0, .int .i64 0, .int .i64 0, .int .i64 0, .int .i64 0, .int .u32 0, .int .u32 0, .int .u32 0, .int .u32 0, .int .u32 0, .int .u32 0, .int .u32 0, .int .u32 0, .int .i64 0, .int .i64 0, .bool false, .int .i64 0] 135)).drewN nq) w.heap.size 26 #[.int .i64 k, .int .i64 wd, .int .i64 sl, .int .i64 cp, .int .u32 sa, .slice ia il ic, .int .i64 ow, .slice ra rl rc]) := Lib.hid (HO.out.same ((Same.refl _).drewN nq))
  have HSQ : Hid (Same w (((w.alloc (.cells #[.int .i64 k, .int .i64 wd, .int .i64 sl, .int .i64 cp, .int .u32 sa, .slice ia il ic, .int .i64 ow, .slice ra rl rc] 26)).alloc (.cells #[.bool false, .int .i64 0, .int .i64 0, .int .i64 0, .int .i64 0, .int .i64 0, .int .i64 0, .int .u32 0, .int .u32 0, .int .u32 0, .int .u32 0, .int .u32 0, .int .u32 0, .int .u32 0, .int .u32 0, .int .i64 0, .int .i64 0, .bool false, .int .i64 0] 135)).drewN nq)) := Lib.hid (HS.out.drewN nq)
  have HZQ : Hid ((((w.alloc (.cells #[.int .i64 k, .int .i64 wd, .int .i64 sl, .int .i64 cp, .int .u32 sa, .slice ia il ic, .int .i64 ow, .slice ra rl rc] 26)).alloc (.cells #[.bool false, .int .i64 0, .int .i64 0, .int .i64 0, .int .i64 0, .int .i64 0, .int .i64 0, .int .u32 0, .int .u32 0, .int .u32 0, .int .u32 0, .int .u32 0, .int .u32 0, .int .u32 0, .int .u32 0, .int .i64 0, .int .i64 0, .bool false, .int .i64 0] 135)).drewN nq).heap.size = w.heap.size + 2) := Lib.hid HZ2.out
  clear HB HO HS HZ2
  generalize ((w.alloc (.cells #[.int .i64 k, .int .i64 wd, .int .i64 sl, .int .i64 cp, .int .u32 sa, .slice ia il ic, .int .i64 ow, .slice ra rl rc] 26)).alloc (.cells #[.bool false, .int .i64 0, .int .i64 0, .int .i64 0, .int .i64 0, .int .i64 0, .int .i64 0, .int .u32 0, .int .u32 0, .int .u32 0, .int .u32 0, .int .u32 0, .int .u32 0, .int .u32 0, .int .u32 0, .int .i64 0, .int .i64 0, .bool false, .int .i64 0] 135)).drewN nq = w2 at *
  obtain ⟨d0, d1, d2, d3, d4, d5, d6, d7⟩ := obj_cells HOQ.out
  go_wp2_with fail
  refine (within_yes _ _ _ (hr) _).mono ?_
  rintro e w' ⟨rfl, rfl⟩
  go_wp2_with (refine wpList_store_row rfl 135 (.tmp 12) (.tmp 61) rfl (w.heap.size + 1) #[.bool false, .int .i64 0, .int .i64 0, .int .i64 0, .int .i64 0, .int .i64 0, .int .i64 0, .int .u32 0, .int .u32 0, .int .u32 0, .int .u32 0, .int .u32 0, .int .u32 0, .int .u32 0, .int .u32 0, .int .i64 0, .int .i64 0, .bool false, .int .i64 0] rfl rfl 135 #[.bool false, .int .i64 0, .int .i64 0, .int .i64 0, .int .i64 0, .int .i64 0, .int .i64 0, .int .u32 0, .int .u32 0, .int .u32 0, .int .u32 0, .int .u32 0, .int .u32 0, .int .u32 0, .int .u32 0, .int .i64 0, .int .i64 0, .bool false, .int .i64 0] HBQ.out part_info rfl H1.out ?_)
  refine bodyPost_ret (v := .tuple #[.agg #[.bool false, .int .i64 0, .int .i64 0, .int .i64 0, .int .i64 0, .int .i64 0, .int .i64 0, .int .u32 0, .int .u32 0, .int .u32 0, .int .u32 0, .int .u32 0, .int .u32 0, .int .u32 0, .int .u32 0, .int .i64 0, .int .i64 0, .bool false, .int .i64 0], .int .i64 4]) (results_cell_tmp Tryz.results118 _ _ (w.heap.size + 1) 135 #[.bool false, .int .i64 0, .int .i64 0, .int .i64 0, .int .i64 0, .int .i64 0, .int .i64 0, .int .u32 0, .int .u32 0, .int .u32 0, .int .u32 0, .int .u32 0, .int .u32 0, .int .u32 0, .int .u32 0, .int .i64 0, .int .i64 0, .bool false, .int .i64 0] (0, 0) _ rfl (row_blk HBQ.out) Tryz.underlying135 rfl part_info) rfl ⟨rfl, ?_⟩
  exact HSQ.out.more (chg_setRow (Chg.refl (fun i => i = w.heap.size + 1) _) (.inl rfl) _) (fun i hi => by omega)

theorem cells_len (p : Pt) (h : p.rc.length = 8) : (p.cells []).length = 19 := by simp [Pt.cells, Pt.tail, h]
theorem cells_one (p : Pt) : (p.cells []).toArray.all (·.oneCell') = true := by
  refine one_all ?_
  unfold Pt.cells Pt.tail
  simp only [List.all_cons, List.all_append, List.all_map, List.all_nil]
  have : (p.rc.all (fun x => (Value.int IntKind.u32 x).oneCell')) = true := by
    rw [List.all_eq_true]
    intro x _
    rfl
  simp only [Function.comp_def, this]
  rfl
theorem cells_splice (p : Pt) (r : List Int) (h : p.rc = List.replicate 8 0) (hr : r.length ≤ 8) : splice (p.cells []) 7 (r.map (Value.int .u32)) = Pt.cells { p with rc := r ++ List.replicate (8 - r.length) 0 } [] := by
  unfold splice Pt.cells
  rw [h, List.length_map]
  have e : ∀ (a b c d e f g : Value) (l : List Value), (a :: b :: c :: d :: e :: f :: g :: l).drop (7 + r.length) = l.drop r.length := by
    intro a b c d e f g l
    rw [Nat.add_comm]
    rfl
  rw [e]
  have e2 : ((List.replicate 8 (0 : Int)).map (Value.int .u32) ++ p.tail []).drop r.length = (List.replicate (8 - r.length) (0 : Int)).map (Value.int .u32) ++ p.tail [] := by
    rw [List.drop_append_of_le_length (by simpa using hr), ← List.map_drop, List.drop_replicate]
  show [_, _, _, _, _, _, _] ++ (_ ++ _) = _
  rw [e2]
  simp [Pt.tail]

set_option maxHeartbeats 400000 in
set_option maxRecDepth 100000 in
theorem obegin_wr (k wd sl cp sa ow : Int) (ia ra : Option Addr) (il ic rl rc : Nat) (size at_ reader : Int) (A : Option Addr) (m c : Nat) (w : World) (b0 : (size == 0) = false) (ha : 0 ≤ at_) (hk : k = 1 ∨ k = 2 ∨ k = 3 ∨ k = 4 ∨ k = 5) (hw8 : 1 ≤ wd ∧ wd ≤ 8) (hrl : 1 ≤ rl ∧ rl ≤ 4) (hm : m ≤ 5000) (hr : reader = 0) (hf : ((m : Int) != wd) = false) (rec : List Int) (hrec : rec.length = m) (hm8 : m ≤ 8) (hrow : Row w A (rec.map (Value.int .u32))) :
    Calls Tryz.prog 118 #[.agg #[.int .i64 k, .int .i64 wd, .int .i64 sl, .int .i64 cp, .int .u32 sa, .slice ia il ic, .int .i64 ow, .slice ra rl rc], .int .i64 size, .int .i64 at_, .int .i64 2, .int .i64 reader, .slice A m c] w fun e w' => e = .returned (.tuple #[.agg ((⟨false, reader, wd, 1, 0, at_, size, rec ++ List.replicate (8 - rec.length) 0, cp, 0, true, 0⟩ : Pt).cells []).toArray, .int .i64 0]) ∧ Same w w' := by
  have hb := Blk.new (w.alloc (.cells #[.int .i64 k, .int .i64 wd, .int .i64 sl, .int .i64 cp, .int .u32 sa, .slice ia il ic, .int .i64 ow, .slice ra rl rc] 26)) 135 #[.bool false, .int .i64 0, .int .i64 0, .int .i64 0, .int .i64 0, .int .i64 0, .int .i64 0, .int .u32 0, .int .u32 0, .int .u32 0, .int .u32 0, .int .u32 0, .int .u32 0, .int .u32 0, .int .u32 0, .int .i64 0, .int .i64 0, .bool false, .int .i64 0]
  have ho := (Blk.new w 26 #[.int .i64 k, .int .i64 wd, .int .i64 sl, .int .i64 cp, .int .u32 sa, .slice ia il ic, .int .i64 ow, .slice ra rl rc]).same ((Same.refl (w.alloc (.cells #[.int .i64 k, .int .i64 wd, .int .i64 sl, .int .i64 cp, .int .u32 sa, .slice ia il ic, .int .i64 ow, .slice ra rl rc] 26))).alloc (.cells #[.bool false, .int .i64 0, .int .i64 0, .int .i64 0, .int .i64 0, .int .i64 0, .int .i64 0, .int .u32 0, .int .u32 0, .int .u32 0, .int .u32 0, .int .u32 0, .int .u32 0, .int .u32 0, .int .u32 0, .int .i64 0, .int .i64 0, .bool false, .int .i64 0] 135))
  have hs := ((Same.refl w).alloc (.cells #[.int .i64 k, .int .i64 wd, .int .i64 sl, .int .i64 cp, .int .u32 sa, .slice ia il ic, .int .i64 ow, .slice ra rl rc] 26)).alloc (.cells #[.bool false, .int .i64 0, .int .i64 0, .int .i64 0, .int .i64 0, .int .i64 0, .int .i64 0, .int .u32 0, .int .u32 0, .int .u32 0, .int .u32 0, .int .u32 0, .int .u32 0, .int .u32 0, .int .u32 0, .int .i64 0, .int .i64 0, .bool false, .int .i64 0] 135)
  have hz : (w.alloc (.cells #[.int .i64 k, .int .i64 wd, .int .i64 sl, .int .i64 cp, .int .u32 sa, .slice ia il ic, .int .i64 ow, .slice ra rl rc] 26)).heap.size = w.heap.size + 1 := by simp
  have hz2 : ((w.alloc (.cells #[.int .i64 k, .int .i64 wd, .int .i64 sl, .int .i64 cp, .int .u32 sa, .slice ia il ic, .int .i64 ow, .slice ra rl rc] 26)).alloc (.cells #[.bool false, .int .i64 0, .int .i64 0, .int .i64 0, .int .i64 0, .int .i64 0, .int .i64 0, .int .u32 0, .int .u32 0, .int .u32 0, .int .u32 0, .int .u32 0, .int .u32 0, .int .u32 0, .int .u32 0, .int .i64 0, .int .i64 0, .bool false, .int .i64 0] 135)).heap.size = w.heap.size + 2 := by simp
  rw [hz] at hb
  have HB := Lib.hid hb
  have HO := Lib.hid ho
  have HS := Lib.hid hs
  have HZ2 := Lib.hid hz2
  have h1 : (#[.bool false, .int .i64 0, .int .i64 0, .int .i64 0, .int .i64 0, .int .i64 0, .int .i64 0, .int .u32 0, .int .u32 0, .int .u32 0, .int .u32 0, .int .u32 0, .int .u32 0, .int .u32 0, .int .u32 0, .int .i64 0, .int .i64 0, .bool false, .int .i64 0] : Array Value).all (·.oneCell') = true := one_all (by rfl)
  have H1 := Lib.hid h1
  clear hb hs hz h1 ho hz2
  subst hr
  obtain ⟨pf, hpf⟩ : ∃ pf : Pt, pf = (⟨false, 0, wd, 1, 0, at_, size, rec ++ List.replicate (8 - rec.length) 0, cp, 0, true, 0⟩ : Pt) := ⟨_, rfl⟩
  have hsp : splice ((⟨false, 0, wd, 1, 0, at_, size, List.replicate 8 0, cp, 0, true, 0⟩ : Pt).cells []) 7 (rec.map (Value.int .u32)) = pf.cells [] := by rw [hpf]; exact cells_splice _ rec rfl (by omega)
  have hl0 : ((⟨false, 0, wd, 1, 0, at_, size, List.replicate 8 0, cp, 0, true, 0⟩ : Pt).cells []).length = 19 := cells_len _ (by rfl)
  have hlf : (pf.cells []).length = 19 := cells_len _ (by rw [hpf]; simp; omega)
  rw [← hpf]
  have HSP := Lib.hid hsp
  have HL0 := Lib.hid hl0
  have HLF := Lib.hid hlf
  have HREC := Lib.hid hrec
  have HROW := Lib.hid hrow
  have c0 := cells_one (⟨false, 0, wd, 1, 0, at_, size, List.replicate 8 0, cp, 0, true, 0⟩ : Pt)
  have cf := cells_one pf
  have HC0 := Lib.hid c0
  have HCF := Lib.hid cf
  clear hpf hsp hl0 hlf hrec hrow c0 cf
  have hna : ¬ at_ < 0 := by omega
  obtain ⟨hw1, hw2⟩ := hw8
  obtain ⟨hl1, hl2⟩ := hrl
  have q1 : (1 : Int) ≤ rl := by omega
  have q2 : (rl : Int) ≤ 4 := by omega
  clear ha
  go_enter Tryz.func118, Tryz.ntmps118
  go_wp2_with fail
  refine (ops_reg k hk _).mono ?_
  rintro e w' ⟨rfl, rfl⟩
  go_wp2_with fail
  go_quiet (fail)
  have HBQ : Hid (Blk (((w.alloc (.cells #[.int .i64 k, .int .i64 wd, .int .i64 sl, .int .i64 cp, .int .u32 sa, .slice ia il ic, .int .i64 ow, .slice ra rl rc] 26)).alloc (.cells #[.bool false, .int .i64 0, .int .i64 0, .int .i64 0, .int .i64 0, .int .i64 0, .int .i64 0, .int .u32 0, .int .u32 0, .int .u32 0, .int .u32 0, .int .u32 0, .int .u32 0, .int .u32 0, .int .u32 0, .int .i64 0, .int .i64 0, .bool false, .int .i64 0] 135)).drewN nq) (w.heap.size + 1) 135 #[.bool false, .int .i64 0, .int .i64 0, .int .i64 0, .int .i64 0, .int .i64 0, .int .i64 0, .int .u32 0, .int .u32 0, .int .u32 0, .int .u32 0, .int .u32 0, .int .u32 0, .int .u32 0, .int .u32 0, .int .i64 0, .int .i64 0, .bool false, .int .i64 0]) := Lib.hid (HB.out.same ((Same.refl _).drewN nq))
  have HOQ : Hid (Blk (((w.alloc (.cells #[.int .i64 k, .int .i64 wd, .int .i64 sl, .int .i64 cp, .int .u32 sa, .slice ia il ic, .int .i64 ow, .slice ra rl rc] 26)).alloc (.cells #[.bool false, .int .i64 0, .int .i64 0, .int .i64 0, .int .i64 0, .int .i64 0, .int .i64 0, .int .u32 0, .int .u32 0, .int .u32 0, .int .u32 0, .int .u32 0, .int .u32 0, .int .u32 0, .int .u32 0, .int .i64 0, .int .i64 0, .bool false, .int .i64 0] 135)).drewN nq) w.heap.size 26 #[.int .i64 k, .int .i64 wd, .int .i64 sl, .int .i64 cp, .int .u32 sa, .slice ia il ic, .int .i64 ow, .slice ra rl rc]) := Lib.hid (HO.out.same ((Same.refl _).drewN nq))
  have HSQ : Hid (Same w (((w.alloc (.cells #[.int .i64 k, .int .i64 wd, .int .i64 sl, .int .i64 cp, .int .u32 sa, .slice ia il ic, .int .i64 ow, .slice ra rl rc] 26)).alloc (.cells #[.bool false, .int .i64 0, .int .i64 0, .int .i64 0, .int .i64 0, .int .i64 0, .int .i64 0, .int .u32 0, .int .u32 0, .int .u32 0, .int .u32 0, .int .u32 0, .int .u32 0, .int .u32 0, .int .u32 0, .int .i64 0, .int .i64 0, .bool false, .int .i64 0] 135)).drewN nq)) := Lib.hid (HS.out.drewN nq)
  have HZQ : Hid ((((w.alloc (.cells #[.int .i64 k, .int .i64 wd, .int .i64 sl, .int .i64 cp, .int .u32 sa, .slice ia il ic, .int .i64 ow, .slice ra rl rc] 26)).alloc (.cells #[.bool false, .int .i64 0, .int .i64 0, .int .i64 0, .int .i64 0, .int .i64 0, .int .i64 0, .int .u32 0, .int .u32 0, .int .u32 0, .int .u32 0, .int .u32 0, .int .u32 0, .int .u32 0, .int .u32 0, .int .i64 0, .int .i64 0, .bool false, .int .i64 0] 135)).drewN nq).heap.size = w.heap.size + 2) := Lib.hid HZ2.out
  clear HB HO HS HZ2
  generalize ((w.alloc (.cells #[.int .i64 k, .int .i64 wd, .int .i64 sl, .int .i64 cp, .int .u32 sa, .slice ia il ic, .int .i64 ow, .slice ra rl rc] 26)).alloc (.cells #[.bool false, .int .i64 0, .int .i64 0, .int .i64 0, .int .i64 0, .int .i64 0, .int .i64 0, .int .u32 0, .int .u32 0, .int .u32 0, .int .u32 0, .int .u32 0, .int .u32 0, .int .u32 0, .int .u32 0, .int .i64 0, .int .i64 0, .bool false, .int .i64 0] 135)).drewN nq = w2 at *
  obtain ⟨d0, d1, d2, d3, d4, d5, d6, d7⟩ := obj_cells HOQ.out
  go_wp2_with fail
  refine (within_yes _ _ _ (by omega) _).mono ?_
  rintro e w' ⟨rfl, rfl⟩
  have HB2 := Lib.hid (Blk.new w2 135 #[.bool false, .int .i64 0, .int .i64 0, .int .i64 0, .int .i64 0, .int .i64 0, .int .i64 0, .int .u32 0, .int .u32 0, .int .u32 0, .int .u32 0, .int .u32 0, .int .u32 0, .int .u32 0, .int .u32 0, .int .i64 0, .int .i64 0, .bool false, .int .i64 0])
  have HS2 := Lib.hid (((Same.refl w2).alloc (.cells #[.bool false, .int .i64 0, .int .i64 0, .int .i64 0, .int .i64 0, .int .i64 0, .int .i64 0, .int .u32 0, .int .u32 0, .int .u32 0, .int .u32 0, .int .u32 0, .int .u32 0, .int .u32 0, .int .u32 0, .int .i64 0, .int .i64 0, .bool false, .int .i64 0] 135)))
  have hi19 : (Tryz.prog.info? 135).map (·.size) = some ((⟨false, 0, wd, 1, 0, at_, size, List.replicate 8 0, cp, 0, true, 0⟩ : Pt).cells []).toArray.size := by rw [List.size_toArray, HL0.out]; exact part_info
  have HI0 := Lib.hid hi19
  have hif : (Tryz.prog.info? 135).map (·.size) = some (pf.cells []).toArray.size := by rw [List.size_toArray, HLF.out]; exact part_info
  have HIF := Lib.hid hif
  have HOLDF : Hid ((#[.bool false, .int .i64 0, .int .i64 0, .int .i64 0, .int .i64 0, .int .i64 0, .int .i64 0, .int .u32 0, .int .u32 0, .int .u32 0, .int .u32 0, .int .u32 0, .int .u32 0, .int .u32 0, .int .u32 0, .int .i64 0, .int .i64 0, .bool false, .int .i64 0] : Array Value).size = (pf.cells []).toArray.size) := Lib.hid (by rw [show (pf.cells []).toArray.size = 19 by rw [List.size_toArray]; exact HLF.out]; rfl)
  have HOLD0 : Hid ((#[.bool false, .int .i64 0, .int .i64 0, .int .i64 0, .int .i64 0, .int .i64 0, .int .i64 0, .int .u32 0, .int .u32 0, .int .u32 0, .int .u32 0, .int .u32 0, .int .u32 0, .int .u32 0, .int .u32 0, .int .i64 0, .int .i64 0, .bool false, .int .i64 0] : Array Value).size = ((⟨false, 0, wd, 1, 0, at_, size, List.replicate 8 0, cp, 0, true, 0⟩ : Pt).cells []).toArray.size) := Lib.hid (by rw [show ((⟨false, 0, wd, 1, 0, at_, size, List.replicate 8 0, cp, 0, true, 0⟩ : Pt).cells []).toArray.size = 19 by rw [List.size_toArray]; exact HL0.out]; rfl)
  clear hi19 hif
  have HW3 := Lib.hid (row_blk (cs := ((⟨false, 0, wd, 1, 0, at_, size, List.replicate 8 0, cp, 0, true, 0⟩ : Pt).cells []).toArray) HB2.out)
  have HS3 := Lib.hid (HSQ.out.trans (HS2.out.more (chg_setRow (Chg.refl (fun i => i = w2.heap.size) _) (.inl rfl) ((⟨false, 0, wd, 1, 0, at_, size, List.replicate 8 0, cp, 0, true, 0⟩ : Pt).cells []).toArray) (fun i hi => by omega)))
  have HBT := Lib.hid (HBQ.out.same (HS2.out.more (chg_setRow (Chg.refl (fun i => i = w2.heap.size) _) (.inl rfl) ((⟨false, 0, wd, 1, 0, at_, size, List.replicate 8 0, cp, 0, true, 0⟩ : Pt).cells []).toArray) (fun i hi => by omega)))
  have HR3 := Lib.hid (HROW.out.same HS3.out)
  have hz3 : ((w2.alloc (.cells #[.bool false, .int .i64 0, .int .i64 0, .int .i64 0, .int .i64 0, .int .i64 0, .int .i64 0, .int .u32 0, .int .u32 0, .int .u32 0, .int .u32 0, .int .u32 0, .int .u32 0, .int .u32 0, .int .u32 0, .int .i64 0, .int .i64 0, .bool false, .int .i64 0] 135)).setRow w2.heap.size ((⟨false, 0, wd, 1, 0, at_, size, List.replicate 8 0, cp, 0, true, 0⟩ : Pt).cells []).toArray).heap.size = w2.heap.size + 1 := by simp
  have HZ3 := Lib.hid hz3
  clear hz3
  go_wp2_with (first | (refine wpList_store_row rfl 135 (.tmp 19) (.tmp 73) rfl w2.heap.size ((⟨false, 0, wd, 1, 0, at_, size, List.replicate 8 0, cp, 0, true, 0⟩ : Pt).cells []).toArray rfl rfl 135 #[.bool false, .int .i64 0, .int .i64 0, .int .i64 0, .int .i64 0, .int .i64 0, .int .i64 0, .int .u32 0, .int .u32 0, .int .u32 0, .int .u32 0, .int .u32 0, .int .u32 0, .int .u32 0, .int .u32 0, .int .i64 0, .int .i64 0, .bool false, .int .i64 0] HB2.out HI0.out HOLD0.out HC0.out ?_) | (refine wpList_copy_splice rfl (.tmp 75) (.tmp 76) 23 23 rfl 22 Tryz.underlying23 u32_one (some ⟨w2.heap.size, 7, none⟩) A 8 8 m c rfl rfl w2.heap.size 7 ((⟨false, 0, wd, 1, 0, at_, size, List.replicate 8 0, cp, 0, true, 0⟩ : Pt).cells []) 135 HW3.out (rec.map (Value.int .u32)) ?c1 ?c2 ?c3 (words_one _) w2.heap.size ((w2.alloc (.cells #[.bool false, .int .i64 0, .int .i64 0, .int .i64 0, .int .i64 0, .int .i64 0, .int .i64 0, .int .u32 0, .int .u32 0, .int .u32 0, .int .u32 0, .int .u32 0, .int .u32 0, .int .u32 0, .int .u32 0, .int .i64 0, .int .i64 0, .bool false, .int .i64 0] 135)).setRow w2.heap.size ((⟨false, 0, wd, 1, 0, at_, size, List.replicate 8 0, cp, 0, true, 0⟩ : Pt).cells []).toArray) (Below.refl _ _) (Nat.le_refl _) ?_))
  case c1 =>
    have := HREC.out
    rw [List.length_map]
    show _ = min m 8
    omega
  case c2 =>
    intro hp
    have hp' : 0 < (rec.map (Value.int .u32)).length := by simpa using hp
    obtain ⟨b, o, hA, _⟩ := HR3.out.at_ hp'
    have main : ∃ ad, A = some ad ∧ ∀ j v, (rec.map (Value.int .u32))[j]? = some v → ((w2.alloc (.cells #[.bool false, .int .i64 0, .int .i64 0, .int .i64 0, .int .i64 0, .int .i64 0, .int .i64 0, .int .u32 0, .int .u32 0, .int .u32 0, .int .u32 0, .int .u32 0, .int .u32 0, .int .u32 0, .int .u32 0, .int .i64 0, .int .i64 0, .bool false, .int .i64 0] 135)).setRow w2.heap.size ((⟨false, 0, wd, 1, 0, at_, size, List.replicate 8 0, cp, 0, true, 0⟩ : Pt).cells []).toArray).cell? (ad.add j) = some v := by
      refine ⟨_, hA, fun j v hj => ?_⟩
      obtain ⟨b', o', hA', hc⟩ := HR3.out j v hj
      rw [hA] at hA'
      injection hA' with hA'
      injection hA' with e1 e2
      subst e1
      subst e2
      rw [show (⟨b, o, none⟩ : Addr).add j = ⟨b, o + j, none⟩ by cases j <;> rfl]
      exact hc
    first
      | exact ⟨rfl, main⟩
      | exact main
      | simpa using main
  case c3 =>
    have h1 := HREC.out
    have e1 := HL0.out
    show 7 + (rec.map (Value.int .u32)).length ≤ ((⟨false, 0, wd, 1, 0, at_, size, List.replicate 8 0, cp, 0, true, 0⟩ : Pt).cells []).length
    rw [e1, List.length_map]
    omega
  intro w4 hw4 hbel
  have hgq : w2.heap.size = w.heap.size + 2 := HZQ.out
  have hw4' : w4.heap[w2.heap.size]? = some (.cells (pf.cells []).toArray 135 (0, 0)) := by rw [← HSP.out]; exact hw4.out
  have HW4 := Lib.hid hw4'
  have HBEL := Lib.hid hbel
  have HBT4 : Hid (Blk w4 (w.heap.size + 1) 135 #[.bool false, .int .i64 0, .int .i64 0, .int .i64 0, .int .i64 0, .int .i64 0, .int .i64 0, .int .u32 0, .int .u32 0, .int .u32 0, .int .u32 0, .int .u32 0, .int .u32 0, .int .u32 0, .int .u32 0, .int .i64 0, .int .i64 0, .bool false, .int .i64 0]) := Lib.hid (HBT.out.chg (Chg.of_below hbel) (by show ¬ w2.heap.size ≤ w.heap.size + 1; omega))
  clear hw4 hw4' hbel
  go_wp2_with (first | (refine wpList_load_row rfl 135 (.tmp 19) rfl w2.heap.size rfl 135 (pf.cells []).toArray (0, 0) _ HW4.out Tryz.underlying135 rfl HIF.out ?_) | (refine wpList_store_row rfl 135 (.tmp 12) (.tmp 78) rfl (w.heap.size + 1) (pf.cells []).toArray rfl rfl 135 #[.bool false, .int .i64 0, .int .i64 0, .int .i64 0, .int .i64 0, .int .i64 0, .int .i64 0, .int .u32 0, .int .u32 0, .int .u32 0, .int .u32 0, .int .u32 0, .int .u32 0, .int .u32 0, .int .u32 0, .int .i64 0, .int .i64 0, .bool false, .int .i64 0] HBT4.out HIF.out HOLDF.out HCF.out ?_))
  refine bodyPost_ret (v := .tuple #[.agg (pf.cells []).toArray, .int .i64 0]) (results_cell_tmp Tryz.results118 _ _ (w.heap.size + 1) 135 (pf.cells []).toArray (0, 0) _ rfl (row_blk HBT4.out) Tryz.underlying135 rfl HIF.out) rfl ⟨rfl, ?_⟩
  exact (HS3.out.more (Chg.of_below HBEL.out) (fun i hi => by have := hi; omega)).more (chg_setRow (Chg.refl (fun i => i = w.heap.size + 1) _) (.inl rfl) _) (fun i hi => by omega)

set_option maxHeartbeats 400000 in
set_option maxRecDepth 100000 in
theorem obegin_rd (k wd sl cp sa ow : Int) (ia ra : Option Addr) (il ic rl rc : Nat) (size at_ reader : Int) (A : Option Addr) (m c : Nat) (w : World) (b0 : (size == 0) = false) (ha : 0 ≤ at_) (hk : k = 1 ∨ k = 2 ∨ k = 3 ∨ k = 4 ∨ k = 5) (hw8 : 1 ≤ wd ∧ wd ≤ 8) (hrl : 1 ≤ rl ∧ rl ≤ 4) (hm : m ≤ 5000) (hr : 0 ≤ reader ∧ reader ≤ (rl : Int) - 1) (hf : ((m : Int) != 0) = false) (rec : List Int) (hrec : rec.length = m) (hm8 : m ≤ 8) (hrow : Row w A (rec.map (Value.int .u32))) :
    Calls Tryz.prog 118 #[.agg #[.int .i64 k, .int .i64 wd, .int .i64 sl, .int .i64 cp, .int .u32 sa, .slice ia il ic, .int .i64 ow, .slice ra rl rc], .int .i64 size, .int .i64 at_, .int .i64 1, .int .i64 reader, .slice A m c] w fun e w' => e = .returned (.tuple #[.agg ((⟨true, reader, wd, 1, 0, at_, size, rec ++ List.replicate (8 - rec.length) 0, cp, 0, true, 0⟩ : Pt).cells []).toArray, .int .i64 0]) ∧ Same w w' := by
  have hb := Blk.new (w.alloc (.cells #[.int .i64 k, .int .i64 wd, .int .i64 sl, .int .i64 cp, .int .u32 sa, .slice ia il ic, .int .i64 ow, .slice ra rl rc] 26)) 135 #[.bool false, .int .i64 0, .int .i64 0, .int .i64 0, .int .i64 0, .int .i64 0, .int .i64 0, .int .u32 0, .int .u32 0, .int .u32 0, .int .u32 0, .int .u32 0, .int .u32 0, .int .u32 0, .int .u32 0, .int .i64 0, .int .i64 0, .bool false, .int .i64 0]
  have ho := (Blk.new w 26 #[.int .i64 k, .int .i64 wd, .int .i64 sl, .int .i64 cp, .int .u32 sa, .slice ia il ic, .int .i64 ow, .slice ra rl rc]).same ((Same.refl (w.alloc (.cells #[.int .i64 k, .int .i64 wd, .int .i64 sl, .int .i64 cp, .int .u32 sa, .slice ia il ic, .int .i64 ow, .slice ra rl rc] 26))).alloc (.cells #[.bool false, .int .i64 0, .int .i64 0, .int .i64 0, .int .i64 0, .int .i64 0, .int .i64 0, .int .u32 0, .int .u32 0, .int .u32 0, .int .u32 0, .int .u32 0, .int .u32 0, .int .u32 0, .int .u32 0, .int .i64 0, .int .i64 0, .bool false, .int .i64 0] 135))
  have hs := ((Same.refl w).alloc (.cells #[.int .i64 k, .int .i64 wd, .int .i64 sl, .int .i64 cp, .int .u32 sa, .slice ia il ic, .int .i64 ow, .slice ra rl rc] 26)).alloc (.cells #[.bool false, .int .i64 0, .int .i64 0, .int .i64 0, .int .i64 0, .int .i64 0, .int .i64 0, .int .u32 0, .int .u32 0, .int .u32 0, .int .u32 0, .int .u32 0, .int .u32 0, .int .u32 0, .int .u32 0, .int .i64 0, .int .i64 0, .bool false, .int .i64 0] 135)
  have hz : (w.alloc (.cells #[.int .i64 k, .int .i64 wd, .int .i64 sl, .int .i64 cp, .int .u32 sa, .slice ia il ic, .int .i64 ow, .slice ra rl rc] 26)).heap.size = w.heap.size + 1 := by simp
  have hz2 : ((w.alloc (.cells #[.int .i64 k, .int .i64 wd, .int .i64 sl, .int .i64 cp, .int .u32 sa, .slice ia il ic, .int .i64 ow, .slice ra rl rc] 26)).alloc (.cells #[.bool false, .int .i64 0, .int .i64 0, .int .i64 0, .int .i64 0, .int .i64 0, .int .i64 0, .int .u32 0, .int .u32 0, .int .u32 0, .int .u32 0, .int .u32 0, .int .u32 0, .int .u32 0, .int .u32 0, .int .i64 0, .int .i64 0, .bool false, .int .i64 0] 135)).heap.size = w.heap.size + 2 := by simp
  rw [hz] at hb
  have HB := Lib.hid hb
  have HO := Lib.hid ho
  have HS := Lib.hid hs
  have HZ2 := Lib.hid hz2
  have h1 : (#[.bool false, .int .i64 0, .int .i64 0, .int .i64 0, .int .i64 0, .int .i64 0, .int .i64 0, .int .u32 0, .int .u32 0, .int .u32 0, .int .u32 0, .int .u32 0, .int .u32 0, .int .u32 0, .int .u32 0, .int .i64 0, .int .i64 0, .bool false, .int .i64 0] : Array Value).all (·.oneCell') = true := one_all (by rfl)
  have H1 := Lib.hid h1
  clear hb hs hz h1 ho hz2
  obtain ⟨pf, hpf⟩ : ∃ pf : Pt, pf = (⟨true, reader, wd, 1, 0, at_, size, rec ++ List.replicate (8 - rec.length) 0, cp, 0, true, 0⟩ : Pt) := ⟨_, rfl⟩
  have hsp : splice ((⟨true, reader, wd, 1, 0, at_, size, List.replicate 8 0, cp, 0, true, 0⟩ : Pt).cells []) 7 (rec.map (Value.int .u32)) = pf.cells [] := by rw [hpf]; exact cells_splice _ rec rfl (by omega)
  have hl0 : ((⟨true, reader, wd, 1, 0, at_, size, List.replicate 8 0, cp, 0, true, 0⟩ : Pt).cells []).length = 19 := cells_len _ (by rfl)
  have hlf : (pf.cells []).length = 19 := cells_len _ (by rw [hpf]; simp; omega)
  rw [← hpf]
  have HSP := Lib.hid hsp
  have HL0 := Lib.hid hl0
  have HLF := Lib.hid hlf
  have HREC := Lib.hid hrec
  have HROW := Lib.hid hrow
  have c0 := cells_one (⟨true, reader, wd, 1, 0, at_, size, List.replicate 8 0, cp, 0, true, 0⟩ : Pt)
  have cf := cells_one pf
  have HC0 := Lib.hid c0
  have HCF := Lib.hid cf
  clear hpf hsp hl0 hlf hrec hrow c0 cf
  have hna : ¬ at_ < 0 := by omega
  obtain ⟨hw1, hw2⟩ := hw8
  obtain ⟨hl1, hl2⟩ := hrl
  have q1 : (1 : Int) ≤ rl := by omega
  have q2 : (rl : Int) ≤ 4 := by omega
  clear ha
  go_enter Tryz.func118, Tryz.ntmps118
  go_wp2_with fail
  refine (ops_reg k hk _).mono ?_
  rintro e w' ⟨rfl, rfl⟩
  go_wp2_with fail
  go_quiet (fail)
  have HBQ : Hid (Blk (((w.alloc (.cells #[.int .i64 k, .int .i64 wd, .int .i64 sl, .int .i64 cp, .int .u32 sa, .slice ia il ic, .int .i64 ow, .slice ra rl rc] 26)).alloc (.cells #[.bool false, .int .i64 0, .int .i64 0, .int .i64 0, .int .i64 0, .int .i64 0, .int .i64 0, .int .u32 0, .int .u32 0, .int .u32 0, .int .u32 0, .int .u32 0, .int .u32 0, .int .u32 0, .int .u32 0, .int .i64 0, .int .i64 0, .bool false, .int .i64 0] 135)).drewN nq) (w.heap.size + 1) 135 #[.bool false, .int .i64 0, .int .i64 0, .int .i64 0, .int .i64 0, .int .i64 0, .int .i64 0, .int .u32 0, .int .u32 0, .int .u32 0, .int .u32 0, .int .u32 0, .int .u32 0, .int .u32 0, .int .u32 0, .int .i64 0, .int .i64 0, .bool false, .int .i64 0]) := Lib.hid (HB.out.same ((Same.refl _).drewN nq))
  have HOQ : Hid (Blk (((w.alloc (.cells #[.int .i64 k, .int .i64 wd, .int .i64 sl, .int .i64 cp, .int .u32 sa, .slice ia il ic, .int .i64 ow, .slice ra rl rc] 26)).alloc (.cells #[.bool false, .int .i64 0, .int .i64 0, .int .i64 0, .int .i64 0, .int .i64 0, .int .i64 0, .int .u32 0, .int .u32 0, .int .u32 0, .int .u32 0, .int .u32 0, .int .u32 0, .int .u32 0, .int .u32 0, .int .i64 0, .int .i64 0, .bool false, .int .i64 0] 135)).drewN nq) w.heap.size 26 #[.int .i64 k, .int .i64 wd, .int .i64 sl, .int .i64 cp, .int .u32 sa, .slice ia il ic, .int .i64 ow, .slice ra rl rc]) := Lib.hid (HO.out.same ((Same.refl _).drewN nq))
  have HSQ : Hid (Same w (((w.alloc (.cells #[.int .i64 k, .int .i64 wd, .int .i64 sl, .int .i64 cp, .int .u32 sa, .slice ia il ic, .int .i64 ow, .slice ra rl rc] 26)).alloc (.cells #[.bool false, .int .i64 0, .int .i64 0, .int .i64 0, .int .i64 0, .int .i64 0, .int .i64 0, .int .u32 0, .int .u32 0, .int .u32 0, .int .u32 0, .int .u32 0, .int .u32 0, .int .u32 0, .int .u32 0, .int .i64 0, .int .i64 0, .bool false, .int .i64 0] 135)).drewN nq)) := Lib.hid (HS.out.drewN nq)
  have HZQ : Hid ((((w.alloc (.cells #[.int .i64 k, .int .i64 wd, .int .i64 sl, .int .i64 cp, .int .u32 sa, .slice ia il ic, .int .i64 ow, .slice ra rl rc] 26)).alloc (.cells #[.bool false, .int .i64 0, .int .i64 0, .int .i64 0, .int .i64 0, .int .i64 0, .int .i64 0, .int .u32 0, .int .u32 0, .int .u32 0, .int .u32 0, .int .u32 0, .int .u32 0, .int .u32 0, .int .u32 0, .int .i64 0, .int .i64 0, .bool false, .int .i64 0] 135)).drewN nq).heap.size = w.heap.size + 2) := Lib.hid HZ2.out
  clear HB HO HS HZ2
  generalize ((w.alloc (.cells #[.int .i64 k, .int .i64 wd, .int .i64 sl, .int .i64 cp, .int .u32 sa, .slice ia il ic, .int .i64 ow, .slice ra rl rc] 26)).alloc (.cells #[.bool false, .int .i64 0, .int .i64 0, .int .i64 0, .int .i64 0, .int .i64 0, .int .i64 0, .int .u32 0, .int .u32 0, .int .u32 0, .int .u32 0, .int .u32 0, .int .u32 0, .int .u32 0, .int .u32 0, .int .i64 0, .int .i64 0, .bool false, .int .i64 0] 135)).drewN nq = w2 at *
  obtain ⟨d0, d1, d2, d3, d4, d5, d6, d7⟩ := obj_cells HOQ.out
  go_wp2_with fail
  refine (within_yes _ _ _ (hr) _).mono ?_
  rintro e w' ⟨rfl, rfl⟩
  have HB2 := Lib.hid (Blk.new w2 135 #[.bool false, .int .i64 0, .int .i64 0, .int .i64 0, .int .i64 0, .int .i64 0, .int .i64 0, .int .u32 0, .int .u32 0, .int .u32 0, .int .u32 0, .int .u32 0, .int .u32 0, .int .u32 0, .int .u32 0, .int .i64 0, .int .i64 0, .bool false, .int .i64 0])
  have HS2 := Lib.hid (((Same.refl w2).alloc (.cells #[.bool false, .int .i64 0, .int .i64 0, .int .i64 0, .int .i64 0, .int .i64 0, .int .i64 0, .int .u32 0, .int .u32 0, .int .u32 0, .int .u32 0, .int .u32 0, .int .u32 0, .int .u32 0, .int .u32 0, .int .i64 0, .int .i64 0, .bool false, .int .i64 0] 135)))
  have hi19 : (Tryz.prog.info? 135).map (·.size) = some ((⟨true, reader, wd, 1, 0, at_, size, List.replicate 8 0, cp, 0, true, 0⟩ : Pt).cells []).toArray.size := by rw [List.size_toArray, HL0.out]; exact part_info
  have HI0 := Lib.hid hi19
  have hif : (Tryz.prog.info? 135).map (·.size) = some (pf.cells []).toArray.size := by rw [List.size_toArray, HLF.out]; exact part_info
  have HIF := Lib.hid hif
  have HOLDF : Hid ((#[.bool false, .int .i64 0, .int .i64 0, .int .i64 0, .int .i64 0, .int .i64 0, .int .i64 0, .int .u32 0, .int .u32 0, .int .u32 0, .int .u32 0, .int .u32 0, .int .u32 0, .int .u32 0, .int .u32 0, .int .i64 0, .int .i64 0, .bool false, .int .i64 0] : Array Value).size = (pf.cells []).toArray.size) := Lib.hid (by rw [show (pf.cells []).toArray.size = 19 by rw [List.size_toArray]; exact HLF.out]; rfl)
  have HOLD0 : Hid ((#[.bool false, .int .i64 0, .int .i64 0, .int .i64 0, .int .i64 0, .int .i64 0, .int .i64 0, .int .u32 0, .int .u32 0, .int .u32 0, .int .u32 0, .int .u32 0, .int .u32 0, .int .u32 0, .int .u32 0, .int .i64 0, .int .i64 0, .bool false, .int .i64 0] : Array Value).size = ((⟨true, reader, wd, 1, 0, at_, size, List.replicate 8 0, cp, 0, true, 0⟩ : Pt).cells []).toArray.size) := Lib.hid (by rw [show ((⟨true, reader, wd, 1, 0, at_, size, List.replicate 8 0, cp, 0, true, 0⟩ : Pt).cells []).toArray.size = 19 by rw [List.size_toArray]; exact HL0.out]; rfl)
  clear hi19 hif
  have HW3 := Lib.hid (row_blk (cs := ((⟨true, reader, wd, 1, 0, at_, size, List.replicate 8 0, cp, 0, true, 0⟩ : Pt).cells []).toArray) HB2.out)
  have HS3 := Lib.hid (HSQ.out.trans (HS2.out.more (chg_setRow (Chg.refl (fun i => i = w2.heap.size) _) (.inl rfl) ((⟨true, reader, wd, 1, 0, at_, size, List.replicate 8 0, cp, 0, true, 0⟩ : Pt).cells []).toArray) (fun i hi => by omega)))
  have HBT := Lib.hid (HBQ.out.same (HS2.out.more (chg_setRow (Chg.refl (fun i => i = w2.heap.size) _) (.inl rfl) ((⟨true, reader, wd, 1, 0, at_, size, List.replicate 8 0, cp, 0, true, 0⟩ : Pt).cells []).toArray) (fun i hi => by omega)))
  have HR3 := Lib.hid (HROW.out.same HS3.out)
  have hz3 : ((w2.alloc (.cells #[.bool false, .int .i64 0, .int .i64 0, .int .i64 0, .int .i64 0, .int .i64 0, .int .i64 0, .int .u32 0, .int .u32 0, .int .u32 0, .int .u32 0, .int .u32 0, .int .u32 0, .int .u32 0, .int .u32 0, .int .i64 0, .int .i64 0, .bool false, .int .i64 0] 135)).setRow w2.heap.size ((⟨true, reader, wd, 1, 0, at_, size, List.replicate 8 0, cp, 0, true, 0⟩ : Pt).cells []).toArray).heap.size = w2.heap.size + 1 := by simp
  have HZ3 := Lib.hid hz3
  clear hz3
  go_wp2_with (first | (refine wpList_store_row rfl 135 (.tmp 19) (.tmp 73) rfl w2.heap.size ((⟨true, reader, wd, 1, 0, at_, size, List.replicate 8 0, cp, 0, true, 0⟩ : Pt).cells []).toArray rfl rfl 135 #[.bool false, .int .i64 0, .int .i64 0, .int .i64 0, .int .i64 0, .int .i64 0, .int .i64 0, .int .u32 0, .int .u32 0, .int .u32 0, .int .u32 0, .int .u32 0, .int .u32 0, .int .u32 0, .int .u32 0, .int .i64 0, .int .i64 0, .bool false, .int .i64 0] HB2.out HI0.out HOLD0.out HC0.out ?_) | (refine wpList_copy_splice rfl (.tmp 75) (.tmp 76) 23 23 rfl 22 Tryz.underlying23 u32_one (some ⟨w2.heap.size, 7, none⟩) A 8 8 m c rfl rfl w2.heap.size 7 ((⟨true, reader, wd, 1, 0, at_, size, List.replicate 8 0, cp, 0, true, 0⟩ : Pt).cells []) 135 HW3.out (rec.map (Value.int .u32)) ?c1 ?c2 ?c3 (words_one _) w2.heap.size ((w2.alloc (.cells #[.bool false, .int .i64 0, .int .i64 0, .int .i64 0, .int .i64 0, .int .i64 0, .int .i64 0, .int .u32 0, .int .u32 0, .int .u32 0, .int .u32 0, .int .u32 0, .int .u32 0, .int .u32 0, .int .u32 0, .int .i64 0, .int .i64 0, .bool false, .int .i64 0] 135)).setRow w2.heap.size ((⟨true, reader, wd, 1, 0, at_, size, List.replicate 8 0, cp, 0, true, 0⟩ : Pt).cells []).toArray) (Below.refl _ _) (Nat.le_refl _) ?_))
  case c1 =>
    have := HREC.out
    rw [List.length_map]
    show _ = min m 8
    omega
  case c2 =>
    intro hp
    have hp' : 0 < (rec.map (Value.int .u32)).length := by simpa using hp
    obtain ⟨b, o, hA, _⟩ := HR3.out.at_ hp'
    have main : ∃ ad, A = some ad ∧ ∀ j v, (rec.map (Value.int .u32))[j]? = some v → ((w2.alloc (.cells #[.bool false, .int .i64 0, .int .i64 0, .int .i64 0, .int .i64 0, .int .i64 0, .int .i64 0, .int .u32 0, .int .u32 0, .int .u32 0, .int .u32 0, .int .u32 0, .int .u32 0, .int .u32 0, .int .u32 0, .int .i64 0, .int .i64 0, .bool false, .int .i64 0] 135)).setRow w2.heap.size ((⟨true, reader, wd, 1, 0, at_, size, List.replicate 8 0, cp, 0, true, 0⟩ : Pt).cells []).toArray).cell? (ad.add j) = some v := by
      refine ⟨_, hA, fun j v hj => ?_⟩
      obtain ⟨b', o', hA', hc⟩ := HR3.out j v hj
      rw [hA] at hA'
      injection hA' with hA'
      injection hA' with e1 e2
      subst e1
      subst e2
      rw [show (⟨b, o, none⟩ : Addr).add j = ⟨b, o + j, none⟩ by cases j <;> rfl]
      exact hc
    first
      | exact ⟨rfl, main⟩
      | exact main
      | simpa using main
  case c3 =>
    have h1 := HREC.out
    have e1 := HL0.out
    show 7 + (rec.map (Value.int .u32)).length ≤ ((⟨true, reader, wd, 1, 0, at_, size, List.replicate 8 0, cp, 0, true, 0⟩ : Pt).cells []).length
    rw [e1, List.length_map]
    omega
  intro w4 hw4 hbel
  have hgq : w2.heap.size = w.heap.size + 2 := HZQ.out
  have hw4' : w4.heap[w2.heap.size]? = some (.cells (pf.cells []).toArray 135 (0, 0)) := by rw [← HSP.out]; exact hw4.out
  have HW4 := Lib.hid hw4'
  have HBEL := Lib.hid hbel
  have HBT4 : Hid (Blk w4 (w.heap.size + 1) 135 #[.bool false, .int .i64 0, .int .i64 0, .int .i64 0, .int .i64 0, .int .i64 0, .int .i64 0, .int .u32 0, .int .u32 0, .int .u32 0, .int .u32 0, .int .u32 0, .int .u32 0, .int .u32 0, .int .u32 0, .int .i64 0, .int .i64 0, .bool false, .int .i64 0]) := Lib.hid (HBT.out.chg (Chg.of_below hbel) (by show ¬ w2.heap.size ≤ w.heap.size + 1; omega))
  clear hw4 hw4' hbel
  go_wp2_with (first | (refine wpList_load_row rfl 135 (.tmp 19) rfl w2.heap.size rfl 135 (pf.cells []).toArray (0, 0) _ HW4.out Tryz.underlying135 rfl HIF.out ?_) | (refine wpList_store_row rfl 135 (.tmp 12) (.tmp 78) rfl (w.heap.size + 1) (pf.cells []).toArray rfl rfl 135 #[.bool false, .int .i64 0, .int .i64 0, .int .i64 0, .int .i64 0, .int .i64 0, .int .i64 0, .int .u32 0, .int .u32 0, .int .u32 0, .int .u32 0, .int .u32 0, .int .u32 0, .int .u32 0, .int .u32 0, .int .i64 0, .int .i64 0, .bool false, .int .i64 0] HBT4.out HIF.out HOLDF.out HCF.out ?_))
  refine bodyPost_ret (v := .tuple #[.agg (pf.cells []).toArray, .int .i64 0]) (results_cell_tmp Tryz.results118 _ _ (w.heap.size + 1) 135 (pf.cells []).toArray (0, 0) _ rfl (row_blk HBT4.out) Tryz.underlying135 rfl HIF.out) rfl ⟨rfl, ?_⟩
  exact (HS3.out.more (Chg.of_below HBEL.out) (fun i hi => by have := hi; omega)).more (chg_setRow (Chg.refl (fun i => i = w.heap.size + 1) _) (.inl rfl) _) (fun i hi => by omega)

end Go.Proofs.YtikjkmomokhanabGreat.Ob
