/-

  What an object of any kind is: of package object, and of the document.
-/
import Derived.Test.YtikjkmomokhanabGreatRows
import Derived.Test.YtikjkmomokhanabGreatWords
import Derived.ProofKit
import Derived.OpenShut
import Derived.WalkKit
import Derived.WalkLawsBesides
import Derived.Lib.Hide
import Derived.BigQuiet
import Derived.Laws.Rows
import Derived.Laws.ResultCell
set_option linter.unusedVariables false
set_option linter.unusedSimpArgs false
namespace Go.Proofs.YtikjkmomokhanabGreat.Fc
open Go.ChangeShapes Go.WideShapes Go.ChangeAt Go.RowKit Ws

theorem ret_int {k : IntKind} {a b : Int} (h : a = b) : Ending.returned (.int k a) = .returned (.int k b) := by rw [h]
theorem ret_bool {a b : Bool} (h : a = b) : Ending.returned (.bool a) = .returned (.bool b) := by rw [h]
theorem results_cell2 {P : Program} {fn : Func} {p t : Tmp} {ty : TypeId} (h : fn.results = #[.cell p ty, .tmp t]) (tmps : Array Value) (w : World) (g : Nat) (T : TypeId) (cs : Array Value) (fr : Nat × Nat) (d : TypeDesc)
    (hp : tmps.getD p undef = .pointer (some ⟨g, 0, none⟩)) (hg : w.heap[g]? = some (.cells cs T fr))
    (hu : P.underlying ty = some d) (hd : (match d with | .struct _ | .array _ _ => true | _ => false) = true) (hi : (P.info? ty).map (·.size) = some cs.size) :
    (results fn tmps).run P w = .ok (.tuple #[.agg cs, tmps.getD t undef]) w := by
  have hp' : tmps[p]?.getD undef = .pointer (some ⟨g, 0, none⟩) := by simpa using hp
  simp [results, h, hp', asAddr, run_loadVar_row w g T ty cs fr d hg hu hd hi]
theorem face_size : (Tryz.prog.info? 70).map (·.size) = some 5 := by kernel_rfl
def face1 : Array Value := #[.string ⟨#[102, 111, 117, 114]⟩, .func (.func 63) #[] #[], .func (.func 64) #[] #[], .func (.func 65) #[] #[], .func (.func 66) #[] #[]]
def face2 : Array Value := #[.string ⟨#[99, 104, 101, 110]⟩, .func (.func 67) #[] #[], .func (.func 68) #[] #[], .func (.func 69) #[] #[], .func (.func 70) #[] #[]]
def face3 : Array Value := #[.string ⟨#[115, 101, 113]⟩, .func (.func 71) #[] #[], .func (.func 72) #[] #[], .func (.func 73) #[] #[], .func (.func 74) #[] #[]]
def face4 : Array Value := #[.string ⟨#[114, 105, 110, 103]⟩, .func (.func 75) #[] #[], .func (.func 76) #[] #[], .func (.func 77) #[] #[], .func (.func 78) #[] #[]]
def face5 : Array Value := #[.string ⟨#[99, 97, 98]⟩, .func (.func 79) #[] #[], .func (.func 80) #[] #[], .func (.func 81) #[] #[], .func (.func 82) #[] #[]]
def face6 : Array Value := #[.string ⟨#[102, 105, 102, 111]⟩, .func (.func 83) #[] #[], .func (.func 84) #[] #[], .func (.func 85) #[] #[], .func (.func 86) #[] #[]]
theorem chg_setRow {S : Nat → Prop} {a b : World} (h : Chg S a b) {g : Nat} (hg : S g ∨ a.heap.size ≤ g) (cs : Array Value) : Chg S a (b.setRow g cs) := by
  refine ⟨h.os, h.tape, h.output, by simpa [World.setRow] using h.size, fun i hi hn => ?_⟩
  rw [← h.block i hi hn]
  unfold World.setRow
  simp only [Array.getElem?_modify]
  rw [if_neg]
  rintro rfl
  rcases hg with hg | hg
  · exact hn hg
  · omega
theorem row_blk {w : World} {g : Nat} {T : TypeId} {old cs : Array Value} (h : Blk w g T old) : Blk (w.setRow g cs) g T cs := setRow_heap w g old cs T (0, 0) h
theorem one_all {cs : List Value} (h : cs.all (fun v => v.oneCell') = true) : cs.toArray.all (·.oneCell') = true := by
  rw [List.all_toArray]
  exact h
theorem one_0 : (#[.string ⟨#[]⟩, .nilFunc, .nilFunc, .nilFunc, .nilFunc] : Array Value).all (·.oneCell') = true := one_all (by rfl)
theorem one_1 : (#[.string ⟨#[102, 111, 117, 114]⟩, .func (.func 63) #[] #[], .func (.func 64) #[] #[], .func (.func 65) #[] #[], .func (.func 66) #[] #[]] : Array Value).all (·.oneCell') = true := one_all (by rfl)
theorem one_2 : (#[.string ⟨#[99, 104, 101, 110]⟩, .func (.func 67) #[] #[], .func (.func 68) #[] #[], .func (.func 69) #[] #[], .func (.func 70) #[] #[]] : Array Value).all (·.oneCell') = true := one_all (by rfl)
theorem one_3 : (#[.string ⟨#[115, 101, 113]⟩, .func (.func 71) #[] #[], .func (.func 72) #[] #[], .func (.func 73) #[] #[], .func (.func 74) #[] #[]] : Array Value).all (·.oneCell') = true := one_all (by rfl)
theorem one_4 : (#[.string ⟨#[114, 105, 110, 103]⟩, .func (.func 75) #[] #[], .func (.func 76) #[] #[], .func (.func 77) #[] #[], .func (.func 78) #[] #[]] : Array Value).all (·.oneCell') = true := one_all (by rfl)
theorem one_5 : (#[.string ⟨#[99, 97, 98]⟩, .func (.func 79) #[] #[], .func (.func 80) #[] #[], .func (.func 81) #[] #[], .func (.func 82) #[] #[]] : Array Value).all (·.oneCell') = true := one_all (by rfl)
theorem one_6 : (#[.string ⟨#[102, 105, 102, 111]⟩, .func (.func 83) #[] #[], .func (.func 84) #[] #[], .func (.func 85) #[] #[], .func (.func 86) #[] #[]] : Array Value).all (·.oneCell') = true := one_all (by rfl)
set_option maxRecDepth 100000 in
theorem face_1 (w : World) : Calls Tryz.prog 41 #[.int .i64 1] w fun e w' => e = .returned (.tuple #[.agg #[.string ⟨#[102, 111, 117, 114]⟩, .func (.func 63) #[] #[], .func (.func 64) #[] #[], .func (.func 65) #[] #[], .func (.func 66) #[] #[]], .bool true]) ∧ Same w w' := by
  have HZ := Lib.hid (Blk.new w 70 #[.string ⟨#[]⟩, .nilFunc, .nilFunc, .nilFunc, .nilFunc])
  go_enter Tryz.func41, Tryz.ntmps41
  go_wp2_with (refine wpList_store_row rfl 70 (.tmp 2) (.tmp 7) rfl w.heap.size #[.string ⟨#[102, 111, 117, 114]⟩, .func (.func 63) #[] #[], .func (.func 64) #[] #[], .func (.func 65) #[] #[], .func (.func 66) #[] #[]] rfl rfl 70 #[.string ⟨#[]⟩, .nilFunc, .nilFunc, .nilFunc, .nilFunc] HZ.out face_size rfl one_1 ?_)
  refine bodyPost_ret (v := .tuple #[.agg #[.string ⟨#[102, 111, 117, 114]⟩, .func (.func 63) #[] #[], .func (.func 64) #[] #[], .func (.func 65) #[] #[], .func (.func 66) #[] #[]], .bool true]) (results_cell2 Tryz.results41 _ _ w.heap.size 70 #[.string ⟨#[102, 111, 117, 114]⟩, .func (.func 63) #[] #[], .func (.func 64) #[] #[], .func (.func 65) #[] #[], .func (.func 66) #[] #[]] (0, 0) _ rfl (row_blk HZ.out) Tryz.underlying70 rfl face_size) rfl ⟨rfl, ?_⟩
  exact chg_setRow ((Same.refl w).alloc _) (.inr (Nat.le_refl _)) _
set_option maxRecDepth 100000 in
theorem face_2 (w : World) : Calls Tryz.prog 41 #[.int .i64 2] w fun e w' => e = .returned (.tuple #[.agg #[.string ⟨#[99, 104, 101, 110]⟩, .func (.func 67) #[] #[], .func (.func 68) #[] #[], .func (.func 69) #[] #[], .func (.func 70) #[] #[]], .bool true]) ∧ Same w w' := by
  have HZ := Lib.hid (Blk.new w 70 #[.string ⟨#[]⟩, .nilFunc, .nilFunc, .nilFunc, .nilFunc])
  go_enter Tryz.func41, Tryz.ntmps41
  go_wp2_with (refine wpList_store_row rfl 70 (.tmp 2) (.tmp 10) rfl w.heap.size #[.string ⟨#[99, 104, 101, 110]⟩, .func (.func 67) #[] #[], .func (.func 68) #[] #[], .func (.func 69) #[] #[], .func (.func 70) #[] #[]] rfl rfl 70 #[.string ⟨#[]⟩, .nilFunc, .nilFunc, .nilFunc, .nilFunc] HZ.out face_size rfl one_2 ?_)
  refine bodyPost_ret (v := .tuple #[.agg #[.string ⟨#[99, 104, 101, 110]⟩, .func (.func 67) #[] #[], .func (.func 68) #[] #[], .func (.func 69) #[] #[], .func (.func 70) #[] #[]], .bool true]) (results_cell2 Tryz.results41 _ _ w.heap.size 70 #[.string ⟨#[99, 104, 101, 110]⟩, .func (.func 67) #[] #[], .func (.func 68) #[] #[], .func (.func 69) #[] #[], .func (.func 70) #[] #[]] (0, 0) _ rfl (row_blk HZ.out) Tryz.underlying70 rfl face_size) rfl ⟨rfl, ?_⟩
  exact chg_setRow ((Same.refl w).alloc _) (.inr (Nat.le_refl _)) _
set_option maxRecDepth 100000 in
theorem face_3 (w : World) : Calls Tryz.prog 41 #[.int .i64 3] w fun e w' => e = .returned (.tuple #[.agg #[.string ⟨#[115, 101, 113]⟩, .func (.func 71) #[] #[], .func (.func 72) #[] #[], .func (.func 73) #[] #[], .func (.func 74) #[] #[]], .bool true]) ∧ Same w w' := by
  have HZ := Lib.hid (Blk.new w 70 #[.string ⟨#[]⟩, .nilFunc, .nilFunc, .nilFunc, .nilFunc])
  go_enter Tryz.func41, Tryz.ntmps41
  go_wp2_with (refine wpList_store_row rfl 70 (.tmp 2) (.tmp 13) rfl w.heap.size #[.string ⟨#[115, 101, 113]⟩, .func (.func 71) #[] #[], .func (.func 72) #[] #[], .func (.func 73) #[] #[], .func (.func 74) #[] #[]] rfl rfl 70 #[.string ⟨#[]⟩, .nilFunc, .nilFunc, .nilFunc, .nilFunc] HZ.out face_size rfl one_3 ?_)
  refine bodyPost_ret (v := .tuple #[.agg #[.string ⟨#[115, 101, 113]⟩, .func (.func 71) #[] #[], .func (.func 72) #[] #[], .func (.func 73) #[] #[], .func (.func 74) #[] #[]], .bool true]) (results_cell2 Tryz.results41 _ _ w.heap.size 70 #[.string ⟨#[115, 101, 113]⟩, .func (.func 71) #[] #[], .func (.func 72) #[] #[], .func (.func 73) #[] #[], .func (.func 74) #[] #[]] (0, 0) _ rfl (row_blk HZ.out) Tryz.underlying70 rfl face_size) rfl ⟨rfl, ?_⟩
  exact chg_setRow ((Same.refl w).alloc _) (.inr (Nat.le_refl _)) _
set_option maxRecDepth 100000 in
theorem face_4 (w : World) : Calls Tryz.prog 41 #[.int .i64 4] w fun e w' => e = .returned (.tuple #[.agg #[.string ⟨#[114, 105, 110, 103]⟩, .func (.func 75) #[] #[], .func (.func 76) #[] #[], .func (.func 77) #[] #[], .func (.func 78) #[] #[]], .bool true]) ∧ Same w w' := by
  have HZ := Lib.hid (Blk.new w 70 #[.string ⟨#[]⟩, .nilFunc, .nilFunc, .nilFunc, .nilFunc])
  go_enter Tryz.func41, Tryz.ntmps41
  go_wp2_with (refine wpList_store_row rfl 70 (.tmp 2) (.tmp 16) rfl w.heap.size #[.string ⟨#[114, 105, 110, 103]⟩, .func (.func 75) #[] #[], .func (.func 76) #[] #[], .func (.func 77) #[] #[], .func (.func 78) #[] #[]] rfl rfl 70 #[.string ⟨#[]⟩, .nilFunc, .nilFunc, .nilFunc, .nilFunc] HZ.out face_size rfl one_4 ?_)
  refine bodyPost_ret (v := .tuple #[.agg #[.string ⟨#[114, 105, 110, 103]⟩, .func (.func 75) #[] #[], .func (.func 76) #[] #[], .func (.func 77) #[] #[], .func (.func 78) #[] #[]], .bool true]) (results_cell2 Tryz.results41 _ _ w.heap.size 70 #[.string ⟨#[114, 105, 110, 103]⟩, .func (.func 75) #[] #[], .func (.func 76) #[] #[], .func (.func 77) #[] #[], .func (.func 78) #[] #[]] (0, 0) _ rfl (row_blk HZ.out) Tryz.underlying70 rfl face_size) rfl ⟨rfl, ?_⟩
  exact chg_setRow ((Same.refl w).alloc _) (.inr (Nat.le_refl _)) _
set_option maxRecDepth 100000 in
theorem face_5 (w : World) : Calls Tryz.prog 41 #[.int .i64 5] w fun e w' => e = .returned (.tuple #[.agg #[.string ⟨#[99, 97, 98]⟩, .func (.func 79) #[] #[], .func (.func 80) #[] #[], .func (.func 81) #[] #[], .func (.func 82) #[] #[]], .bool true]) ∧ Same w w' := by
  have HZ := Lib.hid (Blk.new w 70 #[.string ⟨#[]⟩, .nilFunc, .nilFunc, .nilFunc, .nilFunc])
  go_enter Tryz.func41, Tryz.ntmps41
  go_wp2_with (refine wpList_store_row rfl 70 (.tmp 2) (.tmp 19) rfl w.heap.size #[.string ⟨#[99, 97, 98]⟩, .func (.func 79) #[] #[], .func (.func 80) #[] #[], .func (.func 81) #[] #[], .func (.func 82) #[] #[]] rfl rfl 70 #[.string ⟨#[]⟩, .nilFunc, .nilFunc, .nilFunc, .nilFunc] HZ.out face_size rfl one_5 ?_)
  refine bodyPost_ret (v := .tuple #[.agg #[.string ⟨#[99, 97, 98]⟩, .func (.func 79) #[] #[], .func (.func 80) #[] #[], .func (.func 81) #[] #[], .func (.func 82) #[] #[]], .bool true]) (results_cell2 Tryz.results41 _ _ w.heap.size 70 #[.string ⟨#[99, 97, 98]⟩, .func (.func 79) #[] #[], .func (.func 80) #[] #[], .func (.func 81) #[] #[], .func (.func 82) #[] #[]] (0, 0) _ rfl (row_blk HZ.out) Tryz.underlying70 rfl face_size) rfl ⟨rfl, ?_⟩
  exact chg_setRow ((Same.refl w).alloc _) (.inr (Nat.le_refl _)) _
set_option maxRecDepth 100000 in
theorem face_6 (w : World) : Calls Tryz.prog 41 #[.int .i64 6] w fun e w' => e = .returned (.tuple #[.agg #[.string ⟨#[102, 105, 102, 111]⟩, .func (.func 83) #[] #[], .func (.func 84) #[] #[], .func (.func 85) #[] #[], .func (.func 86) #[] #[]], .bool true]) ∧ Same w w' := by
  have HZ := Lib.hid (Blk.new w 70 #[.string ⟨#[]⟩, .nilFunc, .nilFunc, .nilFunc, .nilFunc])
  go_enter Tryz.func41, Tryz.ntmps41
  go_wp2_with (refine wpList_store_row rfl 70 (.tmp 2) (.tmp 22) rfl w.heap.size #[.string ⟨#[102, 105, 102, 111]⟩, .func (.func 83) #[] #[], .func (.func 84) #[] #[], .func (.func 85) #[] #[], .func (.func 86) #[] #[]] rfl rfl 70 #[.string ⟨#[]⟩, .nilFunc, .nilFunc, .nilFunc, .nilFunc] HZ.out face_size rfl one_6 ?_)
  refine bodyPost_ret (v := .tuple #[.agg #[.string ⟨#[102, 105, 102, 111]⟩, .func (.func 83) #[] #[], .func (.func 84) #[] #[], .func (.func 85) #[] #[], .func (.func 86) #[] #[]], .bool true]) (results_cell2 Tryz.results41 _ _ w.heap.size 70 #[.string ⟨#[102, 105, 102, 111]⟩, .func (.func 83) #[] #[], .func (.func 84) #[] #[], .func (.func 85) #[] #[], .func (.func 86) #[] #[]] (0, 0) _ rfl (row_blk HZ.out) Tryz.underlying70 rfl face_size) rfl ⟨rfl, ?_⟩
  exact chg_setRow ((Same.refl w).alloc _) (.inr (Nat.le_refl _)) _
set_option maxRecDepth 100000 in
theorem face_none (k : Int) (h : k < 1 ∨ 6 < k) (w : World) : Calls Tryz.prog 41 #[.int .i64 k] w fun e w' => e = .returned (.tuple #[.agg #[.string ⟨#[]⟩, .nilFunc, .nilFunc, .nilFunc, .nilFunc], .bool false]) ∧ Same w w' := by
  have HZ := Lib.hid (Blk.new w 70 #[.string ⟨#[]⟩, .nilFunc, .nilFunc, .nilFunc, .nilFunc])
  have b1 : (k == 1) = false := by rw [beq_eq_false_iff_ne]; omega
  have b2 : (k == 2) = false := by rw [beq_eq_false_iff_ne]; omega
  have b3 : (k == 3) = false := by rw [beq_eq_false_iff_ne]; omega
  have b4 : (k == 4) = false := by rw [beq_eq_false_iff_ne]; omega
  have b5 : (k == 5) = false := by rw [beq_eq_false_iff_ne]; omega
  have b6 : (k == 6) = false := by rw [beq_eq_false_iff_ne]; omega
  clear h
  go_enter Tryz.func41, Tryz.ntmps41
  go_wp2_with (refine wpList_store_row rfl 70 (.tmp 2) (.tmp 23) rfl w.heap.size #[.string ⟨#[]⟩, .nilFunc, .nilFunc, .nilFunc, .nilFunc] rfl rfl 70 #[.string ⟨#[]⟩, .nilFunc, .nilFunc, .nilFunc, .nilFunc] HZ.out face_size rfl one_0 ?_)
  refine bodyPost_ret (v := .tuple #[.agg #[.string ⟨#[]⟩, .nilFunc, .nilFunc, .nilFunc, .nilFunc], .bool false]) (results_cell2 Tryz.results41 _ _ w.heap.size 70 #[.string ⟨#[]⟩, .nilFunc, .nilFunc, .nilFunc, .nilFunc] (0, 0) _ rfl (row_blk HZ.out) Tryz.underlying70 rfl face_size) rfl ⟨rfl, ?_⟩
  exact chg_setRow ((Same.refl w).alloc _) (.inr (Nat.le_refl _)) _

end Go.Proofs.YtikjkmomokhanabGreat.Fc
