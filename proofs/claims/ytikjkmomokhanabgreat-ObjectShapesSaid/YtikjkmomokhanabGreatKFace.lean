/-

  What an object of any kind is.
-/
import Derived.Test.YtikjkmomokhanabGreatKFour
import Derived.Test.YtikjkmomokhanabGreatKChen
import Derived.Test.YtikjkmomokhanabGreatKSeq
import Derived.Test.YtikjkmomokhanabGreatKRing
import Derived.Test.YtikjkmomokhanabGreatKCab
import Derived.Test.YtikjkmomokhanabGreatKFifo
import Derived.Laws.Rows
import Derived.Laws.ResultCell
set_option linter.unusedVariables false
set_option linter.unusedSimpArgs false
namespace Go.Proofs.YtikjkmomokhanabGreat.Kfc
open Go.ChangeShapes Go.WideShapes Go.ChangeAt Go.RowKit Ws

theorem ret_int {k : IntKind} {a b : Int} (h : a = b) : Ending.returned (.int k a) = .returned (.int k b) := by rw [h]
theorem ret_bool {a b : Bool} (h : a = b) : Ending.returned (.bool a) = .returned (.bool b) := by rw [h]
theorem results_cell2 {P : Program} {fn : Func} {p t : Tmp} {ty : TypeId} (h : fn.results = #[.cell p ty, .tmp t]) (tmps : Array Value) (w : World) (g : Nat) (T : TypeId) (cs : Array Value) (fr : Nat × Nat) (d : TypeDesc)
    (hp : tmps.getD p undef = .pointer (some ⟨g, 0, none⟩)) (hg : w.heap[g]? = some (.cells cs T fr))
    (hu : P.underlying ty = some d) (hd : (match d with | .struct _ | .array _ _ => true | _ => false) = true) (hi : (P.info? ty).map (·.size) = some cs.size) :
    (results fn tmps).run P w = .ok (.tuple #[.agg cs, tmps.getD t undef]) w := by
  have hp' : tmps[p]?.getD undef = .pointer (some ⟨g, 0, none⟩) := by simpa using hp
  simp [results, h, hp', asAddr, run_loadVar_row w g T ty cs fr d hg hu hd hi]
theorem face_size : (Tryz.prog.info? 70).map (·.size) = some 5 := by kernel_rfl
def face1 : Array Value := #[.string ⟨#[102, 111, 117, 114]⟩, .func (.func 63) #[] #[], .func (.func 64) #[] #[], .func (.func 65) #[] #[], .func (.func 66) #[] #[]]
def face2 : Array Value := #[.string ⟨#[99, 104, 101, 110]⟩, .func (.func 67) #[] #[], .func (.func 68) #[] #[], .func (.func 69) #[] #[], .func (.func 70) #[] #[]]
def face3 : Array Value := #[.string ⟨#[115, 101, 113]⟩, .func (.func 71) #[] #[], .func (.func 72) #[] #[], .func (.func 73) #[] #[], .func (.func 74) #[] #[]]
def face4 : Array Value := #[.string ⟨#[114, 105, 110, 103]⟩, .func (.func 75) #[] #[], .func (.func 76) #[] #[], .func (.func 77) #[] #[], .func (.func 78) #[] #[]]
def face5 : Array Value := #[.string ⟨#[99, 97, 98]⟩, .func (.func 79) #[] #[], .func (.func 80) #[] #[], .func (.func 81) #[] #[], .func (.func 82) #[] #[]]
def face6 : Array Value := #[.string ⟨#[102, 105, 102, 111]⟩, .func (.func 83) #[] #[], .func (.func 84) #[] #[], .func (.func 85) #[] #[], .func (.func 86) #[] #[]]
def rightF (k wd sl cp sa : Int) (il rl : Nat) : Bool := if k = 1 then Kfo.rightB wd sl cp sa il rl else if k = 2 then Kch.rightB wd sl cp sa il rl else if k = 3 then Ksq.rightB wd sl cp sa il rl else if k = 4 then Krg.rightB wd sl cp sa il rl else if k = 5 then Kcb.rightB wd sl cp sa il rl else if k = 6 then Kff.rightB wd sl cp sa il rl else false
def boundF (k wd sl cp sa : Int) (il rl : Nat) (op : Int) : Int := if rightF k wd sl cp sa il rl = true then (if k = 1 then Kfo.boundI wd op else if k = 2 then Kch.boundI wd cp rl op else if k = 3 then Ksq.boundI wd cp op else if k = 4 then Krg.boundI wd cp op else if k = 5 then Kcb.boundI wd cp rl op else if k = 6 then Kff.boundI wd op else 0) else 0
theorem right_1 (wd sl cp sa : Int) (il rl : Nat) : rightF 1 wd sl cp sa il rl = Kfo.rightB wd sl cp sa il rl := by unfold rightF; simp
theorem bound_1 (wd sl cp sa : Int) (il rl : Nat) (op : Int) : boundF 1 wd sl cp sa il rl op = if Kfo.rightB wd sl cp sa il rl = true then Kfo.boundI wd op else 0 := by unfold boundF; rw [right_1]; simp
theorem right_2 (wd sl cp sa : Int) (il rl : Nat) : rightF 2 wd sl cp sa il rl = Kch.rightB wd sl cp sa il rl := by unfold rightF; simp
theorem bound_2 (wd sl cp sa : Int) (il rl : Nat) (op : Int) : boundF 2 wd sl cp sa il rl op = if Kch.rightB wd sl cp sa il rl = true then Kch.boundI wd cp rl op else 0 := by unfold boundF; rw [right_2]; simp
theorem right_3 (wd sl cp sa : Int) (il rl : Nat) : rightF 3 wd sl cp sa il rl = Ksq.rightB wd sl cp sa il rl := by unfold rightF; simp
theorem bound_3 (wd sl cp sa : Int) (il rl : Nat) (op : Int) : boundF 3 wd sl cp sa il rl op = if Ksq.rightB wd sl cp sa il rl = true then Ksq.boundI wd cp op else 0 := by unfold boundF; rw [right_3]; simp
theorem right_4 (wd sl cp sa : Int) (il rl : Nat) : rightF 4 wd sl cp sa il rl = Krg.rightB wd sl cp sa il rl := by unfold rightF; simp
theorem bound_4 (wd sl cp sa : Int) (il rl : Nat) (op : Int) : boundF 4 wd sl cp sa il rl op = if Krg.rightB wd sl cp sa il rl = true then Krg.boundI wd cp op else 0 := by unfold boundF; rw [right_4]; simp
theorem right_5 (wd sl cp sa : Int) (il rl : Nat) : rightF 5 wd sl cp sa il rl = Kcb.rightB wd sl cp sa il rl := by unfold rightF; simp
theorem bound_5 (wd sl cp sa : Int) (il rl : Nat) (op : Int) : boundF 5 wd sl cp sa il rl op = if Kcb.rightB wd sl cp sa il rl = true then Kcb.boundI wd cp rl op else 0 := by unfold boundF; rw [right_5]; simp
theorem right_6 (wd sl cp sa : Int) (il rl : Nat) : rightF 6 wd sl cp sa il rl = Kff.rightB wd sl cp sa il rl := by unfold rightF; simp
theorem bound_6 (wd sl cp sa : Int) (il rl : Nat) (op : Int) : boundF 6 wd sl cp sa il rl op = if Kff.rightB wd sl cp sa il rl = true then Kff.boundI wd op else 0 := by unfold boundF; rw [right_6]; simp
theorem right_none {k : Int} (wd sl cp sa : Int) (il rl : Nat) (h : k < 1 ∨ 6 < k) : rightF k wd sl cp sa il rl = false := by
  unfold rightF
  rw [if_neg (by omega), if_neg (by omega), if_neg (by omega), if_neg (by omega), if_neg (by omega), if_neg (by omega)]
theorem bound_none {k : Int} (wd sl cp sa : Int) (il rl : Nat) (op : Int) (h : k < 1 ∨ 6 < k) : boundF k wd sl cp sa il rl op = 0 := by
  unfold boundF
  rw [right_none wd sl cp sa il rl h, if_neg Bool.false_ne_true]
theorem chg_setRow {S : Nat → Prop} {a b : World} (h : Chg S a b) {g : Nat} (hg : S g ∨ a.heap.size ≤ g) (cs : Array Value) : Chg S a (b.setRow g cs) := by
  refine ⟨h.os, h.tape, h.output, by simpa [World.setRow] using h.size, fun i hi hn => ?_⟩
  rw [← h.block i hi hn]
  unfold World.setRow
  simp only [Array.getElem?_modify]
  rw [if_neg]
  rintro rfl
  rcases hg with hg | hg
  · exact hn hg
  · omega
theorem row_blk {w : World} {g : Nat} {T : TypeId} {old cs : Array Value} (h : Blk w g T old) : Blk (w.setRow g cs) g T cs := setRow_heap w g old cs T (0, 0) h
theorem one_all {cs : List Value} (h : cs.all (fun v => v.oneCell') = true) : cs.toArray.all (·.oneCell') = true := by
  rw [List.all_toArray]
  exact h
theorem one_0 : (#[.string ⟨#[]⟩, .nilFunc, .nilFunc, .nilFunc, .nilFunc] : Array Value).all (·.oneCell') = true := one_all (by rfl)
theorem one_1 : (#[.string ⟨#[102, 111, 117, 114]⟩, .func (.func 63) #[] #[], .func (.func 64) #[] #[], .func (.func 65) #[] #[], .func (.func 66) #[] #[]] : Array Value).all (·.oneCell') = true := one_all (by rfl)
theorem one_2 : (#[.string ⟨#[99, 104, 101, 110]⟩, .func (.func 67) #[] #[], .func (.func 68) #[] #[], .func (.func 69) #[] #[], .func (.func 70) #[] #[]] : Array Value).all (·.oneCell') = true := one_all (by rfl)
theorem one_3 : (#[.string ⟨#[115, 101, 113]⟩, .func (.func 71) #[] #[], .func (.func 72) #[] #[], .func (.func 73) #[] #[], .func (.func 74) #[] #[]] : Array Value).all (·.oneCell') = true := one_all (by rfl)
theorem one_4 : (#[.string ⟨#[114, 105, 110, 103]⟩, .func (.func 75) #[] #[], .func (.func 76) #[] #[], .func (.func 77) #[] #[], .func (.func 78) #[] #[]] : Array Value).all (·.oneCell') = true := one_all (by rfl)
theorem one_5 : (#[.string ⟨#[99, 97, 98]⟩, .func (.func 79) #[] #[], .func (.func 80) #[] #[], .func (.func 81) #[] #[], .func (.func 82) #[] #[]] : Array Value).all (·.oneCell') = true := one_all (by rfl)
theorem one_6 : (#[.string ⟨#[102, 105, 102, 111]⟩, .func (.func 83) #[] #[], .func (.func 84) #[] #[], .func (.func 85) #[] #[], .func (.func 86) #[] #[]] : Array Value).all (·.oneCell') = true := one_all (by rfl)
set_option maxRecDepth 100000 in
theorem face_1 (w : World) : Calls Tryz.prog 41 #[.int .i64 1] w fun e w' => e = .returned (.tuple #[.agg #[.string ⟨#[102, 111, 117, 114]⟩, .func (.func 63) #[] #[], .func (.func 64) #[] #[], .func (.func 65) #[] #[], .func (.func 66) #[] #[]], .bool true]) ∧ Same w w' := by
  have HZ := Lib.hid (Blk.new w 70 #[.string ⟨#[]⟩, .nilFunc, .nilFunc, .nilFunc, .nilFunc])
  go_enter Tryz.func41, Tryz.ntmps41
  go_wp2_with (refine wpList_store_row rfl 70 (.tmp 2) (.tmp 7) rfl w.heap.size #[.string ⟨#[102, 111, 117, 114]⟩, .func (.func 63) #[] #[], .func (.func 64) #[] #[], .func (.func 65) #[] #[], .func (.func 66) #[] #[]] rfl rfl 70 #[.string ⟨#[]⟩, .nilFunc, .nilFunc, .nilFunc, .nilFunc] HZ.out face_size rfl one_1 ?_)
  refine bodyPost_ret (v := .tuple #[.agg #[.string ⟨#[102, 111, 117, 114]⟩, .func (.func 63) #[] #[], .func (.func 64) #[] #[], .func (.func 65) #[] #[], .func (.func 66) #[] #[]], .bool true]) (results_cell2 Tryz.results41 _ _ w.heap.size 70 #[.string ⟨#[102, 111, 117, 114]⟩, .func (.func 63) #[] #[], .func (.func 64) #[] #[], .func (.func 65) #[] #[], .func (.func 66) #[] #[]] (0, 0) _ rfl (row_blk HZ.out) Tryz.underlying70 rfl face_size) rfl ⟨rfl, ?_⟩
  exact chg_setRow ((Same.refl w).alloc _) (.inr (Nat.le_refl _)) _
set_option maxRecDepth 100000 in
theorem face_2 (w : World) : Calls Tryz.prog 41 #[.int .i64 2] w fun e w' => e = .returned (.tuple #[.agg #[.string ⟨#[99, 104, 101, 110]⟩, .func (.func 67) #[] #[], .func (.func 68) #[] #[], .func (.func 69) #[] #[], .func (.func 70) #[] #[]], .bool true]) ∧ Same w w' := by
  have HZ := Lib.hid (Blk.new w 70 #[.string ⟨#[]⟩, .nilFunc, .nilFunc, .nilFunc, .nilFunc])
  go_enter Tryz.func41, Tryz.ntmps41
  go_wp2_with (refine wpList_store_row rfl 70 (.tmp 2) (.tmp 10) rfl w.heap.size #[.string ⟨#[99, 104, 101, 110]⟩, .func (.func 67) #[] #[], .func (.func 68) #[] #[], .func (.func 69) #[] #[], .func (.func 70) #[] #[]] rfl rfl 70 #[.string ⟨#[]⟩, .nilFunc, .nilFunc, .nilFunc, .nilFunc] HZ.out face_size rfl one_2 ?_)
  refine bodyPost_ret (v := .tuple #[.agg #[.string ⟨#[99, 104, 101, 110]⟩, .func (.func 67) #[] #[], .func (.func 68) #[] #[], .func (.func 69) #[] #[], .func (.func 70) #[] #[]], .bool true]) (results_cell2 Tryz.results41 _ _ w.heap.size 70 #[.string ⟨#[99, 104, 101, 110]⟩, .func (.func 67) #[] #[], .func (.func 68) #[] #[], .func (.func 69) #[] #[], .func (.func 70) #[] #[]] (0, 0) _ rfl (row_blk HZ.out) Tryz.underlying70 rfl face_size) rfl ⟨rfl, ?_⟩
  exact chg_setRow ((Same.refl w).alloc _) (.inr (Nat.le_refl _)) _
set_option maxRecDepth 100000 in
theorem face_3 (w : World) : Calls Tryz.prog 41 #[.int .i64 3] w fun e w' => e = .returned (.tuple #[.agg #[.string ⟨#[115, 101, 113]⟩, .func (.func 71) #[] #[], .func (.func 72) #[] #[], .func (.func 73) #[] #[], .func (.func 74) #[] #[]], .bool true]) ∧ Same w w' := by
  have HZ := Lib.hid (Blk.new w 70 #[.string ⟨#[]⟩, .nilFunc, .nilFunc, .nilFunc, .nilFunc])
  go_enter Tryz.func41, Tryz.ntmps41
  go_wp2_with (refine wpList_store_row rfl 70 (.tmp 2) (.tmp 13) rfl w.heap.size #[.string ⟨#[115, 101, 113]⟩, .func (.func 71) #[] #[], .func (.func 72) #[] #[], .func (.func 73) #[] #[], .func (.func 74) #[] #[]] rfl rfl 70 #[.string ⟨#[]⟩, .nilFunc, .nilFunc, .nilFunc, .nilFunc] HZ.out face_size rfl one_3 ?_)
  refine bodyPost_ret (v := .tuple #[.agg #[.string ⟨#[115, 101, 113]⟩, .func (.func 71) #[] #[], .func (.func 72) #[] #[], .func (.func 73) #[] #[], .func (.func 74) #[] #[]], .bool true]) (results_cell2 Tryz.results41 _ _ w.heap.size 70 #[.string ⟨#[115, 101, 113]⟩, .func (.func 71) #[] #[], .func (.func 72) #[] #[], .func (.func 73) #[] #[], .func (.func 74) #[] #[]] (0, 0) _ rfl (row_blk HZ.out) Tryz.underlying70 rfl face_size) rfl ⟨rfl, ?_⟩
  exact chg_setRow ((Same.refl w).alloc _) (.inr (Nat.le_refl _)) _
set_option maxRecDepth 100000 in
theorem face_4 (w : World) : Calls Tryz.prog 41 #[.int .i64 4] w fun e w' => e = .returned (.tuple #[.agg #[.string ⟨#[114, 105, 110, 103]⟩, .func (.func 75) #[] #[], .func (.func 76) #[] #[], .func (.func 77) #[] #[], .func (.func 78) #[] #[]], .bool true]) ∧ Same w w' := by
  have HZ := Lib.hid (Blk.new w 70 #[.string ⟨#[]⟩, .nilFunc, .nilFunc, .nilFunc, .nilFunc])
  go_enter Tryz.func41, Tryz.ntmps41
  go_wp2_with (refine wpList_store_row rfl 70 (.tmp 2) (.tmp 16) rfl w.heap.size #[.string ⟨#[114, 105, 110, 103]⟩, .func (.func 75) #[] #[], .func (.func 76) #[] #[], .func (.func 77) #[] #[], .func (.func 78) #[] #[]] rfl rfl 70 #[.string ⟨#[]⟩, .nilFunc, .nilFunc, .nilFunc, .nilFunc] HZ.out face_size rfl one_4 ?_)
  refine bodyPost_ret (v := .tuple #[.agg #[.string ⟨#[114, 105, 110, 103]⟩, .func (.func 75) #[] #[], .func (.func 76) #[] #[], .func (.func 77) #[] #[], .func (.func 78) #[] #[]], .bool true]) (results_cell2 Tryz.results41 _ _ w.heap.size 70 #[.string ⟨#[114, 105, 110, 103]⟩, .func (.func 75) #[] #[], .func (.func 76) #[] #[], .func (.func 77) #[] #[], .func (.func 78) #[] #[]] (0, 0) _ rfl (row_blk HZ.out) Tryz.underlying70 rfl face_size) rfl ⟨rfl, ?_⟩
  exact chg_setRow ((Same.refl w).alloc _) (.inr (Nat.le_refl _)) _
set_option maxRecDepth 100000 in
theorem face_5 (w : World) : Calls Tryz.prog 41 #[.int .i64 5] w fun e w' => e = .returned (.tuple #[.agg #[.string ⟨#[99, 97, 98]⟩, .func (.func 79) #[] #[], .func (.func 80) #[] #[], .func (.func 81) #[] #[], .func (.func 82) #[] #[]], .bool true]) ∧ Same w w' := by
  have HZ := Lib.hid (Blk.new w 70 #[.string ⟨#[]⟩, .nilFunc, .nilFunc, .nilFunc, .nilFunc])
  go_enter Tryz.func41, Tryz.ntmps41
  go_wp2_with (refine wpList_store_row rfl 70 (.tmp 2) (.tmp 19) rfl w.heap.size #[.string ⟨#[99, 97, 98]⟩, .func (.func 79) #[] #[], .func (.func 80) #[] #[], .func (.func 81) #[] #[], .func (.func 82) #[] #[]] rfl rfl 70 #[.string ⟨#[]⟩, .nilFunc, .nilFunc, .nilFunc, .nilFunc] HZ.out face_size rfl one_5 ?_)
  refine bodyPost_ret (v := .tuple #[.agg #[.string ⟨#[99, 97, 98]⟩, .func (.func 79) #[] #[], .func (.func 80) #[] #[], .func (.func 81) #[] #[], .func (.func 82) #[] #[]], .bool true]) (results_cell2 Tryz.results41 _ _ w.heap.size 70 #[.string ⟨#[99, 97, 98]⟩, .func (.func 79) #[] #[], .func (.func 80) #[] #[], .func (.func 81) #[] #[], .func (.func 82) #[] #[]] (0, 0) _ rfl (row_blk HZ.out) Tryz.underlying70 rfl face_size) rfl ⟨rfl, ?_⟩
  exact chg_setRow ((Same.refl w).alloc _) (.inr (Nat.le_refl _)) _
set_option maxRecDepth 100000 in
theorem face_6 (w : World) : Calls Tryz.prog 41 #[.int .i64 6] w fun e w' => e = .returned (.tuple #[.agg #[.string ⟨#[102, 105, 102, 111]⟩, .func (.func 83) #[] #[], .func (.func 84) #[] #[], .func (.func 85) #[] #[], .func (.func 86) #[] #[]], .bool true]) ∧ Same w w' := by
  have HZ := Lib.hid (Blk.new w 70 #[.string ⟨#[]⟩, .nilFunc, .nilFunc, .nilFunc, .nilFunc])
  go_enter Tryz.func41, Tryz.ntmps41
  go_wp2_with (refine wpList_store_row rfl 70 (.tmp 2) (.tmp 22) rfl w.heap.size #[.string ⟨#[102, 105, 102, 111]⟩, .func (.func 83) #[] #[], .func (.func 84) #[] #[], .func (.func 85) #[] #[], .func (.func 86) #[] #[]] rfl rfl 70 #[.string ⟨#[]⟩, .nilFunc, .nilFunc, .nilFunc, .nilFunc] HZ.out face_size rfl one_6 ?_)
  refine bodyPost_ret (v := .tuple #[.agg #[.string ⟨#[102, 105, 102, 111]⟩, .func (.func 83) #[] #[], .func (.func 84) #[] #[], .func (.func 85) #[] #[], .func (.func 86) #[] #[]], .bool true]) (results_cell2 Tryz.results41 _ _ w.heap.size 70 #[.string ⟨#[102, 105, 102, 111]⟩, .func (.func 83) #[] #[], .func (.func 84) #[] #[], .func (.func 85) #[] #[], .func (.func 86) #[] #[]] (0, 0) _ rfl (row_blk HZ.out) Tryz.underlying70 rfl face_size) rfl ⟨rfl, ?_⟩
  exact chg_setRow ((Same.refl w).alloc _) (.inr (Nat.le_refl _)) _
set_option maxRecDepth 100000 in
theorem face_none (k : Int) (h : k < 1 ∨ 6 < k) (w : World) : Calls Tryz.prog 41 #[.int .i64 k] w fun e w' => e = .returned (.tuple #[.agg #[.string ⟨#[]⟩, .nilFunc, .nilFunc, .nilFunc, .nilFunc], .bool false]) ∧ Same w w' := by
  have HZ := Lib.hid (Blk.new w 70 #[.string ⟨#[]⟩, .nilFunc, .nilFunc, .nilFunc, .nilFunc])
  have b1 : (k == 1) = false := by rw [beq_eq_false_iff_ne]; omega
  have b2 : (k == 2) = false := by rw [beq_eq_false_iff_ne]; omega
  have b3 : (k == 3) = false := by rw [beq_eq_false_iff_ne]; omega
  have b4 : (k == 4) = false := by rw [beq_eq_false_iff_ne]; omega
  have b5 : (k == 5) = false := by rw [beq_eq_false_iff_ne]; omega
  have b6 : (k == 6) = false := by rw [beq_eq_false_iff_ne]; omega
  clear h
  go_enter Tryz.func41, Tryz.ntmps41
  go_wp2_with (refine wpList_store_row rfl 70 (.tmp 2) (.tmp 23) rfl w.heap.size #[.string ⟨#[]⟩, .nilFunc, .nilFunc, .nilFunc, .nilFunc] rfl rfl 70 #[.string ⟨#[]⟩, .nilFunc, .nilFunc, .nilFunc, .nilFunc] HZ.out face_size rfl one_0 ?_)
  refine bodyPost_ret (v := .tuple #[.agg #[.string ⟨#[]⟩, .nilFunc, .nilFunc, .nilFunc, .nilFunc], .bool false]) (results_cell2 Tryz.results41 _ _ w.heap.size 70 #[.string ⟨#[]⟩, .nilFunc, .nilFunc, .nilFunc, .nilFunc] (0, 0) _ rfl (row_blk HZ.out) Tryz.underlying70 rfl face_size) rfl ⟨rfl, ?_⟩
  exact chg_setRow ((Same.refl w).alloc _) (.inr (Nat.le_refl _)) _
set_option maxRecDepth 100000 in
theorem shaped_1 (wd sl cp sa ow : Int) (ia ra : Option Addr) (il ic rl rc : Nat) (w : World) :
    Calls Tryz.prog 11 #[.agg #[.int .i64 1, .int .i64 wd, .int .i64 sl, .int .i64 cp, .int .u32 sa, .slice ia il ic, .int .i64 ow, .slice ra rl rc]] w fun e w' => e = .returned (.bool (Kfo.rightB wd sl cp sa il rl)) ∧ Same w w' := by
  have HC := Lib.hid (fun w' => Kfo.right_any wd sl cp sa ow ia ra il ic rl rc w')
  have hb0 := Blk.new w 26 #[.int .i64 1, .int .i64 wd, .int .i64 sl, .int .i64 cp, .int .u32 sa, .slice ia il ic, .int .i64 ow, .slice ra rl rc]
  have HS0 := Lib.hid ((Same.refl w).alloc (.cells #[.int .i64 1, .int .i64 wd, .int .i64 sl, .int .i64 cp, .int .u32 sa, .slice ia il ic, .int .i64 ow, .slice ra rl rc] 26))
  have HB0 := Lib.hid hb0
  clear hb0
  generalize Kfo.rightB wd sl cp sa il rl = rb at *
  go_enter Tryz.func11, Tryz.ntmps11
  go_wp2_with fail
  refine (face_1 _).mono ?_
  rintro e w2 ⟨rfl, s2⟩
  have HZ := Lib.hid (Blk.new w2 70 #[.string ⟨#[]⟩, .nilFunc, .nilFunc, .nilFunc, .nilFunc])
  have HS2 := Lib.hid (HS0.out.trans s2)
  have hb2 := HB0.out.same s2
  have hlt := hb2.lt
  have hb3 := (hb2.same ((Same.refl w2).alloc (.cells #[.string ⟨#[]⟩, .nilFunc, .nilFunc, .nilFunc, .nilFunc] 70)))
  have HB := Lib.hid (Blk.chg hb3 (chg_setRow (Chg.refl (fun i => i = w2.heap.size) _) (.inl rfl) #[.string ⟨#[102, 111, 117, 114]⟩, .func (.func 63) #[] #[], .func (.func 64) #[] #[], .func (.func 65) #[] #[], .func (.func 66) #[] #[]]) (by omega))
  have HF := Lib.hid (row_blk (cs := #[.string ⟨#[102, 111, 117, 114]⟩, .func (.func 63) #[] #[], .func (.func 64) #[] #[], .func (.func 65) #[] #[], .func (.func 66) #[] #[]]) HZ.out)
  have HS3 := Lib.hid (show Same w ((w2.alloc (.cells #[.string ⟨#[]⟩, .nilFunc, .nilFunc, .nilFunc, .nilFunc] 70)).setRow w2.heap.size #[.string ⟨#[102, 111, 117, 114]⟩, .func (.func 63) #[] #[], .func (.func 64) #[] #[], .func (.func 65) #[] #[], .func (.func 66) #[] #[]]) from chg_setRow (HS2.out.alloc _) (.inr HS2.out.size) _)
  clear s2 hb2 hb3 hlt HB0 HS0
  have d0 : ((w2.alloc (.cells #[.string ⟨#[]⟩, .nilFunc, .nilFunc, .nilFunc, .nilFunc] 70)).setRow w2.heap.size #[.string ⟨#[102, 111, 117, 114]⟩, .func (.func 63) #[] #[], .func (.func 64) #[] #[], .func (.func 65) #[] #[], .func (.func 66) #[] #[]]).cell? ⟨w.heap.size, 0, none⟩ = some (.int .i64 1) := HB.out.cell 0
  have d1 : ((w2.alloc (.cells #[.string ⟨#[]⟩, .nilFunc, .nilFunc, .nilFunc, .nilFunc] 70)).setRow w2.heap.size #[.string ⟨#[102, 111, 117, 114]⟩, .func (.func 63) #[] #[], .func (.func 64) #[] #[], .func (.func 65) #[] #[], .func (.func 66) #[] #[]]).cell? ⟨w.heap.size, 1, none⟩ = some (.int .i64 wd) := HB.out.cell 1
  have d2 : ((w2.alloc (.cells #[.string ⟨#[]⟩, .nilFunc, .nilFunc, .nilFunc, .nilFunc] 70)).setRow w2.heap.size #[.string ⟨#[102, 111, 117, 114]⟩, .func (.func 63) #[] #[], .func (.func 64) #[] #[], .func (.func 65) #[] #[], .func (.func 66) #[] #[]]).cell? ⟨w.heap.size, 2, none⟩ = some (.int .i64 sl) := HB.out.cell 2
  have d3 : ((w2.alloc (.cells #[.string ⟨#[]⟩, .nilFunc, .nilFunc, .nilFunc, .nilFunc] 70)).setRow w2.heap.size #[.string ⟨#[102, 111, 117, 114]⟩, .func (.func 63) #[] #[], .func (.func 64) #[] #[], .func (.func 65) #[] #[], .func (.func 66) #[] #[]]).cell? ⟨w.heap.size, 3, none⟩ = some (.int .i64 cp) := HB.out.cell 3
  have d4 : ((w2.alloc (.cells #[.string ⟨#[]⟩, .nilFunc, .nilFunc, .nilFunc, .nilFunc] 70)).setRow w2.heap.size #[.string ⟨#[102, 111, 117, 114]⟩, .func (.func 63) #[] #[], .func (.func 64) #[] #[], .func (.func 65) #[] #[], .func (.func 66) #[] #[]]).cell? ⟨w.heap.size, 4, none⟩ = some (.int .u32 sa) := HB.out.cell 4
  have d5 : ((w2.alloc (.cells #[.string ⟨#[]⟩, .nilFunc, .nilFunc, .nilFunc, .nilFunc] 70)).setRow w2.heap.size #[.string ⟨#[102, 111, 117, 114]⟩, .func (.func 63) #[] #[], .func (.func 64) #[] #[], .func (.func 65) #[] #[], .func (.func 66) #[] #[]]).cell? ⟨w.heap.size, 5, none⟩ = some (.slice ia il ic) := HB.out.cell 5
  have d6 : ((w2.alloc (.cells #[.string ⟨#[]⟩, .nilFunc, .nilFunc, .nilFunc, .nilFunc] 70)).setRow w2.heap.size #[.string ⟨#[102, 111, 117, 114]⟩, .func (.func 63) #[] #[], .func (.func 64) #[] #[], .func (.func 65) #[] #[], .func (.func 66) #[] #[]]).cell? ⟨w.heap.size, 6, none⟩ = some (.int .i64 ow) := HB.out.cell 6
  have d7 : ((w2.alloc (.cells #[.string ⟨#[]⟩, .nilFunc, .nilFunc, .nilFunc, .nilFunc] 70)).setRow w2.heap.size #[.string ⟨#[102, 111, 117, 114]⟩, .func (.func 63) #[] #[], .func (.func 64) #[] #[], .func (.func 65) #[] #[], .func (.func 66) #[] #[]]).cell? ⟨w.heap.size, 7, none⟩ = some (.slice ra rl rc) := HB.out.cell 7
  have df : ((w2.alloc (.cells #[.string ⟨#[]⟩, .nilFunc, .nilFunc, .nilFunc, .nilFunc] 70)).setRow w2.heap.size #[.string ⟨#[102, 111, 117, 114]⟩, .func (.func 63) #[] #[], .func (.func 64) #[] #[], .func (.func 65) #[] #[], .func (.func 66) #[] #[]]).cell? ⟨w2.heap.size, 1, none⟩ = some (.func (.func 63) #[] #[]) := HF.out.cell 1
  go_wp2_with (refine wpList_store_row rfl 70 (.tmp 3) (.tmp 9) rfl w2.heap.size #[.string ⟨#[102, 111, 117, 114]⟩, .func (.func 63) #[] #[], .func (.func 64) #[] #[], .func (.func 65) #[] #[], .func (.func 66) #[] #[]] rfl rfl 70 #[.string ⟨#[]⟩, .nilFunc, .nilFunc, .nilFunc, .nilFunc] HZ.out face_size rfl one_1 ?_)
  refine (HC.out _).mono ?_
  rintro e w4 ⟨rfl, s4⟩
  go_wp2_with fail
  go_ret
  exact ⟨rfl, HS3.out.trans s4⟩
theorem bnd_1 (wd sl cp sa ow : Int) (ia ra : Option Addr) (il ic rl rc : Nat) (op : Int) (w : World) :
    Calls Tryz.prog 66 #[.agg #[.int .i64 1, .int .i64 wd, .int .i64 sl, .int .i64 cp, .int .u32 sa, .slice ia il ic, .int .i64 ow, .slice ra rl rc], .int .i64 op] w fun e w' => e = .returned (.int .i64 (boundF 1 wd sl cp sa il rl op)) ∧ Same w w' := by
  rw [bound_1]
  cases h : Kfo.rightB wd sl cp sa il rl
  · rw [if_neg Bool.false_ne_true]
    exact Kfo.bound_no wd sl cp sa ow ia ra il ic rl rc op w h
  · rw [if_pos rfl]
    exact Kfo.bound_yes wd sl cp sa ow ia ra il ic rl rc op w h
theorem rbnd_1 (wd sl cp sa ow : Int) (ia ra : Option Addr) (il ic rl rc : Nat) (op : Int) (w : World) :
    Calls Tryz.prog 21 #[.agg #[.int .i64 1, .int .i64 wd, .int .i64 sl, .int .i64 cp, .int .u32 sa, .slice ia il ic, .int .i64 ow, .slice ra rl rc], .int .i64 op] w fun e w' => e = .returned (.int .i64 (boundF 1 wd sl cp sa il rl op)) ∧ Same w w' := by
  rw [bound_1]
  cases h : Kfo.rightB wd sl cp sa il rl
  · rw [if_neg Bool.false_ne_true]
    exact Kfo.rbound_no wd sl cp sa ow ia ra il ic rl rc op w h
  · rw [if_pos rfl]
    exact Kfo.rbound_yes wd sl cp sa ow ia ra il ic rl rc op w h
set_option maxRecDepth 100000 in
theorem bound_of_1 (wd sl cp sa ow : Int) (ia ra : Option Addr) (il ic rl rc : Nat) (op : Int) (w : World) :
    Calls Tryz.prog 20 #[.agg #[.int .i64 1, .int .i64 wd, .int .i64 sl, .int .i64 cp, .int .u32 sa, .slice ia il ic, .int .i64 ow, .slice ra rl rc], .int .i64 op] w fun e w' => e = .returned (.int .i64 (boundF 1 wd sl cp sa il rl op)) ∧ Same w w' := by
  have HC := Lib.hid (fun w' => bnd_1 wd sl cp sa ow ia ra il ic rl rc op w')
  have hb0 := Blk.new w 26 #[.int .i64 1, .int .i64 wd, .int .i64 sl, .int .i64 cp, .int .u32 sa, .slice ia il ic, .int .i64 ow, .slice ra rl rc]
  have HS0 := Lib.hid ((Same.refl w).alloc (.cells #[.int .i64 1, .int .i64 wd, .int .i64 sl, .int .i64 cp, .int .u32 sa, .slice ia il ic, .int .i64 ow, .slice ra rl rc] 26))
  have HB0 := Lib.hid hb0
  clear hb0
  generalize boundF 1 wd sl cp sa il rl op = rb at *
  go_enter Tryz.func20, Tryz.ntmps20
  go_wp2_with fail
  refine (face_1 _).mono ?_
  rintro e w2 ⟨rfl, s2⟩
  have HZ := Lib.hid (Blk.new w2 70 #[.string ⟨#[]⟩, .nilFunc, .nilFunc, .nilFunc, .nilFunc])
  have HS2 := Lib.hid (HS0.out.trans s2)
  have hb2 := HB0.out.same s2
  have hlt := hb2.lt
  have hb3 := (hb2.same ((Same.refl w2).alloc (.cells #[.string ⟨#[]⟩, .nilFunc, .nilFunc, .nilFunc, .nilFunc] 70)))
  have HB := Lib.hid (Blk.chg hb3 (chg_setRow (Chg.refl (fun i => i = w2.heap.size) _) (.inl rfl) #[.string ⟨#[102, 111, 117, 114]⟩, .func (.func 63) #[] #[], .func (.func 64) #[] #[], .func (.func 65) #[] #[], .func (.func 66) #[] #[]]) (by omega))
  have HF := Lib.hid (row_blk (cs := #[.string ⟨#[102, 111, 117, 114]⟩, .func (.func 63) #[] #[], .func (.func 64) #[] #[], .func (.func 65) #[] #[], .func (.func 66) #[] #[]]) HZ.out)
  have HS3 := Lib.hid (show Same w ((w2.alloc (.cells #[.string ⟨#[]⟩, .nilFunc, .nilFunc, .nilFunc, .nilFunc] 70)).setRow w2.heap.size #[.string ⟨#[102, 111, 117, 114]⟩, .func (.func 63) #[] #[], .func (.func 64) #[] #[], .func (.func 65) #[] #[], .func (.func 66) #[] #[]]) from chg_setRow (HS2.out.alloc _) (.inr HS2.out.size) _)
  clear s2 hb2 hb3 hlt HB0 HS0
  have d0 : ((w2.alloc (.cells #[.string ⟨#[]⟩, .nilFunc, .nilFunc, .nilFunc, .nilFunc] 70)).setRow w2.heap.size #[.string ⟨#[102, 111, 117, 114]⟩, .func (.func 63) #[] #[], .func (.func 64) #[] #[], .func (.func 65) #[] #[], .func (.func 66) #[] #[]]).cell? ⟨w.heap.size, 0, none⟩ = some (.int .i64 1) := HB.out.cell 0
  have d1 : ((w2.alloc (.cells #[.string ⟨#[]⟩, .nilFunc, .nilFunc, .nilFunc, .nilFunc] 70)).setRow w2.heap.size #[.string ⟨#[102, 111, 117, 114]⟩, .func (.func 63) #[] #[], .func (.func 64) #[] #[], .func (.func 65) #[] #[], .func (.func 66) #[] #[]]).cell? ⟨w.heap.size, 1, none⟩ = some (.int .i64 wd) := HB.out.cell 1
  have d2 : ((w2.alloc (.cells #[.string ⟨#[]⟩, .nilFunc, .nilFunc, .nilFunc, .nilFunc] 70)).setRow w2.heap.size #[.string ⟨#[102, 111, 117, 114]⟩, .func (.func 63) #[] #[], .func (.func 64) #[] #[], .func (.func 65) #[] #[], .func (.func 66) #[] #[]]).cell? ⟨w.heap.size, 2, none⟩ = some (.int .i64 sl) := HB.out.cell 2
  have d3 : ((w2.alloc (.cells #[.string ⟨#[]⟩, .nilFunc, .nilFunc, .nilFunc, .nilFunc] 70)).setRow w2.heap.size #[.string ⟨#[102, 111, 117, 114]⟩, .func (.func 63) #[] #[], .func (.func 64) #[] #[], .func (.func 65) #[] #[], .func (.func 66) #[] #[]]).cell? ⟨w.heap.size, 3, none⟩ = some (.int .i64 cp) := HB.out.cell 3
  have d4 : ((w2.alloc (.cells #[.string ⟨#[]⟩, .nilFunc, .nilFunc, .nilFunc, .nilFunc] 70)).setRow w2.heap.size #[.string ⟨#[102, 111, 117, 114]⟩, .func (.func 63) #[] #[], .func (.func 64) #[] #[], .func (.func 65) #[] #[], .func (.func 66) #[] #[]]).cell? ⟨w.heap.size, 4, none⟩ = some (.int .u32 sa) := HB.out.cell 4
  have d5 : ((w2.alloc (.cells #[.string ⟨#[]⟩, .nilFunc, .nilFunc, .nilFunc, .nilFunc] 70)).setRow w2.heap.size #[.string ⟨#[102, 111, 117, 114]⟩, .func (.func 63) #[] #[], .func (.func 64) #[] #[], .func (.func 65) #[] #[], .func (.func 66) #[] #[]]).cell? ⟨w.heap.size, 5, none⟩ = some (.slice ia il ic) := HB.out.cell 5
  have d6 : ((w2.alloc (.cells #[.string ⟨#[]⟩, .nilFunc, .nilFunc, .nilFunc, .nilFunc] 70)).setRow w2.heap.size #[.string ⟨#[102, 111, 117, 114]⟩, .func (.func 63) #[] #[], .func (.func 64) #[] #[], .func (.func 65) #[] #[], .func (.func 66) #[] #[]]).cell? ⟨w.heap.size, 6, none⟩ = some (.int .i64 ow) := HB.out.cell 6
  have d7 : ((w2.alloc (.cells #[.string ⟨#[]⟩, .nilFunc, .nilFunc, .nilFunc, .nilFunc] 70)).setRow w2.heap.size #[.string ⟨#[102, 111, 117, 114]⟩, .func (.func 63) #[] #[], .func (.func 64) #[] #[], .func (.func 65) #[] #[], .func (.func 66) #[] #[]]).cell? ⟨w.heap.size, 7, none⟩ = some (.slice ra rl rc) := HB.out.cell 7
  have df : ((w2.alloc (.cells #[.string ⟨#[]⟩, .nilFunc, .nilFunc, .nilFunc, .nilFunc] 70)).setRow w2.heap.size #[.string ⟨#[102, 111, 117, 114]⟩, .func (.func 63) #[] #[], .func (.func 64) #[] #[], .func (.func 65) #[] #[], .func (.func 66) #[] #[]]).cell? ⟨w2.heap.size, 4, none⟩ = some (.func (.func 66) #[] #[]) := HF.out.cell 4
  go_wp2_with (refine wpList_store_row rfl 70 (.tmp 5) (.tmp 11) rfl w2.heap.size #[.string ⟨#[102, 111, 117, 114]⟩, .func (.func 63) #[] #[], .func (.func 64) #[] #[], .func (.func 65) #[] #[], .func (.func 66) #[] #[]] rfl rfl 70 #[.string ⟨#[]⟩, .nilFunc, .nilFunc, .nilFunc, .nilFunc] HZ.out face_size rfl one_1 ?_)
  refine (HC.out _).mono ?_
  rintro e w4 ⟨rfl, s4⟩
  go_wp2_with fail
  go_ret
  exact ⟨rfl, HS3.out.trans s4⟩
set_option maxRecDepth 100000 in
theorem shaped_2 (wd sl cp sa ow : Int) (ia ra : Option Addr) (il ic rl rc : Nat) (w : World) (hsa : 0 ≤ sa ∧ sa < 4294967296 := by assumption) :
    Calls Tryz.prog 11 #[.agg #[.int .i64 2, .int .i64 wd, .int .i64 sl, .int .i64 cp, .int .u32 sa, .slice ia il ic, .int .i64 ow, .slice ra rl rc]] w fun e w' => e = .returned (.bool (Kch.rightB wd sl cp sa il rl)) ∧ Same w w' := by
  have HC := Lib.hid (fun w' => Kch.right_any wd sl cp sa ow ia ra il ic rl rc w')
  have hb0 := Blk.new w 26 #[.int .i64 2, .int .i64 wd, .int .i64 sl, .int .i64 cp, .int .u32 sa, .slice ia il ic, .int .i64 ow, .slice ra rl rc]
  have HS0 := Lib.hid ((Same.refl w).alloc (.cells #[.int .i64 2, .int .i64 wd, .int .i64 sl, .int .i64 cp, .int .u32 sa, .slice ia il ic, .int .i64 ow, .slice ra rl rc] 26))
  have HB0 := Lib.hid hb0
  clear hb0
  generalize Kch.rightB wd sl cp sa il rl = rb at *
  go_enter Tryz.func11, Tryz.ntmps11
  go_wp2_with fail
  refine (face_2 _).mono ?_
  rintro e w2 ⟨rfl, s2⟩
  have HZ := Lib.hid (Blk.new w2 70 #[.string ⟨#[]⟩, .nilFunc, .nilFunc, .nilFunc, .nilFunc])
  have HS2 := Lib.hid (HS0.out.trans s2)
  have hb2 := HB0.out.same s2
  have hlt := hb2.lt
  have hb3 := (hb2.same ((Same.refl w2).alloc (.cells #[.string ⟨#[]⟩, .nilFunc, .nilFunc, .nilFunc, .nilFunc] 70)))
  have HB := Lib.hid (Blk.chg hb3 (chg_setRow (Chg.refl (fun i => i = w2.heap.size) _) (.inl rfl) #[.string ⟨#[99, 104, 101, 110]⟩, .func (.func 67) #[] #[], .func (.func 68) #[] #[], .func (.func 69) #[] #[], .func (.func 70) #[] #[]]) (by omega))
  have HF := Lib.hid (row_blk (cs := #[.string ⟨#[99, 104, 101, 110]⟩, .func (.func 67) #[] #[], .func (.func 68) #[] #[], .func (.func 69) #[] #[], .func (.func 70) #[] #[]]) HZ.out)
  have HS3 := Lib.hid (show Same w ((w2.alloc (.cells #[.string ⟨#[]⟩, .nilFunc, .nilFunc, .nilFunc, .nilFunc] 70)).setRow w2.heap.size #[.string ⟨#[99, 104, 101, 110]⟩, .func (.func 67) #[] #[], .func (.func 68) #[] #[], .func (.func 69) #[] #[], .func (.func 70) #[] #[]]) from chg_setRow (HS2.out.alloc _) (.inr HS2.out.size) _)
  clear s2 hb2 hb3 hlt HB0 HS0
  have d0 : ((w2.alloc (.cells #[.string ⟨#[]⟩, .nilFunc, .nilFunc, .nilFunc, .nilFunc] 70)).setRow w2.heap.size #[.string ⟨#[99, 104, 101, 110]⟩, .func (.func 67) #[] #[], .func (.func 68) #[] #[], .func (.func 69) #[] #[], .func (.func 70) #[] #[]]).cell? ⟨w.heap.size, 0, none⟩ = some (.int .i64 2) := HB.out.cell 0
  have d1 : ((w2.alloc (.cells #[.string ⟨#[]⟩, .nilFunc, .nilFunc, .nilFunc, .nilFunc] 70)).setRow w2.heap.size #[.string ⟨#[99, 104, 101, 110]⟩, .func (.func 67) #[] #[], .func (.func 68) #[] #[], .func (.func 69) #[] #[], .func (.func 70) #[] #[]]).cell? ⟨w.heap.size, 1, none⟩ = some (.int .i64 wd) := HB.out.cell 1
  have d2 : ((w2.alloc (.cells #[.string ⟨#[]⟩, .nilFunc, .nilFunc, .nilFunc, .nilFunc] 70)).setRow w2.heap.size #[.string ⟨#[99, 104, 101, 110]⟩, .func (.func 67) #[] #[], .func (.func 68) #[] #[], .func (.func 69) #[] #[], .func (.func 70) #[] #[]]).cell? ⟨w.heap.size, 2, none⟩ = some (.int .i64 sl) := HB.out.cell 2
  have d3 : ((w2.alloc (.cells #[.string ⟨#[]⟩, .nilFunc, .nilFunc, .nilFunc, .nilFunc] 70)).setRow w2.heap.size #[.string ⟨#[99, 104, 101, 110]⟩, .func (.func 67) #[] #[], .func (.func 68) #[] #[], .func (.func 69) #[] #[], .func (.func 70) #[] #[]]).cell? ⟨w.heap.size, 3, none⟩ = some (.int .i64 cp) := HB.out.cell 3
  have d4 : ((w2.alloc (.cells #[.string ⟨#[]⟩, .nilFunc, .nilFunc, .nilFunc, .nilFunc] 70)).setRow w2.heap.size #[.string ⟨#[99, 104, 101, 110]⟩, .func (.func 67) #[] #[], .func (.func 68) #[] #[], .func (.func 69) #[] #[], .func (.func 70) #[] #[]]).cell? ⟨w.heap.size, 4, none⟩ = some (.int .u32 sa) := HB.out.cell 4
  have d5 : ((w2.alloc (.cells #[.string ⟨#[]⟩, .nilFunc, .nilFunc, .nilFunc, .nilFunc] 70)).setRow w2.heap.size #[.string ⟨#[99, 104, 101, 110]⟩, .func (.func 67) #[] #[], .func (.func 68) #[] #[], .func (.func 69) #[] #[], .func (.func 70) #[] #[]]).cell? ⟨w.heap.size, 5, none⟩ = some (.slice ia il ic) := HB.out.cell 5
  have d6 : ((w2.alloc (.cells #[.string ⟨#[]⟩, .nilFunc, .nilFunc, .nilFunc, .nilFunc] 70)).setRow w2.heap.size #[.string ⟨#[99, 104, 101, 110]⟩, .func (.func 67) #[] #[], .func (.func 68) #[] #[], .func (.func 69) #[] #[], .func (.func 70) #[] #[]]).cell? ⟨w.heap.size, 6, none⟩ = some (.int .i64 ow) := HB.out.cell 6
  have d7 : ((w2.alloc (.cells #[.string ⟨#[]⟩, .nilFunc, .nilFunc, .nilFunc, .nilFunc] 70)).setRow w2.heap.size #[.string ⟨#[99, 104, 101, 110]⟩, .func (.func 67) #[] #[], .func (.func 68) #[] #[], .func (.func 69) #[] #[], .func (.func 70) #[] #[]]).cell? ⟨w.heap.size, 7, none⟩ = some (.slice ra rl rc) := HB.out.cell 7
  have df : ((w2.alloc (.cells #[.string ⟨#[]⟩, .nilFunc, .nilFunc, .nilFunc, .nilFunc] 70)).setRow w2.heap.size #[.string ⟨#[99, 104, 101, 110]⟩, .func (.func 67) #[] #[], .func (.func 68) #[] #[], .func (.func 69) #[] #[], .func (.func 70) #[] #[]]).cell? ⟨w2.heap.size, 1, none⟩ = some (.func (.func 67) #[] #[]) := HF.out.cell 1
  go_wp2_with (refine wpList_store_row rfl 70 (.tmp 3) (.tmp 9) rfl w2.heap.size #[.string ⟨#[99, 104, 101, 110]⟩, .func (.func 67) #[] #[], .func (.func 68) #[] #[], .func (.func 69) #[] #[], .func (.func 70) #[] #[]] rfl rfl 70 #[.string ⟨#[]⟩, .nilFunc, .nilFunc, .nilFunc, .nilFunc] HZ.out face_size rfl one_2 ?_)
  refine (HC.out _).mono ?_
  rintro e w4 ⟨rfl, s4⟩
  go_wp2_with fail
  go_ret
  exact ⟨rfl, HS3.out.trans s4⟩
theorem bnd_2 (wd sl cp sa ow : Int) (ia ra : Option Addr) (il ic rl rc : Nat) (op : Int) (w : World) (hsa : 0 ≤ sa ∧ sa < 4294967296 := by assumption) :
    Calls Tryz.prog 70 #[.agg #[.int .i64 2, .int .i64 wd, .int .i64 sl, .int .i64 cp, .int .u32 sa, .slice ia il ic, .int .i64 ow, .slice ra rl rc], .int .i64 op] w fun e w' => e = .returned (.int .i64 (boundF 2 wd sl cp sa il rl op)) ∧ Same w w' := by
  rw [bound_2]
  cases h : Kch.rightB wd sl cp sa il rl
  · rw [if_neg Bool.false_ne_true]
    exact Kch.bound_no wd sl cp sa ow ia ra il ic rl rc op w h
  · rw [if_pos rfl]
    exact Kch.bound_yes wd sl cp sa ow ia ra il ic rl rc op w h
theorem rbnd_2 (wd sl cp sa ow : Int) (ia ra : Option Addr) (il ic rl rc : Nat) (op : Int) (w : World) (hsa : 0 ≤ sa ∧ sa < 4294967296 := by assumption) :
    Calls Tryz.prog 21 #[.agg #[.int .i64 2, .int .i64 wd, .int .i64 sl, .int .i64 cp, .int .u32 sa, .slice ia il ic, .int .i64 ow, .slice ra rl rc], .int .i64 op] w fun e w' => e = .returned (.int .i64 (boundF 2 wd sl cp sa il rl op)) ∧ Same w w' := by
  rw [bound_2]
  cases h : Kch.rightB wd sl cp sa il rl
  · rw [if_neg Bool.false_ne_true]
    exact Kch.rbound_no wd sl cp sa ow ia ra il ic rl rc op w h
  · rw [if_pos rfl]
    exact Kch.rbound_yes wd sl cp sa ow ia ra il ic rl rc op w h
set_option maxRecDepth 100000 in
theorem bound_of_2 (wd sl cp sa ow : Int) (ia ra : Option Addr) (il ic rl rc : Nat) (op : Int) (w : World) (hsa : 0 ≤ sa ∧ sa < 4294967296 := by assumption) :
    Calls Tryz.prog 20 #[.agg #[.int .i64 2, .int .i64 wd, .int .i64 sl, .int .i64 cp, .int .u32 sa, .slice ia il ic, .int .i64 ow, .slice ra rl rc], .int .i64 op] w fun e w' => e = .returned (.int .i64 (boundF 2 wd sl cp sa il rl op)) ∧ Same w w' := by
  have HC := Lib.hid (fun w' => bnd_2 wd sl cp sa ow ia ra il ic rl rc op w')
  have hb0 := Blk.new w 26 #[.int .i64 2, .int .i64 wd, .int .i64 sl, .int .i64 cp, .int .u32 sa, .slice ia il ic, .int .i64 ow, .slice ra rl rc]
  have HS0 := Lib.hid ((Same.refl w).alloc (.cells #[.int .i64 2, .int .i64 wd, .int .i64 sl, .int .i64 cp, .int .u32 sa, .slice ia il ic, .int .i64 ow, .slice ra rl rc] 26))
  have HB0 := Lib.hid hb0
  clear hb0
  generalize boundF 2 wd sl cp sa il rl op = rb at *
  go_enter Tryz.func20, Tryz.ntmps20
  go_wp2_with fail
  refine (face_2 _).mono ?_
  rintro e w2 ⟨rfl, s2⟩
  have HZ := Lib.hid (Blk.new w2 70 #[.string ⟨#[]⟩, .nilFunc, .nilFunc, .nilFunc, .nilFunc])
  have HS2 := Lib.hid (HS0.out.trans s2)
  have hb2 := HB0.out.same s2
  have hlt := hb2.lt
  have hb3 := (hb2.same ((Same.refl w2).alloc (.cells #[.string ⟨#[]⟩, .nilFunc, .nilFunc, .nilFunc, .nilFunc] 70)))
  have HB := Lib.hid (Blk.chg hb3 (chg_setRow (Chg.refl (fun i => i = w2.heap.size) _) (.inl rfl) #[.string ⟨#[99, 104, 101, 110]⟩, .func (.func 67) #[] #[], .func (.func 68) #[] #[], .func (.func 69) #[] #[], .func (.func 70) #[] #[]]) (by omega))
  have HF := Lib.hid (row_blk (cs := #[.string ⟨#[99, 104, 101, 110]⟩, .func (.func 67) #[] #[], .func (.func 68) #[] #[], .func (.func 69) #[] #[], .func (.func 70) #[] #[]]) HZ.out)
  have HS3 := Lib.hid (show Same w ((w2.alloc (.cells #[.string ⟨#[]⟩, .nilFunc, .nilFunc, .nilFunc, .nilFunc] 70)).setRow w2.heap.size #[.string ⟨#[99, 104, 101, 110]⟩, .func (.func 67) #[] #[], .func (.func 68) #[] #[], .func (.func 69) #[] #[], .func (.func 70) #[] #[]]) from chg_setRow (HS2.out.alloc _) (.inr HS2.out.size) _)
  clear s2 hb2 hb3 hlt HB0 HS0
  have d0 : ((w2.alloc (.cells #[.string ⟨#[]⟩, .nilFunc, .nilFunc, .nilFunc, .nilFunc] 70)).setRow w2.heap.size #[.string ⟨#[99, 104, 101, 110]⟩, .func (.func 67) #[] #[], .func (.func 68) #[] #[], .func (.func 69) #[] #[], .func (.func 70) #[] #[]]).cell? ⟨w.heap.size, 0, none⟩ = some (.int .i64 2) := HB.out.cell 0
  have d1 : ((w2.alloc (.cells #[.string ⟨#[]⟩, .nilFunc, .nilFunc, .nilFunc, .nilFunc] 70)).setRow w2.heap.size #[.string ⟨#[99, 104, 101, 110]⟩, .func (.func 67) #[] #[], .func (.func 68) #[] #[], .func (.func 69) #[] #[], .func (.func 70) #[] #[]]).cell? ⟨w.heap.size, 1, none⟩ = some (.int .i64 wd) := HB.out.cell 1
  have d2 : ((w2.alloc (.cells #[.string ⟨#[]⟩, .nilFunc, .nilFunc, .nilFunc, .nilFunc] 70)).setRow w2.heap.size #[.string ⟨#[99, 104, 101, 110]⟩, .func (.func 67) #[] #[], .func (.func 68) #[] #[], .func (.func 69) #[] #[], .func (.func 70) #[] #[]]).cell? ⟨w.heap.size, 2, none⟩ = some (.int .i64 sl) := HB.out.cell 2
  have d3 : ((w2.alloc (.cells #[.string ⟨#[]⟩, .nilFunc, .nilFunc, .nilFunc, .nilFunc] 70)).setRow w2.heap.size #[.string ⟨#[99, 104, 101, 110]⟩, .func (.func 67) #[] #[], .func (.func 68) #[] #[], .func (.func 69) #[] #[], .func (.func 70) #[] #[]]).cell? ⟨w.heap.size, 3, none⟩ = some (.int .i64 cp) := HB.out.cell 3
  have d4 : ((w2.alloc (.cells #[.string ⟨#[]⟩, .nilFunc, .nilFunc, .nilFunc, .nilFunc] 70)).setRow w2.heap.size #[.string ⟨#[99, 104, 101, 110]⟩, .func (.func 67) #[] #[], .func (.func 68) #[] #[], .func (.func 69) #[] #[], .func (.func 70) #[] #[]]).cell? ⟨w.heap.size, 4, none⟩ = some (.int .u32 sa) := HB.out.cell 4
  have d5 : ((w2.alloc (.cells #[.string ⟨#[]⟩, .nilFunc, .nilFunc, .nilFunc, .nilFunc] 70)).setRow w2.heap.size #[.string ⟨#[99, 104, 101, 110]⟩, .func (.func 67) #[] #[], .func (.func 68) #[] #[], .func (.func 69) #[] #[], .func (.func 70) #[] #[]]).cell? ⟨w.heap.size, 5, none⟩ = some (.slice ia il ic) := HB.out.cell 5
  have d6 : ((w2.alloc (.cells #[.string ⟨#[]⟩, .nilFunc, .nilFunc, .nilFunc, .nilFunc] 70)).setRow w2.heap.size #[.string ⟨#[99, 104, 101, 110]⟩, .func (.func 67) #[] #[], .func (.func 68) #[] #[], .func (.func 69) #[] #[], .func (.func 70) #[] #[]]).cell? ⟨w.heap.size, 6, none⟩ = some (.int .i64 ow) := HB.out.cell 6
  have d7 : ((w2.alloc (.cells #[.string ⟨#[]⟩, .nilFunc, .nilFunc, .nilFunc, .nilFunc] 70)).setRow w2.heap.size #[.string ⟨#[99, 104, 101, 110]⟩, .func (.func 67) #[] #[], .func (.func 68) #[] #[], .func (.func 69) #[] #[], .func (.func 70) #[] #[]]).cell? ⟨w.heap.size, 7, none⟩ = some (.slice ra rl rc) := HB.out.cell 7
  have df : ((w2.alloc (.cells #[.string ⟨#[]⟩, .nilFunc, .nilFunc, .nilFunc, .nilFunc] 70)).setRow w2.heap.size #[.string ⟨#[99, 104, 101, 110]⟩, .func (.func 67) #[] #[], .func (.func 68) #[] #[], .func (.func 69) #[] #[], .func (.func 70) #[] #[]]).cell? ⟨w2.heap.size, 4, none⟩ = some (.func (.func 70) #[] #[]) := HF.out.cell 4
  go_wp2_with (refine wpList_store_row rfl 70 (.tmp 5) (.tmp 11) rfl w2.heap.size #[.string ⟨#[99, 104, 101, 110]⟩, .func (.func 67) #[] #[], .func (.func 68) #[] #[], .func (.func 69) #[] #[], .func (.func 70) #[] #[]] rfl rfl 70 #[.string ⟨#[]⟩, .nilFunc, .nilFunc, .nilFunc, .nilFunc] HZ.out face_size rfl one_2 ?_)
  refine (HC.out _).mono ?_
  rintro e w4 ⟨rfl, s4⟩
  go_wp2_with fail
  go_ret
  exact ⟨rfl, HS3.out.trans s4⟩
set_option maxRecDepth 100000 in
theorem shaped_3 (wd sl cp sa ow : Int) (ia ra : Option Addr) (il ic rl rc : Nat) (w : World) (hsa : 0 ≤ sa ∧ sa < 4294967296 := by assumption) :
    Calls Tryz.prog 11 #[.agg #[.int .i64 3, .int .i64 wd, .int .i64 sl, .int .i64 cp, .int .u32 sa, .slice ia il ic, .int .i64 ow, .slice ra rl rc]] w fun e w' => e = .returned (.bool (Ksq.rightB wd sl cp sa il rl)) ∧ Same w w' := by
  have HC := Lib.hid (fun w' => Ksq.right_any wd sl cp sa ow ia ra il ic rl rc w')
  have hb0 := Blk.new w 26 #[.int .i64 3, .int .i64 wd, .int .i64 sl, .int .i64 cp, .int .u32 sa, .slice ia il ic, .int .i64 ow, .slice ra rl rc]
  have HS0 := Lib.hid ((Same.refl w).alloc (.cells #[.int .i64 3, .int .i64 wd, .int .i64 sl, .int .i64 cp, .int .u32 sa, .slice ia il ic, .int .i64 ow, .slice ra rl rc] 26))
  have HB0 := Lib.hid hb0
  clear hb0
  generalize Ksq.rightB wd sl cp sa il rl = rb at *
  go_enter Tryz.func11, Tryz.ntmps11
  go_wp2_with fail
  refine (face_3 _).mono ?_
  rintro e w2 ⟨rfl, s2⟩
  have HZ := Lib.hid (Blk.new w2 70 #[.string ⟨#[]⟩, .nilFunc, .nilFunc, .nilFunc, .nilFunc])
  have HS2 := Lib.hid (HS0.out.trans s2)
  have hb2 := HB0.out.same s2
  have hlt := hb2.lt
  have hb3 := (hb2.same ((Same.refl w2).alloc (.cells #[.string ⟨#[]⟩, .nilFunc, .nilFunc, .nilFunc, .nilFunc] 70)))
  have HB := Lib.hid (Blk.chg hb3 (chg_setRow (Chg.refl (fun i => i = w2.heap.size) _) (.inl rfl) #[.string ⟨#[115, 101, 113]⟩, .func (.func 71) #[] #[], .func (.func 72) #[] #[], .func (.func 73) #[] #[], .func (.func 74) #[] #[]]) (by omega))
  have HF := Lib.hid (row_blk (cs := #[.string ⟨#[115, 101, 113]⟩, .func (.func 71) #[] #[], .func (.func 72) #[] #[], .func (.func 73) #[] #[], .func (.func 74) #[] #[]]) HZ.out)
  have HS3 := Lib.hid (show Same w ((w2.alloc (.cells #[.string ⟨#[]⟩, .nilFunc, .nilFunc, .nilFunc, .nilFunc] 70)).setRow w2.heap.size #[.string ⟨#[115, 101, 113]⟩, .func (.func 71) #[] #[], .func (.func 72) #[] #[], .func (.func 73) #[] #[], .func (.func 74) #[] #[]]) from chg_setRow (HS2.out.alloc _) (.inr HS2.out.size) _)
  clear s2 hb2 hb3 hlt HB0 HS0
  have d0 : ((w2.alloc (.cells #[.string ⟨#[]⟩, .nilFunc, .nilFunc, .nilFunc, .nilFunc] 70)).setRow w2.heap.size #[.string ⟨#[115, 101, 113]⟩, .func (.func 71) #[] #[], .func (.func 72) #[] #[], .func (.func 73) #[] #[], .func (.func 74) #[] #[]]).cell? ⟨w.heap.size, 0, none⟩ = some (.int .i64 3) := HB.out.cell 0
  have d1 : ((w2.alloc (.cells #[.string ⟨#[]⟩, .nilFunc, .nilFunc, .nilFunc, .nilFunc] 70)).setRow w2.heap.size #[.string ⟨#[115, 101, 113]⟩, .func (.func 71) #[] #[], .func (.func 72) #[] #[], .func (.func 73) #[] #[], .func (.func 74) #[] #[]]).cell? ⟨w.heap.size, 1, none⟩ = some (.int .i64 wd) := HB.out.cell 1
  have d2 : ((w2.alloc (.cells #[.string ⟨#[]⟩, .nilFunc, .nilFunc, .nilFunc, .nilFunc] 70)).setRow w2.heap.size #[.string ⟨#[115, 101, 113]⟩, .func (.func 71) #[] #[], .func (.func 72) #[] #[], .func (.func 73) #[] #[], .func (.func 74) #[] #[]]).cell? ⟨w.heap.size, 2, none⟩ = some (.int .i64 sl) := HB.out.cell 2
  have d3 : ((w2.alloc (.cells #[.string ⟨#[]⟩, .nilFunc, .nilFunc, .nilFunc, .nilFunc] 70)).setRow w2.heap.size #[.string ⟨#[115, 101, 113]⟩, .func (.func 71) #[] #[], .func (.func 72) #[] #[], .func (.func 73) #[] #[], .func (.func 74) #[] #[]]).cell? ⟨w.heap.size, 3, none⟩ = some (.int .i64 cp) := HB.out.cell 3
  have d4 : ((w2.alloc (.cells #[.string ⟨#[]⟩, .nilFunc, .nilFunc, .nilFunc, .nilFunc] 70)).setRow w2.heap.size #[.string ⟨#[115, 101, 113]⟩, .func (.func 71) #[] #[], .func (.func 72) #[] #[], .func (.func 73) #[] #[], .func (.func 74) #[] #[]]).cell? ⟨w.heap.size, 4, none⟩ = some (.int .u32 sa) := HB.out.cell 4
  have d5 : ((w2.alloc (.cells #[.string ⟨#[]⟩, .nilFunc, .nilFunc, .nilFunc, .nilFunc] 70)).setRow w2.heap.size #[.string ⟨#[115, 101, 113]⟩, .func (.func 71) #[] #[], .func (.func 72) #[] #[], .func (.func 73) #[] #[], .func (.func 74) #[] #[]]).cell? ⟨w.heap.size, 5, none⟩ = some (.slice ia il ic) := HB.out.cell 5
  have d6 : ((w2.alloc (.cells #[.string ⟨#[]⟩, .nilFunc, .nilFunc, .nilFunc, .nilFunc] 70)).setRow w2.heap.size #[.string ⟨#[115, 101, 113]⟩, .func (.func 71) #[] #[], .func (.func 72) #[] #[], .func (.func 73) #[] #[], .func (.func 74) #[] #[]]).cell? ⟨w.heap.size, 6, none⟩ = some (.int .i64 ow) := HB.out.cell 6
  have d7 : ((w2.alloc (.cells #[.string ⟨#[]⟩, .nilFunc, .nilFunc, .nilFunc, .nilFunc] 70)).setRow w2.heap.size #[.string ⟨#[115, 101, 113]⟩, .func (.func 71) #[] #[], .func (.func 72) #[] #[], .func (.func 73) #[] #[], .func (.func 74) #[] #[]]).cell? ⟨w.heap.size, 7, none⟩ = some (.slice ra rl rc) := HB.out.cell 7
  have df : ((w2.alloc (.cells #[.string ⟨#[]⟩, .nilFunc, .nilFunc, .nilFunc, .nilFunc] 70)).setRow w2.heap.size #[.string ⟨#[115, 101, 113]⟩, .func (.func 71) #[] #[], .func (.func 72) #[] #[], .func (.func 73) #[] #[], .func (.func 74) #[] #[]]).cell? ⟨w2.heap.size, 1, none⟩ = some (.func (.func 71) #[] #[]) := HF.out.cell 1
  go_wp2_with (refine wpList_store_row rfl 70 (.tmp 3) (.tmp 9) rfl w2.heap.size #[.string ⟨#[115, 101, 113]⟩, .func (.func 71) #[] #[], .func (.func 72) #[] #[], .func (.func 73) #[] #[], .func (.func 74) #[] #[]] rfl rfl 70 #[.string ⟨#[]⟩, .nilFunc, .nilFunc, .nilFunc, .nilFunc] HZ.out face_size rfl one_3 ?_)
  refine (HC.out _).mono ?_
  rintro e w4 ⟨rfl, s4⟩
  go_wp2_with fail
  go_ret
  exact ⟨rfl, HS3.out.trans s4⟩
theorem bnd_3 (wd sl cp sa ow : Int) (ia ra : Option Addr) (il ic rl rc : Nat) (op : Int) (w : World) (hsa : 0 ≤ sa ∧ sa < 4294967296 := by assumption) :
    Calls Tryz.prog 74 #[.agg #[.int .i64 3, .int .i64 wd, .int .i64 sl, .int .i64 cp, .int .u32 sa, .slice ia il ic, .int .i64 ow, .slice ra rl rc], .int .i64 op] w fun e w' => e = .returned (.int .i64 (boundF 3 wd sl cp sa il rl op)) ∧ Same w w' := by
  rw [bound_3]
  cases h : Ksq.rightB wd sl cp sa il rl
  · rw [if_neg Bool.false_ne_true]
    exact Ksq.bound_no wd sl cp sa ow ia ra il ic rl rc op w h
  · rw [if_pos rfl]
    exact Ksq.bound_yes wd sl cp sa ow ia ra il ic rl rc op w h
theorem rbnd_3 (wd sl cp sa ow : Int) (ia ra : Option Addr) (il ic rl rc : Nat) (op : Int) (w : World) (hsa : 0 ≤ sa ∧ sa < 4294967296 := by assumption) :
    Calls Tryz.prog 21 #[.agg #[.int .i64 3, .int .i64 wd, .int .i64 sl, .int .i64 cp, .int .u32 sa, .slice ia il ic, .int .i64 ow, .slice ra rl rc], .int .i64 op] w fun e w' => e = .returned (.int .i64 (boundF 3 wd sl cp sa il rl op)) ∧ Same w w' := by
  rw [bound_3]
  cases h : Ksq.rightB wd sl cp sa il rl
  · rw [if_neg Bool.false_ne_true]
    exact Ksq.rbound_no wd sl cp sa ow ia ra il ic rl rc op w h
  · rw [if_pos rfl]
    exact Ksq.rbound_yes wd sl cp sa ow ia ra il ic rl rc op w h
set_option maxRecDepth 100000 in
theorem bound_of_3 (wd sl cp sa ow : Int) (ia ra : Option Addr) (il ic rl rc : Nat) (op : Int) (w : World) (hsa : 0 ≤ sa ∧ sa < 4294967296 := by assumption) :
    Calls Tryz.prog 20 #[.agg #[.int .i64 3, .int .i64 wd, .int .i64 sl, .int .i64 cp, .int .u32 sa, .slice ia il ic, .int .i64 ow, .slice ra rl rc], .int .i64 op] w fun e w' => e = .returned (.int .i64 (boundF 3 wd sl cp sa il rl op)) ∧ Same w w' := by
  have HC := Lib.hid (fun w' => bnd_3 wd sl cp sa ow ia ra il ic rl rc op w')
  have hb0 := Blk.new w 26 #[.int .i64 3, .int .i64 wd, .int .i64 sl, .int .i64 cp, .int .u32 sa, .slice ia il ic, .int .i64 ow, .slice ra rl rc]
  have HS0 := Lib.hid ((Same.refl w).alloc (.cells #[.int .i64 3, .int .i64 wd, .int .i64 sl, .int .i64 cp, .int .u32 sa, .slice ia il ic, .int .i64 ow, .slice ra rl rc] 26))
  have HB0 := Lib.hid hb0
  clear hb0
  generalize boundF 3 wd sl cp sa il rl op = rb at *
  go_enter Tryz.func20, Tryz.ntmps20
  go_wp2_with fail
  refine (face_3 _).mono ?_
  rintro e w2 ⟨rfl, s2⟩
  have HZ := Lib.hid (Blk.new w2 70 #[.string ⟨#[]⟩, .nilFunc, .nilFunc, .nilFunc, .nilFunc])
  have HS2 := Lib.hid (HS0.out.trans s2)
  have hb2 := HB0.out.same s2
  have hlt := hb2.lt
  have hb3 := (hb2.same ((Same.refl w2).alloc (.cells #[.string ⟨#[]⟩, .nilFunc, .nilFunc, .nilFunc, .nilFunc] 70)))
  have HB := Lib.hid (Blk.chg hb3 (chg_setRow (Chg.refl (fun i => i = w2.heap.size) _) (.inl rfl) #[.string ⟨#[115, 101, 113]⟩, .func (.func 71) #[] #[], .func (.func 72) #[] #[], .func (.func 73) #[] #[], .func (.func 74) #[] #[]]) (by omega))
  have HF := Lib.hid (row_blk (cs := #[.string ⟨#[115, 101, 113]⟩, .func (.func 71) #[] #[], .func (.func 72) #[] #[], .func (.func 73) #[] #[], .func (.func 74) #[] #[]]) HZ.out)
  have HS3 := Lib.hid (show Same w ((w2.alloc (.cells #[.string ⟨#[]⟩, .nilFunc, .nilFunc, .nilFunc, .nilFunc] 70)).setRow w2.heap.size #[.string ⟨#[115, 101, 113]⟩, .func (.func 71) #[] #[], .func (.func 72) #[] #[], .func (.func 73) #[] #[], .func (.func 74) #[] #[]]) from chg_setRow (HS2.out.alloc _) (.inr HS2.out.size) _)
  clear s2 hb2 hb3 hlt HB0 HS0
  have d0 : ((w2.alloc (.cells #[.string ⟨#[]⟩, .nilFunc, .nilFunc, .nilFunc, .nilFunc] 70)).setRow w2.heap.size #[.string ⟨#[115, 101, 113]⟩, .func (.func 71) #[] #[], .func (.func 72) #[] #[], .func (.func 73) #[] #[], .func (.func 74) #[] #[]]).cell? ⟨w.heap.size, 0, none⟩ = some (.int .i64 3) := HB.out.cell 0
  have d1 : ((w2.alloc (.cells #[.string ⟨#[]⟩, .nilFunc, .nilFunc, .nilFunc, .nilFunc] 70)).setRow w2.heap.size #[.string ⟨#[115, 101, 113]⟩, .func (.func 71) #[] #[], .func (.func 72) #[] #[], .func (.func 73) #[] #[], .func (.func 74) #[] #[]]).cell? ⟨w.heap.size, 1, none⟩ = some (.int .i64 wd) := HB.out.cell 1
  have d2 : ((w2.alloc (.cells #[.string ⟨#[]⟩, .nilFunc, .nilFunc, .nilFunc, .nilFunc] 70)).setRow w2.heap.size #[.string ⟨#[115, 101, 113]⟩, .func (.func 71) #[] #[], .func (.func 72) #[] #[], .func (.func 73) #[] #[], .func (.func 74) #[] #[]]).cell? ⟨w.heap.size, 2, none⟩ = some (.int .i64 sl) := HB.out.cell 2
  have d3 : ((w2.alloc (.cells #[.string ⟨#[]⟩, .nilFunc, .nilFunc, .nilFunc, .nilFunc] 70)).setRow w2.heap.size #[.string ⟨#[115, 101, 113]⟩, .func (.func 71) #[] #[], .func (.func 72) #[] #[], .func (.func 73) #[] #[], .func (.func 74) #[] #[]]).cell? ⟨w.heap.size, 3, none⟩ = some (.int .i64 cp) := HB.out.cell 3
  have d4 : ((w2.alloc (.cells #[.string ⟨#[]⟩, .nilFunc, .nilFunc, .nilFunc, .nilFunc] 70)).setRow w2.heap.size #[.string ⟨#[115, 101, 113]⟩, .func (.func 71) #[] #[], .func (.func 72) #[] #[], .func (.func 73) #[] #[], .func (.func 74) #[] #[]]).cell? ⟨w.heap.size, 4, none⟩ = some (.int .u32 sa) := HB.out.cell 4
  have d5 : ((w2.alloc (.cells #[.string ⟨#[]⟩, .nilFunc, .nilFunc, .nilFunc, .nilFunc] 70)).setRow w2.heap.size #[.string ⟨#[115, 101, 113]⟩, .func (.func 71) #[] #[], .func (.func 72) #[] #[], .func (.func 73) #[] #[], .func (.func 74) #[] #[]]).cell? ⟨w.heap.size, 5, none⟩ = some (.slice ia il ic) := HB.out.cell 5
  have d6 : ((w2.alloc (.cells #[.string ⟨#[]⟩, .nilFunc, .nilFunc, .nilFunc, .nilFunc] 70)).setRow w2.heap.size #[.string ⟨#[115, 101, 113]⟩, .func (.func 71) #[] #[], .func (.func 72) #[] #[], .func (.func 73) #[] #[], .func (.func 74) #[] #[]]).cell? ⟨w.heap.size, 6, none⟩ = some (.int .i64 ow) := HB.out.cell 6
  have d7 : ((w2.alloc (.cells #[.string ⟨#[]⟩, .nilFunc, .nilFunc, .nilFunc, .nilFunc] 70)).setRow w2.heap.size #[.string ⟨#[115, 101, 113]⟩, .func (.func 71) #[] #[], .func (.func 72) #[] #[], .func (.func 73) #[] #[], .func (.func 74) #[] #[]]).cell? ⟨w.heap.size, 7, none⟩ = some (.slice ra rl rc) := HB.out.cell 7
  have df : ((w2.alloc (.cells #[.string ⟨#[]⟩, .nilFunc, .nilFunc, .nilFunc, .nilFunc] 70)).setRow w2.heap.size #[.string ⟨#[115, 101, 113]⟩, .func (.func 71) #[] #[], .func (.func 72) #[] #[], .func (.func 73) #[] #[], .func (.func 74) #[] #[]]).cell? ⟨w2.heap.size, 4, none⟩ = some (.func (.func 74) #[] #[]) := HF.out.cell 4
  go_wp2_with (refine wpList_store_row rfl 70 (.tmp 5) (.tmp 11) rfl w2.heap.size #[.string ⟨#[115, 101, 113]⟩, .func (.func 71) #[] #[], .func (.func 72) #[] #[], .func (.func 73) #[] #[], .func (.func 74) #[] #[]] rfl rfl 70 #[.string ⟨#[]⟩, .nilFunc, .nilFunc, .nilFunc, .nilFunc] HZ.out face_size rfl one_3 ?_)
  refine (HC.out _).mono ?_
  rintro e w4 ⟨rfl, s4⟩
  go_wp2_with fail
  go_ret
  exact ⟨rfl, HS3.out.trans s4⟩
set_option maxRecDepth 100000 in
theorem shaped_4 (wd sl cp sa ow : Int) (ia ra : Option Addr) (il ic rl rc : Nat) (w : World) (hsa : 0 ≤ sa ∧ sa < 4294967296 := by assumption) :
    Calls Tryz.prog 11 #[.agg #[.int .i64 4, .int .i64 wd, .int .i64 sl, .int .i64 cp, .int .u32 sa, .slice ia il ic, .int .i64 ow, .slice ra rl rc]] w fun e w' => e = .returned (.bool (Krg.rightB wd sl cp sa il rl)) ∧ Same w w' := by
  have HC := Lib.hid (fun w' => Krg.right_any wd sl cp sa ow ia ra il ic rl rc w')
  have hb0 := Blk.new w 26 #[.int .i64 4, .int .i64 wd, .int .i64 sl, .int .i64 cp, .int .u32 sa, .slice ia il ic, .int .i64 ow, .slice ra rl rc]
  have HS0 := Lib.hid ((Same.refl w).alloc (.cells #[.int .i64 4, .int .i64 wd, .int .i64 sl, .int .i64 cp, .int .u32 sa, .slice ia il ic, .int .i64 ow, .slice ra rl rc] 26))
  have HB0 := Lib.hid hb0
  clear hb0
  generalize Krg.rightB wd sl cp sa il rl = rb at *
  go_enter Tryz.func11, Tryz.ntmps11
  go_wp2_with fail
  refine (face_4 _).mono ?_
  rintro e w2 ⟨rfl, s2⟩
  have HZ := Lib.hid (Blk.new w2 70 #[.string ⟨#[]⟩, .nilFunc, .nilFunc, .nilFunc, .nilFunc])
  have HS2 := Lib.hid (HS0.out.trans s2)
  have hb2 := HB0.out.same s2
  have hlt := hb2.lt
  have hb3 := (hb2.same ((Same.refl w2).alloc (.cells #[.string ⟨#[]⟩, .nilFunc, .nilFunc, .nilFunc, .nilFunc] 70)))
  have HB := Lib.hid (Blk.chg hb3 (chg_setRow (Chg.refl (fun i => i = w2.heap.size) _) (.inl rfl) #[.string ⟨#[114, 105, 110, 103]⟩, .func (.func 75) #[] #[], .func (.func 76) #[] #[], .func (.func 77) #[] #[], .func (.func 78) #[] #[]]) (by omega))
  have HF := Lib.hid (row_blk (cs := #[.string ⟨#[114, 105, 110, 103]⟩, .func (.func 75) #[] #[], .func (.func 76) #[] #[], .func (.func 77) #[] #[], .func (.func 78) #[] #[]]) HZ.out)
  have HS3 := Lib.hid (show Same w ((w2.alloc (.cells #[.string ⟨#[]⟩, .nilFunc, .nilFunc, .nilFunc, .nilFunc] 70)).setRow w2.heap.size #[.string ⟨#[114, 105, 110, 103]⟩, .func (.func 75) #[] #[], .func (.func 76) #[] #[], .func (.func 77) #[] #[], .func (.func 78) #[] #[]]) from chg_setRow (HS2.out.alloc _) (.inr HS2.out.size) _)
  clear s2 hb2 hb3 hlt HB0 HS0
  have d0 : ((w2.alloc (.cells #[.string ⟨#[]⟩, .nilFunc, .nilFunc, .nilFunc, .nilFunc] 70)).setRow w2.heap.size #[.string ⟨#[114, 105, 110, 103]⟩, .func (.func 75) #[] #[], .func (.func 76) #[] #[], .func (.func 77) #[] #[], .func (.func 78) #[] #[]]).cell? ⟨w.heap.size, 0, none⟩ = some (.int .i64 4) := HB.out.cell 0
  have d1 : ((w2.alloc (.cells #[.string ⟨#[]⟩, .nilFunc, .nilFunc, .nilFunc, .nilFunc] 70)).setRow w2.heap.size #[.string ⟨#[114, 105, 110, 103]⟩, .func (.func 75) #[] #[], .func (.func 76) #[] #[], .func (.func 77) #[] #[], .func (.func 78) #[] #[]]).cell? ⟨w.heap.size, 1, none⟩ = some (.int .i64 wd) := HB.out.cell 1
  have d2 : ((w2.alloc (.cells #[.string ⟨#[]⟩, .nilFunc, .nilFunc, .nilFunc, .nilFunc] 70)).setRow w2.heap.size #[.string ⟨#[114, 105, 110, 103]⟩, .func (.func 75) #[] #[], .func (.func 76) #[] #[], .func (.func 77) #[] #[], .func (.func 78) #[] #[]]).cell? ⟨w.heap.size, 2, none⟩ = some (.int .i64 sl) := HB.out.cell 2
  have d3 : ((w2.alloc (.cells #[.string ⟨#[]⟩, .nilFunc, .nilFunc, .nilFunc, .nilFunc] 70)).setRow w2.heap.size #[.string ⟨#[114, 105, 110, 103]⟩, .func (.func 75) #[] #[], .func (.func 76) #[] #[], .func (.func 77) #[] #[], .func (.func 78) #[] #[]]).cell? ⟨w.heap.size, 3, none⟩ = some (.int .i64 cp) := HB.out.cell 3
  have d4 : ((w2.alloc (.cells #[.string ⟨#[]⟩, .nilFunc, .nilFunc, .nilFunc, .nilFunc] 70)).setRow w2.heap.size #[.string ⟨#[114, 105, 110, 103]⟩, .func (.func 75) #[] #[], .func (.func 76) #[] #[], .func (.func 77) #[] #[], .func (.func 78) #[] #[]]).cell? ⟨w.heap.size, 4, none⟩ = some (.int .u32 sa) := HB.out.cell 4
  have d5 : ((w2.alloc (.cells #[.string ⟨#[]⟩, .nilFunc, .nilFunc, .nilFunc, .nilFunc] 70)).setRow w2.heap.size #[.string ⟨#[114, 105, 110, 103]⟩, .func (.func 75) #[] #[], .func (.func 76) #[] #[], .func (.func 77) #[] #[], .func (.func 78) #[] #[]]).cell? ⟨w.heap.size, 5, none⟩ = some (.slice ia il ic) := HB.out.cell 5
  have d6 : ((w2.alloc (.cells #[.string ⟨#[]⟩, .nilFunc, .nilFunc, .nilFunc, .nilFunc] 70)).setRow w2.heap.size #[.string ⟨#[114, 105, 110, 103]⟩, .func (.func 75) #[] #[], .func (.func 76) #[] #[], .func (.func 77) #[] #[], .func (.func 78) #[] #[]]).cell? ⟨w.heap.size, 6, none⟩ = some (.int .i64 ow) := HB.out.cell 6
  have d7 : ((w2.alloc (.cells #[.string ⟨#[]⟩, .nilFunc, .nilFunc, .nilFunc, .nilFunc] 70)).setRow w2.heap.size #[.string ⟨#[114, 105, 110, 103]⟩, .func (.func 75) #[] #[], .func (.func 76) #[] #[], .func (.func 77) #[] #[], .func (.func 78) #[] #[]]).cell? ⟨w.heap.size, 7, none⟩ = some (.slice ra rl rc) := HB.out.cell 7
  have df : ((w2.alloc (.cells #[.string ⟨#[]⟩, .nilFunc, .nilFunc, .nilFunc, .nilFunc] 70)).setRow w2.heap.size #[.string ⟨#[114, 105, 110, 103]⟩, .func (.func 75) #[] #[], .func (.func 76) #[] #[], .func (.func 77) #[] #[], .func (.func 78) #[] #[]]).cell? ⟨w2.heap.size, 1, none⟩ = some (.func (.func 75) #[] #[]) := HF.out.cell 1
  go_wp2_with (refine wpList_store_row rfl 70 (.tmp 3) (.tmp 9) rfl w2.heap.size #[.string ⟨#[114, 105, 110, 103]⟩, .func (.func 75) #[] #[], .func (.func 76) #[] #[], .func (.func 77) #[] #[], .func (.func 78) #[] #[]] rfl rfl 70 #[.string ⟨#[]⟩, .nilFunc, .nilFunc, .nilFunc, .nilFunc] HZ.out face_size rfl one_4 ?_)
  refine (HC.out _).mono ?_
  rintro e w4 ⟨rfl, s4⟩
  go_wp2_with fail
  go_ret
  exact ⟨rfl, HS3.out.trans s4⟩
theorem bnd_4 (wd sl cp sa ow : Int) (ia ra : Option Addr) (il ic rl rc : Nat) (op : Int) (w : World) (hsa : 0 ≤ sa ∧ sa < 4294967296 := by assumption) :
    Calls Tryz.prog 78 #[.agg #[.int .i64 4, .int .i64 wd, .int .i64 sl, .int .i64 cp, .int .u32 sa, .slice ia il ic, .int .i64 ow, .slice ra rl rc], .int .i64 op] w fun e w' => e = .returned (.int .i64 (boundF 4 wd sl cp sa il rl op)) ∧ Same w w' := by
  rw [bound_4]
  cases h : Krg.rightB wd sl cp sa il rl
  · rw [if_neg Bool.false_ne_true]
    exact Krg.bound_no wd sl cp sa ow ia ra il ic rl rc op w h
  · rw [if_pos rfl]
    exact Krg.bound_yes wd sl cp sa ow ia ra il ic rl rc op w h
theorem rbnd_4 (wd sl cp sa ow : Int) (ia ra : Option Addr) (il ic rl rc : Nat) (op : Int) (w : World) (hsa : 0 ≤ sa ∧ sa < 4294967296 := by assumption) :
    Calls Tryz.prog 21 #[.agg #[.int .i64 4, .int .i64 wd, .int .i64 sl, .int .i64 cp, .int .u32 sa, .slice ia il ic, .int .i64 ow, .slice ra rl rc], .int .i64 op] w fun e w' => e = .returned (.int .i64 (boundF 4 wd sl cp sa il rl op)) ∧ Same w w' := by
  rw [bound_4]
  cases h : Krg.rightB wd sl cp sa il rl
  · rw [if_neg Bool.false_ne_true]
    exact Krg.rbound_no wd sl cp sa ow ia ra il ic rl rc op w h
  · rw [if_pos rfl]
    exact Krg.rbound_yes wd sl cp sa ow ia ra il ic rl rc op w h
set_option maxRecDepth 100000 in
theorem bound_of_4 (wd sl cp sa ow : Int) (ia ra : Option Addr) (il ic rl rc : Nat) (op : Int) (w : World) (hsa : 0 ≤ sa ∧ sa < 4294967296 := by assumption) :
    Calls Tryz.prog 20 #[.agg #[.int .i64 4, .int .i64 wd, .int .i64 sl, .int .i64 cp, .int .u32 sa, .slice ia il ic, .int .i64 ow, .slice ra rl rc], .int .i64 op] w fun e w' => e = .returned (.int .i64 (boundF 4 wd sl cp sa il rl op)) ∧ Same w w' := by
  have HC := Lib.hid (fun w' => bnd_4 wd sl cp sa ow ia ra il ic rl rc op w')
  have hb0 := Blk.new w 26 #[.int .i64 4, .int .i64 wd, .int .i64 sl, .int .i64 cp, .int .u32 sa, .slice ia il ic, .int .i64 ow, .slice ra rl rc]
  have HS0 := Lib.hid ((Same.refl w).alloc (.cells #[.int .i64 4, .int .i64 wd, .int .i64 sl, .int .i64 cp, .int .u32 sa, .slice ia il ic, .int .i64 ow, .slice ra rl rc] 26))
  have HB0 := Lib.hid hb0
  clear hb0
  generalize boundF 4 wd sl cp sa il rl op = rb at *
  go_enter Tryz.func20, Tryz.ntmps20
  go_wp2_with fail
  refine (face_4 _).mono ?_
  rintro e w2 ⟨rfl, s2⟩
  have HZ := Lib.hid (Blk.new w2 70 #[.string ⟨#[]⟩, .nilFunc, .nilFunc, .nilFunc, .nilFunc])
  have HS2 := Lib.hid (HS0.out.trans s2)
  have hb2 := HB0.out.same s2
  have hlt := hb2.lt
  have hb3 := (hb2.same ((Same.refl w2).alloc (.cells #[.string ⟨#[]⟩, .nilFunc, .nilFunc, .nilFunc, .nilFunc] 70)))
  have HB := Lib.hid (Blk.chg hb3 (chg_setRow (Chg.refl (fun i => i = w2.heap.size) _) (.inl rfl) #[.string ⟨#[114, 105, 110, 103]⟩, .func (.func 75) #[] #[], .func (.func 76) #[] #[], .func (.func 77) #[] #[], .func (.func 78) #[] #[]]) (by omega))
  have HF := Lib.hid (row_blk (cs := #[.string ⟨#[114, 105, 110, 103]⟩, .func (.func 75) #[] #[], .func (.func 76) #[] #[], .func (.func 77) #[] #[], .func (.func 78) #[] #[]]) HZ.out)
  have HS3 := Lib.hid (show Same w ((w2.alloc (.cells #[.string ⟨#[]⟩, .nilFunc, .nilFunc, .nilFunc, .nilFunc] 70)).setRow w2.heap.size #[.string ⟨#[114, 105, 110, 103]⟩, .func (.func 75) #[] #[], .func (.func 76) #[] #[], .func (.func 77) #[] #[], .func (.func 78) #[] #[]]) from chg_setRow (HS2.out.alloc _) (.inr HS2.out.size) _)
  clear s2 hb2 hb3 hlt HB0 HS0
  have d0 : ((w2.alloc (.cells #[.string ⟨#[]⟩, .nilFunc, .nilFunc, .nilFunc, .nilFunc] 70)).setRow w2.heap.size #[.string ⟨#[114, 105, 110, 103]⟩, .func (.func 75) #[] #[], .func (.func 76) #[] #[], .func (.func 77) #[] #[], .func (.func 78) #[] #[]]).cell? ⟨w.heap.size, 0, none⟩ = some (.int .i64 4) := HB.out.cell 0
  have d1 : ((w2.alloc (.cells #[.string ⟨#[]⟩, .nilFunc, .nilFunc, .nilFunc, .nilFunc] 70)).setRow w2.heap.size #[.string ⟨#[114, 105, 110, 103]⟩, .func (.func 75) #[] #[], .func (.func 76) #[] #[], .func (.func 77) #[] #[], .func (.func 78) #[] #[]]).cell? ⟨w.heap.size, 1, none⟩ = some (.int .i64 wd) := HB.out.cell 1
  have d2 : ((w2.alloc (.cells #[.string ⟨#[]⟩, .nilFunc, .nilFunc, .nilFunc, .nilFunc] 70)).setRow w2.heap.size #[.string ⟨#[114, 105, 110, 103]⟩, .func (.func 75) #[] #[], .func (.func 76) #[] #[], .func (.func 77) #[] #[], .func (.func 78) #[] #[]]).cell? ⟨w.heap.size, 2, none⟩ = some (.int .i64 sl) := HB.out.cell 2
  have d3 : ((w2.alloc (.cells #[.string ⟨#[]⟩, .nilFunc, .nilFunc, .nilFunc, .nilFunc] 70)).setRow w2.heap.size #[.string ⟨#[114, 105, 110, 103]⟩, .func (.func 75) #[] #[], .func (.func 76) #[] #[], .func (.func 77) #[] #[], .func (.func 78) #[] #[]]).cell? ⟨w.heap.size, 3, none⟩ = some (.int .i64 cp) := HB.out.cell 3
  have d4 : ((w2.alloc (.cells #[.string ⟨#[]⟩, .nilFunc, .nilFunc, .nilFunc, .nilFunc] 70)).setRow w2.heap.size #[.string ⟨#[114, 105, 110, 103]⟩, .func (.func 75) #[] #[], .func (.func 76) #[] #[], .func (.func 77) #[] #[], .func (.func 78) #[] #[]]).cell? ⟨w.heap.size, 4, none⟩ = some (.int .u32 sa) := HB.out.cell 4
  have d5 : ((w2.alloc (.cells #[.string ⟨#[]⟩, .nilFunc, .nilFunc, .nilFunc, .nilFunc] 70)).setRow w2.heap.size #[.string ⟨#[114, 105, 110, 103]⟩, .func (.func 75) #[] #[], .func (.func 76) #[] #[], .func (.func 77) #[] #[], .func (.func 78) #[] #[]]).cell? ⟨w.heap.size, 5, none⟩ = some (.slice ia il ic) := HB.out.cell 5
  have d6 : ((w2.alloc (.cells #[.string ⟨#[]⟩, .nilFunc, .nilFunc, .nilFunc, .nilFunc] 70)).setRow w2.heap.size #[.string ⟨#[114, 105, 110, 103]⟩, .func (.func 75) #[] #[], .func (.func 76) #[] #[], .func (.func 77) #[] #[], .func (.func 78) #[] #[]]).cell? ⟨w.heap.size, 6, none⟩ = some (.int .i64 ow) := HB.out.cell 6
  have d7 : ((w2.alloc (.cells #[.string ⟨#[]⟩, .nilFunc, .nilFunc, .nilFunc, .nilFunc] 70)).setRow w2.heap.size #[.string ⟨#[114, 105, 110, 103]⟩, .func (.func 75) #[] #[], .func (.func 76) #[] #[], .func (.func 77) #[] #[], .func (.func 78) #[] #[]]).cell? ⟨w.heap.size, 7, none⟩ = some (.slice ra rl rc) := HB.out.cell 7
  have df : ((w2.alloc (.cells #[.string ⟨#[]⟩, .nilFunc, .nilFunc, .nilFunc, .nilFunc] 70)).setRow w2.heap.size #[.string ⟨#[114, 105, 110, 103]⟩, .func (.func 75) #[] #[], .func (.func 76) #[] #[], .func (.func 77) #[] #[], .func (.func 78) #[] #[]]).cell? ⟨w2.heap.size, 4, none⟩ = some (.func (.func 78) #[] #[]) := HF.out.cell 4
  go_wp2_with (refine wpList_store_row rfl 70 (.tmp 5) (.tmp 11) rfl w2.heap.size #[.string ⟨#[114, 105, 110, 103]⟩, .func (.func 75) #[] #[], .func (.func 76) #[] #[], .func (.func 77) #[] #[], .func (.func 78) #[] #[]] rfl rfl 70 #[.string ⟨#[]⟩, .nilFunc, .nilFunc, .nilFunc, .nilFunc] HZ.out face_size rfl one_4 ?_)
  refine (HC.out _).mono ?_
  rintro e w4 ⟨rfl, s4⟩
  go_wp2_with fail
  go_ret
  exact ⟨rfl, HS3.out.trans s4⟩
set_option maxRecDepth 100000 in
theorem shaped_5 (wd sl cp sa ow : Int) (ia ra : Option Addr) (il ic rl rc : Nat) (w : World) (hsa : 0 ≤ sa ∧ sa < 4294967296 := by assumption) :
    Calls Tryz.prog 11 #[.agg #[.int .i64 5, .int .i64 wd, .int .i64 sl, .int .i64 cp, .int .u32 sa, .slice ia il ic, .int .i64 ow, .slice ra rl rc]] w fun e w' => e = .returned (.bool (Kcb.rightB wd sl cp sa il rl)) ∧ Same w w' := by
  have HC := Lib.hid (fun w' => Kcb.right_any wd sl cp sa ow ia ra il ic rl rc w')
  have hb0 := Blk.new w 26 #[.int .i64 5, .int .i64 wd, .int .i64 sl, .int .i64 cp, .int .u32 sa, .slice ia il ic, .int .i64 ow, .slice ra rl rc]
  have HS0 := Lib.hid ((Same.refl w).alloc (.cells #[.int .i64 5, .int .i64 wd, .int .i64 sl, .int .i64 cp, .int .u32 sa, .slice ia il ic, .int .i64 ow, .slice ra rl rc] 26))
  have HB0 := Lib.hid hb0
  clear hb0
  generalize Kcb.rightB wd sl cp sa il rl = rb at *
  go_enter Tryz.func11, Tryz.ntmps11
  go_wp2_with fail
  refine (face_5 _).mono ?_
  rintro e w2 ⟨rfl, s2⟩
  have HZ := Lib.hid (Blk.new w2 70 #[.string ⟨#[]⟩, .nilFunc, .nilFunc, .nilFunc, .nilFunc])
  have HS2 := Lib.hid (HS0.out.trans s2)
  have hb2 := HB0.out.same s2
  have hlt := hb2.lt
  have hb3 := (hb2.same ((Same.refl w2).alloc (.cells #[.string ⟨#[]⟩, .nilFunc, .nilFunc, .nilFunc, .nilFunc] 70)))
  have HB := Lib.hid (Blk.chg hb3 (chg_setRow (Chg.refl (fun i => i = w2.heap.size) _) (.inl rfl) #[.string ⟨#[99, 97, 98]⟩, .func (.func 79) #[] #[], .func (.func 80) #[] #[], .func (.func 81) #[] #[], .func (.func 82) #[] #[]]) (by omega))
  have HF := Lib.hid (row_blk (cs := #[.string ⟨#[99, 97, 98]⟩, .func (.func 79) #[] #[], .func (.func 80) #[] #[], .func (.func 81) #[] #[], .func (.func 82) #[] #[]]) HZ.out)
  have HS3 := Lib.hid (show Same w ((w2.alloc (.cells #[.string ⟨#[]⟩, .nilFunc, .nilFunc, .nilFunc, .nilFunc] 70)).setRow w2.heap.size #[.string ⟨#[99, 97, 98]⟩, .func (.func 79) #[] #[], .func (.func 80) #[] #[], .func (.func 81) #[] #[], .func (.func 82) #[] #[]]) from chg_setRow (HS2.out.alloc _) (.inr HS2.out.size) _)
  clear s2 hb2 hb3 hlt HB0 HS0
  have d0 : ((w2.alloc (.cells #[.string ⟨#[]⟩, .nilFunc, .nilFunc, .nilFunc, .nilFunc] 70)).setRow w2.heap.size #[.string ⟨#[99, 97, 98]⟩, .func (.func 79) #[] #[], .func (.func 80) #[] #[], .func (.func 81) #[] #[], .func (.func 82) #[] #[]]).cell? ⟨w.heap.size, 0, none⟩ = some (.int .i64 5) := HB.out.cell 0
  have d1 : ((w2.alloc (.cells #[.string ⟨#[]⟩, .nilFunc, .nilFunc, .nilFunc, .nilFunc] 70)).setRow w2.heap.size #[.string ⟨#[99, 97, 98]⟩, .func (.func 79) #[] #[], .func (.func 80) #[] #[], .func (.func 81) #[] #[], .func (.func 82) #[] #[]]).cell? ⟨w.heap.size, 1, none⟩ = some (.int .i64 wd) := HB.out.cell 1
  have d2 : ((w2.alloc (.cells #[.string ⟨#[]⟩, .nilFunc, .nilFunc, .nilFunc, .nilFunc] 70)).setRow w2.heap.size #[.string ⟨#[99, 97, 98]⟩, .func (.func 79) #[] #[], .func (.func 80) #[] #[], .func (.func 81) #[] #[], .func (.func 82) #[] #[]]).cell? ⟨w.heap.size, 2, none⟩ = some (.int .i64 sl) := HB.out.cell 2
  have d3 : ((w2.alloc (.cells #[.string ⟨#[]⟩, .nilFunc, .nilFunc, .nilFunc, .nilFunc] 70)).setRow w2.heap.size #[.string ⟨#[99, 97, 98]⟩, .func (.func 79) #[] #[], .func (.func 80) #[] #[], .func (.func 81) #[] #[], .func (.func 82) #[] #[]]).cell? ⟨w.heap.size, 3, none⟩ = some (.int .i64 cp) := HB.out.cell 3
  have d4 : ((w2.alloc (.cells #[.string ⟨#[]⟩, .nilFunc, .nilFunc, .nilFunc, .nilFunc] 70)).setRow w2.heap.size #[.string ⟨#[99, 97, 98]⟩, .func (.func 79) #[] #[], .func (.func 80) #[] #[], .func (.func 81) #[] #[], .func (.func 82) #[] #[]]).cell? ⟨w.heap.size, 4, none⟩ = some (.int .u32 sa) := HB.out.cell 4
  have d5 : ((w2.alloc (.cells #[.string ⟨#[]⟩, .nilFunc, .nilFunc, .nilFunc, .nilFunc] 70)).setRow w2.heap.size #[.string ⟨#[99, 97, 98]⟩, .func (.func 79) #[] #[], .func (.func 80) #[] #[], .func (.func 81) #[] #[], .func (.func 82) #[] #[]]).cell? ⟨w.heap.size, 5, none⟩ = some (.slice ia il ic) := HB.out.cell 5
  have d6 : ((w2.alloc (.cells #[.string ⟨#[]⟩, .nilFunc, .nilFunc, .nilFunc, .nilFunc] 70)).setRow w2.heap.size #[.string ⟨#[99, 97, 98]⟩, .func (.func 79) #[] #[], .func (.func 80) #[] #[], .func (.func 81) #[] #[], .func (.func 82) #[] #[]]).cell? ⟨w.heap.size, 6, none⟩ = some (.int .i64 ow) := HB.out.cell 6
  have d7 : ((w2.alloc (.cells #[.string ⟨#[]⟩, .nilFunc, .nilFunc, .nilFunc, .nilFunc] 70)).setRow w2.heap.size #[.string ⟨#[99, 97, 98]⟩, .func (.func 79) #[] #[], .func (.func 80) #[] #[], .func (.func 81) #[] #[], .func (.func 82) #[] #[]]).cell? ⟨w.heap.size, 7, none⟩ = some (.slice ra rl rc) := HB.out.cell 7
  have df : ((w2.alloc (.cells #[.string ⟨#[]⟩, .nilFunc, .nilFunc, .nilFunc, .nilFunc] 70)).setRow w2.heap.size #[.string ⟨#[99, 97, 98]⟩, .func (.func 79) #[] #[], .func (.func 80) #[] #[], .func (.func 81) #[] #[], .func (.func 82) #[] #[]]).cell? ⟨w2.heap.size, 1, none⟩ = some (.func (.func 79) #[] #[]) := HF.out.cell 1
  go_wp2_with (refine wpList_store_row rfl 70 (.tmp 3) (.tmp 9) rfl w2.heap.size #[.string ⟨#[99, 97, 98]⟩, .func (.func 79) #[] #[], .func (.func 80) #[] #[], .func (.func 81) #[] #[], .func (.func 82) #[] #[]] rfl rfl 70 #[.string ⟨#[]⟩, .nilFunc, .nilFunc, .nilFunc, .nilFunc] HZ.out face_size rfl one_5 ?_)
  refine (HC.out _).mono ?_
  rintro e w4 ⟨rfl, s4⟩
  go_wp2_with fail
  go_ret
  exact ⟨rfl, HS3.out.trans s4⟩
theorem bnd_5 (wd sl cp sa ow : Int) (ia ra : Option Addr) (il ic rl rc : Nat) (op : Int) (w : World) (hsa : 0 ≤ sa ∧ sa < 4294967296 := by assumption) :
    Calls Tryz.prog 82 #[.agg #[.int .i64 5, .int .i64 wd, .int .i64 sl, .int .i64 cp, .int .u32 sa, .slice ia il ic, .int .i64 ow, .slice ra rl rc], .int .i64 op] w fun e w' => e = .returned (.int .i64 (boundF 5 wd sl cp sa il rl op)) ∧ Same w w' := by
  rw [bound_5]
  cases h : Kcb.rightB wd sl cp sa il rl
  · rw [if_neg Bool.false_ne_true]
    exact Kcb.bound_no wd sl cp sa ow ia ra il ic rl rc op w h
  · rw [if_pos rfl]
    exact Kcb.bound_yes wd sl cp sa ow ia ra il ic rl rc op w h
theorem rbnd_5 (wd sl cp sa ow : Int) (ia ra : Option Addr) (il ic rl rc : Nat) (op : Int) (w : World) (hsa : 0 ≤ sa ∧ sa < 4294967296 := by assumption) :
    Calls Tryz.prog 21 #[.agg #[.int .i64 5, .int .i64 wd, .int .i64 sl, .int .i64 cp, .int .u32 sa, .slice ia il ic, .int .i64 ow, .slice ra rl rc], .int .i64 op] w fun e w' => e = .returned (.int .i64 (boundF 5 wd sl cp sa il rl op)) ∧ Same w w' := by
  rw [bound_5]
  cases h : Kcb.rightB wd sl cp sa il rl
  · rw [if_neg Bool.false_ne_true]
    exact Kcb.rbound_no wd sl cp sa ow ia ra il ic rl rc op w h
  · rw [if_pos rfl]
    exact Kcb.rbound_yes wd sl cp sa ow ia ra il ic rl rc op w h
set_option maxRecDepth 100000 in
theorem bound_of_5 (wd sl cp sa ow : Int) (ia ra : Option Addr) (il ic rl rc : Nat) (op : Int) (w : World) (hsa : 0 ≤ sa ∧ sa < 4294967296 := by assumption) :
    Calls Tryz.prog 20 #[.agg #[.int .i64 5, .int .i64 wd, .int .i64 sl, .int .i64 cp, .int .u32 sa, .slice ia il ic, .int .i64 ow, .slice ra rl rc], .int .i64 op] w fun e w' => e = .returned (.int .i64 (boundF 5 wd sl cp sa il rl op)) ∧ Same w w' := by
  have HC := Lib.hid (fun w' => bnd_5 wd sl cp sa ow ia ra il ic rl rc op w')
  have hb0 := Blk.new w 26 #[.int .i64 5, .int .i64 wd, .int .i64 sl, .int .i64 cp, .int .u32 sa, .slice ia il ic, .int .i64 ow, .slice ra rl rc]
  have HS0 := Lib.hid ((Same.refl w).alloc (.cells #[.int .i64 5, .int .i64 wd, .int .i64 sl, .int .i64 cp, .int .u32 sa, .slice ia il ic, .int .i64 ow, .slice ra rl rc] 26))
  have HB0 := Lib.hid hb0
  clear hb0
  generalize boundF 5 wd sl cp sa il rl op = rb at *
  go_enter Tryz.func20, Tryz.ntmps20
  go_wp2_with fail
  refine (face_5 _).mono ?_
  rintro e w2 ⟨rfl, s2⟩
  have HZ := Lib.hid (Blk.new w2 70 #[.string ⟨#[]⟩, .nilFunc, .nilFunc, .nilFunc, .nilFunc])
  have HS2 := Lib.hid (HS0.out.trans s2)
  have hb2 := HB0.out.same s2
  have hlt := hb2.lt
  have hb3 := (hb2.same ((Same.refl w2).alloc (.cells #[.string ⟨#[]⟩, .nilFunc, .nilFunc, .nilFunc, .nilFunc] 70)))
  have HB := Lib.hid (Blk.chg hb3 (chg_setRow (Chg.refl (fun i => i = w2.heap.size) _) (.inl rfl) #[.string ⟨#[99, 97, 98]⟩, .func (.func 79) #[] #[], .func (.func 80) #[] #[], .func (.func 81) #[] #[], .func (.func 82) #[] #[]]) (by omega))
  have HF := Lib.hid (row_blk (cs := #[.string ⟨#[99, 97, 98]⟩, .func (.func 79) #[] #[], .func (.func 80) #[] #[], .func (.func 81) #[] #[], .func (.func 82) #[] #[]]) HZ.out)
  have HS3 := Lib.hid (show Same w ((w2.alloc (.cells #[.string ⟨#[]⟩, .nilFunc, .nilFunc, .nilFunc, .nilFunc] 70)).setRow w2.heap.size #[.string ⟨#[99, 97, 98]⟩, .func (.func 79) #[] #[], .func (.func 80) #[] #[], .func (.func 81) #[] #[], .func (.func 82) #[] #[]]) from chg_setRow (HS2.out.alloc _) (.inr HS2.out.size) _)
  clear s2 hb2 hb3 hlt HB0 HS0
  have d0 : ((w2.alloc (.cells #[.string ⟨#[]⟩, .nilFunc, .nilFunc, .nilFunc, .nilFunc] 70)).setRow w2.heap.size #[.string ⟨#[99, 97, 98]⟩, .func (.func 79) #[] #[], .func (.func 80) #[] #[], .func (.func 81) #[] #[], .func (.func 82) #[] #[]]).cell? ⟨w.heap.size, 0, none⟩ = some (.int .i64 5) := HB.out.cell 0
  have d1 : ((w2.alloc (.cells #[.string ⟨#[]⟩, .nilFunc, .nilFunc, .nilFunc, .nilFunc] 70)).setRow w2.heap.size #[.string ⟨#[99, 97, 98]⟩, .func (.func 79) #[] #[], .func (.func 80) #[] #[], .func (.func 81) #[] #[], .func (.func 82) #[] #[]]).cell? ⟨w.heap.size, 1, none⟩ = some (.int .i64 wd) := HB.out.cell 1
  have d2 : ((w2.alloc (.cells #[.string ⟨#[]⟩, .nilFunc, .nilFunc, .nilFunc, .nilFunc] 70)).setRow w2.heap.size #[.string ⟨#[99, 97, 98]⟩, .func (.func 79) #[] #[], .func (.func 80) #[] #[], .func (.func 81) #[] #[], .func (.func 82) #[] #[]]).cell? ⟨w.heap.size, 2, none⟩ = some (.int .i64 sl) := HB.out.cell 2
  have d3 : ((w2.alloc (.cells #[.string ⟨#[]⟩, .nilFunc, .nilFunc, .nilFunc, .nilFunc] 70)).setRow w2.heap.size #[.string ⟨#[99, 97, 98]⟩, .func (.func 79) #[] #[], .func (.func 80) #[] #[], .func (.func 81) #[] #[], .func (.func 82) #[] #[]]).cell? ⟨w.heap.size, 3, none⟩ = some (.int .i64 cp) := HB.out.cell 3
  have d4 : ((w2.alloc (.cells #[.string ⟨#[]⟩, .nilFunc, .nilFunc, .nilFunc, .nilFunc] 70)).setRow w2.heap.size #[.string ⟨#[99, 97, 98]⟩, .func (.func 79) #[] #[], .func (.func 80) #[] #[], .func (.func 81) #[] #[], .func (.func 82) #[] #[]]).cell? ⟨w.heap.size, 4, none⟩ = some (.int .u32 sa) := HB.out.cell 4
  have d5 : ((w2.alloc (.cells #[.string ⟨#[]⟩, .nilFunc, .nilFunc, .nilFunc, .nilFunc] 70)).setRow w2.heap.size #[.string ⟨#[99, 97, 98]⟩, .func (.func 79) #[] #[], .func (.func 80) #[] #[], .func (.func 81) #[] #[], .func (.func 82) #[] #[]]).cell? ⟨w.heap.size, 5, none⟩ = some (.slice ia il ic) := HB.out.cell 5
  have d6 : ((w2.alloc (.cells #[.string ⟨#[]⟩, .nilFunc, .nilFunc, .nilFunc, .nilFunc] 70)).setRow w2.heap.size #[.string ⟨#[99, 97, 98]⟩, .func (.func 79) #[] #[], .func (.func 80) #[] #[], .func (.func 81) #[] #[], .func (.func 82) #[] #[]]).cell? ⟨w.heap.size, 6, none⟩ = some (.int .i64 ow) := HB.out.cell 6
  have d7 : ((w2.alloc (.cells #[.string ⟨#[]⟩, .nilFunc, .nilFunc, .nilFunc, .nilFunc] 70)).setRow w2.heap.size #[.string ⟨#[99, 97, 98]⟩, .func (.func 79) #[] #[], .func (.func 80) #[] #[], .func (.func 81) #[] #[], .func (.func 82) #[] #[]]).cell? ⟨w.heap.size, 7, none⟩ = some (.slice ra rl rc) := HB.out.cell 7
  have df : ((w2.alloc (.cells #[.string ⟨#[]⟩, .nilFunc, .nilFunc, .nilFunc, .nilFunc] 70)).setRow w2.heap.size #[.string ⟨#[99, 97, 98]⟩, .func (.func 79) #[] #[], .func (.func 80) #[] #[], .func (.func 81) #[] #[], .func (.func 82) #[] #[]]).cell? ⟨w2.heap.size, 4, none⟩ = some (.func (.func 82) #[] #[]) := HF.out.cell 4
  go_wp2_with (refine wpList_store_row rfl 70 (.tmp 5) (.tmp 11) rfl w2.heap.size #[.string ⟨#[99, 97, 98]⟩, .func (.func 79) #[] #[], .func (.func 80) #[] #[], .func (.func 81) #[] #[], .func (.func 82) #[] #[]] rfl rfl 70 #[.string ⟨#[]⟩, .nilFunc, .nilFunc, .nilFunc, .nilFunc] HZ.out face_size rfl one_5 ?_)
  refine (HC.out _).mono ?_
  rintro e w4 ⟨rfl, s4⟩
  go_wp2_with fail
  go_ret
  exact ⟨rfl, HS3.out.trans s4⟩
set_option maxRecDepth 100000 in
theorem shaped_6 (wd sl cp sa ow : Int) (ia ra : Option Addr) (il ic rl rc : Nat) (w : World) (hsa : 0 ≤ sa ∧ sa < 4294967296 := by assumption) :
    Calls Tryz.prog 11 #[.agg #[.int .i64 6, .int .i64 wd, .int .i64 sl, .int .i64 cp, .int .u32 sa, .slice ia il ic, .int .i64 ow, .slice ra rl rc]] w fun e w' => e = .returned (.bool (Kff.rightB wd sl cp sa il rl)) ∧ Same w w' := by
  have HC := Lib.hid (fun w' => Kff.right_any wd sl cp sa ow ia ra il ic rl rc w')
  have hb0 := Blk.new w 26 #[.int .i64 6, .int .i64 wd, .int .i64 sl, .int .i64 cp, .int .u32 sa, .slice ia il ic, .int .i64 ow, .slice ra rl rc]
  have HS0 := Lib.hid ((Same.refl w).alloc (.cells #[.int .i64 6, .int .i64 wd, .int .i64 sl, .int .i64 cp, .int .u32 sa, .slice ia il ic, .int .i64 ow, .slice ra rl rc] 26))
  have HB0 := Lib.hid hb0
  clear hb0
  generalize Kff.rightB wd sl cp sa il rl = rb at *
  go_enter Tryz.func11, Tryz.ntmps11
  go_wp2_with fail
  refine (face_6 _).mono ?_
  rintro e w2 ⟨rfl, s2⟩
  have HZ := Lib.hid (Blk.new w2 70 #[.string ⟨#[]⟩, .nilFunc, .nilFunc, .nilFunc, .nilFunc])
  have HS2 := Lib.hid (HS0.out.trans s2)
  have hb2 := HB0.out.same s2
  have hlt := hb2.lt
  have hb3 := (hb2.same ((Same.refl w2).alloc (.cells #[.string ⟨#[]⟩, .nilFunc, .nilFunc, .nilFunc, .nilFunc] 70)))
  have HB := Lib.hid (Blk.chg hb3 (chg_setRow (Chg.refl (fun i => i = w2.heap.size) _) (.inl rfl) #[.string ⟨#[102, 105, 102, 111]⟩, .func (.func 83) #[] #[], .func (.func 84) #[] #[], .func (.func 85) #[] #[], .func (.func 86) #[] #[]]) (by omega))
  have HF := Lib.hid (row_blk (cs := #[.string ⟨#[102, 105, 102, 111]⟩, .func (.func 83) #[] #[], .func (.func 84) #[] #[], .func (.func 85) #[] #[], .func (.func 86) #[] #[]]) HZ.out)
  have HS3 := Lib.hid (show Same w ((w2.alloc (.cells #[.string ⟨#[]⟩, .nilFunc, .nilFunc, .nilFunc, .nilFunc] 70)).setRow w2.heap.size #[.string ⟨#[102, 105, 102, 111]⟩, .func (.func 83) #[] #[], .func (.func 84) #[] #[], .func (.func 85) #[] #[], .func (.func 86) #[] #[]]) from chg_setRow (HS2.out.alloc _) (.inr HS2.out.size) _)
  clear s2 hb2 hb3 hlt HB0 HS0
  have d0 : ((w2.alloc (.cells #[.string ⟨#[]⟩, .nilFunc, .nilFunc, .nilFunc, .nilFunc] 70)).setRow w2.heap.size #[.string ⟨#[102, 105, 102, 111]⟩, .func (.func 83) #[] #[], .func (.func 84) #[] #[], .func (.func 85) #[] #[], .func (.func 86) #[] #[]]).cell? ⟨w.heap.size, 0, none⟩ = some (.int .i64 6) := HB.out.cell 0
  have d1 : ((w2.alloc (.cells #[.string ⟨#[]⟩, .nilFunc, .nilFunc, .nilFunc, .nilFunc] 70)).setRow w2.heap.size #[.string ⟨#[102, 105, 102, 111]⟩, .func (.func 83) #[] #[], .func (.func 84) #[] #[], .func (.func 85) #[] #[], .func (.func 86) #[] #[]]).cell? ⟨w.heap.size, 1, none⟩ = some (.int .i64 wd) := HB.out.cell 1
  have d2 : ((w2.alloc (.cells #[.string ⟨#[]⟩, .nilFunc, .nilFunc, .nilFunc, .nilFunc] 70)).setRow w2.heap.size #[.string ⟨#[102, 105, 102, 111]⟩, .func (.func 83) #[] #[], .func (.func 84) #[] #[], .func (.func 85) #[] #[], .func (.func 86) #[] #[]]).cell? ⟨w.heap.size, 2, none⟩ = some (.int .i64 sl) := HB.out.cell 2
  have d3 : ((w2.alloc (.cells #[.string ⟨#[]⟩, .nilFunc, .nilFunc, .nilFunc, .nilFunc] 70)).setRow w2.heap.size #[.string ⟨#[102, 105, 102, 111]⟩, .func (.func 83) #[] #[], .func (.func 84) #[] #[], .func (.func 85) #[] #[], .func (.func 86) #[] #[]]).cell? ⟨w.heap.size, 3, none⟩ = some (.int .i64 cp) := HB.out.cell 3
  have d4 : ((w2.alloc (.cells #[.string ⟨#[]⟩, .nilFunc, .nilFunc, .nilFunc, .nilFunc] 70)).setRow w2.heap.size #[.string ⟨#[102, 105, 102, 111]⟩, .func (.func 83) #[] #[], .func (.func 84) #[] #[], .func (.func 85) #[] #[], .func (.func 86) #[] #[]]).cell? ⟨w.heap.size, 4, none⟩ = some (.int .u32 sa) := HB.out.cell 4
  have d5 : ((w2.alloc (.cells #[.string ⟨#[]⟩, .nilFunc, .nilFunc, .nilFunc, .nilFunc] 70)).setRow w2.heap.size #[.string ⟨#[102, 105, 102, 111]⟩, .func (.func 83) #[] #[], .func (.func 84) #[] #[], .func (.func 85) #[] #[], .func (.func 86) #[] #[]]).cell? ⟨w.heap.size, 5, none⟩ = some (.slice ia il ic) := HB.out.cell 5
  have d6 : ((w2.alloc (.cells #[.string ⟨#[]⟩, .nilFunc, .nilFunc, .nilFunc, .nilFunc] 70)).setRow w2.heap.size #[.string ⟨#[102, 105, 102, 111]⟩, .func (.func 83) #[] #[], .func (.func 84) #[] #[], .func (.func 85) #[] #[], .func (.func 86) #[] #[]]).cell? ⟨w.heap.size, 6, none⟩ = some (.int .i64 ow) := HB.out.cell 6
  have d7 : ((w2.alloc (.cells #[.string ⟨#[]⟩, .nilFunc, .nilFunc, .nilFunc, .nilFunc] 70)).setRow w2.heap.size #[.string ⟨#[102, 105, 102, 111]⟩, .func (.func 83) #[] #[], .func (.func 84) #[] #[], .func (.func 85) #[] #[], .func (.func 86) #[] #[]]).cell? ⟨w.heap.size, 7, none⟩ = some (.slice ra rl rc) := HB.out.cell 7
  have df : ((w2.alloc (.cells #[.string ⟨#[]⟩, .nilFunc, .nilFunc, .nilFunc, .nilFunc] 70)).setRow w2.heap.size #[.string ⟨#[102, 105, 102, 111]⟩, .func (.func 83) #[] #[], .func (.func 84) #[] #[], .func (.func 85) #[] #[], .func (.func 86) #[] #[]]).cell? ⟨w2.heap.size, 1, none⟩ = some (.func (.func 83) #[] #[]) := HF.out.cell 1
  go_wp2_with (refine wpList_store_row rfl 70 (.tmp 3) (.tmp 9) rfl w2.heap.size #[.string ⟨#[102, 105, 102, 111]⟩, .func (.func 83) #[] #[], .func (.func 84) #[] #[], .func (.func 85) #[] #[], .func (.func 86) #[] #[]] rfl rfl 70 #[.string ⟨#[]⟩, .nilFunc, .nilFunc, .nilFunc, .nilFunc] HZ.out face_size rfl one_6 ?_)
  refine (HC.out _).mono ?_
  rintro e w4 ⟨rfl, s4⟩
  go_wp2_with fail
  go_ret
  exact ⟨rfl, HS3.out.trans s4⟩
theorem bnd_6 (wd sl cp sa ow : Int) (ia ra : Option Addr) (il ic rl rc : Nat) (op : Int) (w : World) (hsa : 0 ≤ sa ∧ sa < 4294967296 := by assumption) :
    Calls Tryz.prog 86 #[.agg #[.int .i64 6, .int .i64 wd, .int .i64 sl, .int .i64 cp, .int .u32 sa, .slice ia il ic, .int .i64 ow, .slice ra rl rc], .int .i64 op] w fun e w' => e = .returned (.int .i64 (boundF 6 wd sl cp sa il rl op)) ∧ Same w w' := by
  rw [bound_6]
  cases h : Kff.rightB wd sl cp sa il rl
  · rw [if_neg Bool.false_ne_true]
    exact Kff.bound_no wd sl cp sa ow ia ra il ic rl rc op w h
  · rw [if_pos rfl]
    exact Kff.bound_yes wd sl cp sa ow ia ra il ic rl rc op w h
theorem rbnd_6 (wd sl cp sa ow : Int) (ia ra : Option Addr) (il ic rl rc : Nat) (op : Int) (w : World) (hsa : 0 ≤ sa ∧ sa < 4294967296 := by assumption) :
    Calls Tryz.prog 21 #[.agg #[.int .i64 6, .int .i64 wd, .int .i64 sl, .int .i64 cp, .int .u32 sa, .slice ia il ic, .int .i64 ow, .slice ra rl rc], .int .i64 op] w fun e w' => e = .returned (.int .i64 (boundF 6 wd sl cp sa il rl op)) ∧ Same w w' := by
  rw [bound_6]
  cases h : Kff.rightB wd sl cp sa il rl
  · rw [if_neg Bool.false_ne_true]
    exact Kff.rbound_no wd sl cp sa ow ia ra il ic rl rc op w h
  · rw [if_pos rfl]
    exact Kff.rbound_yes wd sl cp sa ow ia ra il ic rl rc op w h
set_option maxRecDepth 100000 in
theorem bound_of_6 (wd sl cp sa ow : Int) (ia ra : Option Addr) (il ic rl rc : Nat) (op : Int) (w : World) (hsa : 0 ≤ sa ∧ sa < 4294967296 := by assumption) :
    Calls Tryz.prog 20 #[.agg #[.int .i64 6, .int .i64 wd, .int .i64 sl, .int .i64 cp, .int .u32 sa, .slice ia il ic, .int .i64 ow, .slice ra rl rc], .int .i64 op] w fun e w' => e = .returned (.int .i64 (boundF 6 wd sl cp sa il rl op)) ∧ Same w w' := by
  have HC := Lib.hid (fun w' => bnd_6 wd sl cp sa ow ia ra il ic rl rc op w')
  have hb0 := Blk.new w 26 #[.int .i64 6, .int .i64 wd, .int .i64 sl, .int .i64 cp, .int .u32 sa, .slice ia il ic, .int .i64 ow, .slice ra rl rc]
  have HS0 := Lib.hid ((Same.refl w).alloc (.cells #[.int .i64 6, .int .i64 wd, .int .i64 sl, .int .i64 cp, .int .u32 sa, .slice ia il ic, .int .i64 ow, .slice ra rl rc] 26))
  have HB0 := Lib.hid hb0
  clear hb0
  generalize boundF 6 wd sl cp sa il rl op = rb at *
  go_enter Tryz.func20, Tryz.ntmps20
  go_wp2_with fail
  refine (face_6 _).mono ?_
  rintro e w2 ⟨rfl, s2⟩
  have HZ := Lib.hid (Blk.new w2 70 #[.string ⟨#[]⟩, .nilFunc, .nilFunc, .nilFunc, .nilFunc])
  have HS2 := Lib.hid (HS0.out.trans s2)
  have hb2 := HB0.out.same s2
  have hlt := hb2.lt
  have hb3 := (hb2.same ((Same.refl w2).alloc (.cells #[.string ⟨#[]⟩, .nilFunc, .nilFunc, .nilFunc, .nilFunc] 70)))
  have HB := Lib.hid (Blk.chg hb3 (chg_setRow (Chg.refl (fun i => i = w2.heap.size) _) (.inl rfl) #[.string ⟨#[102, 105, 102, 111]⟩, .func (.func 83) #[] #[], .func (.func 84) #[] #[], .func (.func 85) #[] #[], .func (.func 86) #[] #[]]) (by omega))
  have HF := Lib.hid (row_blk (cs := #[.string ⟨#[102, 105, 102, 111]⟩, .func (.func 83) #[] #[], .func (.func 84) #[] #[], .func (.func 85) #[] #[], .func (.func 86) #[] #[]]) HZ.out)
  have HS3 := Lib.hid (show Same w ((w2.alloc (.cells #[.string ⟨#[]⟩, .nilFunc, .nilFunc, .nilFunc, .nilFunc] 70)).setRow w2.heap.size #[.string ⟨#[102, 105, 102, 111]⟩, .func (.func 83) #[] #[], .func (.func 84) #[] #[], .func (.func 85) #[] #[], .func (.func 86) #[] #[]]) from chg_setRow (HS2.out.alloc _) (.inr HS2.out.size) _)
  clear s2 hb2 hb3 hlt HB0 HS0
  have d0 : ((w2.alloc (.cells #[.string ⟨#[]⟩, .nilFunc, .nilFunc, .nilFunc, .nilFunc] 70)).setRow w2.heap.size #[.string ⟨#[102, 105, 102, 111]⟩, .func (.func 83) #[] #[], .func (.func 84) #[] #[], .func (.func 85) #[] #[], .func (.func 86) #[] #[]]).cell? ⟨w.heap.size, 0, none⟩ = some (.int .i64 6) := HB.out.cell 0
  have d1 : ((w2.alloc (.cells #[.string ⟨#[]⟩, .nilFunc, .nilFunc, .nilFunc, .nilFunc] 70)).setRow w2.heap.size #[.string ⟨#[102, 105, 102, 111]⟩, .func (.func 83) #[] #[], .func (.func 84) #[] #[], .func (.func 85) #[] #[], .func (.func 86) #[] #[]]).cell? ⟨w.heap.size, 1, none⟩ = some (.int .i64 wd) := HB.out.cell 1
  have d2 : ((w2.alloc (.cells #[.string ⟨#[]⟩, .nilFunc, .nilFunc, .nilFunc, .nilFunc] 70)).setRow w2.heap.size #[.string ⟨#[102, 105, 102, 111]⟩, .func (.func 83) #[] #[], .func (.func 84) #[] #[], .func (.func 85) #[] #[], .func (.func 86) #[] #[]]).cell? ⟨w.heap.size, 2, none⟩ = some (.int .i64 sl) := HB.out.cell 2
  have d3 : ((w2.alloc (.cells #[.string ⟨#[]⟩, .nilFunc, .nilFunc, .nilFunc, .nilFunc] 70)).setRow w2.heap.size #[.string ⟨#[102, 105, 102, 111]⟩, .func (.func 83) #[] #[], .func (.func 84) #[] #[], .func (.func 85) #[] #[], .func (.func 86) #[] #[]]).cell? ⟨w.heap.size, 3, none⟩ = some (.int .i64 cp) := HB.out.cell 3
  have d4 : ((w2.alloc (.cells #[.string ⟨#[]⟩, .nilFunc, .nilFunc, .nilFunc, .nilFunc] 70)).setRow w2.heap.size #[.string ⟨#[102, 105, 102, 111]⟩, .func (.func 83) #[] #[], .func (.func 84) #[] #[], .func (.func 85) #[] #[], .func (.func 86) #[] #[]]).cell? ⟨w.heap.size, 4, none⟩ = some (.int .u32 sa) := HB.out.cell 4
  have d5 : ((w2.alloc (.cells #[.string ⟨#[]⟩, .nilFunc, .nilFunc, .nilFunc, .nilFunc] 70)).setRow w2.heap.size #[.string ⟨#[102, 105, 102, 111]⟩, .func (.func 83) #[] #[], .func (.func 84) #[] #[], .func (.func 85) #[] #[], .func (.func 86) #[] #[]]).cell? ⟨w.heap.size, 5, none⟩ = some (.slice ia il ic) := HB.out.cell 5
  have d6 : ((w2.alloc (.cells #[.string ⟨#[]⟩, .nilFunc, .nilFunc, .nilFunc, .nilFunc] 70)).setRow w2.heap.size #[.string ⟨#[102, 105, 102, 111]⟩, .func (.func 83) #[] #[], .func (.func 84) #[] #[], .func (.func 85) #[] #[], .func (.func 86) #[] #[]]).cell? ⟨w.heap.size, 6, none⟩ = some (.int .i64 ow) := HB.out.cell 6
  have d7 : ((w2.alloc (.cells #[.string ⟨#[]⟩, .nilFunc, .nilFunc, .nilFunc, .nilFunc] 70)).setRow w2.heap.size #[.string ⟨#[102, 105, 102, 111]⟩, .func (.func 83) #[] #[], .func (.func 84) #[] #[], .func (.func 85) #[] #[], .func (.func 86) #[] #[]]).cell? ⟨w.heap.size, 7, none⟩ = some (.slice ra rl rc) := HB.out.cell 7
  have df : ((w2.alloc (.cells #[.string ⟨#[]⟩, .nilFunc, .nilFunc, .nilFunc, .nilFunc] 70)).setRow w2.heap.size #[.string ⟨#[102, 105, 102, 111]⟩, .func (.func 83) #[] #[], .func (.func 84) #[] #[], .func (.func 85) #[] #[], .func (.func 86) #[] #[]]).cell? ⟨w2.heap.size, 4, none⟩ = some (.func (.func 86) #[] #[]) := HF.out.cell 4
  go_wp2_with (refine wpList_store_row rfl 70 (.tmp 5) (.tmp 11) rfl w2.heap.size #[.string ⟨#[102, 105, 102, 111]⟩, .func (.func 83) #[] #[], .func (.func 84) #[] #[], .func (.func 85) #[] #[], .func (.func 86) #[] #[]] rfl rfl 70 #[.string ⟨#[]⟩, .nilFunc, .nilFunc, .nilFunc, .nilFunc] HZ.out face_size rfl one_6 ?_)
  refine (HC.out _).mono ?_
  rintro e w4 ⟨rfl, s4⟩
  go_wp2_with fail
  go_ret
  exact ⟨rfl, HS3.out.trans s4⟩
set_option maxRecDepth 100000 in
theorem shaped_none (k : Int) (wd sl cp sa ow : Int) (ia ra : Option Addr) (il ic rl rc : Nat) (w : World) (h : k < 1 ∨ 6 < k) :
    Calls Tryz.prog 11 #[.agg #[.int .i64 k, .int .i64 wd, .int .i64 sl, .int .i64 cp, .int .u32 sa, .slice ia il ic, .int .i64 ow, .slice ra rl rc]] w fun e w' => e = .returned (.bool false) ∧ Same w w' := by
  have hb0 := Blk.new w 26 #[.int .i64 k, .int .i64 wd, .int .i64 sl, .int .i64 cp, .int .u32 sa, .slice ia il ic, .int .i64 ow, .slice ra rl rc]
  have HS0 := Lib.hid ((Same.refl w).alloc (.cells #[.int .i64 k, .int .i64 wd, .int .i64 sl, .int .i64 cp, .int .u32 sa, .slice ia il ic, .int .i64 ow, .slice ra rl rc] 26))
  have d0 := hb0.cell 0
  have HFN := Lib.hid (fun w' => face_none k h w')
  clear hb0 h
  go_enter Tryz.func11, Tryz.ntmps11
  go_wp2_with fail
  refine (HFN.out _).mono ?_
  rintro e w2 ⟨rfl, s2⟩
  have HZ := Lib.hid (Blk.new w2 70 #[.string ⟨#[]⟩, .nilFunc, .nilFunc, .nilFunc, .nilFunc])
  have HS2 := Lib.hid (HS0.out.trans s2)
  have HS3 := Lib.hid (show Same w ((w2.alloc (.cells #[.string ⟨#[]⟩, .nilFunc, .nilFunc, .nilFunc, .nilFunc] 70)).setRow w2.heap.size #[.string ⟨#[]⟩, .nilFunc, .nilFunc, .nilFunc, .nilFunc]) from chg_setRow (HS2.out.alloc _) (.inr HS2.out.size) _)
  clear s2 HS0
  go_wp2_with (refine wpList_store_row rfl 70 (.tmp 3) (.tmp 9) rfl w2.heap.size #[.string ⟨#[]⟩, .nilFunc, .nilFunc, .nilFunc, .nilFunc] rfl rfl 70 #[.string ⟨#[]⟩, .nilFunc, .nilFunc, .nilFunc, .nilFunc] HZ.out face_size rfl one_0 ?_)
  go_ret
  exact ⟨rfl, HS3.out⟩
set_option maxRecDepth 100000 in
theorem bound_of_none (k : Int) (wd sl cp sa ow : Int) (ia ra : Option Addr) (il ic rl rc : Nat) (op : Int) (w : World) (h : k < 1 ∨ 6 < k) :
    Calls Tryz.prog 20 #[.agg #[.int .i64 k, .int .i64 wd, .int .i64 sl, .int .i64 cp, .int .u32 sa, .slice ia il ic, .int .i64 ow, .slice ra rl rc], .int .i64 op] w fun e w' => e = .returned (.int .i64 0) ∧ Same w w' := by
  have hb0 := Blk.new w 26 #[.int .i64 k, .int .i64 wd, .int .i64 sl, .int .i64 cp, .int .u32 sa, .slice ia il ic, .int .i64 ow, .slice ra rl rc]
  have HS0 := Lib.hid ((Same.refl w).alloc (.cells #[.int .i64 k, .int .i64 wd, .int .i64 sl, .int .i64 cp, .int .u32 sa, .slice ia il ic, .int .i64 ow, .slice ra rl rc] 26))
  have d0 := hb0.cell 0
  have HFN := Lib.hid (fun w' => face_none k h w')
  clear hb0 h
  go_enter Tryz.func20, Tryz.ntmps20
  go_wp2_with fail
  refine (HFN.out _).mono ?_
  rintro e w2 ⟨rfl, s2⟩
  have HZ := Lib.hid (Blk.new w2 70 #[.string ⟨#[]⟩, .nilFunc, .nilFunc, .nilFunc, .nilFunc])
  have HS2 := Lib.hid (HS0.out.trans s2)
  have HS3 := Lib.hid (show Same w ((w2.alloc (.cells #[.string ⟨#[]⟩, .nilFunc, .nilFunc, .nilFunc, .nilFunc] 70)).setRow w2.heap.size #[.string ⟨#[]⟩, .nilFunc, .nilFunc, .nilFunc, .nilFunc]) from chg_setRow (HS2.out.alloc _) (.inr HS2.out.size) _)
  clear s2 HS0
  go_wp2_with (refine wpList_store_row rfl 70 (.tmp 5) (.tmp 11) rfl w2.heap.size #[.string ⟨#[]⟩, .nilFunc, .nilFunc, .nilFunc, .nilFunc] rfl rfl 70 #[.string ⟨#[]⟩, .nilFunc, .nilFunc, .nilFunc, .nilFunc] HZ.out face_size rfl one_0 ?_)
  go_ret
  exact ⟨rfl, HS3.out⟩
set_option maxRecDepth 100000 in
set_option maxHeartbeats 1000000 in
theorem rright_none (k : Int) (wd sl cp sa ow : Int) (ia ra : Option Addr) (il ic rl rc : Nat) (w : World) (h : k < 1 ∨ 6 < k) :
    Calls Tryz.prog 12 #[.agg #[.int .i64 k, .int .i64 wd, .int .i64 sl, .int .i64 cp, .int .u32 sa, .slice ia il ic, .int .i64 ow, .slice ra rl rc]] w fun e w' => e = .returned (.bool false) ∧ Same w w' := by
  have b1 : (k == 1) = false := by rw [beq_eq_false_iff_ne]; omega
  have b2 : (k == 2) = false := by rw [beq_eq_false_iff_ne]; omega
  have b3 : (k == 3) = false := by rw [beq_eq_false_iff_ne]; omega
  have b4 : (k == 4) = false := by rw [beq_eq_false_iff_ne]; omega
  have b5 : (k == 5) = false := by rw [beq_eq_false_iff_ne]; omega
  have b6 : (k == 6) = false := by rw [beq_eq_false_iff_ne]; omega
  have b7 : (k != 6) = true := by rw [bne_iff_ne]; omega
  clear h
  go_enter Tryz.func12, Tryz.ntmps12
  go_wp2
  all_goals
    go_ret
    exact ⟨rfl, (Same.refl _).alloc _⟩
set_option maxRecDepth 100000 in
theorem rbound_none (k : Int) (wd sl cp sa ow : Int) (ia ra : Option Addr) (il ic rl rc : Nat) (op : Int) (w : World) (h : k < 1 ∨ 6 < k) :
    Calls Tryz.prog 21 #[.agg #[.int .i64 k, .int .i64 wd, .int .i64 sl, .int .i64 cp, .int .u32 sa, .slice ia il ic, .int .i64 ow, .slice ra rl rc], .int .i64 op] w fun e w' => e = .returned (.int .i64 0) ∧ Same w w' := by
  have HS0 := Lib.hid ((Same.refl w).alloc (.cells #[.int .i64 k, .int .i64 wd, .int .i64 sl, .int .i64 cp, .int .u32 sa, .slice ia il ic, .int .i64 ow, .slice ra rl rc] 26))
  have HR := Lib.hid (fun w' => rright_none k wd sl cp sa ow ia ra il ic rl rc w' h)
  clear h
  go_enter Tryz.func21, Tryz.ntmps21
  go_wp2_with fail
  refine (HR.out _).mono ?_
  rintro e w2 ⟨rfl, s2⟩
  go_wp2_with fail
  go_ret
  exact ⟨rfl, HS0.out.trans s2⟩
theorem shaped_any (k : Int) (wd sl cp sa ow : Int) (ia ra : Option Addr) (il ic rl rc : Nat) (w : World) (hsa : 0 ≤ sa ∧ sa < 4294967296) :
    Calls Tryz.prog 11 #[.agg #[.int .i64 k, .int .i64 wd, .int .i64 sl, .int .i64 cp, .int .u32 sa, .slice ia il ic, .int .i64 ow, .slice ra rl rc]] w fun e w' => e = .returned (.bool (rightF k wd sl cp sa il rl)) ∧ Same w w' := by
  by_cases h : k < 1 ∨ 6 < k
  · rw [right_none wd sl cp sa il rl h]
    exact shaped_none k wd sl cp sa ow ia ra il ic rl rc w h
  rcases (show k = 1 ∨ k = 2 ∨ k = 3 ∨ k = 4 ∨ k = 5 ∨ k = 6 by omega) with rfl | rfl | rfl | rfl | rfl | rfl
  · rw [right_1]; exact shaped_1 wd sl cp sa ow ia ra il ic rl rc w
  · rw [right_2]; exact shaped_2 wd sl cp sa ow ia ra il ic rl rc w
  · rw [right_3]; exact shaped_3 wd sl cp sa ow ia ra il ic rl rc w
  · rw [right_4]; exact shaped_4 wd sl cp sa ow ia ra il ic rl rc w
  · rw [right_5]; exact shaped_5 wd sl cp sa ow ia ra il ic rl rc w
  · rw [right_6]; exact shaped_6 wd sl cp sa ow ia ra il ic rl rc w
theorem rright_any (k : Int) (wd sl cp sa ow : Int) (ia ra : Option Addr) (il ic rl rc : Nat) (w : World) (hsa : 0 ≤ sa ∧ sa < 4294967296) :
    Calls Tryz.prog 12 #[.agg #[.int .i64 k, .int .i64 wd, .int .i64 sl, .int .i64 cp, .int .u32 sa, .slice ia il ic, .int .i64 ow, .slice ra rl rc]] w fun e w' => e = .returned (.bool (rightF k wd sl cp sa il rl)) ∧ Same w w' := by
  by_cases h : k < 1 ∨ 6 < k
  · rw [right_none wd sl cp sa il rl h]
    exact rright_none k wd sl cp sa ow ia ra il ic rl rc w h
  rcases (show k = 1 ∨ k = 2 ∨ k = 3 ∨ k = 4 ∨ k = 5 ∨ k = 6 by omega) with rfl | rfl | rfl | rfl | rfl | rfl
  · rw [right_1]; exact Kfo.rright_any wd sl cp sa ow ia ra il ic rl rc w
  · rw [right_2]; exact Kch.rright_any wd sl cp sa ow ia ra il ic rl rc w
  · rw [right_3]; exact Ksq.rright_any wd sl cp sa ow ia ra il ic rl rc w
  · rw [right_4]; exact Krg.rright_any wd sl cp sa ow ia ra il ic rl rc w
  · rw [right_5]; exact Kcb.rright_any wd sl cp sa ow ia ra il ic rl rc w
  · rw [right_6]; exact Kff.rright_any wd sl cp sa ow ia ra il ic rl rc w
theorem bound_any (k : Int) (wd sl cp sa ow : Int) (ia ra : Option Addr) (il ic rl rc : Nat) (op : Int) (w : World) (hsa : 0 ≤ sa ∧ sa < 4294967296) :
    Calls Tryz.prog 20 #[.agg #[.int .i64 k, .int .i64 wd, .int .i64 sl, .int .i64 cp, .int .u32 sa, .slice ia il ic, .int .i64 ow, .slice ra rl rc], .int .i64 op] w fun e w' => e = .returned (.int .i64 (boundF k wd sl cp sa il rl op)) ∧ Same w w' := by
  by_cases h : k < 1 ∨ 6 < k
  · rw [bound_none wd sl cp sa il rl op h]
    exact bound_of_none k wd sl cp sa ow ia ra il ic rl rc op w h
  rcases (show k = 1 ∨ k = 2 ∨ k = 3 ∨ k = 4 ∨ k = 5 ∨ k = 6 by omega) with rfl | rfl | rfl | rfl | rfl | rfl
  · exact bound_of_1 wd sl cp sa ow ia ra il ic rl rc op w
  · exact bound_of_2 wd sl cp sa ow ia ra il ic rl rc op w
  · exact bound_of_3 wd sl cp sa ow ia ra il ic rl rc op w
  · exact bound_of_4 wd sl cp sa ow ia ra il ic rl rc op w
  · exact bound_of_5 wd sl cp sa ow ia ra il ic rl rc op w
  · exact bound_of_6 wd sl cp sa ow ia ra il ic rl rc op w
theorem rbound_any (k : Int) (wd sl cp sa ow : Int) (ia ra : Option Addr) (il ic rl rc : Nat) (op : Int) (w : World) (hsa : 0 ≤ sa ∧ sa < 4294967296) :
    Calls Tryz.prog 21 #[.agg #[.int .i64 k, .int .i64 wd, .int .i64 sl, .int .i64 cp, .int .u32 sa, .slice ia il ic, .int .i64 ow, .slice ra rl rc], .int .i64 op] w fun e w' => e = .returned (.int .i64 (boundF k wd sl cp sa il rl op)) ∧ Same w w' := by
  by_cases h : k < 1 ∨ 6 < k
  · rw [bound_none wd sl cp sa il rl op h]
    exact rbound_none k wd sl cp sa ow ia ra il ic rl rc op w h
  rcases (show k = 1 ∨ k = 2 ∨ k = 3 ∨ k = 4 ∨ k = 5 ∨ k = 6 by omega) with rfl | rfl | rfl | rfl | rfl | rfl
  · exact rbnd_1 wd sl cp sa ow ia ra il ic rl rc op w
  · exact rbnd_2 wd sl cp sa ow ia ra il ic rl rc op w
  · exact rbnd_3 wd sl cp sa ow ia ra il ic rl rc op w
  · exact rbnd_4 wd sl cp sa ow ia ra il ic rl rc op w
  · exact rbnd_5 wd sl cp sa ow ia ra il ic rl rc op w
  · exact rbnd_6 wd sl cp sa ow ia ra il ic rl rc op w

end Go.Proofs.YtikjkmomokhanabGreat.Kfc

set_option linter.unusedVariables false
set_option linter.unusedSimpArgs false
namespace Go.Proofs.YtikjkmomokhanabGreat.Kfc
open Go.ChangeShapes Go.WideShapes Go.ChangeAt Go.RowKit Ws

def sizeF (k wd sl cp sa : Int) (il rl : Nat) : Int := if rightF k wd sl cp sa il rl = true then (if k = 1 then 4 + 4 * wd else if k = 2 then 1 + (rl : Int) + ((rl : Int) + 2) * wd else if k = 3 then 1 + wd else if k = 4 then 1 + sl * wd else if k = 5 then 1 + (rl : Int) + sl * wd else if k = 6 then 2 + sl * wd else 0) else 0
theorem size_1 (wd sl cp sa : Int) (il rl : Nat) : sizeF 1 wd sl cp sa il rl = if Kfo.rightB wd sl cp sa il rl = true then 4 + 4 * wd else 0 := by unfold sizeF; rw [right_1]; simp
theorem size_2 (wd sl cp sa : Int) (il rl : Nat) : sizeF 2 wd sl cp sa il rl = if Kch.rightB wd sl cp sa il rl = true then 1 + (rl : Int) + ((rl : Int) + 2) * wd else 0 := by unfold sizeF; rw [right_2]; simp
theorem size_3 (wd sl cp sa : Int) (il rl : Nat) : sizeF 3 wd sl cp sa il rl = if Ksq.rightB wd sl cp sa il rl = true then 1 + wd else 0 := by unfold sizeF; rw [right_3]; simp
theorem size_4 (wd sl cp sa : Int) (il rl : Nat) : sizeF 4 wd sl cp sa il rl = if Krg.rightB wd sl cp sa il rl = true then 1 + sl * wd else 0 := by unfold sizeF; rw [right_4]; simp
theorem size_5 (wd sl cp sa : Int) (il rl : Nat) : sizeF 5 wd sl cp sa il rl = if Kcb.rightB wd sl cp sa il rl = true then 1 + (rl : Int) + sl * wd else 0 := by unfold sizeF; rw [right_5]; simp
theorem size_6 (wd sl cp sa : Int) (il rl : Nat) : sizeF 6 wd sl cp sa il rl = if Kff.rightB wd sl cp sa il rl = true then 2 + sl * wd else 0 := by unfold sizeF; rw [right_6]; simp
theorem size_none0 {k : Int} (wd sl cp sa : Int) (il rl : Nat) (h : k < 1 ∨ 6 < k) : sizeF k wd sl cp sa il rl = 0 := by
  unfold sizeF
  rw [right_none wd sl cp sa il rl h, if_neg Bool.false_ne_true]
theorem sz_1 (wd sl cp sa ow : Int) (ia ra : Option Addr) (il ic rl rc : Nat) (w : World) :
    Calls Tryz.prog 64 #[.agg #[.int .i64 1, .int .i64 wd, .int .i64 sl, .int .i64 cp, .int .u32 sa, .slice ia il ic, .int .i64 ow, .slice ra rl rc]] w fun e w' => e = .returned (.int .i64 (sizeF 1 wd sl cp sa il rl)) ∧ Same w w' := by
  rw [size_1]
  cases h : Kfo.rightB wd sl cp sa il rl
  · rw [if_neg Bool.false_ne_true]
    exact Kfo.size_no wd sl cp sa ow ia ra il ic rl rc w h
  · rw [if_pos rfl]
    exact Kfo.size_yes wd sl cp sa ow ia ra il ic rl rc w h
theorem rsz_1 (wd sl cp sa ow : Int) (ia ra : Option Addr) (il ic rl rc : Nat) (w : World) :
    Calls Tryz.prog 16 #[.agg #[.int .i64 1, .int .i64 wd, .int .i64 sl, .int .i64 cp, .int .u32 sa, .slice ia il ic, .int .i64 ow, .slice ra rl rc]] w fun e w' => e = .returned (.int .i64 (sizeF 1 wd sl cp sa il rl)) ∧ Same w w' := by
  rw [size_1]
  cases h : Kfo.rightB wd sl cp sa il rl
  · rw [if_neg Bool.false_ne_true]
    exact Kfo.rsize_no wd sl cp sa ow ia ra il ic rl rc w h
  · rw [if_pos rfl]
    exact Kfo.rsize_yes wd sl cp sa ow ia ra il ic rl rc w h
set_option maxRecDepth 100000 in
theorem size_of_1 (wd sl cp sa ow : Int) (ia ra : Option Addr) (il ic rl rc : Nat) (w : World) :
    Calls Tryz.prog 15 #[.agg #[.int .i64 1, .int .i64 wd, .int .i64 sl, .int .i64 cp, .int .u32 sa, .slice ia il ic, .int .i64 ow, .slice ra rl rc]] w fun e w' => e = .returned (.int .i64 (sizeF 1 wd sl cp sa il rl)) ∧ Same w w' := by
  have HC := Lib.hid (fun w' => sz_1 wd sl cp sa ow ia ra il ic rl rc w')
  have hb0 := Blk.new w 26 #[.int .i64 1, .int .i64 wd, .int .i64 sl, .int .i64 cp, .int .u32 sa, .slice ia il ic, .int .i64 ow, .slice ra rl rc]
  have HS0 := Lib.hid ((Same.refl w).alloc (.cells #[.int .i64 1, .int .i64 wd, .int .i64 sl, .int .i64 cp, .int .u32 sa, .slice ia il ic, .int .i64 ow, .slice ra rl rc] 26))
  have HB0 := Lib.hid hb0
  clear hb0
  generalize sizeF 1 wd sl cp sa il rl = rb at *
  go_enter Tryz.func15, Tryz.ntmps15
  go_wp2_with fail
  refine (face_1 _).mono ?_
  rintro e w2 ⟨rfl, s2⟩
  have HZ := Lib.hid (Blk.new w2 70 #[.string ⟨#[]⟩, .nilFunc, .nilFunc, .nilFunc, .nilFunc])
  have HS2 := Lib.hid (HS0.out.trans s2)
  have hb2 := HB0.out.same s2
  have hlt := hb2.lt
  have hb3 := (hb2.same ((Same.refl w2).alloc (.cells #[.string ⟨#[]⟩, .nilFunc, .nilFunc, .nilFunc, .nilFunc] 70)))
  have HB := Lib.hid (Blk.chg hb3 (chg_setRow (Chg.refl (fun i => i = w2.heap.size) _) (.inl rfl) #[.string ⟨#[102, 111, 117, 114]⟩, .func (.func 63) #[] #[], .func (.func 64) #[] #[], .func (.func 65) #[] #[], .func (.func 66) #[] #[]]) (by omega))
  have HF := Lib.hid (row_blk (cs := #[.string ⟨#[102, 111, 117, 114]⟩, .func (.func 63) #[] #[], .func (.func 64) #[] #[], .func (.func 65) #[] #[], .func (.func 66) #[] #[]]) HZ.out)
  have HS3 := Lib.hid (show Same w ((w2.alloc (.cells #[.string ⟨#[]⟩, .nilFunc, .nilFunc, .nilFunc, .nilFunc] 70)).setRow w2.heap.size #[.string ⟨#[102, 111, 117, 114]⟩, .func (.func 63) #[] #[], .func (.func 64) #[] #[], .func (.func 65) #[] #[], .func (.func 66) #[] #[]]) from chg_setRow (HS2.out.alloc _) (.inr HS2.out.size) _)
  clear s2 hb2 hb3 hlt HB0 HS0
  have d0 : ((w2.alloc (.cells #[.string ⟨#[]⟩, .nilFunc, .nilFunc, .nilFunc, .nilFunc] 70)).setRow w2.heap.size #[.string ⟨#[102, 111, 117, 114]⟩, .func (.func 63) #[] #[], .func (.func 64) #[] #[], .func (.func 65) #[] #[], .func (.func 66) #[] #[]]).cell? ⟨w.heap.size, 0, none⟩ = some (.int .i64 1) := HB.out.cell 0
  have d1 : ((w2.alloc (.cells #[.string ⟨#[]⟩, .nilFunc, .nilFunc, .nilFunc, .nilFunc] 70)).setRow w2.heap.size #[.string ⟨#[102, 111, 117, 114]⟩, .func (.func 63) #[] #[], .func (.func 64) #[] #[], .func (.func 65) #[] #[], .func (.func 66) #[] #[]]).cell? ⟨w.heap.size, 1, none⟩ = some (.int .i64 wd) := HB.out.cell 1
  have d2 : ((w2.alloc (.cells #[.string ⟨#[]⟩, .nilFunc, .nilFunc, .nilFunc, .nilFunc] 70)).setRow w2.heap.size #[.string ⟨#[102, 111, 117, 114]⟩, .func (.func 63) #[] #[], .func (.func 64) #[] #[], .func (.func 65) #[] #[], .func (.func 66) #[] #[]]).cell? ⟨w.heap.size, 2, none⟩ = some (.int .i64 sl) := HB.out.cell 2
  have d3 : ((w2.alloc (.cells #[.string ⟨#[]⟩, .nilFunc, .nilFunc, .nilFunc, .nilFunc] 70)).setRow w2.heap.size #[.string ⟨#[102, 111, 117, 114]⟩, .func (.func 63) #[] #[], .func (.func 64) #[] #[], .func (.func 65) #[] #[], .func (.func 66) #[] #[]]).cell? ⟨w.heap.size, 3, none⟩ = some (.int .i64 cp) := HB.out.cell 3
  have d4 : ((w2.alloc (.cells #[.string ⟨#[]⟩, .nilFunc, .nilFunc, .nilFunc, .nilFunc] 70)).setRow w2.heap.size #[.string ⟨#[102, 111, 117, 114]⟩, .func (.func 63) #[] #[], .func (.func 64) #[] #[], .func (.func 65) #[] #[], .func (.func 66) #[] #[]]).cell? ⟨w.heap.size, 4, none⟩ = some (.int .u32 sa) := HB.out.cell 4
  have d5 : ((w2.alloc (.cells #[.string ⟨#[]⟩, .nilFunc, .nilFunc, .nilFunc, .nilFunc] 70)).setRow w2.heap.size #[.string ⟨#[102, 111, 117, 114]⟩, .func (.func 63) #[] #[], .func (.func 64) #[] #[], .func (.func 65) #[] #[], .func (.func 66) #[] #[]]).cell? ⟨w.heap.size, 5, none⟩ = some (.slice ia il ic) := HB.out.cell 5
  have d6 : ((w2.alloc (.cells #[.string ⟨#[]⟩, .nilFunc, .nilFunc, .nilFunc, .nilFunc] 70)).setRow w2.heap.size #[.string ⟨#[102, 111, 117, 114]⟩, .func (.func 63) #[] #[], .func (.func 64) #[] #[], .func (.func 65) #[] #[], .func (.func 66) #[] #[]]).cell? ⟨w.heap.size, 6, none⟩ = some (.int .i64 ow) := HB.out.cell 6
  have d7 : ((w2.alloc (.cells #[.string ⟨#[]⟩, .nilFunc, .nilFunc, .nilFunc, .nilFunc] 70)).setRow w2.heap.size #[.string ⟨#[102, 111, 117, 114]⟩, .func (.func 63) #[] #[], .func (.func 64) #[] #[], .func (.func 65) #[] #[], .func (.func 66) #[] #[]]).cell? ⟨w.heap.size, 7, none⟩ = some (.slice ra rl rc) := HB.out.cell 7
  have df : ((w2.alloc (.cells #[.string ⟨#[]⟩, .nilFunc, .nilFunc, .nilFunc, .nilFunc] 70)).setRow w2.heap.size #[.string ⟨#[102, 111, 117, 114]⟩, .func (.func 63) #[] #[], .func (.func 64) #[] #[], .func (.func 65) #[] #[], .func (.func 66) #[] #[]]).cell? ⟨w2.heap.size, 2, none⟩ = some (.func (.func 64) #[] #[]) := HF.out.cell 2
  go_wp2_with (refine wpList_store_row rfl 70 (.tmp 3) (.tmp 9) rfl w2.heap.size #[.string ⟨#[102, 111, 117, 114]⟩, .func (.func 63) #[] #[], .func (.func 64) #[] #[], .func (.func 65) #[] #[], .func (.func 66) #[] #[]] rfl rfl 70 #[.string ⟨#[]⟩, .nilFunc, .nilFunc, .nilFunc, .nilFunc] HZ.out face_size rfl one_1 ?_)
  refine (HC.out _).mono ?_
  rintro e w4 ⟨rfl, s4⟩
  go_wp2_with fail
  go_ret
  exact ⟨rfl, HS3.out.trans s4⟩
theorem sz_2 (wd sl cp sa ow : Int) (ia ra : Option Addr) (il ic rl rc : Nat) (w : World) (hsa : 0 ≤ sa ∧ sa < 4294967296 := by assumption) :
    Calls Tryz.prog 68 #[.agg #[.int .i64 2, .int .i64 wd, .int .i64 sl, .int .i64 cp, .int .u32 sa, .slice ia il ic, .int .i64 ow, .slice ra rl rc]] w fun e w' => e = .returned (.int .i64 (sizeF 2 wd sl cp sa il rl)) ∧ Same w w' := by
  rw [size_2]
  cases h : Kch.rightB wd sl cp sa il rl
  · rw [if_neg Bool.false_ne_true]
    exact Kch.size_no wd sl cp sa ow ia ra il ic rl rc w h
  · rw [if_pos rfl]
    exact Kch.size_yes wd sl cp sa ow ia ra il ic rl rc w h
theorem rsz_2 (wd sl cp sa ow : Int) (ia ra : Option Addr) (il ic rl rc : Nat) (w : World) (hsa : 0 ≤ sa ∧ sa < 4294967296 := by assumption) :
    Calls Tryz.prog 16 #[.agg #[.int .i64 2, .int .i64 wd, .int .i64 sl, .int .i64 cp, .int .u32 sa, .slice ia il ic, .int .i64 ow, .slice ra rl rc]] w fun e w' => e = .returned (.int .i64 (sizeF 2 wd sl cp sa il rl)) ∧ Same w w' := by
  rw [size_2]
  cases h : Kch.rightB wd sl cp sa il rl
  · rw [if_neg Bool.false_ne_true]
    exact Kch.rsize_no wd sl cp sa ow ia ra il ic rl rc w h
  · rw [if_pos rfl]
    exact Kch.rsize_yes wd sl cp sa ow ia ra il ic rl rc w h
set_option maxRecDepth 100000 in
theorem size_of_2 (wd sl cp sa ow : Int) (ia ra : Option Addr) (il ic rl rc : Nat) (w : World) (hsa : 0 ≤ sa ∧ sa < 4294967296 := by assumption) :
    Calls Tryz.prog 15 #[.agg #[.int .i64 2, .int .i64 wd, .int .i64 sl, .int .i64 cp, .int .u32 sa, .slice ia il ic, .int .i64 ow, .slice ra rl rc]] w fun e w' => e = .returned (.int .i64 (sizeF 2 wd sl cp sa il rl)) ∧ Same w w' := by
  have HC := Lib.hid (fun w' => sz_2 wd sl cp sa ow ia ra il ic rl rc w')
  have hb0 := Blk.new w 26 #[.int .i64 2, .int .i64 wd, .int .i64 sl, .int .i64 cp, .int .u32 sa, .slice ia il ic, .int .i64 ow, .slice ra rl rc]
  have HS0 := Lib.hid ((Same.refl w).alloc (.cells #[.int .i64 2, .int .i64 wd, .int .i64 sl, .int .i64 cp, .int .u32 sa, .slice ia il ic, .int .i64 ow, .slice ra rl rc] 26))
  have HB0 := Lib.hid hb0
  clear hb0
  generalize sizeF 2 wd sl cp sa il rl = rb at *
  go_enter Tryz.func15, Tryz.ntmps15
  go_wp2_with fail
  refine (face_2 _).mono ?_
  rintro e w2 ⟨rfl, s2⟩
  have HZ := Lib.hid (Blk.new w2 70 #[.string ⟨#[]⟩, .nilFunc, .nilFunc, .nilFunc, .nilFunc])
  have HS2 := Lib.hid (HS0.out.trans s2)
  have hb2 := HB0.out.same s2
  have hlt := hb2.lt
  have hb3 := (hb2.same ((Same.refl w2).alloc (.cells #[.string ⟨#[]⟩, .nilFunc, .nilFunc, .nilFunc, .nilFunc] 70)))
  have HB := Lib.hid (Blk.chg hb3 (chg_setRow (Chg.refl (fun i => i = w2.heap.size) _) (.inl rfl) #[.string ⟨#[99, 104, 101, 110]⟩, .func (.func 67) #[] #[], .func (.func 68) #[] #[], .func (.func 69) #[] #[], .func (.func 70) #[] #[]]) (by omega))
  have HF := Lib.hid (row_blk (cs := #[.string ⟨#[99, 104, 101, 110]⟩, .func (.func 67) #[] #[], .func (.func 68) #[] #[], .func (.func 69) #[] #[], .func (.func 70) #[] #[]]) HZ.out)
  have HS3 := Lib.hid (show Same w ((w2.alloc (.cells #[.string ⟨#[]⟩, .nilFunc, .nilFunc, .nilFunc, .nilFunc] 70)).setRow w2.heap.size #[.string ⟨#[99, 104, 101, 110]⟩, .func (.func 67) #[] #[], .func (.func 68) #[] #[], .func (.func 69) #[] #[], .func (.func 70) #[] #[]]) from chg_setRow (HS2.out.alloc _) (.inr HS2.out.size) _)
  clear s2 hb2 hb3 hlt HB0 HS0
  have d0 : ((w2.alloc (.cells #[.string ⟨#[]⟩, .nilFunc, .nilFunc, .nilFunc, .nilFunc] 70)).setRow w2.heap.size #[.string ⟨#[99, 104, 101, 110]⟩, .func (.func 67) #[] #[], .func (.func 68) #[] #[], .func (.func 69) #[] #[], .func (.func 70) #[] #[]]).cell? ⟨w.heap.size, 0, none⟩ = some (.int .i64 2) := HB.out.cell 0
  have d1 : ((w2.alloc (.cells #[.string ⟨#[]⟩, .nilFunc, .nilFunc, .nilFunc, .nilFunc] 70)).setRow w2.heap.size #[.string ⟨#[99, 104, 101, 110]⟩, .func (.func 67) #[] #[], .func (.func 68) #[] #[], .func (.func 69) #[] #[], .func (.func 70) #[] #[]]).cell? ⟨w.heap.size, 1, none⟩ = some (.int .i64 wd) := HB.out.cell 1
  have d2 : ((w2.alloc (.cells #[.string ⟨#[]⟩, .nilFunc, .nilFunc, .nilFunc, .nilFunc] 70)).setRow w2.heap.size #[.string ⟨#[99, 104, 101, 110]⟩, .func (.func 67) #[] #[], .func (.func 68) #[] #[], .func (.func 69) #[] #[], .func (.func 70) #[] #[]]).cell? ⟨w.heap.size, 2, none⟩ = some (.int .i64 sl) := HB.out.cell 2
  have d3 : ((w2.alloc (.cells #[.string ⟨#[]⟩, .nilFunc, .nilFunc, .nilFunc, .nilFunc] 70)).setRow w2.heap.size #[.string ⟨#[99, 104, 101, 110]⟩, .func (.func 67) #[] #[], .func (.func 68) #[] #[], .func (.func 69) #[] #[], .func (.func 70) #[] #[]]).cell? ⟨w.heap.size, 3, none⟩ = some (.int .i64 cp) := HB.out.cell 3
  have d4 : ((w2.alloc (.cells #[.string ⟨#[]⟩, .nilFunc, .nilFunc, .nilFunc, .nilFunc] 70)).setRow w2.heap.size #[.string ⟨#[99, 104, 101, 110]⟩, .func (.func 67) #[] #[], .func (.func 68) #[] #[], .func (.func 69) #[] #[], .func (.func 70) #[] #[]]).cell? ⟨w.heap.size, 4, none⟩ = some (.int .u32 sa) := HB.out.cell 4
  have d5 : ((w2.alloc (.cells #[.string ⟨#[]⟩, .nilFunc, .nilFunc, .nilFunc, .nilFunc] 70)).setRow w2.heap.size #[.string ⟨#[99, 104, 101, 110]⟩, .func (.func 67) #[] #[], .func (.func 68) #[] #[], .func (.func 69) #[] #[], .func (.func 70) #[] #[]]).cell? ⟨w.heap.size, 5, none⟩ = some (.slice ia il ic) := HB.out.cell 5
  have d6 : ((w2.alloc (.cells #[.string ⟨#[]⟩, .nilFunc, .nilFunc, .nilFunc, .nilFunc] 70)).setRow w2.heap.size #[.string ⟨#[99, 104, 101, 110]⟩, .func (.func 67) #[] #[], .func (.func 68) #[] #[], .func (.func 69) #[] #[], .func (.func 70) #[] #[]]).cell? ⟨w.heap.size, 6, none⟩ = some (.int .i64 ow) := HB.out.cell 6
  have d7 : ((w2.alloc (.cells #[.string ⟨#[]⟩, .nilFunc, .nilFunc, .nilFunc, .nilFunc] 70)).setRow w2.heap.size #[.string ⟨#[99, 104, 101, 110]⟩, .func (.func 67) #[] #[], .func (.func 68) #[] #[], .func (.func 69) #[] #[], .func (.func 70) #[] #[]]).cell? ⟨w.heap.size, 7, none⟩ = some (.slice ra rl rc) := HB.out.cell 7
  have df : ((w2.alloc (.cells #[.string ⟨#[]⟩, .nilFunc, .nilFunc, .nilFunc, .nilFunc] 70)).setRow w2.heap.size #[.string ⟨#[99, 104, 101, 110]⟩, .func (.func 67) #[] #[], .func (.func 68) #[] #[], .func (.func 69) #[] #[], .func (.func 70) #[] #[]]).cell? ⟨w2.heap.size, 2, none⟩ = some (.func (.func 68) #[] #[]) := HF.out.cell 2
  go_wp2_with (refine wpList_store_row rfl 70 (.tmp 3) (.tmp 9) rfl w2.heap.size #[.string ⟨#[99, 104, 101, 110]⟩, .func (.func 67) #[] #[], .func (.func 68) #[] #[], .func (.func 69) #[] #[], .func (.func 70) #[] #[]] rfl rfl 70 #[.string ⟨#[]⟩, .nilFunc, .nilFunc, .nilFunc, .nilFunc] HZ.out face_size rfl one_2 ?_)
  refine (HC.out _).mono ?_
  rintro e w4 ⟨rfl, s4⟩
  go_wp2_with fail
  go_ret
  exact ⟨rfl, HS3.out.trans s4⟩
theorem sz_3 (wd sl cp sa ow : Int) (ia ra : Option Addr) (il ic rl rc : Nat) (w : World) (hsa : 0 ≤ sa ∧ sa < 4294967296 := by assumption) :
    Calls Tryz.prog 72 #[.agg #[.int .i64 3, .int .i64 wd, .int .i64 sl, .int .i64 cp, .int .u32 sa, .slice ia il ic, .int .i64 ow, .slice ra rl rc]] w fun e w' => e = .returned (.int .i64 (sizeF 3 wd sl cp sa il rl)) ∧ Same w w' := by
  rw [size_3]
  cases h : Ksq.rightB wd sl cp sa il rl
  · rw [if_neg Bool.false_ne_true]
    exact Ksq.size_no wd sl cp sa ow ia ra il ic rl rc w h
  · rw [if_pos rfl]
    exact Ksq.size_yes wd sl cp sa ow ia ra il ic rl rc w h
theorem rsz_3 (wd sl cp sa ow : Int) (ia ra : Option Addr) (il ic rl rc : Nat) (w : World) (hsa : 0 ≤ sa ∧ sa < 4294967296 := by assumption) :
    Calls Tryz.prog 16 #[.agg #[.int .i64 3, .int .i64 wd, .int .i64 sl, .int .i64 cp, .int .u32 sa, .slice ia il ic, .int .i64 ow, .slice ra rl rc]] w fun e w' => e = .returned (.int .i64 (sizeF 3 wd sl cp sa il rl)) ∧ Same w w' := by
  rw [size_3]
  cases h : Ksq.rightB wd sl cp sa il rl
  · rw [if_neg Bool.false_ne_true]
    exact Ksq.rsize_no wd sl cp sa ow ia ra il ic rl rc w h
  · rw [if_pos rfl]
    exact Ksq.rsize_yes wd sl cp sa ow ia ra il ic rl rc w h
set_option maxRecDepth 100000 in
theorem size_of_3 (wd sl cp sa ow : Int) (ia ra : Option Addr) (il ic rl rc : Nat) (w : World) (hsa : 0 ≤ sa ∧ sa < 4294967296 := by assumption) :
    Calls Tryz.prog 15 #[.agg #[.int .i64 3, .int .i64 wd, .int .i64 sl, .int .i64 cp, .int .u32 sa, .slice ia il ic, .int .i64 ow, .slice ra rl rc]] w fun e w' => e = .returned (.int .i64 (sizeF 3 wd sl cp sa il rl)) ∧ Same w w' := by
  have HC := Lib.hid (fun w' => sz_3 wd sl cp sa ow ia ra il ic rl rc w')
  have hb0 := Blk.new w 26 #[.int .i64 3, .int .i64 wd, .int .i64 sl, .int .i64 cp, .int .u32 sa, .slice ia il ic, .int .i64 ow, .slice ra rl rc]
  have HS0 := Lib.hid ((Same.refl w).alloc (.cells #[.int .i64 3, .int .i64 wd, .int .i64 sl, .int .i64 cp, .int .u32 sa, .slice ia il ic, .int .i64 ow, .slice ra rl rc] 26))
  have HB0 := Lib.hid hb0
  clear hb0
  generalize sizeF 3 wd sl cp sa il rl = rb at *
  go_enter Tryz.func15, Tryz.ntmps15
  go_wp2_with fail
  refine (face_3 _).mono ?_
  rintro e w2 ⟨rfl, s2⟩
  have HZ := Lib.hid (Blk.new w2 70 #[.string ⟨#[]⟩, .nilFunc, .nilFunc, .nilFunc, .nilFunc])
  have HS2 := Lib.hid (HS0.out.trans s2)
  have hb2 := HB0.out.same s2
  have hlt := hb2.lt
  have hb3 := (hb2.same ((Same.refl w2).alloc (.cells #[.string ⟨#[]⟩, .nilFunc, .nilFunc, .nilFunc, .nilFunc] 70)))
  have HB := Lib.hid (Blk.chg hb3 (chg_setRow (Chg.refl (fun i => i = w2.heap.size) _) (.inl rfl) #[.string ⟨#[115, 101, 113]⟩, .func (.func 71) #[] #[], .func (.func 72) #[] #[], .func (.func 73) #[] #[], .func (.func 74) #[] #[]]) (by omega))
  have HF := Lib.hid (row_blk (cs := #[.string ⟨#[115, 101, 113]⟩, .func (.func 71) #[] #[], .func (.func 72) #[] #[], .func (.func 73) #[] #[], .func (.func 74) #[] #[]]) HZ.out)
  have HS3 := Lib.hid (show Same w ((w2.alloc (.cells #[.string ⟨#[]⟩, .nilFunc, .nilFunc, .nilFunc, .nilFunc] 70)).setRow w2.heap.size #[.string ⟨#[115, 101, 113]⟩, .func (.func 71) #[] #[], .func (.func 72) #[] #[], .func (.func 73) #[] #[], .func (.func 74) #[] #[]]) from chg_setRow (HS2.out.alloc _) (.inr HS2.out.size) _)
  clear s2 hb2 hb3 hlt HB0 HS0
  have d0 : ((w2.alloc (.cells #[.string ⟨#[]⟩, .nilFunc, .nilFunc, .nilFunc, .nilFunc] 70)).setRow w2.heap.size #[.string ⟨#[115, 101, 113]⟩, .func (.func 71) #[] #[], .func (.func 72) #[] #[], .func (.func 73) #[] #[], .func (.func 74) #[] #[]]).cell? ⟨w.heap.size, 0, none⟩ = some (.int .i64 3) := HB.out.cell 0
  have d1 : ((w2.alloc (.cells #[.string ⟨#[]⟩, .nilFunc, .nilFunc, .nilFunc, .nilFunc] 70)).setRow w2.heap.size #[.string ⟨#[115, 101, 113]⟩, .func (.func 71) #[] #[], .func (.func 72) #[] #[], .func (.func 73) #[] #[], .func (.func 74) #[] #[]]).cell? ⟨w.heap.size, 1, none⟩ = some (.int .i64 wd) := HB.out.cell 1
  have d2 : ((w2.alloc (.cells #[.string ⟨#[]⟩, .nilFunc, .nilFunc, .nilFunc, .nilFunc] 70)).setRow w2.heap.size #[.string ⟨#[115, 101, 113]⟩, .func (.func 71) #[] #[], .func (.func 72) #[] #[], .func (.func 73) #[] #[], .func (.func 74) #[] #[]]).cell? ⟨w.heap.size, 2, none⟩ = some (.int .i64 sl) := HB.out.cell 2
  have d3 : ((w2.alloc (.cells #[.string ⟨#[]⟩, .nilFunc, .nilFunc, .nilFunc, .nilFunc] 70)).setRow w2.heap.size #[.string ⟨#[115, 101, 113]⟩, .func (.func 71) #[] #[], .func (.func 72) #[] #[], .func (.func 73) #[] #[], .func (.func 74) #[] #[]]).cell? ⟨w.heap.size, 3, none⟩ = some (.int .i64 cp) := HB.out.cell 3
  have d4 : ((w2.alloc (.cells #[.string ⟨#[]⟩, .nilFunc, .nilFunc, .nilFunc, .nilFunc] 70)).setRow w2.heap.size #[.string ⟨#[115, 101, 113]⟩, .func (.func 71) #[] #[], .func (.func 72) #[] #[], .func (.func 73) #[] #[], .func (.func 74) #[] #[]]).cell? ⟨w.heap.size, 4, none⟩ = some (.int .u32 sa) := HB.out.cell 4
  have d5 : ((w2.alloc (.cells #[.string ⟨#[]⟩, .nilFunc, .nilFunc, .nilFunc, .nilFunc] 70)).setRow w2.heap.size #[.string ⟨#[115, 101, 113]⟩, .func (.func 71) #[] #[], .func (.func 72) #[] #[], .func (.func 73) #[] #[], .func (.func 74) #[] #[]]).cell? ⟨w.heap.size, 5, none⟩ = some (.slice ia il ic) := HB.out.cell 5
  have d6 : ((w2.alloc (.cells #[.string ⟨#[]⟩, .nilFunc, .nilFunc, .nilFunc, .nilFunc] 70)).setRow w2.heap.size #[.string ⟨#[115, 101, 113]⟩, .func (.func 71) #[] #[], .func (.func 72) #[] #[], .func (.func 73) #[] #[], .func (.func 74) #[] #[]]).cell? ⟨w.heap.size, 6, none⟩ = some (.int .i64 ow) := HB.out.cell 6
  have d7 : ((w2.alloc (.cells #[.string ⟨#[]⟩, .nilFunc, .nilFunc, .nilFunc, .nilFunc] 70)).setRow w2.heap.size #[.string ⟨#[115, 101, 113]⟩, .func (.func 71) #[] #[], .func (.func 72) #[] #[], .func (.func 73) #[] #[], .func (.func 74) #[] #[]]).cell? ⟨w.heap.size, 7, none⟩ = some (.slice ra rl rc) := HB.out.cell 7
  have df : ((w2.alloc (.cells #[.string ⟨#[]⟩, .nilFunc, .nilFunc, .nilFunc, .nilFunc] 70)).setRow w2.heap.size #[.string ⟨#[115, 101, 113]⟩, .func (.func 71) #[] #[], .func (.func 72) #[] #[], .func (.func 73) #[] #[], .func (.func 74) #[] #[]]).cell? ⟨w2.heap.size, 2, none⟩ = some (.func (.func 72) #[] #[]) := HF.out.cell 2
  go_wp2_with (refine wpList_store_row rfl 70 (.tmp 3) (.tmp 9) rfl w2.heap.size #[.string ⟨#[115, 101, 113]⟩, .func (.func 71) #[] #[], .func (.func 72) #[] #[], .func (.func 73) #[] #[], .func (.func 74) #[] #[]] rfl rfl 70 #[.string ⟨#[]⟩, .nilFunc, .nilFunc, .nilFunc, .nilFunc] HZ.out face_size rfl one_3 ?_)
  refine (HC.out _).mono ?_
  rintro e w4 ⟨rfl, s4⟩
  go_wp2_with fail
  go_ret
  exact ⟨rfl, HS3.out.trans s4⟩
theorem sz_4 (wd sl cp sa ow : Int) (ia ra : Option Addr) (il ic rl rc : Nat) (w : World) (hsa : 0 ≤ sa ∧ sa < 4294967296 := by assumption) :
    Calls Tryz.prog 76 #[.agg #[.int .i64 4, .int .i64 wd, .int .i64 sl, .int .i64 cp, .int .u32 sa, .slice ia il ic, .int .i64 ow, .slice ra rl rc]] w fun e w' => e = .returned (.int .i64 (sizeF 4 wd sl cp sa il rl)) ∧ Same w w' := by
  rw [size_4]
  cases h : Krg.rightB wd sl cp sa il rl
  · rw [if_neg Bool.false_ne_true]
    exact Krg.size_no wd sl cp sa ow ia ra il ic rl rc w h
  · rw [if_pos rfl]
    exact Krg.size_yes wd sl cp sa ow ia ra il ic rl rc w h
theorem rsz_4 (wd sl cp sa ow : Int) (ia ra : Option Addr) (il ic rl rc : Nat) (w : World) (hsa : 0 ≤ sa ∧ sa < 4294967296 := by assumption) :
    Calls Tryz.prog 16 #[.agg #[.int .i64 4, .int .i64 wd, .int .i64 sl, .int .i64 cp, .int .u32 sa, .slice ia il ic, .int .i64 ow, .slice ra rl rc]] w fun e w' => e = .returned (.int .i64 (sizeF 4 wd sl cp sa il rl)) ∧ Same w w' := by
  rw [size_4]
  cases h : Krg.rightB wd sl cp sa il rl
  · rw [if_neg Bool.false_ne_true]
    exact Krg.rsize_no wd sl cp sa ow ia ra il ic rl rc w h
  · rw [if_pos rfl]
    exact Krg.rsize_yes wd sl cp sa ow ia ra il ic rl rc w h
set_option maxRecDepth 100000 in
theorem size_of_4 (wd sl cp sa ow : Int) (ia ra : Option Addr) (il ic rl rc : Nat) (w : World) (hsa : 0 ≤ sa ∧ sa < 4294967296 := by assumption) :
    Calls Tryz.prog 15 #[.agg #[.int .i64 4, .int .i64 wd, .int .i64 sl, .int .i64 cp, .int .u32 sa, .slice ia il ic, .int .i64 ow, .slice ra rl rc]] w fun e w' => e = .returned (.int .i64 (sizeF 4 wd sl cp sa il rl)) ∧ Same w w' := by
  have HC := Lib.hid (fun w' => sz_4 wd sl cp sa ow ia ra il ic rl rc w')
  have hb0 := Blk.new w 26 #[.int .i64 4, .int .i64 wd, .int .i64 sl, .int .i64 cp, .int .u32 sa, .slice ia il ic, .int .i64 ow, .slice ra rl rc]
  have HS0 := Lib.hid ((Same.refl w).alloc (.cells #[.int .i64 4, .int .i64 wd, .int .i64 sl, .int .i64 cp, .int .u32 sa, .slice ia il ic, .int .i64 ow, .slice ra rl rc] 26))
  have HB0 := Lib.hid hb0
  clear hb0
  generalize sizeF 4 wd sl cp sa il rl = rb at *
  go_enter Tryz.func15, Tryz.ntmps15
  go_wp2_with fail
  refine (face_4 _).mono ?_
  rintro e w2 ⟨rfl, s2⟩
  have HZ := Lib.hid (Blk.new w2 70 #[.string ⟨#[]⟩, .nilFunc, .nilFunc, .nilFunc, .nilFunc])
  have HS2 := Lib.hid (HS0.out.trans s2)
  have hb2 := HB0.out.same s2
  have hlt := hb2.lt
  have hb3 := (hb2.same ((Same.refl w2).alloc (.cells #[.string ⟨#[]⟩, .nilFunc, .nilFunc, .nilFunc, .nilFunc] 70)))
  have HB := Lib.hid (Blk.chg hb3 (chg_setRow (Chg.refl (fun i => i = w2.heap.size) _) (.inl rfl) #[.string ⟨#[114, 105, 110, 103]⟩, .func (.func 75) #[] #[], .func (.func 76) #[] #[], .func (.func 77) #[] #[], .func (.func 78) #[] #[]]) (by omega))
  have HF := Lib.hid (row_blk (cs := #[.string ⟨#[114, 105, 110, 103]⟩, .func (.func 75) #[] #[], .func (.func 76) #[] #[], .func (.func 77) #[] #[], .func (.func 78) #[] #[]]) HZ.out)
  have HS3 := Lib.hid (show Same w ((w2.alloc (.cells #[.string ⟨#[]⟩, .nilFunc, .nilFunc, .nilFunc, .nilFunc] 70)).setRow w2.heap.size #[.string ⟨#[114, 105, 110, 103]⟩, .func (.func 75) #[] #[], .func (.func 76) #[] #[], .func (.func 77) #[] #[], .func (.func 78) #[] #[]]) from chg_setRow (HS2.out.alloc _) (.inr HS2.out.size) _)
  clear s2 hb2 hb3 hlt HB0 HS0
  have d0 : ((w2.alloc (.cells #[.string ⟨#[]⟩, .nilFunc, .nilFunc, .nilFunc, .nilFunc] 70)).setRow w2.heap.size #[.string ⟨#[114, 105, 110, 103]⟩, .func (.func 75) #[] #[], .func (.func 76) #[] #[], .func (.func 77) #[] #[], .func (.func 78) #[] #[]]).cell? ⟨w.heap.size, 0, none⟩ = some (.int .i64 4) := HB.out.cell 0
  have d1 : ((w2.alloc (.cells #[.string ⟨#[]⟩, .nilFunc, .nilFunc, .nilFunc, .nilFunc] 70)).setRow w2.heap.size #[.string ⟨#[114, 105, 110, 103]⟩, .func (.func 75) #[] #[], .func (.func 76) #[] #[], .func (.func 77) #[] #[], .func (.func 78) #[] #[]]).cell? ⟨w.heap.size, 1, none⟩ = some (.int .i64 wd) := HB.out.cell 1
  have d2 : ((w2.alloc (.cells #[.string ⟨#[]⟩, .nilFunc, .nilFunc, .nilFunc, .nilFunc] 70)).setRow w2.heap.size #[.string ⟨#[114, 105, 110, 103]⟩, .func (.func 75) #[] #[], .func (.func 76) #[] #[], .func (.func 77) #[] #[], .func (.func 78) #[] #[]]).cell? ⟨w.heap.size, 2, none⟩ = some (.int .i64 sl) := HB.out.cell 2
  have d3 : ((w2.alloc (.cells #[.string ⟨#[]⟩, .nilFunc, .nilFunc, .nilFunc, .nilFunc] 70)).setRow w2.heap.size #[.string ⟨#[114, 105, 110, 103]⟩, .func (.func 75) #[] #[], .func (.func 76) #[] #[], .func (.func 77) #[] #[], .func (.func 78) #[] #[]]).cell? ⟨w.heap.size, 3, none⟩ = some (.int .i64 cp) := HB.out.cell 3
  have d4 : ((w2.alloc (.cells #[.string ⟨#[]⟩, .nilFunc, .nilFunc, .nilFunc, .nilFunc] 70)).setRow w2.heap.size #[.string ⟨#[114, 105, 110, 103]⟩, .func (.func 75) #[] #[], .func (.func 76) #[] #[], .func (.func 77) #[] #[], .func (.func 78) #[] #[]]).cell? ⟨w.heap.size, 4, none⟩ = some (.int .u32 sa) := HB.out.cell 4
  have d5 : ((w2.alloc (.cells #[.string ⟨#[]⟩, .nilFunc, .nilFunc, .nilFunc, .nilFunc] 70)).setRow w2.heap.size #[.string ⟨#[114, 105, 110, 103]⟩, .func (.func 75) #[] #[], .func (.func 76) #[] #[], .func (.func 77) #[] #[], .func (.func 78) #[] #[]]).cell? ⟨w.heap.size, 5, none⟩ = some (.slice ia il ic) := HB.out.cell 5
  have d6 : ((w2.alloc (.cells #[.string ⟨#[]⟩, .nilFunc, .nilFunc, .nilFunc, .nilFunc] 70)).setRow w2.heap.size #[.string ⟨#[114, 105, 110, 103]⟩, .func (.func 75) #[] #[], .func (.func 76) #[] #[], .func (.func 77) #[] #[], .func (.func 78) #[] #[]]).cell? ⟨w.heap.size, 6, none⟩ = some (.int .i64 ow) := HB.out.cell 6
  have d7 : ((w2.alloc (.cells #[.string ⟨#[]⟩, .nilFunc, .nilFunc, .nilFunc, .nilFunc] 70)).setRow w2.heap.size #[.string ⟨#[114, 105, 110, 103]⟩, .func (.func 75) #[] #[], .func (.func 76) #[] #[], .func (.func 77) #[] #[], .func (.func 78) #[] #[]]).cell? ⟨w.heap.size, 7, none⟩ = some (.slice ra rl rc) := HB.out.cell 7
  have df : ((w2.alloc (.cells #[.string ⟨#[]⟩, .nilFunc, .nilFunc, .nilFunc, .nilFunc] 70)).setRow w2.heap.size #[.string ⟨#[114, 105, 110, 103]⟩, .func (.func 75) #[] #[], .func (.func 76) #[] #[], .func (.func 77) #[] #[], .func (.func 78) #[] #[]]).cell? ⟨w2.heap.size, 2, none⟩ = some (.func (.func 76) #[] #[]) := HF.out.cell 2
  go_wp2_with (refine wpList_store_row rfl 70 (.tmp 3) (.tmp 9) rfl w2.heap.size #[.string ⟨#[114, 105, 110, 103]⟩, .func (.func 75) #[] #[], .func (.func 76) #[] #[], .func (.func 77) #[] #[], .func (.func 78) #[] #[]] rfl rfl 70 #[.string ⟨#[]⟩, .nilFunc, .nilFunc, .nilFunc, .nilFunc] HZ.out face_size rfl one_4 ?_)
  refine (HC.out _).mono ?_
  rintro e w4 ⟨rfl, s4⟩
  go_wp2_with fail
  go_ret
  exact ⟨rfl, HS3.out.trans s4⟩
theorem sz_5 (wd sl cp sa ow : Int) (ia ra : Option Addr) (il ic rl rc : Nat) (w : World) (hsa : 0 ≤ sa ∧ sa < 4294967296 := by assumption) :
    Calls Tryz.prog 80 #[.agg #[.int .i64 5, .int .i64 wd, .int .i64 sl, .int .i64 cp, .int .u32 sa, .slice ia il ic, .int .i64 ow, .slice ra rl rc]] w fun e w' => e = .returned (.int .i64 (sizeF 5 wd sl cp sa il rl)) ∧ Same w w' := by
  rw [size_5]
  cases h : Kcb.rightB wd sl cp sa il rl
  · rw [if_neg Bool.false_ne_true]
    exact Kcb.size_no wd sl cp sa ow ia ra il ic rl rc w h
  · rw [if_pos rfl]
    exact Kcb.size_yes wd sl cp sa ow ia ra il ic rl rc w h
theorem rsz_5 (wd sl cp sa ow : Int) (ia ra : Option Addr) (il ic rl rc : Nat) (w : World) (hsa : 0 ≤ sa ∧ sa < 4294967296 := by assumption) :
    Calls Tryz.prog 16 #[.agg #[.int .i64 5, .int .i64 wd, .int .i64 sl, .int .i64 cp, .int .u32 sa, .slice ia il ic, .int .i64 ow, .slice ra rl rc]] w fun e w' => e = .returned (.int .i64 (sizeF 5 wd sl cp sa il rl)) ∧ Same w w' := by
  rw [size_5]
  cases h : Kcb.rightB wd sl cp sa il rl
  · rw [if_neg Bool.false_ne_true]
    exact Kcb.rsize_no wd sl cp sa ow ia ra il ic rl rc w h
  · rw [if_pos rfl]
    exact Kcb.rsize_yes wd sl cp sa ow ia ra il ic rl rc w h
set_option maxRecDepth 100000 in
theorem size_of_5 (wd sl cp sa ow : Int) (ia ra : Option Addr) (il ic rl rc : Nat) (w : World) (hsa : 0 ≤ sa ∧ sa < 4294967296 := by assumption) :
    Calls Tryz.prog 15 #[.agg #[.int .i64 5, .int .i64 wd, .int .i64 sl, .int .i64 cp, .int .u32 sa, .slice ia il ic, .int .i64 ow, .slice ra rl rc]] w fun e w' => e = .returned (.int .i64 (sizeF 5 wd sl cp sa il rl)) ∧ Same w w' := by
  have HC := Lib.hid (fun w' => sz_5 wd sl cp sa ow ia ra il ic rl rc w')
  have hb0 := Blk.new w 26 #[.int .i64 5, .int .i64 wd, .int .i64 sl, .int .i64 cp, .int .u32 sa, .slice ia il ic, .int .i64 ow, .slice ra rl rc]
  have HS0 := Lib.hid ((Same.refl w).alloc (.cells #[.int .i64 5, .int .i64 wd, .int .i64 sl, .int .i64 cp, .int .u32 sa, .slice ia il ic, .int .i64 ow, .slice ra rl rc] 26))
  have HB0 := Lib.hid hb0
  clear hb0
  generalize sizeF 5 wd sl cp sa il rl = rb at *
  go_enter Tryz.func15, Tryz.ntmps15
  go_wp2_with fail
  refine (face_5 _).mono ?_
  rintro e w2 ⟨rfl, s2⟩
  have HZ := Lib.hid (Blk.new w2 70 #[.string ⟨#[]⟩, .nilFunc, .nilFunc, .nilFunc, .nilFunc])
  have HS2 := Lib.hid (HS0.out.trans s2)
  have hb2 := HB0.out.same s2
  have hlt := hb2.lt
  have hb3 := (hb2.same ((Same.refl w2).alloc (.cells #[.string ⟨#[]⟩, .nilFunc, .nilFunc, .nilFunc, .nilFunc] 70)))
  have HB := Lib.hid (Blk.chg hb3 (chg_setRow (Chg.refl (fun i => i = w2.heap.size) _) (.inl rfl) #[.string ⟨#[99, 97, 98]⟩, .func (.func 79) #[] #[], .func (.func 80) #[] #[], .func (.func 81) #[] #[], .func (.func 82) #[] #[]]) (by omega))
  have HF := Lib.hid (row_blk (cs := #[.string ⟨#[99, 97, 98]⟩, .func (.func 79) #[] #[], .func (.func 80) #[] #[], .func (.func 81) #[] #[], .func (.func 82) #[] #[]]) HZ.out)
  have HS3 := Lib.hid (show Same w ((w2.alloc (.cells #[.string ⟨#[]⟩, .nilFunc, .nilFunc, .nilFunc, .nilFunc] 70)).setRow w2.heap.size #[.string ⟨#[99, 97, 98]⟩, .func (.func 79) #[] #[], .func (.func 80) #[] #[], .func (.func 81) #[] #[], .func (.func 82) #[] #[]]) from chg_setRow (HS2.out.alloc _) (.inr HS2.out.size) _)
  clear s2 hb2 hb3 hlt HB0 HS0
  have d0 : ((w2.alloc (.cells #[.string ⟨#[]⟩, .nilFunc, .nilFunc, .nilFunc, .nilFunc] 70)).setRow w2.heap.size #[.string ⟨#[99, 97, 98]⟩, .func (.func 79) #[] #[], .func (.func 80) #[] #[], .func (.func 81) #[] #[], .func (.func 82) #[] #[]]).cell? ⟨w.heap.size, 0, none⟩ = some (.int .i64 5) := HB.out.cell 0
  have d1 : ((w2.alloc (.cells #[.string ⟨#[]⟩, .nilFunc, .nilFunc, .nilFunc, .nilFunc] 70)).setRow w2.heap.size #[.string ⟨#[99, 97, 98]⟩, .func (.func 79) #[] #[], .func (.func 80) #[] #[], .func (.func 81) #[] #[], .func (.func 82) #[] #[]]).cell? ⟨w.heap.size, 1, none⟩ = some (.int .i64 wd) := HB.out.cell 1
  have d2 : ((w2.alloc (.cells #[.string ⟨#[]⟩, .nilFunc, .nilFunc, .nilFunc, .nilFunc] 70)).setRow w2.heap.size #[.string ⟨#[99, 97, 98]⟩, .func (.func 79) #[] #[], .func (.func 80) #[] #[], .func (.func 81) #[] #[], .func (.func 82) #[] #[]]).cell? ⟨w.heap.size, 2, none⟩ = some (.int .i64 sl) := HB.out.cell 2
  have d3 : ((w2.alloc (.cells #[.string ⟨#[]⟩, .nilFunc, .nilFunc, .nilFunc, .nilFunc] 70)).setRow w2.heap.size #[.string ⟨#[99, 97, 98]⟩, .func (.func 79) #[] #[], .func (.func 80) #[] #[], .func (.func 81) #[] #[], .func (.func 82) #[] #[]]).cell? ⟨w.heap.size, 3, none⟩ = some (.int .i64 cp) := HB.out.cell 3
  have d4 : ((w2.alloc (.cells #[.string ⟨#[]⟩, .nilFunc, .nilFunc, .nilFunc, .nilFunc] 70)).setRow w2.heap.size #[.string ⟨#[99, 97, 98]⟩, .func (.func 79) #[] #[], .func (.func 80) #[] #[], .func (.func 81) #[] #[], .func (.func 82) #[] #[]]).cell? ⟨w.heap.size, 4, none⟩ = some (.int .u32 sa) := HB.out.cell 4
  have d5 : ((w2.alloc (.cells #[.string ⟨#[]⟩, .nilFunc, .nilFunc, .nilFunc, .nilFunc] 70)).setRow w2.heap.size #[.string ⟨#[99, 97, 98]⟩, .func (.func 79) #[] #[], .func (.func 80) #[] #[], .func (.func 81) #[] #[], .func (.func 82) #[] #[]]).cell? ⟨w.heap.size, 5, none⟩ = some (.slice ia il ic) := HB.out.cell 5
  have d6 : ((w2.alloc (.cells #[.string ⟨#[]⟩, .nilFunc, .nilFunc, .nilFunc, .nilFunc] 70)).setRow w2.heap.size #[.string ⟨#[99, 97, 98]⟩, .func (.func 79) #[] #[], .func (.func 80) #[] #[], .func (.func 81) #[] #[], .func (.func 82) #[] #[]]).cell? ⟨w.heap.size, 6, none⟩ = some (.int .i64 ow) := HB.out.cell 6
  have d7 : ((w2.alloc (.cells #[.string ⟨#[]⟩, .nilFunc, .nilFunc, .nilFunc, .nilFunc] 70)).setRow w2.heap.size #[.string ⟨#[99, 97, 98]⟩, .func (.func 79) #[] #[], .func (.func 80) #[] #[], .func (.func 81) #[] #[], .func (.func 82) #[] #[]]).cell? ⟨w.heap.size, 7, none⟩ = some (.slice ra rl rc) := HB.out.cell 7
  have df : ((w2.alloc (.cells #[.string ⟨#[]⟩, .nilFunc, .nilFunc, .nilFunc, .nilFunc] 70)).setRow w2.heap.size #[.string ⟨#[99, 97, 98]⟩, .func (.func 79) #[] #[], .func (.func 80) #[] #[], .func (.func 81) #[] #[], .func (.func 82) #[] #[]]).cell? ⟨w2.heap.size, 2, none⟩ = some (.func (.func 80) #[] #[]) := HF.out.cell 2
  go_wp2_with (refine wpList_store_row rfl 70 (.tmp 3) (.tmp 9) rfl w2.heap.size #[.string ⟨#[99, 97, 98]⟩, .func (.func 79) #[] #[], .func (.func 80) #[] #[], .func (.func 81) #[] #[], .func (.func 82) #[] #[]] rfl rfl 70 #[.string ⟨#[]⟩, .nilFunc, .nilFunc, .nilFunc, .nilFunc] HZ.out face_size rfl one_5 ?_)
  refine (HC.out _).mono ?_
  rintro e w4 ⟨rfl, s4⟩
  go_wp2_with fail
  go_ret
  exact ⟨rfl, HS3.out.trans s4⟩
theorem sz_6 (wd sl cp sa ow : Int) (ia ra : Option Addr) (il ic rl rc : Nat) (w : World) (hsa : 0 ≤ sa ∧ sa < 4294967296 := by assumption) :
    Calls Tryz.prog 84 #[.agg #[.int .i64 6, .int .i64 wd, .int .i64 sl, .int .i64 cp, .int .u32 sa, .slice ia il ic, .int .i64 ow, .slice ra rl rc]] w fun e w' => e = .returned (.int .i64 (sizeF 6 wd sl cp sa il rl)) ∧ Same w w' := by
  rw [size_6]
  cases h : Kff.rightB wd sl cp sa il rl
  · rw [if_neg Bool.false_ne_true]
    exact Kff.size_no wd sl cp sa ow ia ra il ic rl rc w h
  · rw [if_pos rfl]
    exact Kff.size_yes wd sl cp sa ow ia ra il ic rl rc w h
theorem rsz_6 (wd sl cp sa ow : Int) (ia ra : Option Addr) (il ic rl rc : Nat) (w : World) (hsa : 0 ≤ sa ∧ sa < 4294967296 := by assumption) :
    Calls Tryz.prog 16 #[.agg #[.int .i64 6, .int .i64 wd, .int .i64 sl, .int .i64 cp, .int .u32 sa, .slice ia il ic, .int .i64 ow, .slice ra rl rc]] w fun e w' => e = .returned (.int .i64 (sizeF 6 wd sl cp sa il rl)) ∧ Same w w' := by
  rw [size_6]
  cases h : Kff.rightB wd sl cp sa il rl
  · rw [if_neg Bool.false_ne_true]
    exact Kff.rsize_no wd sl cp sa ow ia ra il ic rl rc w h
  · rw [if_pos rfl]
    exact Kff.rsize_yes wd sl cp sa ow ia ra il ic rl rc w h
set_option maxRecDepth 100000 in
theorem size_of_6 (wd sl cp sa ow : Int) (ia ra : Option Addr) (il ic rl rc : Nat) (w : World) (hsa : 0 ≤ sa ∧ sa < 4294967296 := by assumption) :
    Calls Tryz.prog 15 #[.agg #[.int .i64 6, .int .i64 wd, .int .i64 sl, .int .i64 cp, .int .u32 sa, .slice ia il ic, .int .i64 ow, .slice ra rl rc]] w fun e w' => e = .returned (.int .i64 (sizeF 6 wd sl cp sa il rl)) ∧ Same w w' := by
  have HC := Lib.hid (fun w' => sz_6 wd sl cp sa ow ia ra il ic rl rc w')
  have hb0 := Blk.new w 26 #[.int .i64 6, .int .i64 wd, .int .i64 sl, .int .i64 cp, .int .u32 sa, .slice ia il ic, .int .i64 ow, .slice ra rl rc]
  have HS0 := Lib.hid ((Same.refl w).alloc (.cells #[.int .i64 6, .int .i64 wd, .int .i64 sl, .int .i64 cp, .int .u32 sa, .slice ia il ic, .int .i64 ow, .slice ra rl rc] 26))
  have HB0 := Lib.hid hb0
  clear hb0
  generalize sizeF 6 wd sl cp sa il rl = rb at *
  go_enter Tryz.func15, Tryz.ntmps15
  go_wp2_with fail
  refine (face_6 _).mono ?_
  rintro e w2 ⟨rfl, s2⟩
  have HZ := Lib.hid (Blk.new w2 70 #[.string ⟨#[]⟩, .nilFunc, .nilFunc, .nilFunc, .nilFunc])
  have HS2 := Lib.hid (HS0.out.trans s2)
  have hb2 := HB0.out.same s2
  have hlt := hb2.lt
  have hb3 := (hb2.same ((Same.refl w2).alloc (.cells #[.string ⟨#[]⟩, .nilFunc, .nilFunc, .nilFunc, .nilFunc] 70)))
  have HB := Lib.hid (Blk.chg hb3 (chg_setRow (Chg.refl (fun i => i = w2.heap.size) _) (.inl rfl) #[.string ⟨#[102, 105, 102, 111]⟩, .func (.func 83) #[] #[], .func (.func 84) #[] #[], .func (.func 85) #[] #[], .func (.func 86) #[] #[]]) (by omega))
  have HF := Lib.hid (row_blk (cs := #[.string ⟨#[102, 105, 102, 111]⟩, .func (.func 83) #[] #[], .func (.func 84) #[] #[], .func (.func 85) #[] #[], .func (.func 86) #[] #[]]) HZ.out)
  have HS3 := Lib.hid (show Same w ((w2.alloc (.cells #[.string ⟨#[]⟩, .nilFunc, .nilFunc, .nilFunc, .nilFunc] 70)).setRow w2.heap.size #[.string ⟨#[102, 105, 102, 111]⟩, .func (.func 83) #[] #[], .func (.func 84) #[] #[], .func (.func 85) #[] #[], .func (.func 86) #[] #[]]) from chg_setRow (HS2.out.alloc _) (.inr HS2.out.size) _)
  clear s2 hb2 hb3 hlt HB0 HS0
  have d0 : ((w2.alloc (.cells #[.string ⟨#[]⟩, .nilFunc, .nilFunc, .nilFunc, .nilFunc] 70)).setRow w2.heap.size #[.string ⟨#[102, 105, 102, 111]⟩, .func (.func 83) #[] #[], .func (.func 84) #[] #[], .func (.func 85) #[] #[], .func (.func 86) #[] #[]]).cell? ⟨w.heap.size, 0, none⟩ = some (.int .i64 6) := HB.out.cell 0
  have d1 : ((w2.alloc (.cells #[.string ⟨#[]⟩, .nilFunc, .nilFunc, .nilFunc, .nilFunc] 70)).setRow w2.heap.size #[.string ⟨#[102, 105, 102, 111]⟩, .func (.func 83) #[] #[], .func (.func 84) #[] #[], .func (.func 85) #[] #[], .func (.func 86) #[] #[]]).cell? ⟨w.heap.size, 1, none⟩ = some (.int .i64 wd) := HB.out.cell 1
  have d2 : ((w2.alloc (.cells #[.string ⟨#[]⟩, .nilFunc, .nilFunc, .nilFunc, .nilFunc] 70)).setRow w2.heap.size #[.string ⟨#[102, 105, 102, 111]⟩, .func (.func 83) #[] #[], .func (.func 84) #[] #[], .func (.func 85) #[] #[], .func (.func 86) #[] #[]]).cell? ⟨w.heap.size, 2, none⟩ = some (.int .i64 sl) := HB.out.cell 2
  have d3 : ((w2.alloc (.cells #[.string ⟨#[]⟩, .nilFunc, .nilFunc, .nilFunc, .nilFunc] 70)).setRow w2.heap.size #[.string ⟨#[102, 105, 102, 111]⟩, .func (.func 83) #[] #[], .func (.func 84) #[] #[], .func (.func 85) #[] #[], .func (.func 86) #[] #[]]).cell? ⟨w.heap.size, 3, none⟩ = some (.int .i64 cp) := HB.out.cell 3
  have d4 : ((w2.alloc (.cells #[.string ⟨#[]⟩, .nilFunc, .nilFunc, .nilFunc, .nilFunc] 70)).setRow w2.heap.size #[.string ⟨#[102, 105, 102, 111]⟩, .func (.func 83) #[] #[], .func (.func 84) #[] #[], .func (.func 85) #[] #[], .func (.func 86) #[] #[]]).cell? ⟨w.heap.size, 4, none⟩ = some (.int .u32 sa) := HB.out.cell 4
  have d5 : ((w2.alloc (.cells #[.string ⟨#[]⟩, .nilFunc, .nilFunc, .nilFunc, .nilFunc] 70)).setRow w2.heap.size #[.string ⟨#[102, 105, 102, 111]⟩, .func (.func 83) #[] #[], .func (.func 84) #[] #[], .func (.func 85) #[] #[], .func (.func 86) #[] #[]]).cell? ⟨w.heap.size, 5, none⟩ = some (.slice ia il ic) := HB.out.cell 5
  have d6 : ((w2.alloc (.cells #[.string ⟨#[]⟩, .nilFunc, .nilFunc, .nilFunc, .nilFunc] 70)).setRow w2.heap.size #[.string ⟨#[102, 105, 102, 111]⟩, .func (.func 83) #[] #[], .func (.func 84) #[] #[], .func (.func 85) #[] #[], .func (.func 86) #[] #[]]).cell? ⟨w.heap.size, 6, none⟩ = some (.int .i64 ow) := HB.out.cell 6
  have d7 : ((w2.alloc (.cells #[.string ⟨#[]⟩, .nilFunc, .nilFunc, .nilFunc, .nilFunc] 70)).setRow w2.heap.size #[.string ⟨#[102, 105, 102, 111]⟩, .func (.func 83) #[] #[], .func (.func 84) #[] #[], .func (.func 85) #[] #[], .func (.func 86) #[] #[]]).cell? ⟨w.heap.size, 7, none⟩ = some (.slice ra rl rc) := HB.out.cell 7
  have df : ((w2.alloc (.cells #[.string ⟨#[]⟩, .nilFunc, .nilFunc, .nilFunc, .nilFunc] 70)).setRow w2.heap.size #[.string ⟨#[102, 105, 102, 111]⟩, .func (.func 83) #[] #[], .func (.func 84) #[] #[], .func (.func 85) #[] #[], .func (.func 86) #[] #[]]).cell? ⟨w2.heap.size, 2, none⟩ = some (.func (.func 84) #[] #[]) := HF.out.cell 2
  go_wp2_with (refine wpList_store_row rfl 70 (.tmp 3) (.tmp 9) rfl w2.heap.size #[.string ⟨#[102, 105, 102, 111]⟩, .func (.func 83) #[] #[], .func (.func 84) #[] #[], .func (.func 85) #[] #[], .func (.func 86) #[] #[]] rfl rfl 70 #[.string ⟨#[]⟩, .nilFunc, .nilFunc, .nilFunc, .nilFunc] HZ.out face_size rfl one_6 ?_)
  refine (HC.out _).mono ?_
  rintro e w4 ⟨rfl, s4⟩
  go_wp2_with fail
  go_ret
  exact ⟨rfl, HS3.out.trans s4⟩
set_option maxRecDepth 100000 in
theorem size_of_none (k : Int) (wd sl cp sa ow : Int) (ia ra : Option Addr) (il ic rl rc : Nat) (w : World) (h : k < 1 ∨ 6 < k) :
    Calls Tryz.prog 15 #[.agg #[.int .i64 k, .int .i64 wd, .int .i64 sl, .int .i64 cp, .int .u32 sa, .slice ia il ic, .int .i64 ow, .slice ra rl rc]] w fun e w' => e = .returned (.int .i64 0) ∧ Same w w' := by
  have hb0 := Blk.new w 26 #[.int .i64 k, .int .i64 wd, .int .i64 sl, .int .i64 cp, .int .u32 sa, .slice ia il ic, .int .i64 ow, .slice ra rl rc]
  have HS0 := Lib.hid ((Same.refl w).alloc (.cells #[.int .i64 k, .int .i64 wd, .int .i64 sl, .int .i64 cp, .int .u32 sa, .slice ia il ic, .int .i64 ow, .slice ra rl rc] 26))
  have d0 := hb0.cell 0
  have HFN := Lib.hid (fun w' => face_none k h w')
  clear hb0 h
  go_enter Tryz.func15, Tryz.ntmps15
  go_wp2_with fail
  refine (HFN.out _).mono ?_
  rintro e w2 ⟨rfl, s2⟩
  have HZ := Lib.hid (Blk.new w2 70 #[.string ⟨#[]⟩, .nilFunc, .nilFunc, .nilFunc, .nilFunc])
  have HS2 := Lib.hid (HS0.out.trans s2)
  have HS3 := Lib.hid (show Same w ((w2.alloc (.cells #[.string ⟨#[]⟩, .nilFunc, .nilFunc, .nilFunc, .nilFunc] 70)).setRow w2.heap.size #[.string ⟨#[]⟩, .nilFunc, .nilFunc, .nilFunc, .nilFunc]) from chg_setRow (HS2.out.alloc _) (.inr HS2.out.size) _)
  clear s2 HS0
  go_wp2_with (refine wpList_store_row rfl 70 (.tmp 3) (.tmp 9) rfl w2.heap.size #[.string ⟨#[]⟩, .nilFunc, .nilFunc, .nilFunc, .nilFunc] rfl rfl 70 #[.string ⟨#[]⟩, .nilFunc, .nilFunc, .nilFunc, .nilFunc] HZ.out face_size rfl one_0 ?_)
  go_ret
  exact ⟨rfl, HS3.out⟩
set_option maxRecDepth 100000 in
theorem rsize_none0 (k : Int) (wd sl cp sa ow : Int) (ia ra : Option Addr) (il ic rl rc : Nat) (w : World) (h : k < 1 ∨ 6 < k) :
    Calls Tryz.prog 16 #[.agg #[.int .i64 k, .int .i64 wd, .int .i64 sl, .int .i64 cp, .int .u32 sa, .slice ia il ic, .int .i64 ow, .slice ra rl rc]] w fun e w' => e = .returned (.int .i64 0) ∧ Same w w' := by
  have HS0 := Lib.hid ((Same.refl w).alloc (.cells #[.int .i64 k, .int .i64 wd, .int .i64 sl, .int .i64 cp, .int .u32 sa, .slice ia il ic, .int .i64 ow, .slice ra rl rc] 26))
  have HR := Lib.hid (fun w' => rright_none k wd sl cp sa ow ia ra il ic rl rc w' h)
  clear h
  go_enter Tryz.func16, Tryz.ntmps16
  go_wp2_with fail
  refine (HR.out _).mono ?_
  rintro e w2 ⟨rfl, s2⟩
  go_wp2_with fail
  go_ret
  exact ⟨rfl, HS0.out.trans s2⟩
theorem size_any (k : Int) (wd sl cp sa ow : Int) (ia ra : Option Addr) (il ic rl rc : Nat) (w : World) (hsa : 0 ≤ sa ∧ sa < 4294967296) :
    Calls Tryz.prog 15 #[.agg #[.int .i64 k, .int .i64 wd, .int .i64 sl, .int .i64 cp, .int .u32 sa, .slice ia il ic, .int .i64 ow, .slice ra rl rc]] w fun e w' => e = .returned (.int .i64 (sizeF k wd sl cp sa il rl)) ∧ Same w w' := by
  by_cases h : k < 1 ∨ 6 < k
  · rw [size_none0 wd sl cp sa il rl h]
    exact size_of_none k wd sl cp sa ow ia ra il ic rl rc w h
  rcases (show k = 1 ∨ k = 2 ∨ k = 3 ∨ k = 4 ∨ k = 5 ∨ k = 6 by omega) with rfl | rfl | rfl | rfl | rfl | rfl
  · exact size_of_1 wd sl cp sa ow ia ra il ic rl rc w
  · exact size_of_2 wd sl cp sa ow ia ra il ic rl rc w
  · exact size_of_3 wd sl cp sa ow ia ra il ic rl rc w
  · exact size_of_4 wd sl cp sa ow ia ra il ic rl rc w
  · exact size_of_5 wd sl cp sa ow ia ra il ic rl rc w
  · exact size_of_6 wd sl cp sa ow ia ra il ic rl rc w
theorem rsize_any (k : Int) (wd sl cp sa ow : Int) (ia ra : Option Addr) (il ic rl rc : Nat) (w : World) (hsa : 0 ≤ sa ∧ sa < 4294967296) :
    Calls Tryz.prog 16 #[.agg #[.int .i64 k, .int .i64 wd, .int .i64 sl, .int .i64 cp, .int .u32 sa, .slice ia il ic, .int .i64 ow, .slice ra rl rc]] w fun e w' => e = .returned (.int .i64 (sizeF k wd sl cp sa il rl)) ∧ Same w w' := by
  by_cases h : k < 1 ∨ 6 < k
  · rw [size_none0 wd sl cp sa il rl h]
    exact rsize_none0 k wd sl cp sa ow ia ra il ic rl rc w h
  rcases (show k = 1 ∨ k = 2 ∨ k = 3 ∨ k = 4 ∨ k = 5 ∨ k = 6 by omega) with rfl | rfl | rfl | rfl | rfl | rfl
  · exact rsz_1 wd sl cp sa ow ia ra il ic rl rc w
  · exact rsz_2 wd sl cp sa ow ia ra il ic rl rc w
  · exact rsz_3 wd sl cp sa ow ia ra il ic rl rc w
  · exact rsz_4 wd sl cp sa ow ia ra il ic rl rc w
  · exact rsz_5 wd sl cp sa ow ia ra il ic rl rc w
  · exact rsz_6 wd sl cp sa ow ia ra il ic rl rc w

end Go.Proofs.YtikjkmomokhanabGreat.Kfc

