/-

 What an object of any kind is: of package object, and of the document.
-/
import Derived.Test.YthhbhbfkbncegabGreatDoorJObj
import Derived.Deep.CutRange
import Derived.Test.YthhbhbfkbncegabGreatDoorJSeqLay
import Derived.Test.YthhbhbfkbncegabGreatDoorJRingLay
import Derived.Test.YthhbhbfkbncegabGreatDoorJCabLay
import Derived.Test.YthhbhbfkbncegabGreatDoorJFifoLay
import Derived.Laws.Rows
import Derived.Laws.ResultCell
section
section
set_option linter.unusedSimpArgs false
set_option linter.unusedVariables false
namespace Go.Proofs.YthhbhbfkbncegabGreatDoor.Ch
open Go.ChangeShapes Go.WideShapes Go.ChangeAt Go.RowKit Ws Mm Pa
open Go.Proofs.YthhbhbfkbncegabGreatDoor.Ob

/-- whether an object of this kind may be -/
def rightB (wd sl cp sa : Int) (il rl : Nat) : Bool := decide ((1 ≤ wd ∧ wd ≤ 8) ∧ (il : Int) = wd ∧ (1 ≤ (rl : Int) ∧ (rl : Int) ≤ 4) ∧ sl = 0 ∧ cp = 0 ∧ sa = 0)

set_option maxHeartbeats 400000 in
theorem right_any (wd sl cp sa ow : Int) (ia ra : Option Addr) (il ic rl rc : Nat) (w : World) (hsa : 0 ≤ sa ∧ sa < 4294967296 := by assumption) :
 Calls Tryz.prog 116 #[.agg #[.int .i64 2, .int .i64 wd, .int .i64 sl, .int .i64 cp, .int .u32 sa, .slice ia il ic, .int .i64 ow, .slice ra rl rc]] w fun e w' => e = .returned (.bool (rightB wd sl cp sa il rl)) ∧ Same w w' := by
 have s0 := (Same.refl w).alloc (.cells #[.int .i64 2, .int .i64 wd, .int .i64 sl, .int .i64 cp, .int .u32 sa, .slice ia il ic, .int .i64 ow, .slice ra rl rc] 43)
 have hb := Blk.new w 43 #[.int .i64 2, .int .i64 wd, .int .i64 sl, .int .i64 cp, .int .u32 sa, .slice ia il ic, .int .i64 ow, .slice ra rl rc]
 have HB := Lib.hid hb
 clear hb
 cases hr : regB 2 wd il rl 2
 all_goals
  have HR := fun w' => register_any 2 2 wd sl cp sa ow ia ra il ic rl rc w'
  simp only [hr] at HR
  have hr2 := Lib.hid hr
  clear hr
  go_enter Tryz.func116, Tryz.ntmps116
  go_wp2_with fail
  refine (HR _).mono ?_
  rintro e w1 ⟨rfl, s1⟩
  obtain ⟨_, _, d2, d3, d4, _, _, d7⟩ := obj_cells (HB.out.same s1)
  have S := s0.trans s1
  clear HB s0 s1 HR
  generalize w.heap.size = q at *
  go_wp2
  all_goals
   go_ret
   have hr := hr2.out
   unfold regB at hr
   simp only [decide_eq_true_eq, decide_eq_false_iff_not] at hr
   refine ⟨ret_bool ?_, S⟩
   unfold rightB
   first
    | (rw [Bool.eq_iff_iff, decide_eq_true_eq, decide_eq_true_eq]; omega)
    | (rw [Bool.eq_iff_iff]; simp only [beq_iff_eq, bne_iff_ne, ne_eq, beq_eq_false_iff_ne, bne_eq_false_iff_eq, decide_eq_true_eq, Bool.false_eq_true, true_iff, false_iff, and_true, true_and, and_false, false_and] at *; omega)

end Go.Proofs.YthhbhbfkbncegabGreatDoor.Ch
end
section
set_option linter.unusedSimpArgs false
set_option linter.unusedVariables false
namespace Go.Proofs.YthhbhbfkbncegabGreatDoor.Ch
open Go.ChangeShapes Go.WideShapes Go.ChangeAt Go.RowKit Ws Mm Pa
open Go.Proofs.YthhbhbfkbncegabGreatDoor.Ob

theorem HQ {wd sl cp sa : Int} {il rl : Nat} (h : rightB wd sl cp sa il rl = true) : (1 ≤ wd ∧ wd ≤ 8) ∧ (il : Int) = wd ∧ (1 ≤ (rl : Int) ∧ (rl : Int) ≤ 4) ∧ sl = 0 ∧ cp = 0 ∧ sa = 0 := by
 unfold rightB at h
 exact of_decide_eq_true h
def boundI (wd cp : Int) (rl : Nat) (op : Int) : Int := if op = 2 then wd + 2 * rl + 2 else if op = 1 then wd + 4 else 0
theorem bound_yes (wd sl cp sa ow : Int) (ia ra : Option Addr) (il ic rl rc : Nat) (op : Int) (w : World) (hr : rightB wd sl cp sa il rl = true) (hsa : 0 ≤ sa ∧ sa < 4294967296 := by assumption) :
 Calls Tryz.prog 119 #[.agg #[.int .i64 2, .int .i64 wd, .int .i64 sl, .int .i64 cp, .int .u32 sa, .slice ia il ic, .int .i64 ow, .slice ra rl rc], .int .i64 op] w fun e w' => e = .returned (.int .i64 (boundI wd cp rl op)) ∧ Same w w' := by
 have hb := Blk.new w 43 #[.int .i64 2, .int .i64 wd, .int .i64 sl, .int .i64 cp, .int .u32 sa, .slice ia il ic, .int .i64 ow, .slice ra rl rc]
 have s0 := (Same.refl w).alloc (.cells #[.int .i64 2, .int .i64 wd, .int .i64 sl, .int .i64 cp, .int .u32 sa, .slice ia il ic, .int .i64 ow, .slice ra rl rc] 43)
 have HB := Lib.hid hb
 have HR := fun w' => right_any wd sl cp sa ow ia ra il ic rl rc w'
 rw [hr] at HR
 have hq := HQ hr
 obtain ⟨c1, c2⟩ := hq.2.2.2.2.1
 obtain ⟨n1, n2⟩ := hq.2.2.1
 have m1 := i64_in (2 * (rl : Int)) (by omega)
 have m2 := i64_in (wd + 2 * (rl : Int)) (by omega)
 have m3 := i64_in (wd + 2 * (rl : Int) + 2) (by omega)
 have m4 := i64_in (wd + 4) (by omega)
 obtain ⟨h1, h2⟩ := hq.1
 have HQ2 := Lib.hid hq
 clear hb hq hr
 go_enter Tryz.func119, Tryz.ntmps119
 go_wp2_with fail
 refine (HR _).mono ?_
 rintro e w1 ⟨rfl, s1⟩
 have hb1 := HB.out.same s1
 have S1 := Lib.hid (s0.trans s1)
 have HB1 := Lib.hid hb1
 obtain ⟨d0, d1, d2, d3, d4, d5, d6, d7⟩ := obj_cells hb1
 clear hb1 s0 s1 HB HR
 generalize w.heap.size = q at *
 go_wp2
 all_goals
  go_ret
  exact ⟨ret_int (by unfold boundI; try simp only [beq_iff_eq, beq_eq_false_iff_ne, ne_eq] at *; repeat (split <;> try omega)), S1.out⟩
theorem bound_no (wd sl cp sa ow : Int) (ia ra : Option Addr) (il ic rl rc : Nat) (op : Int) (w : World) (hr : rightB wd sl cp sa il rl = false) (hsa : 0 ≤ sa ∧ sa < 4294967296 := by assumption) :
 Calls Tryz.prog 119 #[.agg #[.int .i64 2, .int .i64 wd, .int .i64 sl, .int .i64 cp, .int .u32 sa, .slice ia il ic, .int .i64 ow, .slice ra rl rc], .int .i64 op] w fun e w' => e = .returned (.int .i64 0) ∧ Same w w' := by
 have HR := fun w' => right_any wd sl cp sa ow ia ra il ic rl rc w'
 rw [hr] at HR
 clear hr
 go_enter Tryz.func119, Tryz.ntmps119
 go_wp2_with fail
 refine (HR _).mono ?_
 rintro e w1 ⟨rfl, s1⟩
 go_wp2_with fail
 go_ret
 exact ⟨rfl, Same.trans ((Same.refl _).alloc _) s1⟩
end Go.Proofs.YthhbhbfkbncegabGreatDoor.Ch
end
end
section
section
section
set_option linter.unusedSimpArgs false
set_option linter.unusedVariables false
namespace Go.Proofs.YthhbhbfkbncegabGreatDoor.Fo
open Go.ChangeShapes Go.WideShapes Go.ChangeAt Go.RowKit Ws Mm Pa
open Go.Proofs.YthhbhbfkbncegabGreatDoor.Ob

/-- whether an object of this kind may be -/
def rightB (wd sl cp sa : Int) (il rl : Nat) : Bool := decide ((1 ≤ wd ∧ wd ≤ 8) ∧ (il : Int) = wd ∧ (rl : Int) = 1 ∧ sl = 0 ∧ cp = 0 ∧ sa = 0)

set_option maxHeartbeats 400000 in
theorem right_any (wd sl cp sa ow : Int) (ia ra : Option Addr) (il ic rl rc : Nat) (w : World) :
 Calls Tryz.prog 112 #[.agg #[.int .i64 1, .int .i64 wd, .int .i64 sl, .int .i64 cp, .int .u32 sa, .slice ia il ic, .int .i64 ow, .slice ra rl rc]] w fun e w' => e = .returned (.bool (rightB wd sl cp sa il rl)) ∧ Same w w' := by
 have s0 := (Same.refl w).alloc (.cells #[.int .i64 1, .int .i64 wd, .int .i64 sl, .int .i64 cp, .int .u32 sa, .slice ia il ic, .int .i64 ow, .slice ra rl rc] 43)
 have hb := Blk.new w 43 #[.int .i64 1, .int .i64 wd, .int .i64 sl, .int .i64 cp, .int .u32 sa, .slice ia il ic, .int .i64 ow, .slice ra rl rc]
 have HB := Lib.hid hb
 clear hb
 cases hr : regB 1 wd il rl 1
 all_goals
  have HR := fun w' => register_any 1 1 wd sl cp sa ow ia ra il ic rl rc w'
  simp only [hr] at HR
  have hr2 := Lib.hid hr
  clear hr
  go_enter Tryz.func112, Tryz.ntmps112
  go_wp2_with fail
  refine (HR _).mono ?_
  rintro e w1 ⟨rfl, s1⟩
  obtain ⟨_, _, d2, d3, d4, _, _, d7⟩ := obj_cells (HB.out.same s1)
  have S := s0.trans s1
  clear HB s0 s1 HR
  generalize w.heap.size = q at *
  go_wp2
  all_goals
   go_ret
   have hr := hr2.out
   unfold regB at hr
   simp only [decide_eq_true_eq, decide_eq_false_iff_not] at hr
   refine ⟨ret_bool ?_, S⟩
   unfold rightB
   first
    | (rw [Bool.eq_iff_iff, decide_eq_true_eq, decide_eq_true_eq]; omega)
    | (rw [Bool.eq_iff_iff]; simp only [beq_iff_eq, bne_iff_ne, ne_eq, beq_eq_false_iff_ne, bne_eq_false_iff_eq, decide_eq_true_eq, Bool.false_eq_true, true_iff, false_iff, and_true, true_and, and_false, false_and] at *; omega)

end Go.Proofs.YthhbhbfkbncegabGreatDoor.Fo
end
section
set_option linter.unusedSimpArgs false
set_option linter.unusedVariables false
namespace Go.Proofs.YthhbhbfkbncegabGreatDoor.Fo
open Go.ChangeShapes Go.WideShapes Go.ChangeAt Go.RowKit Ws Mm Pa
open Go.Proofs.YthhbhbfkbncegabGreatDoor.Ob

theorem HQ {wd sl cp sa : Int} {il rl : Nat} (h : rightB wd sl cp sa il rl = true) : (1 ≤ wd ∧ wd ≤ 8) ∧ (il : Int) = wd ∧ (rl : Int) = 1 ∧ sl = 0 ∧ cp = 0 ∧ sa = 0 := by
 unfold rightB at h
 exact of_decide_eq_true h
def boundI (wd op : Int) : Int := if op = 2 then wd + 4 else if op = 1 then wd + 3 else 0
theorem bound_yes (wd sl cp sa ow : Int) (ia ra : Option Addr) (il ic rl rc : Nat) (op : Int) (w : World) (hr : rightB wd sl cp sa il rl = true) :
 Calls Tryz.prog 115 #[.agg #[.int .i64 1, .int .i64 wd, .int .i64 sl, .int .i64 cp, .int .u32 sa, .slice ia il ic, .int .i64 ow, .slice ra rl rc], .int .i64 op] w fun e w' => e = .returned (.int .i64 (boundI wd op)) ∧ Same w w' := by
 have hb := Blk.new w 43 #[.int .i64 1, .int .i64 wd, .int .i64 sl, .int .i64 cp, .int .u32 sa, .slice ia il ic, .int .i64 ow, .slice ra rl rc]
 have s0 := (Same.refl w).alloc (.cells #[.int .i64 1, .int .i64 wd, .int .i64 sl, .int .i64 cp, .int .u32 sa, .slice ia il ic, .int .i64 ow, .slice ra rl rc] 43)
 have HB := Lib.hid hb
 have HR := fun w' => right_any wd sl cp sa ow ia ra il ic rl rc w'
 rw [hr] at HR
 have hq := HQ hr
 obtain ⟨h1, h2⟩ := hq.1
 have HQ2 := Lib.hid hq
 clear hb hq hr
 go_enter Tryz.func115, Tryz.ntmps115
 go_wp2_with fail
 refine (HR _).mono ?_
 rintro e w1 ⟨rfl, s1⟩
 have hb1 := HB.out.same s1
 have S1 := Lib.hid (s0.trans s1)
 have HB1 := Lib.hid hb1
 obtain ⟨d0, d1, d2, d3, d4, d5, d6, d7⟩ := obj_cells hb1
 clear hb1 s0 s1 HB HR
 generalize w.heap.size = q at *
 go_wp2
 all_goals
  go_ret
  exact ⟨ret_int (by unfold boundI; try simp only [beq_iff_eq, beq_eq_false_iff_ne, ne_eq] at *; repeat (split <;> try omega)), S1.out⟩
theorem bound_no (wd sl cp sa ow : Int) (ia ra : Option Addr) (il ic rl rc : Nat) (op : Int) (w : World) (hr : rightB wd sl cp sa il rl = false) :
 Calls Tryz.prog 115 #[.agg #[.int .i64 1, .int .i64 wd, .int .i64 sl, .int .i64 cp, .int .u32 sa, .slice ia il ic, .int .i64 ow, .slice ra rl rc], .int .i64 op] w fun e w' => e = .returned (.int .i64 0) ∧ Same w w' := by
 have HR := fun w' => right_any wd sl cp sa ow ia ra il ic rl rc w'
 rw [hr] at HR
 clear hr
 go_enter Tryz.func115, Tryz.ntmps115
 go_wp2_with fail
 refine (HR _).mono ?_
 rintro e w1 ⟨rfl, s1⟩
 go_wp2_with fail
 go_ret
 exact ⟨rfl, Same.trans ((Same.refl _).alloc _) s1⟩
end Go.Proofs.YthhbhbfkbncegabGreatDoor.Fo
end
end
section
set_option linter.unusedVariables false
set_option linter.unusedSimpArgs false
namespace Go.Proofs.YthhbhbfkbncegabGreatDoor.Fc
open Go.ChangeShapes Go.WideShapes Go.ChangeAt Go.RowKit Ws

theorem ret_int {k : IntKind} {a b : Int} (h : a = b) : Ending.returned (.int k a) = .returned (.int k b) := by rw [h]
theorem results_cell2 {P : Program} {fn : Func} {p t : Tmp} {ty : TypeId} (h : fn.results = #[.cell p ty, .tmp t]) (tmps : Array Value) (w : World) (g : Nat) (T : TypeId) (cs : Array Value) (fr : Nat × Nat) (d : TypeDesc)
 (hp : tmps.getD p undef = .pointer (some ⟨g, 0, none⟩)) (hg : w.heap[g]? = some (.cells cs T fr))
 (hu : P.underlying ty = some d) (hd : (match d with | .struct _ | .array _ _ => true | _ => false) = true) (hi : (P.info? ty).map (·.size) = some cs.size) :
 (results fn tmps).run P w = .ok (.tuple #[.agg cs, tmps.getD t undef]) w := by
 have hp' : tmps[p]?.getD undef = .pointer (some ⟨g, 0, none⟩) := by simpa using hp
 simp [results, h, hp', asAddr, run_loadVar_row w g T ty cs fr d hg hu hd hi]
theorem face_size : (Tryz.prog.info? 119).map (·.size) = some 5 := by kernel_rfl
def rightF (k wd sl cp sa : Int) (il rl : Nat) : Bool := if k = 1 then Fo.rightB wd sl cp sa il rl else if k = 2 then Ch.rightB wd sl cp sa il rl else if k = 3 then Sq.rightB wd sl cp sa il rl else if k = 4 then Rg.rightB wd sl cp sa il rl else if k = 5 then Cb.rightB wd sl cp sa il rl else if k = 6 then Ff.rightB wd sl cp sa il rl else false
def boundF (k wd sl cp sa : Int) (il rl : Nat) (op : Int) : Int := if rightF k wd sl cp sa il rl = true then (if k = 1 then Fo.boundI wd op else if k = 2 then Ch.boundI wd cp rl op else if k = 3 then Sq.boundI wd cp op else if k = 4 then Rg.boundI wd cp op else if k = 5 then Cb.boundI wd cp rl op else if k = 6 then Ff.boundI wd op else 0) else 0
theorem right_1 (wd sl cp sa : Int) (il rl : Nat) : rightF 1 wd sl cp sa il rl = Fo.rightB wd sl cp sa il rl := by unfold rightF; simp
theorem bound_1 (wd sl cp sa : Int) (il rl : Nat) (op : Int) : boundF 1 wd sl cp sa il rl op = if Fo.rightB wd sl cp sa il rl = true then Fo.boundI wd op else 0 := by unfold boundF; rw [right_1]; simp
theorem right_2 (wd sl cp sa : Int) (il rl : Nat) : rightF 2 wd sl cp sa il rl = Ch.rightB wd sl cp sa il rl := by unfold rightF; simp
theorem bound_2 (wd sl cp sa : Int) (il rl : Nat) (op : Int) : boundF 2 wd sl cp sa il rl op = if Ch.rightB wd sl cp sa il rl = true then Ch.boundI wd cp rl op else 0 := by unfold boundF; rw [right_2]; simp
theorem right_3 (wd sl cp sa : Int) (il rl : Nat) : rightF 3 wd sl cp sa il rl = Sq.rightB wd sl cp sa il rl := by unfold rightF; simp
theorem bound_3 (wd sl cp sa : Int) (il rl : Nat) (op : Int) : boundF 3 wd sl cp sa il rl op = if Sq.rightB wd sl cp sa il rl = true then Sq.boundI wd cp op else 0 := by unfold boundF; rw [right_3]; simp
theorem right_4 (wd sl cp sa : Int) (il rl : Nat) : rightF 4 wd sl cp sa il rl = Rg.rightB wd sl cp sa il rl := by unfold rightF; simp
theorem bound_4 (wd sl cp sa : Int) (il rl : Nat) (op : Int) : boundF 4 wd sl cp sa il rl op = if Rg.rightB wd sl cp sa il rl = true then Rg.boundI wd cp op else 0 := by unfold boundF; rw [right_4]; simp
theorem right_5 (wd sl cp sa : Int) (il rl : Nat) : rightF 5 wd sl cp sa il rl = Cb.rightB wd sl cp sa il rl := by unfold rightF; simp
theorem bound_5 (wd sl cp sa : Int) (il rl : Nat) (op : Int) : boundF 5 wd sl cp sa il rl op = if Cb.rightB wd sl cp sa il rl = true then Cb.boundI wd cp rl op else 0 := by unfold boundF; rw [right_5]; simp
theorem right_6 (wd sl cp sa : Int) (il rl : Nat) : rightF 6 wd sl cp sa il rl = Ff.rightB wd sl cp sa il rl := by unfold rightF; simp
theorem bound_6 (wd sl cp sa : Int) (il rl : Nat) (op : Int) : boundF 6 wd sl cp sa il rl op = if Ff.rightB wd sl cp sa il rl = true then Ff.boundI wd op else 0 := by unfold boundF; rw [right_6]; simp
theorem right_none {k : Int} (wd sl cp sa : Int) (il rl : Nat) (h : k < 1 ∨ 6 < k) : rightF k wd sl cp sa il rl = false := by
 unfold rightF
 rw [if_neg (by omega), if_neg (by omega), if_neg (by omega), if_neg (by omega), if_neg (by omega), if_neg (by omega)]
theorem bound_none {k : Int} (wd sl cp sa : Int) (il rl : Nat) (op : Int) (h : k < 1 ∨ 6 < k) : boundF k wd sl cp sa il rl op = 0 := by
 unfold boundF
 rw [right_none wd sl cp sa il rl h, if_neg Bool.false_ne_true]
theorem chg_setRow {S : Nat → Prop} {a b : World} (h : Chg S a b) {g : Nat} (hg : S g ∨ a.heap.size ≤ g) (cs : Array Value) : Chg S a (b.setRow g cs) := by
 refine ⟨h.os, h.tape, h.output, by simpa [World.setRow] using h.size, fun i hi hn => ?_⟩
 rw [← h.block i hi hn]
 unfold World.setRow
 simp only [Array.getElem?_modify]
 rw [if_neg]
 rintro rfl
 rcases hg with hg | hg
 ·exact hn hg
 ·omega
theorem row_blk {w : World} {g : Nat} {T : TypeId} {old cs : Array Value} (h : Blk w g T old) : Blk (w.setRow g cs) g T cs := setRow_heap w g old cs T (0, 0) h
theorem one_all {cs : List Value} (h : cs.all (fun v => v.oneCell') = true) : cs.toArray.all (·.oneCell') = true := by
 rw [List.all_toArray]
 exact h
theorem one_0 : (#[.string ⟨#[]⟩, .nilFunc, .nilFunc, .nilFunc, .nilFunc] : Array Value).all (·.oneCell') = true := one_all (by rfl)
theorem one_1 : (#[.string ⟨#[102, 111, 117, 114]⟩, .func (.func 112) #[] #[], .func (.func 113) #[] #[], .func (.func 114) #[] #[], .func (.func 115) #[] #[]] : Array Value).all (·.oneCell') = true := one_all (by rfl)
theorem one_2 : (#[.string ⟨#[99, 104, 101, 110]⟩, .func (.func 116) #[] #[], .func (.func 117) #[] #[], .func (.func 118) #[] #[], .func (.func 119) #[] #[]] : Array Value).all (·.oneCell') = true := one_all (by rfl)
theorem one_3 : (#[.string ⟨#[115, 101, 113]⟩, .func (.func 120) #[] #[], .func (.func 121) #[] #[], .func (.func 122) #[] #[], .func (.func 123) #[] #[]] : Array Value).all (·.oneCell') = true := one_all (by rfl)
theorem one_4 : (#[.string ⟨#[114, 105, 110, 103]⟩, .func (.func 124) #[] #[], .func (.func 125) #[] #[], .func (.func 126) #[] #[], .func (.func 127) #[] #[]] : Array Value).all (·.oneCell') = true := one_all (by rfl)
theorem one_5 : (#[.string ⟨#[99, 97, 98]⟩, .func (.func 128) #[] #[], .func (.func 129) #[] #[], .func (.func 130) #[] #[], .func (.func 131) #[] #[]] : Array Value).all (·.oneCell') = true := one_all (by rfl)
theorem one_6 : (#[.string ⟨#[102, 105, 102, 111]⟩, .func (.func 132) #[] #[], .func (.func 133) #[] #[], .func (.func 134) #[] #[], .func (.func 135) #[] #[]] : Array Value).all (·.oneCell') = true := one_all (by rfl)
set_option maxRecDepth 100000 in
theorem face_1 (w : World) : Calls Tryz.prog 99 #[.int .i64 1] w fun e w' => e = .returned (.tuple #[.agg #[.string ⟨#[102, 111, 117, 114]⟩, .func (.func 112) #[] #[], .func (.func 113) #[] #[], .func (.func 114) #[] #[], .func (.func 115) #[] #[]], .bool true]) ∧ Same w w' := by
 have HZ := Lib.hid (Blk.new w 119 #[.string ⟨#[]⟩, .nilFunc, .nilFunc, .nilFunc, .nilFunc])
 go_enter Tryz.func99, Tryz.ntmps99
 go_wp2_with (refine wpList_store_row rfl 119 (.tmp 2) (.tmp 7) rfl w.heap.size #[.string ⟨#[102, 111, 117, 114]⟩, .func (.func 112) #[] #[], .func (.func 113) #[] #[], .func (.func 114) #[] #[], .func (.func 115) #[] #[]] rfl rfl 119 #[.string ⟨#[]⟩, .nilFunc, .nilFunc, .nilFunc, .nilFunc] HZ.out face_size rfl one_1 ?_)
 refine bodyPost_ret (v := .tuple #[.agg #[.string ⟨#[102, 111, 117, 114]⟩, .func (.func 112) #[] #[], .func (.func 113) #[] #[], .func (.func 114) #[] #[], .func (.func 115) #[] #[]], .bool true]) (results_cell2 Tryz.results99 _ _ w.heap.size 119 #[.string ⟨#[102, 111, 117, 114]⟩, .func (.func 112) #[] #[], .func (.func 113) #[] #[], .func (.func 114) #[] #[], .func (.func 115) #[] #[]] (0, 0) _ rfl (row_blk HZ.out) Tryz.underlying119 rfl face_size) rfl ⟨rfl, ?_⟩
 exact chg_setRow ((Same.refl w).alloc _) (.inr (Nat.le_refl _)) _
set_option maxRecDepth 100000 in
theorem face_2 (w : World) : Calls Tryz.prog 99 #[.int .i64 2] w fun e w' => e = .returned (.tuple #[.agg #[.string ⟨#[99, 104, 101, 110]⟩, .func (.func 116) #[] #[], .func (.func 117) #[] #[], .func (.func 118) #[] #[], .func (.func 119) #[] #[]], .bool true]) ∧ Same w w' := by
 have HZ := Lib.hid (Blk.new w 119 #[.string ⟨#[]⟩, .nilFunc, .nilFunc, .nilFunc, .nilFunc])
 go_enter Tryz.func99, Tryz.ntmps99
 go_wp2_with (refine wpList_store_row rfl 119 (.tmp 2) (.tmp 10) rfl w.heap.size #[.string ⟨#[99, 104, 101, 110]⟩, .func (.func 116) #[] #[], .func (.func 117) #[] #[], .func (.func 118) #[] #[], .func (.func 119) #[] #[]] rfl rfl 119 #[.string ⟨#[]⟩, .nilFunc, .nilFunc, .nilFunc, .nilFunc] HZ.out face_size rfl one_2 ?_)
 refine bodyPost_ret (v := .tuple #[.agg #[.string ⟨#[99, 104, 101, 110]⟩, .func (.func 116) #[] #[], .func (.func 117) #[] #[], .func (.func 118) #[] #[], .func (.func 119) #[] #[]], .bool true]) (results_cell2 Tryz.results99 _ _ w.heap.size 119 #[.string ⟨#[99, 104, 101, 110]⟩, .func (.func 116) #[] #[], .func (.func 117) #[] #[], .func (.func 118) #[] #[], .func (.func 119) #[] #[]] (0, 0) _ rfl (row_blk HZ.out) Tryz.underlying119 rfl face_size) rfl ⟨rfl, ?_⟩
 exact chg_setRow ((Same.refl w).alloc _) (.inr (Nat.le_refl _)) _
set_option maxRecDepth 100000 in
theorem face_3 (w : World) : Calls Tryz.prog 99 #[.int .i64 3] w fun e w' => e = .returned (.tuple #[.agg #[.string ⟨#[115, 101, 113]⟩, .func (.func 120) #[] #[], .func (.func 121) #[] #[], .func (.func 122) #[] #[], .func (.func 123) #[] #[]], .bool true]) ∧ Same w w' := by
 have HZ := Lib.hid (Blk.new w 119 #[.string ⟨#[]⟩, .nilFunc, .nilFunc, .nilFunc, .nilFunc])
 go_enter Tryz.func99, Tryz.ntmps99
 go_wp2_with (refine wpList_store_row rfl 119 (.tmp 2) (.tmp 13) rfl w.heap.size #[.string ⟨#[115, 101, 113]⟩, .func (.func 120) #[] #[], .func (.func 121) #[] #[], .func (.func 122) #[] #[], .func (.func 123) #[] #[]] rfl rfl 119 #[.string ⟨#[]⟩, .nilFunc, .nilFunc, .nilFunc, .nilFunc] HZ.out face_size rfl one_3 ?_)
 refine bodyPost_ret (v := .tuple #[.agg #[.string ⟨#[115, 101, 113]⟩, .func (.func 120) #[] #[], .func (.func 121) #[] #[], .func (.func 122) #[] #[], .func (.func 123) #[] #[]], .bool true]) (results_cell2 Tryz.results99 _ _ w.heap.size 119 #[.string ⟨#[115, 101, 113]⟩, .func (.func 120) #[] #[], .func (.func 121) #[] #[], .func (.func 122) #[] #[], .func (.func 123) #[] #[]] (0, 0) _ rfl (row_blk HZ.out) Tryz.underlying119 rfl face_size) rfl ⟨rfl, ?_⟩
 exact chg_setRow ((Same.refl w).alloc _) (.inr (Nat.le_refl _)) _
set_option maxRecDepth 100000 in
theorem face_4 (w : World) : Calls Tryz.prog 99 #[.int .i64 4] w fun e w' => e = .returned (.tuple #[.agg #[.string ⟨#[114, 105, 110, 103]⟩, .func (.func 124) #[] #[], .func (.func 125) #[] #[], .func (.func 126) #[] #[], .func (.func 127) #[] #[]], .bool true]) ∧ Same w w' := by
 have HZ := Lib.hid (Blk.new w 119 #[.string ⟨#[]⟩, .nilFunc, .nilFunc, .nilFunc, .nilFunc])
 go_enter Tryz.func99, Tryz.ntmps99
 go_wp2_with (refine wpList_store_row rfl 119 (.tmp 2) (.tmp 16) rfl w.heap.size #[.string ⟨#[114, 105, 110, 103]⟩, .func (.func 124) #[] #[], .func (.func 125) #[] #[], .func (.func 126) #[] #[], .func (.func 127) #[] #[]] rfl rfl 119 #[.string ⟨#[]⟩, .nilFunc, .nilFunc, .nilFunc, .nilFunc] HZ.out face_size rfl one_4 ?_)
 refine bodyPost_ret (v := .tuple #[.agg #[.string ⟨#[114, 105, 110, 103]⟩, .func (.func 124) #[] #[], .func (.func 125) #[] #[], .func (.func 126) #[] #[], .func (.func 127) #[] #[]], .bool true]) (results_cell2 Tryz.results99 _ _ w.heap.size 119 #[.string ⟨#[114, 105, 110, 103]⟩, .func (.func 124) #[] #[], .func (.func 125) #[] #[], .func (.func 126) #[] #[], .func (.func 127) #[] #[]] (0, 0) _ rfl (row_blk HZ.out) Tryz.underlying119 rfl face_size) rfl ⟨rfl, ?_⟩
 exact chg_setRow ((Same.refl w).alloc _) (.inr (Nat.le_refl _)) _
set_option maxRecDepth 100000 in
theorem face_5 (w : World) : Calls Tryz.prog 99 #[.int .i64 5] w fun e w' => e = .returned (.tuple #[.agg #[.string ⟨#[99, 97, 98]⟩, .func (.func 128) #[] #[], .func (.func 129) #[] #[], .func (.func 130) #[] #[], .func (.func 131) #[] #[]], .bool true]) ∧ Same w w' := by
 have HZ := Lib.hid (Blk.new w 119 #[.string ⟨#[]⟩, .nilFunc, .nilFunc, .nilFunc, .nilFunc])
 go_enter Tryz.func99, Tryz.ntmps99
 go_wp2_with (refine wpList_store_row rfl 119 (.tmp 2) (.tmp 19) rfl w.heap.size #[.string ⟨#[99, 97, 98]⟩, .func (.func 128) #[] #[], .func (.func 129) #[] #[], .func (.func 130) #[] #[], .func (.func 131) #[] #[]] rfl rfl 119 #[.string ⟨#[]⟩, .nilFunc, .nilFunc, .nilFunc, .nilFunc] HZ.out face_size rfl one_5 ?_)
 refine bodyPost_ret (v := .tuple #[.agg #[.string ⟨#[99, 97, 98]⟩, .func (.func 128) #[] #[], .func (.func 129) #[] #[], .func (.func 130) #[] #[], .func (.func 131) #[] #[]], .bool true]) (results_cell2 Tryz.results99 _ _ w.heap.size 119 #[.string ⟨#[99, 97, 98]⟩, .func (.func 128) #[] #[], .func (.func 129) #[] #[], .func (.func 130) #[] #[], .func (.func 131) #[] #[]] (0, 0) _ rfl (row_blk HZ.out) Tryz.underlying119 rfl face_size) rfl ⟨rfl, ?_⟩
 exact chg_setRow ((Same.refl w).alloc _) (.inr (Nat.le_refl _)) _
set_option maxRecDepth 100000 in
theorem face_6 (w : World) : Calls Tryz.prog 99 #[.int .i64 6] w fun e w' => e = .returned (.tuple #[.agg #[.string ⟨#[102, 105, 102, 111]⟩, .func (.func 132) #[] #[], .func (.func 133) #[] #[], .func (.func 134) #[] #[], .func (.func 135) #[] #[]], .bool true]) ∧ Same w w' := by
 have HZ := Lib.hid (Blk.new w 119 #[.string ⟨#[]⟩, .nilFunc, .nilFunc, .nilFunc, .nilFunc])
 go_enter Tryz.func99, Tryz.ntmps99
 go_wp2_with (refine wpList_store_row rfl 119 (.tmp 2) (.tmp 22) rfl w.heap.size #[.string ⟨#[102, 105, 102, 111]⟩, .func (.func 132) #[] #[], .func (.func 133) #[] #[], .func (.func 134) #[] #[], .func (.func 135) #[] #[]] rfl rfl 119 #[.string ⟨#[]⟩, .nilFunc, .nilFunc, .nilFunc, .nilFunc] HZ.out face_size rfl one_6 ?_)
 refine bodyPost_ret (v := .tuple #[.agg #[.string ⟨#[102, 105, 102, 111]⟩, .func (.func 132) #[] #[], .func (.func 133) #[] #[], .func (.func 134) #[] #[], .func (.func 135) #[] #[]], .bool true]) (results_cell2 Tryz.results99 _ _ w.heap.size 119 #[.string ⟨#[102, 105, 102, 111]⟩, .func (.func 132) #[] #[], .func (.func 133) #[] #[], .func (.func 134) #[] #[], .func (.func 135) #[] #[]] (0, 0) _ rfl (row_blk HZ.out) Tryz.underlying119 rfl face_size) rfl ⟨rfl, ?_⟩
 exact chg_setRow ((Same.refl w).alloc _) (.inr (Nat.le_refl _)) _
set_option maxRecDepth 100000 in
theorem face_none (k : Int) (h : k < 1 ∨ 6 < k) (w : World) : Calls Tryz.prog 99 #[.int .i64 k] w fun e w' => e = .returned (.tuple #[.agg #[.string ⟨#[]⟩, .nilFunc, .nilFunc, .nilFunc, .nilFunc], .bool false]) ∧ Same w w' := by
 have HZ := Lib.hid (Blk.new w 119 #[.string ⟨#[]⟩, .nilFunc, .nilFunc, .nilFunc, .nilFunc])
 have b1 : (k == 1) = false := by rw [beq_eq_false_iff_ne]; omega
 have b2 : (k == 2) = false := by rw [beq_eq_false_iff_ne]; omega
 have b3 : (k == 3) = false := by rw [beq_eq_false_iff_ne]; omega
 have b4 : (k == 4) = false := by rw [beq_eq_false_iff_ne]; omega
 have b5 : (k == 5) = false := by rw [beq_eq_false_iff_ne]; omega
 have b6 : (k == 6) = false := by rw [beq_eq_false_iff_ne]; omega
 clear h
 go_enter Tryz.func99, Tryz.ntmps99
 go_wp2_with (refine wpList_store_row rfl 119 (.tmp 2) (.tmp 23) rfl w.heap.size #[.string ⟨#[]⟩, .nilFunc, .nilFunc, .nilFunc, .nilFunc] rfl rfl 119 #[.string ⟨#[]⟩, .nilFunc, .nilFunc, .nilFunc, .nilFunc] HZ.out face_size rfl one_0 ?_)
 refine bodyPost_ret (v := .tuple #[.agg #[.string ⟨#[]⟩, .nilFunc, .nilFunc, .nilFunc, .nilFunc], .bool false]) (results_cell2 Tryz.results99 _ _ w.heap.size 119 #[.string ⟨#[]⟩, .nilFunc, .nilFunc, .nilFunc, .nilFunc] (0, 0) _ rfl (row_blk HZ.out) Tryz.underlying119 rfl face_size) rfl ⟨rfl, ?_⟩
 exact chg_setRow ((Same.refl w).alloc _) (.inr (Nat.le_refl _)) _
set_option maxRecDepth 100000 in
theorem shaped_1 (wd sl cp sa ow : Int) (ia ra : Option Addr) (il ic rl rc : Nat) (w : World) :
 Calls Tryz.prog 87 #[.agg #[.int .i64 1, .int .i64 wd, .int .i64 sl, .int .i64 cp, .int .u32 sa, .slice ia il ic, .int .i64 ow, .slice ra rl rc]] w fun e w' => e = .returned (.bool (Fo.rightB wd sl cp sa il rl)) ∧ Same w w' := by
 have HC := Lib.hid (fun w' => Fo.right_any wd sl cp sa ow ia ra il ic rl rc w')
 have hb0 := Blk.new w 43 #[.int .i64 1, .int .i64 wd, .int .i64 sl, .int .i64 cp, .int .u32 sa, .slice ia il ic, .int .i64 ow, .slice ra rl rc]
 have HS0 := Lib.hid ((Same.refl w).alloc (.cells #[.int .i64 1, .int .i64 wd, .int .i64 sl, .int .i64 cp, .int .u32 sa, .slice ia il ic, .int .i64 ow, .slice ra rl rc] 43))
 have HB0 := Lib.hid hb0
 clear hb0
 generalize Fo.rightB wd sl cp sa il rl = rb at *
 go_enter Tryz.func87, Tryz.ntmps87
 go_wp2_with fail
 refine (face_1 _).mono ?_
 rintro e w2 ⟨rfl, s2⟩
 have HZ := Lib.hid (Blk.new w2 119 #[.string ⟨#[]⟩, .nilFunc, .nilFunc, .nilFunc, .nilFunc])
 have HS2 := Lib.hid (HS0.out.trans s2)
 have hb2 := HB0.out.same s2
 have hlt := hb2.lt
 have hb3 := (hb2.same ((Same.refl w2).alloc (.cells #[.string ⟨#[]⟩, .nilFunc, .nilFunc, .nilFunc, .nilFunc] 119)))
 have HB := Lib.hid (Blk.chg hb3 (chg_setRow (Chg.refl (fun i => i = w2.heap.size) _) (.inl rfl) #[.string ⟨#[102, 111, 117, 114]⟩, .func (.func 112) #[] #[], .func (.func 113) #[] #[], .func (.func 114) #[] #[], .func (.func 115) #[] #[]]) (by omega))
 have HF := Lib.hid (row_blk (cs := #[.string ⟨#[102, 111, 117, 114]⟩, .func (.func 112) #[] #[], .func (.func 113) #[] #[], .func (.func 114) #[] #[], .func (.func 115) #[] #[]]) HZ.out)
 have HS3 := Lib.hid (show Same w ((w2.alloc (.cells #[.string ⟨#[]⟩, .nilFunc, .nilFunc, .nilFunc, .nilFunc] 119)).setRow w2.heap.size #[.string ⟨#[102, 111, 117, 114]⟩, .func (.func 112) #[] #[], .func (.func 113) #[] #[], .func (.func 114) #[] #[], .func (.func 115) #[] #[]]) from chg_setRow (HS2.out.alloc _) (.inr HS2.out.size) _)
 clear s2 hb2 hb3 hlt HB0 HS0
 have d0 : ((w2.alloc (.cells #[.string ⟨#[]⟩, .nilFunc, .nilFunc, .nilFunc, .nilFunc] 119)).setRow w2.heap.size #[.string ⟨#[102, 111, 117, 114]⟩, .func (.func 112) #[] #[], .func (.func 113) #[] #[], .func (.func 114) #[] #[], .func (.func 115) #[] #[]]).cell? ⟨w.heap.size, 0, none⟩ = some (.int .i64 1) := HB.out.cell 0
 have d1 : ((w2.alloc (.cells #[.string ⟨#[]⟩, .nilFunc, .nilFunc, .nilFunc, .nilFunc] 119)).setRow w2.heap.size #[.string ⟨#[102, 111, 117, 114]⟩, .func (.func 112) #[] #[], .func (.func 113) #[] #[], .func (.func 114) #[] #[], .func (.func 115) #[] #[]]).cell? ⟨w.heap.size, 1, none⟩ = some (.int .i64 wd) := HB.out.cell 1
 have d2 : ((w2.alloc (.cells #[.string ⟨#[]⟩, .nilFunc, .nilFunc, .nilFunc, .nilFunc] 119)).setRow w2.heap.size #[.string ⟨#[102, 111, 117, 114]⟩, .func (.func 112) #[] #[], .func (.func 113) #[] #[], .func (.func 114) #[] #[], .func (.func 115) #[] #[]]).cell? ⟨w.heap.size, 2, none⟩ = some (.int .i64 sl) := HB.out.cell 2
 have d3 : ((w2.alloc (.cells #[.string ⟨#[]⟩, .nilFunc, .nilFunc, .nilFunc, .nilFunc] 119)).setRow w2.heap.size #[.string ⟨#[102, 111, 117, 114]⟩, .func (.func 112) #[] #[], .func (.func 113) #[] #[], .func (.func 114) #[] #[], .func (.func 115) #[] #[]]).cell? ⟨w.heap.size, 3, none⟩ = some (.int .i64 cp) := HB.out.cell 3
 have d4 : ((w2.alloc (.cells #[.string ⟨#[]⟩, .nilFunc, .nilFunc, .nilFunc, .nilFunc] 119)).setRow w2.heap.size #[.string ⟨#[102, 111, 117, 114]⟩, .func (.func 112) #[] #[], .func (.func 113) #[] #[], .func (.func 114) #[] #[], .func (.func 115) #[] #[]]).cell? ⟨w.heap.size, 4, none⟩ = some (.int .u32 sa) := HB.out.cell 4
 have d5 : ((w2.alloc (.cells #[.string ⟨#[]⟩, .nilFunc, .nilFunc, .nilFunc, .nilFunc] 119)).setRow w2.heap.size #[.string ⟨#[102, 111, 117, 114]⟩, .func (.func 112) #[] #[], .func (.func 113) #[] #[], .func (.func 114) #[] #[], .func (.func 115) #[] #[]]).cell? ⟨w.heap.size, 5, none⟩ = some (.slice ia il ic) := HB.out.cell 5
 have d6 : ((w2.alloc (.cells #[.string ⟨#[]⟩, .nilFunc, .nilFunc, .nilFunc, .nilFunc] 119)).setRow w2.heap.size #[.string ⟨#[102, 111, 117, 114]⟩, .func (.func 112) #[] #[], .func (.func 113) #[] #[], .func (.func 114) #[] #[], .func (.func 115) #[] #[]]).cell? ⟨w.heap.size, 6, none⟩ = some (.int .i64 ow) := HB.out.cell 6
 have d7 : ((w2.alloc (.cells #[.string ⟨#[]⟩, .nilFunc, .nilFunc, .nilFunc, .nilFunc] 119)).setRow w2.heap.size #[.string ⟨#[102, 111, 117, 114]⟩, .func (.func 112) #[] #[], .func (.func 113) #[] #[], .func (.func 114) #[] #[], .func (.func 115) #[] #[]]).cell? ⟨w.heap.size, 7, none⟩ = some (.slice ra rl rc) := HB.out.cell 7
 have df : ((w2.alloc (.cells #[.string ⟨#[]⟩, .nilFunc, .nilFunc, .nilFunc, .nilFunc] 119)).setRow w2.heap.size #[.string ⟨#[102, 111, 117, 114]⟩, .func (.func 112) #[] #[], .func (.func 113) #[] #[], .func (.func 114) #[] #[], .func (.func 115) #[] #[]]).cell? ⟨w2.heap.size, 1, none⟩ = some (.func (.func 112) #[] #[]) := HF.out.cell 1
 go_wp2_with (refine wpList_store_row rfl 119 (.tmp 3) (.tmp 9) rfl w2.heap.size #[.string ⟨#[102, 111, 117, 114]⟩, .func (.func 112) #[] #[], .func (.func 113) #[] #[], .func (.func 114) #[] #[], .func (.func 115) #[] #[]] rfl rfl 119 #[.string ⟨#[]⟩, .nilFunc, .nilFunc, .nilFunc, .nilFunc] HZ.out face_size rfl one_1 ?_)
 refine (HC.out _).mono ?_
 rintro e w4 ⟨rfl, s4⟩
 go_wp2_with fail
 go_ret
 exact ⟨rfl, HS3.out.trans s4⟩
theorem bnd_1 (wd sl cp sa ow : Int) (ia ra : Option Addr) (il ic rl rc : Nat) (op : Int) (w : World) :
 Calls Tryz.prog 115 #[.agg #[.int .i64 1, .int .i64 wd, .int .i64 sl, .int .i64 cp, .int .u32 sa, .slice ia il ic, .int .i64 ow, .slice ra rl rc], .int .i64 op] w fun e w' => e = .returned (.int .i64 (boundF 1 wd sl cp sa il rl op)) ∧ Same w w' := by
 rw [bound_1]
 cases h : Fo.rightB wd sl cp sa il rl
 ·rw [if_neg Bool.false_ne_true]
  exact Fo.bound_no wd sl cp sa ow ia ra il ic rl rc op w h
 ·rw [if_pos rfl]
  exact Fo.bound_yes wd sl cp sa ow ia ra il ic rl rc op w h
set_option maxRecDepth 100000 in
theorem bound_of_1 (wd sl cp sa ow : Int) (ia ra : Option Addr) (il ic rl rc : Nat) (op : Int) (w : World) :
 Calls Tryz.prog 179 #[.agg #[.int .i64 1, .int .i64 wd, .int .i64 sl, .int .i64 cp, .int .u32 sa, .slice ia il ic, .int .i64 ow, .slice ra rl rc], .int .i64 op] w fun e w' => e = .returned (.int .i64 (boundF 1 wd sl cp sa il rl op)) ∧ Same w w' := by
 have HC := Lib.hid (fun w' => bnd_1 wd sl cp sa ow ia ra il ic rl rc op w')
 have hb0 := Blk.new w 43 #[.int .i64 1, .int .i64 wd, .int .i64 sl, .int .i64 cp, .int .u32 sa, .slice ia il ic, .int .i64 ow, .slice ra rl rc]
 have HS0 := Lib.hid ((Same.refl w).alloc (.cells #[.int .i64 1, .int .i64 wd, .int .i64 sl, .int .i64 cp, .int .u32 sa, .slice ia il ic, .int .i64 ow, .slice ra rl rc] 43))
 have HB0 := Lib.hid hb0
 clear hb0
 generalize boundF 1 wd sl cp sa il rl op = rb at *
 go_enter Tryz.func179, Tryz.ntmps179
 go_wp2_with fail
 refine (face_1 _).mono ?_
 rintro e w2 ⟨rfl, s2⟩
 have HZ := Lib.hid (Blk.new w2 119 #[.string ⟨#[]⟩, .nilFunc, .nilFunc, .nilFunc, .nilFunc])
 have HS2 := Lib.hid (HS0.out.trans s2)
 have hb2 := HB0.out.same s2
 have hlt := hb2.lt
 have hb3 := (hb2.same ((Same.refl w2).alloc (.cells #[.string ⟨#[]⟩, .nilFunc, .nilFunc, .nilFunc, .nilFunc] 119)))
 have HB := Lib.hid (Blk.chg hb3 (chg_setRow (Chg.refl (fun i => i = w2.heap.size) _) (.inl rfl) #[.string ⟨#[102, 111, 117, 114]⟩, .func (.func 112) #[] #[], .func (.func 113) #[] #[], .func (.func 114) #[] #[], .func (.func 115) #[] #[]]) (by omega))
 have HF := Lib.hid (row_blk (cs := #[.string ⟨#[102, 111, 117, 114]⟩, .func (.func 112) #[] #[], .func (.func 113) #[] #[], .func (.func 114) #[] #[], .func (.func 115) #[] #[]]) HZ.out)
 have HS3 := Lib.hid (show Same w ((w2.alloc (.cells #[.string ⟨#[]⟩, .nilFunc, .nilFunc, .nilFunc, .nilFunc] 119)).setRow w2.heap.size #[.string ⟨#[102, 111, 117, 114]⟩, .func (.func 112) #[] #[], .func (.func 113) #[] #[], .func (.func 114) #[] #[], .func (.func 115) #[] #[]]) from chg_setRow (HS2.out.alloc _) (.inr HS2.out.size) _)
 clear s2 hb2 hb3 hlt HB0 HS0
 have d0 : ((w2.alloc (.cells #[.string ⟨#[]⟩, .nilFunc, .nilFunc, .nilFunc, .nilFunc] 119)).setRow w2.heap.size #[.string ⟨#[102, 111, 117, 114]⟩, .func (.func 112) #[] #[], .func (.func 113) #[] #[], .func (.func 114) #[] #[], .func (.func 115) #[] #[]]).cell? ⟨w.heap.size, 0, none⟩ = some (.int .i64 1) := HB.out.cell 0
 have d1 : ((w2.alloc (.cells #[.string ⟨#[]⟩, .nilFunc, .nilFunc, .nilFunc, .nilFunc] 119)).setRow w2.heap.size #[.string ⟨#[102, 111, 117, 114]⟩, .func (.func 112) #[] #[], .func (.func 113) #[] #[], .func (.func 114) #[] #[], .func (.func 115) #[] #[]]).cell? ⟨w.heap.size, 1, none⟩ = some (.int .i64 wd) := HB.out.cell 1
 have d2 : ((w2.alloc (.cells #[.string ⟨#[]⟩, .nilFunc, .nilFunc, .nilFunc, .nilFunc] 119)).setRow w2.heap.size #[.string ⟨#[102, 111, 117, 114]⟩, .func (.func 112) #[] #[], .func (.func 113) #[] #[], .func (.func 114) #[] #[], .func (.func 115) #[] #[]]).cell? ⟨w.heap.size, 2, none⟩ = some (.int .i64 sl) := HB.out.cell 2
 have d3 : ((w2.alloc (.cells #[.string ⟨#[]⟩, .nilFunc, .nilFunc, .nilFunc, .nilFunc] 119)).setRow w2.heap.size #[.string ⟨#[102, 111, 117, 114]⟩, .func (.func 112) #[] #[], .func (.func 113) #[] #[], .func (.func 114) #[] #[], .func (.func 115) #[] #[]]).cell? ⟨w.heap.size, 3, none⟩ = some (.int .i64 cp) := HB.out.cell 3
 have d4 : ((w2.alloc (.cells #[.string ⟨#[]⟩, .nilFunc, .nilFunc, .nilFunc, .nilFunc] 119)).setRow w2.heap.size #[.string ⟨#[102, 111, 117, 114]⟩, .func (.func 112) #[] #[], .func (.func 113) #[] #[], .func (.func 114) #[] #[], .func (.func 115) #[] #[]]).cell? ⟨w.heap.size, 4, none⟩ = some (.int .u32 sa) := HB.out.cell 4
 have d5 : ((w2.alloc (.cells #[.string ⟨#[]⟩, .nilFunc, .nilFunc, .nilFunc, .nilFunc] 119)).setRow w2.heap.size #[.string ⟨#[102, 111, 117, 114]⟩, .func (.func 112) #[] #[], .func (.func 113) #[] #[], .func (.func 114) #[] #[], .func (.func 115) #[] #[]]).cell? ⟨w.heap.size, 5, none⟩ = some (.slice ia il ic) := HB.out.cell 5
 have d6 : ((w2.alloc (.cells #[.string ⟨#[]⟩, .nilFunc, .nilFunc, .nilFunc, .nilFunc] 119)).setRow w2.heap.size #[.string ⟨#[102, 111, 117, 114]⟩, .func (.func 112) #[] #[], .func (.func 113) #[] #[], .func (.func 114) #[] #[], .func (.func 115) #[] #[]]).cell? ⟨w.heap.size, 6, none⟩ = some (.int .i64 ow) := HB.out.cell 6
 have d7 : ((w2.alloc (.cells #[.string ⟨#[]⟩, .nilFunc, .nilFunc, .nilFunc, .nilFunc] 119)).setRow w2.heap.size #[.string ⟨#[102, 111, 117, 114]⟩, .func (.func 112) #[] #[], .func (.func 113) #[] #[], .func (.func 114) #[] #[], .func (.func 115) #[] #[]]).cell? ⟨w.heap.size, 7, none⟩ = some (.slice ra rl rc) := HB.out.cell 7
 have df : ((w2.alloc (.cells #[.string ⟨#[]⟩, .nilFunc, .nilFunc, .nilFunc, .nilFunc] 119)).setRow w2.heap.size #[.string ⟨#[102, 111, 117, 114]⟩, .func (.func 112) #[] #[], .func (.func 113) #[] #[], .func (.func 114) #[] #[], .func (.func 115) #[] #[]]).cell? ⟨w2.heap.size, 4, none⟩ = some (.func (.func 115) #[] #[]) := HF.out.cell 4
 go_wp2_with (refine wpList_store_row rfl 119 (.tmp 5) (.tmp 11) rfl w2.heap.size #[.string ⟨#[102, 111, 117, 114]⟩, .func (.func 112) #[] #[], .func (.func 113) #[] #[], .func (.func 114) #[] #[], .func (.func 115) #[] #[]] rfl rfl 119 #[.string ⟨#[]⟩, .nilFunc, .nilFunc, .nilFunc, .nilFunc] HZ.out face_size rfl one_1 ?_)
 refine (HC.out _).mono ?_
 rintro e w4 ⟨rfl, s4⟩
 go_wp2_with fail
 go_ret
 exact ⟨rfl, HS3.out.trans s4⟩
set_option maxRecDepth 100000 in
theorem shaped_2 (wd sl cp sa ow : Int) (ia ra : Option Addr) (il ic rl rc : Nat) (w : World) (hsa : 0 ≤ sa ∧ sa < 4294967296 := by assumption) :
 Calls Tryz.prog 87 #[.agg #[.int .i64 2, .int .i64 wd, .int .i64 sl, .int .i64 cp, .int .u32 sa, .slice ia il ic, .int .i64 ow, .slice ra rl rc]] w fun e w' => e = .returned (.bool (Ch.rightB wd sl cp sa il rl)) ∧ Same w w' := by
 have HC := Lib.hid (fun w' => Ch.right_any wd sl cp sa ow ia ra il ic rl rc w')
 have hb0 := Blk.new w 43 #[.int .i64 2, .int .i64 wd, .int .i64 sl, .int .i64 cp, .int .u32 sa, .slice ia il ic, .int .i64 ow, .slice ra rl rc]
 have HS0 := Lib.hid ((Same.refl w).alloc (.cells #[.int .i64 2, .int .i64 wd, .int .i64 sl, .int .i64 cp, .int .u32 sa, .slice ia il ic, .int .i64 ow, .slice ra rl rc] 43))
 have HB0 := Lib.hid hb0
 clear hb0
 generalize Ch.rightB wd sl cp sa il rl = rb at *
 go_enter Tryz.func87, Tryz.ntmps87
 go_wp2_with fail
 refine (face_2 _).mono ?_
 rintro e w2 ⟨rfl, s2⟩
 have HZ := Lib.hid (Blk.new w2 119 #[.string ⟨#[]⟩, .nilFunc, .nilFunc, .nilFunc, .nilFunc])
 have HS2 := Lib.hid (HS0.out.trans s2)
 have hb2 := HB0.out.same s2
 have hlt := hb2.lt
 have hb3 := (hb2.same ((Same.refl w2).alloc (.cells #[.string ⟨#[]⟩, .nilFunc, .nilFunc, .nilFunc, .nilFunc] 119)))
 have HB := Lib.hid (Blk.chg hb3 (chg_setRow (Chg.refl (fun i => i = w2.heap.size) _) (.inl rfl) #[.string ⟨#[99, 104, 101, 110]⟩, .func (.func 116) #[] #[], .func (.func 117) #[] #[], .func (.func 118) #[] #[], .func (.func 119) #[] #[]]) (by omega))
 have HF := Lib.hid (row_blk (cs := #[.string ⟨#[99, 104, 101, 110]⟩, .func (.func 116) #[] #[], .func (.func 117) #[] #[], .func (.func 118) #[] #[], .func (.func 119) #[] #[]]) HZ.out)
 have HS3 := Lib.hid (show Same w ((w2.alloc (.cells #[.string ⟨#[]⟩, .nilFunc, .nilFunc, .nilFunc, .nilFunc] 119)).setRow w2.heap.size #[.string ⟨#[99, 104, 101, 110]⟩, .func (.func 116) #[] #[], .func (.func 117) #[] #[], .func (.func 118) #[] #[], .func (.func 119) #[] #[]]) from chg_setRow (HS2.out.alloc _) (.inr HS2.out.size) _)
 clear s2 hb2 hb3 hlt HB0 HS0
 have d0 : ((w2.alloc (.cells #[.string ⟨#[]⟩, .nilFunc, .nilFunc, .nilFunc, .nilFunc] 119)).setRow w2.heap.size #[.string ⟨#[99, 104, 101, 110]⟩, .func (.func 116) #[] #[], .func (.func 117) #[] #[], .func (.func 118) #[] #[], .func (.func 119) #[] #[]]).cell? ⟨w.heap.size, 0, none⟩ = some (.int .i64 2) := HB.out.cell 0
 have d1 : ((w2.alloc (.cells #[.string ⟨#[]⟩, .nilFunc, .nilFunc, .nilFunc, .nilFunc] 119)).setRow w2.heap.size #[.string ⟨#[99, 104, 101, 110]⟩, .func (.func 116) #[] #[], .func (.func 117) #[] #[], .func (.func 118) #[] #[], .func (.func 119) #[] #[]]).cell? ⟨w.heap.size, 1, none⟩ = some (.int .i64 wd) := HB.out.cell 1
 have d2 : ((w2.alloc (.cells #[.string ⟨#[]⟩, .nilFunc, .nilFunc, .nilFunc, .nilFunc] 119)).setRow w2.heap.size #[.string ⟨#[99, 104, 101, 110]⟩, .func (.func 116) #[] #[], .func (.func 117) #[] #[], .func (.func 118) #[] #[], .func (.func 119) #[] #[]]).cell? ⟨w.heap.size, 2, none⟩ = some (.int .i64 sl) := HB.out.cell 2
 have d3 : ((w2.alloc (.cells #[.string ⟨#[]⟩, .nilFunc, .nilFunc, .nilFunc, .nilFunc] 119)).setRow w2.heap.size #[.string ⟨#[99, 104, 101, 110]⟩, .func (.func 116) #[] #[], .func (.func 117) #[] #[], .func (.func 118) #[] #[], .func (.func 119) #[] #[]]).cell? ⟨w.heap.size, 3, none⟩ = some (.int .i64 cp) := HB.out.cell 3
 have d4 : ((w2.alloc (.cells #[.string ⟨#[]⟩, .nilFunc, .nilFunc, .nilFunc, .nilFunc] 119)).setRow w2.heap.size #[.string ⟨#[99, 104, 101, 110]⟩, .func (.func 116) #[] #[], .func (.func 117) #[] #[], .func (.func 118) #[] #[], .func (.func 119) #[] #[]]).cell? ⟨w.heap.size, 4, none⟩ = some (.int .u32 sa) := HB.out.cell 4
 have d5 : ((w2.alloc (.cells #[.string ⟨#[]⟩, .nilFunc, .nilFunc, .nilFunc, .nilFunc] 119)).setRow w2.heap.size #[.string ⟨#[99, 104, 101, 110]⟩, .func (.func 116) #[] #[], .func (.func 117) #[] #[], .func (.func 118) #[] #[], .func (.func 119) #[] #[]]).cell? ⟨w.heap.size, 5, none⟩ = some (.slice ia il ic) := HB.out.cell 5
 have d6 : ((w2.alloc (.cells #[.string ⟨#[]⟩, .nilFunc, .nilFunc, .nilFunc, .nilFunc] 119)).setRow w2.heap.size #[.string ⟨#[99, 104, 101, 110]⟩, .func (.func 116) #[] #[], .func (.func 117) #[] #[], .func (.func 118) #[] #[], .func (.func 119) #[] #[]]).cell? ⟨w.heap.size, 6, none⟩ = some (.int .i64 ow) := HB.out.cell 6
 have d7 : ((w2.alloc (.cells #[.string ⟨#[]⟩, .nilFunc, .nilFunc, .nilFunc, .nilFunc] 119)).setRow w2.heap.size #[.string ⟨#[99, 104, 101, 110]⟩, .func (.func 116) #[] #[], .func (.func 117) #[] #[], .func (.func 118) #[] #[], .func (.func 119) #[] #[]]).cell? ⟨w.heap.size, 7, none⟩ = some (.slice ra rl rc) := HB.out.cell 7
 have df : ((w2.alloc (.cells #[.string ⟨#[]⟩, .nilFunc, .nilFunc, .nilFunc, .nilFunc] 119)).setRow w2.heap.size #[.string ⟨#[99, 104, 101, 110]⟩, .func (.func 116) #[] #[], .func (.func 117) #[] #[], .func (.func 118) #[] #[], .func (.func 119) #[] #[]]).cell? ⟨w2.heap.size, 1, none⟩ = some (.func (.func 116) #[] #[]) := HF.out.cell 1
 go_wp2_with (refine wpList_store_row rfl 119 (.tmp 3) (.tmp 9) rfl w2.heap.size #[.string ⟨#[99, 104, 101, 110]⟩, .func (.func 116) #[] #[], .func (.func 117) #[] #[], .func (.func 118) #[] #[], .func (.func 119) #[] #[]] rfl rfl 119 #[.string ⟨#[]⟩, .nilFunc, .nilFunc, .nilFunc, .nilFunc] HZ.out face_size rfl one_2 ?_)
 refine (HC.out _).mono ?_
 rintro e w4 ⟨rfl, s4⟩
 go_wp2_with fail
 go_ret
 exact ⟨rfl, HS3.out.trans s4⟩
theorem bnd_2 (wd sl cp sa ow : Int) (ia ra : Option Addr) (il ic rl rc : Nat) (op : Int) (w : World) (hsa : 0 ≤ sa ∧ sa < 4294967296 := by assumption) :
 Calls Tryz.prog 119 #[.agg #[.int .i64 2, .int .i64 wd, .int .i64 sl, .int .i64 cp, .int .u32 sa, .slice ia il ic, .int .i64 ow, .slice ra rl rc], .int .i64 op] w fun e w' => e = .returned (.int .i64 (boundF 2 wd sl cp sa il rl op)) ∧ Same w w' := by
 rw [bound_2]
 cases h : Ch.rightB wd sl cp sa il rl
 ·rw [if_neg Bool.false_ne_true]
  exact Ch.bound_no wd sl cp sa ow ia ra il ic rl rc op w h
 ·rw [if_pos rfl]
  exact Ch.bound_yes wd sl cp sa ow ia ra il ic rl rc op w h
set_option maxRecDepth 100000 in
theorem bound_of_2 (wd sl cp sa ow : Int) (ia ra : Option Addr) (il ic rl rc : Nat) (op : Int) (w : World) (hsa : 0 ≤ sa ∧ sa < 4294967296 := by assumption) :
 Calls Tryz.prog 179 #[.agg #[.int .i64 2, .int .i64 wd, .int .i64 sl, .int .i64 cp, .int .u32 sa, .slice ia il ic, .int .i64 ow, .slice ra rl rc], .int .i64 op] w fun e w' => e = .returned (.int .i64 (boundF 2 wd sl cp sa il rl op)) ∧ Same w w' := by
 have HC := Lib.hid (fun w' => bnd_2 wd sl cp sa ow ia ra il ic rl rc op w')
 have hb0 := Blk.new w 43 #[.int .i64 2, .int .i64 wd, .int .i64 sl, .int .i64 cp, .int .u32 sa, .slice ia il ic, .int .i64 ow, .slice ra rl rc]
 have HS0 := Lib.hid ((Same.refl w).alloc (.cells #[.int .i64 2, .int .i64 wd, .int .i64 sl, .int .i64 cp, .int .u32 sa, .slice ia il ic, .int .i64 ow, .slice ra rl rc] 43))
 have HB0 := Lib.hid hb0
 clear hb0
 generalize boundF 2 wd sl cp sa il rl op = rb at *
 go_enter Tryz.func179, Tryz.ntmps179
 go_wp2_with fail
 refine (face_2 _).mono ?_
 rintro e w2 ⟨rfl, s2⟩
 have HZ := Lib.hid (Blk.new w2 119 #[.string ⟨#[]⟩, .nilFunc, .nilFunc, .nilFunc, .nilFunc])
 have HS2 := Lib.hid (HS0.out.trans s2)
 have hb2 := HB0.out.same s2
 have hlt := hb2.lt
 have hb3 := (hb2.same ((Same.refl w2).alloc (.cells #[.string ⟨#[]⟩, .nilFunc, .nilFunc, .nilFunc, .nilFunc] 119)))
 have HB := Lib.hid (Blk.chg hb3 (chg_setRow (Chg.refl (fun i => i = w2.heap.size) _) (.inl rfl) #[.string ⟨#[99, 104, 101, 110]⟩, .func (.func 116) #[] #[], .func (.func 117) #[] #[], .func (.func 118) #[] #[], .func (.func 119) #[] #[]]) (by omega))
 have HF := Lib.hid (row_blk (cs := #[.string ⟨#[99, 104, 101, 110]⟩, .func (.func 116) #[] #[], .func (.func 117) #[] #[], .func (.func 118) #[] #[], .func (.func 119) #[] #[]]) HZ.out)
 have HS3 := Lib.hid (show Same w ((w2.alloc (.cells #[.string ⟨#[]⟩, .nilFunc, .nilFunc, .nilFunc, .nilFunc] 119)).setRow w2.heap.size #[.string ⟨#[99, 104, 101, 110]⟩, .func (.func 116) #[] #[], .func (.func 117) #[] #[], .func (.func 118) #[] #[], .func (.func 119) #[] #[]]) from chg_setRow (HS2.out.alloc _) (.inr HS2.out.size) _)
 clear s2 hb2 hb3 hlt HB0 HS0
 have d0 : ((w2.alloc (.cells #[.string ⟨#[]⟩, .nilFunc, .nilFunc, .nilFunc, .nilFunc] 119)).setRow w2.heap.size #[.string ⟨#[99, 104, 101, 110]⟩, .func (.func 116) #[] #[], .func (.func 117) #[] #[], .func (.func 118) #[] #[], .func (.func 119) #[] #[]]).cell? ⟨w.heap.size, 0, none⟩ = some (.int .i64 2) := HB.out.cell 0
 have d1 : ((w2.alloc (.cells #[.string ⟨#[]⟩, .nilFunc, .nilFunc, .nilFunc, .nilFunc] 119)).setRow w2.heap.size #[.string ⟨#[99, 104, 101, 110]⟩, .func (.func 116) #[] #[], .func (.func 117) #[] #[], .func (.func 118) #[] #[], .func (.func 119) #[] #[]]).cell? ⟨w.heap.size, 1, none⟩ = some (.int .i64 wd) := HB.out.cell 1
 have d2 : ((w2.alloc (.cells #[.string ⟨#[]⟩, .nilFunc, .nilFunc, .nilFunc, .nilFunc] 119)).setRow w2.heap.size #[.string ⟨#[99, 104, 101, 110]⟩, .func (.func 116) #[] #[], .func (.func 117) #[] #[], .func (.func 118) #[] #[], .func (.func 119) #[] #[]]).cell? ⟨w.heap.size, 2, none⟩ = some (.int .i64 sl) := HB.out.cell 2
 have d3 : ((w2.alloc (.cells #[.string ⟨#[]⟩, .nilFunc, .nilFunc, .nilFunc, .nilFunc] 119)).setRow w2.heap.size #[.string ⟨#[99, 104, 101, 110]⟩, .func (.func 116) #[] #[], .func (.func 117) #[] #[], .func (.func 118) #[] #[], .func (.func 119) #[] #[]]).cell? ⟨w.heap.size, 3, none⟩ = some (.int .i64 cp) := HB.out.cell 3
 have d4 : ((w2.alloc (.cells #[.string ⟨#[]⟩, .nilFunc, .nilFunc, .nilFunc, .nilFunc] 119)).setRow w2.heap.size #[.string ⟨#[99, 104, 101, 110]⟩, .func (.func 116) #[] #[], .func (.func 117) #[] #[], .func (.func 118) #[] #[], .func (.func 119) #[] #[]]).cell? ⟨w.heap.size, 4, none⟩ = some (.int .u32 sa) := HB.out.cell 4
 have d5 : ((w2.alloc (.cells #[.string ⟨#[]⟩, .nilFunc, .nilFunc, .nilFunc, .nilFunc] 119)).setRow w2.heap.size #[.string ⟨#[99, 104, 101, 110]⟩, .func (.func 116) #[] #[], .func (.func 117) #[] #[], .func (.func 118) #[] #[], .func (.func 119) #[] #[]]).cell? ⟨w.heap.size, 5, none⟩ = some (.slice ia il ic) := HB.out.cell 5
 have d6 : ((w2.alloc (.cells #[.string ⟨#[]⟩, .nilFunc, .nilFunc, .nilFunc, .nilFunc] 119)).setRow w2.heap.size #[.string ⟨#[99, 104, 101, 110]⟩, .func (.func 116) #[] #[], .func (.func 117) #[] #[], .func (.func 118) #[] #[], .func (.func 119) #[] #[]]).cell? ⟨w.heap.size, 6, none⟩ = some (.int .i64 ow) := HB.out.cell 6
 have d7 : ((w2.alloc (.cells #[.string ⟨#[]⟩, .nilFunc, .nilFunc, .nilFunc, .nilFunc] 119)).setRow w2.heap.size #[.string ⟨#[99, 104, 101, 110]⟩, .func (.func 116) #[] #[], .func (.func 117) #[] #[], .func (.func 118) #[] #[], .func (.func 119) #[] #[]]).cell? ⟨w.heap.size, 7, none⟩ = some (.slice ra rl rc) := HB.out.cell 7
 have df : ((w2.alloc (.cells #[.string ⟨#[]⟩, .nilFunc, .nilFunc, .nilFunc, .nilFunc] 119)).setRow w2.heap.size #[.string ⟨#[99, 104, 101, 110]⟩, .func (.func 116) #[] #[], .func (.func 117) #[] #[], .func (.func 118) #[] #[], .func (.func 119) #[] #[]]).cell? ⟨w2.heap.size, 4, none⟩ = some (.func (.func 119) #[] #[]) := HF.out.cell 4
 go_wp2_with (refine wpList_store_row rfl 119 (.tmp 5) (.tmp 11) rfl w2.heap.size #[.string ⟨#[99, 104, 101, 110]⟩, .func (.func 116) #[] #[], .func (.func 117) #[] #[], .func (.func 118) #[] #[], .func (.func 119) #[] #[]] rfl rfl 119 #[.string ⟨#[]⟩, .nilFunc, .nilFunc, .nilFunc, .nilFunc] HZ.out face_size rfl one_2 ?_)
 refine (HC.out _).mono ?_
 rintro e w4 ⟨rfl, s4⟩
 go_wp2_with fail
 go_ret
 exact ⟨rfl, HS3.out.trans s4⟩
set_option maxRecDepth 100000 in
theorem shaped_3 (wd sl cp sa ow : Int) (ia ra : Option Addr) (il ic rl rc : Nat) (w : World) (hsa : 0 ≤ sa ∧ sa < 4294967296 := by assumption) :
 Calls Tryz.prog 87 #[.agg #[.int .i64 3, .int .i64 wd, .int .i64 sl, .int .i64 cp, .int .u32 sa, .slice ia il ic, .int .i64 ow, .slice ra rl rc]] w fun e w' => e = .returned (.bool (Sq.rightB wd sl cp sa il rl)) ∧ Same w w' := by
 have HC := Lib.hid (fun w' => Sq.right_any wd sl cp sa ow ia ra il ic rl rc w')
 have hb0 := Blk.new w 43 #[.int .i64 3, .int .i64 wd, .int .i64 sl, .int .i64 cp, .int .u32 sa, .slice ia il ic, .int .i64 ow, .slice ra rl rc]
 have HS0 := Lib.hid ((Same.refl w).alloc (.cells #[.int .i64 3, .int .i64 wd, .int .i64 sl, .int .i64 cp, .int .u32 sa, .slice ia il ic, .int .i64 ow, .slice ra rl rc] 43))
 have HB0 := Lib.hid hb0
 clear hb0
 generalize Sq.rightB wd sl cp sa il rl = rb at *
 go_enter Tryz.func87, Tryz.ntmps87
 go_wp2_with fail
 refine (face_3 _).mono ?_
 rintro e w2 ⟨rfl, s2⟩
 have HZ := Lib.hid (Blk.new w2 119 #[.string ⟨#[]⟩, .nilFunc, .nilFunc, .nilFunc, .nilFunc])
 have HS2 := Lib.hid (HS0.out.trans s2)
 have hb2 := HB0.out.same s2
 have hlt := hb2.lt
 have hb3 := (hb2.same ((Same.refl w2).alloc (.cells #[.string ⟨#[]⟩, .nilFunc, .nilFunc, .nilFunc, .nilFunc] 119)))
 have HB := Lib.hid (Blk.chg hb3 (chg_setRow (Chg.refl (fun i => i = w2.heap.size) _) (.inl rfl) #[.string ⟨#[115, 101, 113]⟩, .func (.func 120) #[] #[], .func (.func 121) #[] #[], .func (.func 122) #[] #[], .func (.func 123) #[] #[]]) (by omega))
 have HF := Lib.hid (row_blk (cs := #[.string ⟨#[115, 101, 113]⟩, .func (.func 120) #[] #[], .func (.func 121) #[] #[], .func (.func 122) #[] #[], .func (.func 123) #[] #[]]) HZ.out)
 have HS3 := Lib.hid (show Same w ((w2.alloc (.cells #[.string ⟨#[]⟩, .nilFunc, .nilFunc, .nilFunc, .nilFunc] 119)).setRow w2.heap.size #[.string ⟨#[115, 101, 113]⟩, .func (.func 120) #[] #[], .func (.func 121) #[] #[], .func (.func 122) #[] #[], .func (.func 123) #[] #[]]) from chg_setRow (HS2.out.alloc _) (.inr HS2.out.size) _)
 clear s2 hb2 hb3 hlt HB0 HS0
 have d0 : ((w2.alloc (.cells #[.string ⟨#[]⟩, .nilFunc, .nilFunc, .nilFunc, .nilFunc] 119)).setRow w2.heap.size #[.string ⟨#[115, 101, 113]⟩, .func (.func 120) #[] #[], .func (.func 121) #[] #[], .func (.func 122) #[] #[], .func (.func 123) #[] #[]]).cell? ⟨w.heap.size, 0, none⟩ = some (.int .i64 3) := HB.out.cell 0
 have d1 : ((w2.alloc (.cells #[.string ⟨#[]⟩, .nilFunc, .nilFunc, .nilFunc, .nilFunc] 119)).setRow w2.heap.size #[.string ⟨#[115, 101, 113]⟩, .func (.func 120) #[] #[], .func (.func 121) #[] #[], .func (.func 122) #[] #[], .func (.func 123) #[] #[]]).cell? ⟨w.heap.size, 1, none⟩ = some (.int .i64 wd) := HB.out.cell 1
 have d2 : ((w2.alloc (.cells #[.string ⟨#[]⟩, .nilFunc, .nilFunc, .nilFunc, .nilFunc] 119)).setRow w2.heap.size #[.string ⟨#[115, 101, 113]⟩, .func (.func 120) #[] #[], .func (.func 121) #[] #[], .func (.func 122) #[] #[], .func (.func 123) #[] #[]]).cell? ⟨w.heap.size, 2, none⟩ = some (.int .i64 sl) := HB.out.cell 2
 have d3 : ((w2.alloc (.cells #[.string ⟨#[]⟩, .nilFunc, .nilFunc, .nilFunc, .nilFunc] 119)).setRow w2.heap.size #[.string ⟨#[115, 101, 113]⟩, .func (.func 120) #[] #[], .func (.func 121) #[] #[], .func (.func 122) #[] #[], .func (.func 123) #[] #[]]).cell? ⟨w.heap.size, 3, none⟩ = some (.int .i64 cp) := HB.out.cell 3
 have d4 : ((w2.alloc (.cells #[.string ⟨#[]⟩, .nilFunc, .nilFunc, .nilFunc, .nilFunc] 119)).setRow w2.heap.size #[.string ⟨#[115, 101, 113]⟩, .func (.func 120) #[] #[], .func (.func 121) #[] #[], .func (.func 122) #[] #[], .func (.func 123) #[] #[]]).cell? ⟨w.heap.size, 4, none⟩ = some (.int .u32 sa) := HB.out.cell 4
 have d5 : ((w2.alloc (.cells #[.string ⟨#[]⟩, .nilFunc, .nilFunc, .nilFunc, .nilFunc] 119)).setRow w2.heap.size #[.string ⟨#[115, 101, 113]⟩, .func (.func 120) #[] #[], .func (.func 121) #[] #[], .func (.func 122) #[] #[], .func (.func 123) #[] #[]]).cell? ⟨w.heap.size, 5, none⟩ = some (.slice ia il ic) := HB.out.cell 5
 have d6 : ((w2.alloc (.cells #[.string ⟨#[]⟩, .nilFunc, .nilFunc, .nilFunc, .nilFunc] 119)).setRow w2.heap.size #[.string ⟨#[115, 101, 113]⟩, .func (.func 120) #[] #[], .func (.func 121) #[] #[], .func (.func 122) #[] #[], .func (.func 123) #[] #[]]).cell? ⟨w.heap.size, 6, none⟩ = some (.int .i64 ow) := HB.out.cell 6
 have d7 : ((w2.alloc (.cells #[.string ⟨#[]⟩, .nilFunc, .nilFunc, .nilFunc, .nilFunc] 119)).setRow w2.heap.size #[.string ⟨#[115, 101, 113]⟩, .func (.func 120) #[] #[], .func (.func 121) #[] #[], .func (.func 122) #[] #[], .func (.func 123) #[] #[]]).cell? ⟨w.heap.size, 7, none⟩ = some (.slice ra rl rc) := HB.out.cell 7
 have df : ((w2.alloc (.cells #[.string ⟨#[]⟩, .nilFunc, .nilFunc, .nilFunc, .nilFunc] 119)).setRow w2.heap.size #[.string ⟨#[115, 101, 113]⟩, .func (.func 120) #[] #[], .func (.func 121) #[] #[], .func (.func 122) #[] #[], .func (.func 123) #[] #[]]).cell? ⟨w2.heap.size, 1, none⟩ = some (.func (.func 120) #[] #[]) := HF.out.cell 1
 go_wp2_with (refine wpList_store_row rfl 119 (.tmp 3) (.tmp 9) rfl w2.heap.size #[.string ⟨#[115, 101, 113]⟩, .func (.func 120) #[] #[], .func (.func 121) #[] #[], .func (.func 122) #[] #[], .func (.func 123) #[] #[]] rfl rfl 119 #[.string ⟨#[]⟩, .nilFunc, .nilFunc, .nilFunc, .nilFunc] HZ.out face_size rfl one_3 ?_)
 refine (HC.out _).mono ?_
 rintro e w4 ⟨rfl, s4⟩
 go_wp2_with fail
 go_ret
 exact ⟨rfl, HS3.out.trans s4⟩
theorem bnd_3 (wd sl cp sa ow : Int) (ia ra : Option Addr) (il ic rl rc : Nat) (op : Int) (w : World) (hsa : 0 ≤ sa ∧ sa < 4294967296 := by assumption) :
 Calls Tryz.prog 123 #[.agg #[.int .i64 3, .int .i64 wd, .int .i64 sl, .int .i64 cp, .int .u32 sa, .slice ia il ic, .int .i64 ow, .slice ra rl rc], .int .i64 op] w fun e w' => e = .returned (.int .i64 (boundF 3 wd sl cp sa il rl op)) ∧ Same w w' := by
 rw [bound_3]
 cases h : Sq.rightB wd sl cp sa il rl
 ·rw [if_neg Bool.false_ne_true]
  exact Sq.bound_no wd sl cp sa ow ia ra il ic rl rc op w h
 ·rw [if_pos rfl]
  exact Sq.bound_yes wd sl cp sa ow ia ra il ic rl rc op w h
set_option maxRecDepth 100000 in
theorem bound_of_3 (wd sl cp sa ow : Int) (ia ra : Option Addr) (il ic rl rc : Nat) (op : Int) (w : World) (hsa : 0 ≤ sa ∧ sa < 4294967296 := by assumption) :
 Calls Tryz.prog 179 #[.agg #[.int .i64 3, .int .i64 wd, .int .i64 sl, .int .i64 cp, .int .u32 sa, .slice ia il ic, .int .i64 ow, .slice ra rl rc], .int .i64 op] w fun e w' => e = .returned (.int .i64 (boundF 3 wd sl cp sa il rl op)) ∧ Same w w' := by
 have HC := Lib.hid (fun w' => bnd_3 wd sl cp sa ow ia ra il ic rl rc op w')
 have hb0 := Blk.new w 43 #[.int .i64 3, .int .i64 wd, .int .i64 sl, .int .i64 cp, .int .u32 sa, .slice ia il ic, .int .i64 ow, .slice ra rl rc]
 have HS0 := Lib.hid ((Same.refl w).alloc (.cells #[.int .i64 3, .int .i64 wd, .int .i64 sl, .int .i64 cp, .int .u32 sa, .slice ia il ic, .int .i64 ow, .slice ra rl rc] 43))
 have HB0 := Lib.hid hb0
 clear hb0
 generalize boundF 3 wd sl cp sa il rl op = rb at *
 go_enter Tryz.func179, Tryz.ntmps179
 go_wp2_with fail
 refine (face_3 _).mono ?_
 rintro e w2 ⟨rfl, s2⟩
 have HZ := Lib.hid (Blk.new w2 119 #[.string ⟨#[]⟩, .nilFunc, .nilFunc, .nilFunc, .nilFunc])
 have HS2 := Lib.hid (HS0.out.trans s2)
 have hb2 := HB0.out.same s2
 have hlt := hb2.lt
 have hb3 := (hb2.same ((Same.refl w2).alloc (.cells #[.string ⟨#[]⟩, .nilFunc, .nilFunc, .nilFunc, .nilFunc] 119)))
 have HB := Lib.hid (Blk.chg hb3 (chg_setRow (Chg.refl (fun i => i = w2.heap.size) _) (.inl rfl) #[.string ⟨#[115, 101, 113]⟩, .func (.func 120) #[] #[], .func (.func 121) #[] #[], .func (.func 122) #[] #[], .func (.func 123) #[] #[]]) (by omega))
 have HF := Lib.hid (row_blk (cs := #[.string ⟨#[115, 101, 113]⟩, .func (.func 120) #[] #[], .func (.func 121) #[] #[], .func (.func 122) #[] #[], .func (.func 123) #[] #[]]) HZ.out)
 have HS3 := Lib.hid (show Same w ((w2.alloc (.cells #[.string ⟨#[]⟩, .nilFunc, .nilFunc, .nilFunc, .nilFunc] 119)).setRow w2.heap.size #[.string ⟨#[115, 101, 113]⟩, .func (.func 120) #[] #[], .func (.func 121) #[] #[], .func (.func 122) #[] #[], .func (.func 123) #[] #[]]) from chg_setRow (HS2.out.alloc _) (.inr HS2.out.size) _)
 clear s2 hb2 hb3 hlt HB0 HS0
 have d0 : ((w2.alloc (.cells #[.string ⟨#[]⟩, .nilFunc, .nilFunc, .nilFunc, .nilFunc] 119)).setRow w2.heap.size #[.string ⟨#[115, 101, 113]⟩, .func (.func 120) #[] #[], .func (.func 121) #[] #[], .func (.func 122) #[] #[], .func (.func 123) #[] #[]]).cell? ⟨w.heap.size, 0, none⟩ = some (.int .i64 3) := HB.out.cell 0
 have d1 : ((w2.alloc (.cells #[.string ⟨#[]⟩, .nilFunc, .nilFunc, .nilFunc, .nilFunc] 119)).setRow w2.heap.size #[.string ⟨#[115, 101, 113]⟩, .func (.func 120) #[] #[], .func (.func 121) #[] #[], .func (.func 122) #[] #[], .func (.func 123) #[] #[]]).cell? ⟨w.heap.size, 1, none⟩ = some (.int .i64 wd) := HB.out.cell 1
 have d2 : ((w2.alloc (.cells #[.string ⟨#[]⟩, .nilFunc, .nilFunc, .nilFunc, .nilFunc] 119)).setRow w2.heap.size #[.string ⟨#[115, 101, 113]⟩, .func (.func 120) #[] #[], .func (.func 121) #[] #[], .func (.func 122) #[] #[], .func (.func 123) #[] #[]]).cell? ⟨w.heap.size, 2, none⟩ = some (.int .i64 sl) := HB.out.cell 2
 have d3 : ((w2.alloc (.cells #[.string ⟨#[]⟩, .nilFunc, .nilFunc, .nilFunc, .nilFunc] 119)).setRow w2.heap.size #[.string ⟨#[115, 101, 113]⟩, .func (.func 120) #[] #[], .func (.func 121) #[] #[], .func (.func 122) #[] #[], .func (.func 123) #[] #[]]).cell? ⟨w.heap.size, 3, none⟩ = some (.int .i64 cp) := HB.out.cell 3
 have d4 : ((w2.alloc (.cells #[.string ⟨#[]⟩, .nilFunc, .nilFunc, .nilFunc, .nilFunc] 119)).setRow w2.heap.size #[.string ⟨#[115, 101, 113]⟩, .func (.func 120) #[] #[], .func (.func 121) #[] #[], .func (.func 122) #[] #[], .func (.func 123) #[] #[]]).cell? ⟨w.heap.size, 4, none⟩ = some (.int .u32 sa) := HB.out.cell 4
 have d5 : ((w2.alloc (.cells #[.string ⟨#[]⟩, .nilFunc, .nilFunc, .nilFunc, .nilFunc] 119)).setRow w2.heap.size #[.string ⟨#[115, 101, 113]⟩, .func (.func 120) #[] #[], .func (.func 121) #[] #[], .func (.func 122) #[] #[], .func (.func 123) #[] #[]]).cell? ⟨w.heap.size, 5, none⟩ = some (.slice ia il ic) := HB.out.cell 5
 have d6 : ((w2.alloc (.cells #[.string ⟨#[]⟩, .nilFunc, .nilFunc, .nilFunc, .nilFunc] 119)).setRow w2.heap.size #[.string ⟨#[115, 101, 113]⟩, .func (.func 120) #[] #[], .func (.func 121) #[] #[], .func (.func 122) #[] #[], .func (.func 123) #[] #[]]).cell? ⟨w.heap.size, 6, none⟩ = some (.int .i64 ow) := HB.out.cell 6
 have d7 : ((w2.alloc (.cells #[.string ⟨#[]⟩, .nilFunc, .nilFunc, .nilFunc, .nilFunc] 119)).setRow w2.heap.size #[.string ⟨#[115, 101, 113]⟩, .func (.func 120) #[] #[], .func (.func 121) #[] #[], .func (.func 122) #[] #[], .func (.func 123) #[] #[]]).cell? ⟨w.heap.size, 7, none⟩ = some (.slice ra rl rc) := HB.out.cell 7
 have df : ((w2.alloc (.cells #[.string ⟨#[]⟩, .nilFunc, .nilFunc, .nilFunc, .nilFunc] 119)).setRow w2.heap.size #[.string ⟨#[115, 101, 113]⟩, .func (.func 120) #[] #[], .func (.func 121) #[] #[], .func (.func 122) #[] #[], .func (.func 123) #[] #[]]).cell? ⟨w2.heap.size, 4, none⟩ = some (.func (.func 123) #[] #[]) := HF.out.cell 4
 go_wp2_with (refine wpList_store_row rfl 119 (.tmp 5) (.tmp 11) rfl w2.heap.size #[.string ⟨#[115, 101, 113]⟩, .func (.func 120) #[] #[], .func (.func 121) #[] #[], .func (.func 122) #[] #[], .func (.func 123) #[] #[]] rfl rfl 119 #[.string ⟨#[]⟩, .nilFunc, .nilFunc, .nilFunc, .nilFunc] HZ.out face_size rfl one_3 ?_)
 refine (HC.out _).mono ?_
 rintro e w4 ⟨rfl, s4⟩
 go_wp2_with fail
 go_ret
 exact ⟨rfl, HS3.out.trans s4⟩
set_option maxRecDepth 100000 in
theorem shaped_4 (wd sl cp sa ow : Int) (ia ra : Option Addr) (il ic rl rc : Nat) (w : World) (hsa : 0 ≤ sa ∧ sa < 4294967296 := by assumption) :
 Calls Tryz.prog 87 #[.agg #[.int .i64 4, .int .i64 wd, .int .i64 sl, .int .i64 cp, .int .u32 sa, .slice ia il ic, .int .i64 ow, .slice ra rl rc]] w fun e w' => e = .returned (.bool (Rg.rightB wd sl cp sa il rl)) ∧ Same w w' := by
 have HC := Lib.hid (fun w' => Rg.right_any wd sl cp sa ow ia ra il ic rl rc w')
 have hb0 := Blk.new w 43 #[.int .i64 4, .int .i64 wd, .int .i64 sl, .int .i64 cp, .int .u32 sa, .slice ia il ic, .int .i64 ow, .slice ra rl rc]
 have HS0 := Lib.hid ((Same.refl w).alloc (.cells #[.int .i64 4, .int .i64 wd, .int .i64 sl, .int .i64 cp, .int .u32 sa, .slice ia il ic, .int .i64 ow, .slice ra rl rc] 43))
 have HB0 := Lib.hid hb0
 clear hb0
 generalize Rg.rightB wd sl cp sa il rl = rb at *
 go_enter Tryz.func87, Tryz.ntmps87
 go_wp2_with fail
 refine (face_4 _).mono ?_
 rintro e w2 ⟨rfl, s2⟩
 have HZ := Lib.hid (Blk.new w2 119 #[.string ⟨#[]⟩, .nilFunc, .nilFunc, .nilFunc, .nilFunc])
 have HS2 := Lib.hid (HS0.out.trans s2)
 have hb2 := HB0.out.same s2
 have hlt := hb2.lt
 have hb3 := (hb2.same ((Same.refl w2).alloc (.cells #[.string ⟨#[]⟩, .nilFunc, .nilFunc, .nilFunc, .nilFunc] 119)))
 have HB := Lib.hid (Blk.chg hb3 (chg_setRow (Chg.refl (fun i => i = w2.heap.size) _) (.inl rfl) #[.string ⟨#[114, 105, 110, 103]⟩, .func (.func 124) #[] #[], .func (.func 125) #[] #[], .func (.func 126) #[] #[], .func (.func 127) #[] #[]]) (by omega))
 have HF := Lib.hid (row_blk (cs := #[.string ⟨#[114, 105, 110, 103]⟩, .func (.func 124) #[] #[], .func (.func 125) #[] #[], .func (.func 126) #[] #[], .func (.func 127) #[] #[]]) HZ.out)
 have HS3 := Lib.hid (show Same w ((w2.alloc (.cells #[.string ⟨#[]⟩, .nilFunc, .nilFunc, .nilFunc, .nilFunc] 119)).setRow w2.heap.size #[.string ⟨#[114, 105, 110, 103]⟩, .func (.func 124) #[] #[], .func (.func 125) #[] #[], .func (.func 126) #[] #[], .func (.func 127) #[] #[]]) from chg_setRow (HS2.out.alloc _) (.inr HS2.out.size) _)
 clear s2 hb2 hb3 hlt HB0 HS0
 have d0 : ((w2.alloc (.cells #[.string ⟨#[]⟩, .nilFunc, .nilFunc, .nilFunc, .nilFunc] 119)).setRow w2.heap.size #[.string ⟨#[114, 105, 110, 103]⟩, .func (.func 124) #[] #[], .func (.func 125) #[] #[], .func (.func 126) #[] #[], .func (.func 127) #[] #[]]).cell? ⟨w.heap.size, 0, none⟩ = some (.int .i64 4) := HB.out.cell 0
 have d1 : ((w2.alloc (.cells #[.string ⟨#[]⟩, .nilFunc, .nilFunc, .nilFunc, .nilFunc] 119)).setRow w2.heap.size #[.string ⟨#[114, 105, 110, 103]⟩, .func (.func 124) #[] #[], .func (.func 125) #[] #[], .func (.func 126) #[] #[], .func (.func 127) #[] #[]]).cell? ⟨w.heap.size, 1, none⟩ = some (.int .i64 wd) := HB.out.cell 1
 have d2 : ((w2.alloc (.cells #[.string ⟨#[]⟩, .nilFunc, .nilFunc, .nilFunc, .nilFunc] 119)).setRow w2.heap.size #[.string ⟨#[114, 105, 110, 103]⟩, .func (.func 124) #[] #[], .func (.func 125) #[] #[], .func (.func 126) #[] #[], .func (.func 127) #[] #[]]).cell? ⟨w.heap.size, 2, none⟩ = some (.int .i64 sl) := HB.out.cell 2
 have d3 : ((w2.alloc (.cells #[.string ⟨#[]⟩, .nilFunc, .nilFunc, .nilFunc, .nilFunc] 119)).setRow w2.heap.size #[.string ⟨#[114, 105, 110, 103]⟩, .func (.func 124) #[] #[], .func (.func 125) #[] #[], .func (.func 126) #[] #[], .func (.func 127) #[] #[]]).cell? ⟨w.heap.size, 3, none⟩ = some (.int .i64 cp) := HB.out.cell 3
 have d4 : ((w2.alloc (.cells #[.string ⟨#[]⟩, .nilFunc, .nilFunc, .nilFunc, .nilFunc] 119)).setRow w2.heap.size #[.string ⟨#[114, 105, 110, 103]⟩, .func (.func 124) #[] #[], .func (.func 125) #[] #[], .func (.func 126) #[] #[], .func (.func 127) #[] #[]]).cell? ⟨w.heap.size, 4, none⟩ = some (.int .u32 sa) := HB.out.cell 4
 have d5 : ((w2.alloc (.cells #[.string ⟨#[]⟩, .nilFunc, .nilFunc, .nilFunc, .nilFunc] 119)).setRow w2.heap.size #[.string ⟨#[114, 105, 110, 103]⟩, .func (.func 124) #[] #[], .func (.func 125) #[] #[], .func (.func 126) #[] #[], .func (.func 127) #[] #[]]).cell? ⟨w.heap.size, 5, none⟩ = some (.slice ia il ic) := HB.out.cell 5
 have d6 : ((w2.alloc (.cells #[.string ⟨#[]⟩, .nilFunc, .nilFunc, .nilFunc, .nilFunc] 119)).setRow w2.heap.size #[.string ⟨#[114, 105, 110, 103]⟩, .func (.func 124) #[] #[], .func (.func 125) #[] #[], .func (.func 126) #[] #[], .func (.func 127) #[] #[]]).cell? ⟨w.heap.size, 6, none⟩ = some (.int .i64 ow) := HB.out.cell 6
 have d7 : ((w2.alloc (.cells #[.string ⟨#[]⟩, .nilFunc, .nilFunc, .nilFunc, .nilFunc] 119)).setRow w2.heap.size #[.string ⟨#[114, 105, 110, 103]⟩, .func (.func 124) #[] #[], .func (.func 125) #[] #[], .func (.func 126) #[] #[], .func (.func 127) #[] #[]]).cell? ⟨w.heap.size, 7, none⟩ = some (.slice ra rl rc) := HB.out.cell 7
 have df : ((w2.alloc (.cells #[.string ⟨#[]⟩, .nilFunc, .nilFunc, .nilFunc, .nilFunc] 119)).setRow w2.heap.size #[.string ⟨#[114, 105, 110, 103]⟩, .func (.func 124) #[] #[], .func (.func 125) #[] #[], .func (.func 126) #[] #[], .func (.func 127) #[] #[]]).cell? ⟨w2.heap.size, 1, none⟩ = some (.func (.func 124) #[] #[]) := HF.out.cell 1
 go_wp2_with (refine wpList_store_row rfl 119 (.tmp 3) (.tmp 9) rfl w2.heap.size #[.string ⟨#[114, 105, 110, 103]⟩, .func (.func 124) #[] #[], .func (.func 125) #[] #[], .func (.func 126) #[] #[], .func (.func 127) #[] #[]] rfl rfl 119 #[.string ⟨#[]⟩, .nilFunc, .nilFunc, .nilFunc, .nilFunc] HZ.out face_size rfl one_4 ?_)
 refine (HC.out _).mono ?_
 rintro e w4 ⟨rfl, s4⟩
 go_wp2_with fail
 go_ret
 exact ⟨rfl, HS3.out.trans s4⟩
theorem bnd_4 (wd sl cp sa ow : Int) (ia ra : Option Addr) (il ic rl rc : Nat) (op : Int) (w : World) (hsa : 0 ≤ sa ∧ sa < 4294967296 := by assumption) :
 Calls Tryz.prog 127 #[.agg #[.int .i64 4, .int .i64 wd, .int .i64 sl, .int .i64 cp, .int .u32 sa, .slice ia il ic, .int .i64 ow, .slice ra rl rc], .int .i64 op] w fun e w' => e = .returned (.int .i64 (boundF 4 wd sl cp sa il rl op)) ∧ Same w w' := by
 rw [bound_4]
 cases h : Rg.rightB wd sl cp sa il rl
 ·rw [if_neg Bool.false_ne_true]
  exact Rg.bound_no wd sl cp sa ow ia ra il ic rl rc op w h
 ·rw [if_pos rfl]
  exact Rg.bound_yes wd sl cp sa ow ia ra il ic rl rc op w h
set_option maxRecDepth 100000 in
theorem bound_of_4 (wd sl cp sa ow : Int) (ia ra : Option Addr) (il ic rl rc : Nat) (op : Int) (w : World) (hsa : 0 ≤ sa ∧ sa < 4294967296 := by assumption) :
 Calls Tryz.prog 179 #[.agg #[.int .i64 4, .int .i64 wd, .int .i64 sl, .int .i64 cp, .int .u32 sa, .slice ia il ic, .int .i64 ow, .slice ra rl rc], .int .i64 op] w fun e w' => e = .returned (.int .i64 (boundF 4 wd sl cp sa il rl op)) ∧ Same w w' := by
 have HC := Lib.hid (fun w' => bnd_4 wd sl cp sa ow ia ra il ic rl rc op w')
 have hb0 := Blk.new w 43 #[.int .i64 4, .int .i64 wd, .int .i64 sl, .int .i64 cp, .int .u32 sa, .slice ia il ic, .int .i64 ow, .slice ra rl rc]
 have HS0 := Lib.hid ((Same.refl w).alloc (.cells #[.int .i64 4, .int .i64 wd, .int .i64 sl, .int .i64 cp, .int .u32 sa, .slice ia il ic, .int .i64 ow, .slice ra rl rc] 43))
 have HB0 := Lib.hid hb0
 clear hb0
 generalize boundF 4 wd sl cp sa il rl op = rb at *
 go_enter Tryz.func179, Tryz.ntmps179
 go_wp2_with fail
 refine (face_4 _).mono ?_
 rintro e w2 ⟨rfl, s2⟩
 have HZ := Lib.hid (Blk.new w2 119 #[.string ⟨#[]⟩, .nilFunc, .nilFunc, .nilFunc, .nilFunc])
 have HS2 := Lib.hid (HS0.out.trans s2)
 have hb2 := HB0.out.same s2
 have hlt := hb2.lt
 have hb3 := (hb2.same ((Same.refl w2).alloc (.cells #[.string ⟨#[]⟩, .nilFunc, .nilFunc, .nilFunc, .nilFunc] 119)))
 have HB := Lib.hid (Blk.chg hb3 (chg_setRow (Chg.refl (fun i => i = w2.heap.size) _) (.inl rfl) #[.string ⟨#[114, 105, 110, 103]⟩, .func (.func 124) #[] #[], .func (.func 125) #[] #[], .func (.func 126) #[] #[], .func (.func 127) #[] #[]]) (by omega))
 have HF := Lib.hid (row_blk (cs := #[.string ⟨#[114, 105, 110, 103]⟩, .func (.func 124) #[] #[], .func (.func 125) #[] #[], .func (.func 126) #[] #[], .func (.func 127) #[] #[]]) HZ.out)
 have HS3 := Lib.hid (show Same w ((w2.alloc (.cells #[.string ⟨#[]⟩, .nilFunc, .nilFunc, .nilFunc, .nilFunc] 119)).setRow w2.heap.size #[.string ⟨#[114, 105, 110, 103]⟩, .func (.func 124) #[] #[], .func (.func 125) #[] #[], .func (.func 126) #[] #[], .func (.func 127) #[] #[]]) from chg_setRow (HS2.out.alloc _) (.inr HS2.out.size) _)
 clear s2 hb2 hb3 hlt HB0 HS0
 have d0 : ((w2.alloc (.cells #[.string ⟨#[]⟩, .nilFunc, .nilFunc, .nilFunc, .nilFunc] 119)).setRow w2.heap.size #[.string ⟨#[114, 105, 110, 103]⟩, .func (.func 124) #[] #[], .func (.func 125) #[] #[], .func (.func 126) #[] #[], .func (.func 127) #[] #[]]).cell? ⟨w.heap.size, 0, none⟩ = some (.int .i64 4) := HB.out.cell 0
 have d1 : ((w2.alloc (.cells #[.string ⟨#[]⟩, .nilFunc, .nilFunc, .nilFunc, .nilFunc] 119)).setRow w2.heap.size #[.string ⟨#[114, 105, 110, 103]⟩, .func (.func 124) #[] #[], .func (.func 125) #[] #[], .func (.func 126) #[] #[], .func (.func 127) #[] #[]]).cell? ⟨w.heap.size, 1, none⟩ = some (.int .i64 wd) := HB.out.cell 1
 have d2 : ((w2.alloc (.cells #[.string ⟨#[]⟩, .nilFunc, .nilFunc, .nilFunc, .nilFunc] 119)).setRow w2.heap.size #[.string ⟨#[114, 105, 110, 103]⟩, .func (.func 124) #[] #[], .func (.func 125) #[] #[], .func (.func 126) #[] #[], .func (.func 127) #[] #[]]).cell? ⟨w.heap.size, 2, none⟩ = some (.int .i64 sl) := HB.out.cell 2
 have d3 : ((w2.alloc (.cells #[.string ⟨#[]⟩, .nilFunc, .nilFunc, .nilFunc, .nilFunc] 119)).setRow w2.heap.size #[.string ⟨#[114, 105, 110, 103]⟩, .func (.func 124) #[] #[], .func (.func 125) #[] #[], .func (.func 126) #[] #[], .func (.func 127) #[] #[]]).cell? ⟨w.heap.size, 3, none⟩ = some (.int .i64 cp) := HB.out.cell 3
 have d4 : ((w2.alloc (.cells #[.string ⟨#[]⟩, .nilFunc, .nilFunc, .nilFunc, .nilFunc] 119)).setRow w2.heap.size #[.string ⟨#[114, 105, 110, 103]⟩, .func (.func 124) #[] #[], .func (.func 125) #[] #[], .func (.func 126) #[] #[], .func (.func 127) #[] #[]]).cell? ⟨w.heap.size, 4, none⟩ = some (.int .u32 sa) := HB.out.cell 4
 have d5 : ((w2.alloc (.cells #[.string ⟨#[]⟩, .nilFunc, .nilFunc, .nilFunc, .nilFunc] 119)).setRow w2.heap.size #[.string ⟨#[114, 105, 110, 103]⟩, .func (.func 124) #[] #[], .func (.func 125) #[] #[], .func (.func 126) #[] #[], .func (.func 127) #[] #[]]).cell? ⟨w.heap.size, 5, none⟩ = some (.slice ia il ic) := HB.out.cell 5
 have d6 : ((w2.alloc (.cells #[.string ⟨#[]⟩, .nilFunc, .nilFunc, .nilFunc, .nilFunc] 119)).setRow w2.heap.size #[.string ⟨#[114, 105, 110, 103]⟩, .func (.func 124) #[] #[], .func (.func 125) #[] #[], .func (.func 126) #[] #[], .func (.func 127) #[] #[]]).cell? ⟨w.heap.size, 6, none⟩ = some (.int .i64 ow) := HB.out.cell 6
 have d7 : ((w2.alloc (.cells #[.string ⟨#[]⟩, .nilFunc, .nilFunc, .nilFunc, .nilFunc] 119)).setRow w2.heap.size #[.string ⟨#[114, 105, 110, 103]⟩, .func (.func 124) #[] #[], .func (.func 125) #[] #[], .func (.func 126) #[] #[], .func (.func 127) #[] #[]]).cell? ⟨w.heap.size, 7, none⟩ = some (.slice ra rl rc) := HB.out.cell 7
 have df : ((w2.alloc (.cells #[.string ⟨#[]⟩, .nilFunc, .nilFunc, .nilFunc, .nilFunc] 119)).setRow w2.heap.size #[.string ⟨#[114, 105, 110, 103]⟩, .func (.func 124) #[] #[], .func (.func 125) #[] #[], .func (.func 126) #[] #[], .func (.func 127) #[] #[]]).cell? ⟨w2.heap.size, 4, none⟩ = some (.func (.func 127) #[] #[]) := HF.out.cell 4
 go_wp2_with (refine wpList_store_row rfl 119 (.tmp 5) (.tmp 11) rfl w2.heap.size #[.string ⟨#[114, 105, 110, 103]⟩, .func (.func 124) #[] #[], .func (.func 125) #[] #[], .func (.func 126) #[] #[], .func (.func 127) #[] #[]] rfl rfl 119 #[.string ⟨#[]⟩, .nilFunc, .nilFunc, .nilFunc, .nilFunc] HZ.out face_size rfl one_4 ?_)
 refine (HC.out _).mono ?_
 rintro e w4 ⟨rfl, s4⟩
 go_wp2_with fail
 go_ret
 exact ⟨rfl, HS3.out.trans s4⟩
set_option maxRecDepth 100000 in
theorem shaped_5 (wd sl cp sa ow : Int) (ia ra : Option Addr) (il ic rl rc : Nat) (w : World) (hsa : 0 ≤ sa ∧ sa < 4294967296 := by assumption) :
 Calls Tryz.prog 87 #[.agg #[.int .i64 5, .int .i64 wd, .int .i64 sl, .int .i64 cp, .int .u32 sa, .slice ia il ic, .int .i64 ow, .slice ra rl rc]] w fun e w' => e = .returned (.bool (Cb.rightB wd sl cp sa il rl)) ∧ Same w w' := by
 have HC := Lib.hid (fun w' => Cb.right_any wd sl cp sa ow ia ra il ic rl rc w')
 have hb0 := Blk.new w 43 #[.int .i64 5, .int .i64 wd, .int .i64 sl, .int .i64 cp, .int .u32 sa, .slice ia il ic, .int .i64 ow, .slice ra rl rc]
 have HS0 := Lib.hid ((Same.refl w).alloc (.cells #[.int .i64 5, .int .i64 wd, .int .i64 sl, .int .i64 cp, .int .u32 sa, .slice ia il ic, .int .i64 ow, .slice ra rl rc] 43))
 have HB0 := Lib.hid hb0
 clear hb0
 generalize Cb.rightB wd sl cp sa il rl = rb at *
 go_enter Tryz.func87, Tryz.ntmps87
 go_wp2_with fail
 refine (face_5 _).mono ?_
 rintro e w2 ⟨rfl, s2⟩
 have HZ := Lib.hid (Blk.new w2 119 #[.string ⟨#[]⟩, .nilFunc, .nilFunc, .nilFunc, .nilFunc])
 have HS2 := Lib.hid (HS0.out.trans s2)
 have hb2 := HB0.out.same s2
 have hlt := hb2.lt
 have hb3 := (hb2.same ((Same.refl w2).alloc (.cells #[.string ⟨#[]⟩, .nilFunc, .nilFunc, .nilFunc, .nilFunc] 119)))
 have HB := Lib.hid (Blk.chg hb3 (chg_setRow (Chg.refl (fun i => i = w2.heap.size) _) (.inl rfl) #[.string ⟨#[99, 97, 98]⟩, .func (.func 128) #[] #[], .func (.func 129) #[] #[], .func (.func 130) #[] #[], .func (.func 131) #[] #[]]) (by omega))
 have HF := Lib.hid (row_blk (cs := #[.string ⟨#[99, 97, 98]⟩, .func (.func 128) #[] #[], .func (.func 129) #[] #[], .func (.func 130) #[] #[], .func (.func 131) #[] #[]]) HZ.out)
 have HS3 := Lib.hid (show Same w ((w2.alloc (.cells #[.string ⟨#[]⟩, .nilFunc, .nilFunc, .nilFunc, .nilFunc] 119)).setRow w2.heap.size #[.string ⟨#[99, 97, 98]⟩, .func (.func 128) #[] #[], .func (.func 129) #[] #[], .func (.func 130) #[] #[], .func (.func 131) #[] #[]]) from chg_setRow (HS2.out.alloc _) (.inr HS2.out.size) _)
 clear s2 hb2 hb3 hlt HB0 HS0
 have d0 : ((w2.alloc (.cells #[.string ⟨#[]⟩, .nilFunc, .nilFunc, .nilFunc, .nilFunc] 119)).setRow w2.heap.size #[.string ⟨#[99, 97, 98]⟩, .func (.func 128) #[] #[], .func (.func 129) #[] #[], .func (.func 130) #[] #[], .func (.func 131) #[] #[]]).cell? ⟨w.heap.size, 0, none⟩ = some (.int .i64 5) := HB.out.cell 0
 have d1 : ((w2.alloc (.cells #[.string ⟨#[]⟩, .nilFunc, .nilFunc, .nilFunc, .nilFunc] 119)).setRow w2.heap.size #[.string ⟨#[99, 97, 98]⟩, .func (.func 128) #[] #[], .func (.func 129) #[] #[], .func (.func 130) #[] #[], .func (.func 131) #[] #[]]).cell? ⟨w.heap.size, 1, none⟩ = some (.int .i64 wd) := HB.out.cell 1
 have d2 : ((w2.alloc (.cells #[.string ⟨#[]⟩, .nilFunc, .nilFunc, .nilFunc, .nilFunc] 119)).setRow w2.heap.size #[.string ⟨#[99, 97, 98]⟩, .func (.func 128) #[] #[], .func (.func 129) #[] #[], .func (.func 130) #[] #[], .func (.func 131) #[] #[]]).cell? ⟨w.heap.size, 2, none⟩ = some (.int .i64 sl) := HB.out.cell 2
 have d3 : ((w2.alloc (.cells #[.string ⟨#[]⟩, .nilFunc, .nilFunc, .nilFunc, .nilFunc] 119)).setRow w2.heap.size #[.string ⟨#[99, 97, 98]⟩, .func (.func 128) #[] #[], .func (.func 129) #[] #[], .func (.func 130) #[] #[], .func (.func 131) #[] #[]]).cell? ⟨w.heap.size, 3, none⟩ = some (.int .i64 cp) := HB.out.cell 3
 have d4 : ((w2.alloc (.cells #[.string ⟨#[]⟩, .nilFunc, .nilFunc, .nilFunc, .nilFunc] 119)).setRow w2.heap.size #[.string ⟨#[99, 97, 98]⟩, .func (.func 128) #[] #[], .func (.func 129) #[] #[], .func (.func 130) #[] #[], .func (.func 131) #[] #[]]).cell? ⟨w.heap.size, 4, none⟩ = some (.int .u32 sa) := HB.out.cell 4
 have d5 : ((w2.alloc (.cells #[.string ⟨#[]⟩, .nilFunc, .nilFunc, .nilFunc, .nilFunc] 119)).setRow w2.heap.size #[.string ⟨#[99, 97, 98]⟩, .func (.func 128) #[] #[], .func (.func 129) #[] #[], .func (.func 130) #[] #[], .func (.func 131) #[] #[]]).cell? ⟨w.heap.size, 5, none⟩ = some (.slice ia il ic) := HB.out.cell 5
 have d6 : ((w2.alloc (.cells #[.string ⟨#[]⟩, .nilFunc, .nilFunc, .nilFunc, .nilFunc] 119)).setRow w2.heap.size #[.string ⟨#[99, 97, 98]⟩, .func (.func 128) #[] #[], .func (.func 129) #[] #[], .func (.func 130) #[] #[], .func (.func 131) #[] #[]]).cell? ⟨w.heap.size, 6, none⟩ = some (.int .i64 ow) := HB.out.cell 6
 have d7 : ((w2.alloc (.cells #[.string ⟨#[]⟩, .nilFunc, .nilFunc, .nilFunc, .nilFunc] 119)).setRow w2.heap.size #[.string ⟨#[99, 97, 98]⟩, .func (.func 128) #[] #[], .func (.func 129) #[] #[], .func (.func 130) #[] #[], .func (.func 131) #[] #[]]).cell? ⟨w.heap.size, 7, none⟩ = some (.slice ra rl rc) := HB.out.cell 7
 have df : ((w2.alloc (.cells #[.string ⟨#[]⟩, .nilFunc, .nilFunc, .nilFunc, .nilFunc] 119)).setRow w2.heap.size #[.string ⟨#[99, 97, 98]⟩, .func (.func 128) #[] #[], .func (.func 129) #[] #[], .func (.func 130) #[] #[], .func (.func 131) #[] #[]]).cell? ⟨w2.heap.size, 1, none⟩ = some (.func (.func 128) #[] #[]) := HF.out.cell 1
 go_wp2_with (refine wpList_store_row rfl 119 (.tmp 3) (.tmp 9) rfl w2.heap.size #[.string ⟨#[99, 97, 98]⟩, .func (.func 128) #[] #[], .func (.func 129) #[] #[], .func (.func 130) #[] #[], .func (.func 131) #[] #[]] rfl rfl 119 #[.string ⟨#[]⟩, .nilFunc, .nilFunc, .nilFunc, .nilFunc] HZ.out face_size rfl one_5 ?_)
 refine (HC.out _).mono ?_
 rintro e w4 ⟨rfl, s4⟩
 go_wp2_with fail
 go_ret
 exact ⟨rfl, HS3.out.trans s4⟩
theorem bnd_5 (wd sl cp sa ow : Int) (ia ra : Option Addr) (il ic rl rc : Nat) (op : Int) (w : World) (hsa : 0 ≤ sa ∧ sa < 4294967296 := by assumption) :
 Calls Tryz.prog 131 #[.agg #[.int .i64 5, .int .i64 wd, .int .i64 sl, .int .i64 cp, .int .u32 sa, .slice ia il ic, .int .i64 ow, .slice ra rl rc], .int .i64 op] w fun e w' => e = .returned (.int .i64 (boundF 5 wd sl cp sa il rl op)) ∧ Same w w' := by
 rw [bound_5]
 cases h : Cb.rightB wd sl cp sa il rl
 ·rw [if_neg Bool.false_ne_true]
  exact Cb.bound_no wd sl cp sa ow ia ra il ic rl rc op w h
 ·rw [if_pos rfl]
  exact Cb.bound_yes wd sl cp sa ow ia ra il ic rl rc op w h
set_option maxRecDepth 100000 in
theorem bound_of_5 (wd sl cp sa ow : Int) (ia ra : Option Addr) (il ic rl rc : Nat) (op : Int) (w : World) (hsa : 0 ≤ sa ∧ sa < 4294967296 := by assumption) :
 Calls Tryz.prog 179 #[.agg #[.int .i64 5, .int .i64 wd, .int .i64 sl, .int .i64 cp, .int .u32 sa, .slice ia il ic, .int .i64 ow, .slice ra rl rc], .int .i64 op] w fun e w' => e = .returned (.int .i64 (boundF 5 wd sl cp sa il rl op)) ∧ Same w w' := by
 have HC := Lib.hid (fun w' => bnd_5 wd sl cp sa ow ia ra il ic rl rc op w')
 have hb0 := Blk.new w 43 #[.int .i64 5, .int .i64 wd, .int .i64 sl, .int .i64 cp, .int .u32 sa, .slice ia il ic, .int .i64 ow, .slice ra rl rc]
 have HS0 := Lib.hid ((Same.refl w).alloc (.cells #[.int .i64 5, .int .i64 wd, .int .i64 sl, .int .i64 cp, .int .u32 sa, .slice ia il ic, .int .i64 ow, .slice ra rl rc] 43))
 have HB0 := Lib.hid hb0
 clear hb0
 generalize boundF 5 wd sl cp sa il rl op = rb at *
 go_enter Tryz.func179, Tryz.ntmps179
 go_wp2_with fail
 refine (face_5 _).mono ?_
 rintro e w2 ⟨rfl, s2⟩
 have HZ := Lib.hid (Blk.new w2 119 #[.string ⟨#[]⟩, .nilFunc, .nilFunc, .nilFunc, .nilFunc])
 have HS2 := Lib.hid (HS0.out.trans s2)
 have hb2 := HB0.out.same s2
 have hlt := hb2.lt
 have hb3 := (hb2.same ((Same.refl w2).alloc (.cells #[.string ⟨#[]⟩, .nilFunc, .nilFunc, .nilFunc, .nilFunc] 119)))
 have HB := Lib.hid (Blk.chg hb3 (chg_setRow (Chg.refl (fun i => i = w2.heap.size) _) (.inl rfl) #[.string ⟨#[99, 97, 98]⟩, .func (.func 128) #[] #[], .func (.func 129) #[] #[], .func (.func 130) #[] #[], .func (.func 131) #[] #[]]) (by omega))
 have HF := Lib.hid (row_blk (cs := #[.string ⟨#[99, 97, 98]⟩, .func (.func 128) #[] #[], .func (.func 129) #[] #[], .func (.func 130) #[] #[], .func (.func 131) #[] #[]]) HZ.out)
 have HS3 := Lib.hid (show Same w ((w2.alloc (.cells #[.string ⟨#[]⟩, .nilFunc, .nilFunc, .nilFunc, .nilFunc] 119)).setRow w2.heap.size #[.string ⟨#[99, 97, 98]⟩, .func (.func 128) #[] #[], .func (.func 129) #[] #[], .func (.func 130) #[] #[], .func (.func 131) #[] #[]]) from chg_setRow (HS2.out.alloc _) (.inr HS2.out.size) _)
 clear s2 hb2 hb3 hlt HB0 HS0
 have d0 : ((w2.alloc (.cells #[.string ⟨#[]⟩, .nilFunc, .nilFunc, .nilFunc, .nilFunc] 119)).setRow w2.heap.size #[.string ⟨#[99, 97, 98]⟩, .func (.func 128) #[] #[], .func (.func 129) #[] #[], .func (.func 130) #[] #[], .func (.func 131) #[] #[]]).cell? ⟨w.heap.size, 0, none⟩ = some (.int .i64 5) := HB.out.cell 0
 have d1 : ((w2.alloc (.cells #[.string ⟨#[]⟩, .nilFunc, .nilFunc, .nilFunc, .nilFunc] 119)).setRow w2.heap.size #[.string ⟨#[99, 97, 98]⟩, .func (.func 128) #[] #[], .func (.func 129) #[] #[], .func (.func 130) #[] #[], .func (.func 131) #[] #[]]).cell? ⟨w.heap.size, 1, none⟩ = some (.int .i64 wd) := HB.out.cell 1
 have d2 : ((w2.alloc (.cells #[.string ⟨#[]⟩, .nilFunc, .nilFunc, .nilFunc, .nilFunc] 119)).setRow w2.heap.size #[.string ⟨#[99, 97, 98]⟩, .func (.func 128) #[] #[], .func (.func 129) #[] #[], .func (.func 130) #[] #[], .func (.func 131) #[] #[]]).cell? ⟨w.heap.size, 2, none⟩ = some (.int .i64 sl) := HB.out.cell 2
 have d3 : ((w2.alloc (.cells #[.string ⟨#[]⟩, .nilFunc, .nilFunc, .nilFunc, .nilFunc] 119)).setRow w2.heap.size #[.string ⟨#[99, 97, 98]⟩, .func (.func 128) #[] #[], .func (.func 129) #[] #[], .func (.func 130) #[] #[], .func (.func 131) #[] #[]]).cell? ⟨w.heap.size, 3, none⟩ = some (.int .i64 cp) := HB.out.cell 3
 have d4 : ((w2.alloc (.cells #[.string ⟨#[]⟩, .nilFunc, .nilFunc, .nilFunc, .nilFunc] 119)).setRow w2.heap.size #[.string ⟨#[99, 97, 98]⟩, .func (.func 128) #[] #[], .func (.func 129) #[] #[], .func (.func 130) #[] #[], .func (.func 131) #[] #[]]).cell? ⟨w.heap.size, 4, none⟩ = some (.int .u32 sa) := HB.out.cell 4
 have d5 : ((w2.alloc (.cells #[.string ⟨#[]⟩, .nilFunc, .nilFunc, .nilFunc, .nilFunc] 119)).setRow w2.heap.size #[.string ⟨#[99, 97, 98]⟩, .func (.func 128) #[] #[], .func (.func 129) #[] #[], .func (.func 130) #[] #[], .func (.func 131) #[] #[]]).cell? ⟨w.heap.size, 5, none⟩ = some (.slice ia il ic) := HB.out.cell 5
 have d6 : ((w2.alloc (.cells #[.string ⟨#[]⟩, .nilFunc, .nilFunc, .nilFunc, .nilFunc] 119)).setRow w2.heap.size #[.string ⟨#[99, 97, 98]⟩, .func (.func 128) #[] #[], .func (.func 129) #[] #[], .func (.func 130) #[] #[], .func (.func 131) #[] #[]]).cell? ⟨w.heap.size, 6, none⟩ = some (.int .i64 ow) := HB.out.cell 6
 have d7 : ((w2.alloc (.cells #[.string ⟨#[]⟩, .nilFunc, .nilFunc, .nilFunc, .nilFunc] 119)).setRow w2.heap.size #[.string ⟨#[99, 97, 98]⟩, .func (.func 128) #[] #[], .func (.func 129) #[] #[], .func (.func 130) #[] #[], .func (.func 131) #[] #[]]).cell? ⟨w.heap.size, 7, none⟩ = some (.slice ra rl rc) := HB.out.cell 7
 have df : ((w2.alloc (.cells #[.string ⟨#[]⟩, .nilFunc, .nilFunc, .nilFunc, .nilFunc] 119)).setRow w2.heap.size #[.string ⟨#[99, 97, 98]⟩, .func (.func 128) #[] #[], .func (.func 129) #[] #[], .func (.func 130) #[] #[], .func (.func 131) #[] #[]]).cell? ⟨w2.heap.size, 4, none⟩ = some (.func (.func 131) #[] #[]) := HF.out.cell 4
 go_wp2_with (refine wpList_store_row rfl 119 (.tmp 5) (.tmp 11) rfl w2.heap.size #[.string ⟨#[99, 97, 98]⟩, .func (.func 128) #[] #[], .func (.func 129) #[] #[], .func (.func 130) #[] #[], .func (.func 131) #[] #[]] rfl rfl 119 #[.string ⟨#[]⟩, .nilFunc, .nilFunc, .nilFunc, .nilFunc] HZ.out face_size rfl one_5 ?_)
 refine (HC.out _).mono ?_
 rintro e w4 ⟨rfl, s4⟩
 go_wp2_with fail
 go_ret
 exact ⟨rfl, HS3.out.trans s4⟩
set_option maxRecDepth 100000 in
theorem shaped_6 (wd sl cp sa ow : Int) (ia ra : Option Addr) (il ic rl rc : Nat) (w : World) (hsa : 0 ≤ sa ∧ sa < 4294967296 := by assumption) :
 Calls Tryz.prog 87 #[.agg #[.int .i64 6, .int .i64 wd, .int .i64 sl, .int .i64 cp, .int .u32 sa, .slice ia il ic, .int .i64 ow, .slice ra rl rc]] w fun e w' => e = .returned (.bool (Ff.rightB wd sl cp sa il rl)) ∧ Same w w' := by
 have HC := Lib.hid (fun w' => Ff.right_any wd sl cp sa ow ia ra il ic rl rc w')
 have hb0 := Blk.new w 43 #[.int .i64 6, .int .i64 wd, .int .i64 sl, .int .i64 cp, .int .u32 sa, .slice ia il ic, .int .i64 ow, .slice ra rl rc]
 have HS0 := Lib.hid ((Same.refl w).alloc (.cells #[.int .i64 6, .int .i64 wd, .int .i64 sl, .int .i64 cp, .int .u32 sa, .slice ia il ic, .int .i64 ow, .slice ra rl rc] 43))
 have HB0 := Lib.hid hb0
 clear hb0
 generalize Ff.rightB wd sl cp sa il rl = rb at *
 go_enter Tryz.func87, Tryz.ntmps87
 go_wp2_with fail
 refine (face_6 _).mono ?_
 rintro e w2 ⟨rfl, s2⟩
 have HZ := Lib.hid (Blk.new w2 119 #[.string ⟨#[]⟩, .nilFunc, .nilFunc, .nilFunc, .nilFunc])
 have HS2 := Lib.hid (HS0.out.trans s2)
 have hb2 := HB0.out.same s2
 have hlt := hb2.lt
 have hb3 := (hb2.same ((Same.refl w2).alloc (.cells #[.string ⟨#[]⟩, .nilFunc, .nilFunc, .nilFunc, .nilFunc] 119)))
 have HB := Lib.hid (Blk.chg hb3 (chg_setRow (Chg.refl (fun i => i = w2.heap.size) _) (.inl rfl) #[.string ⟨#[102, 105, 102, 111]⟩, .func (.func 132) #[] #[], .func (.func 133) #[] #[], .func (.func 134) #[] #[], .func (.func 135) #[] #[]]) (by omega))
 have HF := Lib.hid (row_blk (cs := #[.string ⟨#[102, 105, 102, 111]⟩, .func (.func 132) #[] #[], .func (.func 133) #[] #[], .func (.func 134) #[] #[], .func (.func 135) #[] #[]]) HZ.out)
 have HS3 := Lib.hid (show Same w ((w2.alloc (.cells #[.string ⟨#[]⟩, .nilFunc, .nilFunc, .nilFunc, .nilFunc] 119)).setRow w2.heap.size #[.string ⟨#[102, 105, 102, 111]⟩, .func (.func 132) #[] #[], .func (.func 133) #[] #[], .func (.func 134) #[] #[], .func (.func 135) #[] #[]]) from chg_setRow (HS2.out.alloc _) (.inr HS2.out.size) _)
 clear s2 hb2 hb3 hlt HB0 HS0
 have d0 : ((w2.alloc (.cells #[.string ⟨#[]⟩, .nilFunc, .nilFunc, .nilFunc, .nilFunc] 119)).setRow w2.heap.size #[.string ⟨#[102, 105, 102, 111]⟩, .func (.func 132) #[] #[], .func (.func 133) #[] #[], .func (.func 134) #[] #[], .func (.func 135) #[] #[]]).cell? ⟨w.heap.size, 0, none⟩ = some (.int .i64 6) := HB.out.cell 0
 have d1 : ((w2.alloc (.cells #[.string ⟨#[]⟩, .nilFunc, .nilFunc, .nilFunc, .nilFunc] 119)).setRow w2.heap.size #[.string ⟨#[102, 105, 102, 111]⟩, .func (.func 132) #[] #[], .func (.func 133) #[] #[], .func (.func 134) #[] #[], .func (.func 135) #[] #[]]).cell? ⟨w.heap.size, 1, none⟩ = some (.int .i64 wd) := HB.out.cell 1
 have d2 : ((w2.alloc (.cells #[.string ⟨#[]⟩, .nilFunc, .nilFunc, .nilFunc, .nilFunc] 119)).setRow w2.heap.size #[.string ⟨#[102, 105, 102, 111]⟩, .func (.func 132) #[] #[], .func (.func 133) #[] #[], .func (.func 134) #[] #[], .func (.func 135) #[] #[]]).cell? ⟨w.heap.size, 2, none⟩ = some (.int .i64 sl) := HB.out.cell 2
 have d3 : ((w2.alloc (.cells #[.string ⟨#[]⟩, .nilFunc, .nilFunc, .nilFunc, .nilFunc] 119)).setRow w2.heap.size #[.string ⟨#[102, 105, 102, 111]⟩, .func (.func 132) #[] #[], .func (.func 133) #[] #[], .func (.func 134) #[] #[], .func (.func 135) #[] #[]]).cell? ⟨w.heap.size, 3, none⟩ = some (.int .i64 cp) := HB.out.cell 3
 have d4 : ((w2.alloc (.cells #[.string ⟨#[]⟩, .nilFunc, .nilFunc, .nilFunc, .nilFunc] 119)).setRow w2.heap.size #[.string ⟨#[102, 105, 102, 111]⟩, .func (.func 132) #[] #[], .func (.func 133) #[] #[], .func (.func 134) #[] #[], .func (.func 135) #[] #[]]).cell? ⟨w.heap.size, 4, none⟩ = some (.int .u32 sa) := HB.out.cell 4
 have d5 : ((w2.alloc (.cells #[.string ⟨#[]⟩, .nilFunc, .nilFunc, .nilFunc, .nilFunc] 119)).setRow w2.heap.size #[.string ⟨#[102, 105, 102, 111]⟩, .func (.func 132) #[] #[], .func (.func 133) #[] #[], .func (.func 134) #[] #[], .func (.func 135) #[] #[]]).cell? ⟨w.heap.size, 5, none⟩ = some (.slice ia il ic) := HB.out.cell 5
 have d6 : ((w2.alloc (.cells #[.string ⟨#[]⟩, .nilFunc, .nilFunc, .nilFunc, .nilFunc] 119)).setRow w2.heap.size #[.string ⟨#[102, 105, 102, 111]⟩, .func (.func 132) #[] #[], .func (.func 133) #[] #[], .func (.func 134) #[] #[], .func (.func 135) #[] #[]]).cell? ⟨w.heap.size, 6, none⟩ = some (.int .i64 ow) := HB.out.cell 6
 have d7 : ((w2.alloc (.cells #[.string ⟨#[]⟩, .nilFunc, .nilFunc, .nilFunc, .nilFunc] 119)).setRow w2.heap.size #[.string ⟨#[102, 105, 102, 111]⟩, .func (.func 132) #[] #[], .func (.func 133) #[] #[], .func (.func 134) #[] #[], .func (.func 135) #[] #[]]).cell? ⟨w.heap.size, 7, none⟩ = some (.slice ra rl rc) := HB.out.cell 7
 have df : ((w2.alloc (.cells #[.string ⟨#[]⟩, .nilFunc, .nilFunc, .nilFunc, .nilFunc] 119)).setRow w2.heap.size #[.string ⟨#[102, 105, 102, 111]⟩, .func (.func 132) #[] #[], .func (.func 133) #[] #[], .func (.func 134) #[] #[], .func (.func 135) #[] #[]]).cell? ⟨w2.heap.size, 1, none⟩ = some (.func (.func 132) #[] #[]) := HF.out.cell 1
 go_wp2_with (refine wpList_store_row rfl 119 (.tmp 3) (.tmp 9) rfl w2.heap.size #[.string ⟨#[102, 105, 102, 111]⟩, .func (.func 132) #[] #[], .func (.func 133) #[] #[], .func (.func 134) #[] #[], .func (.func 135) #[] #[]] rfl rfl 119 #[.string ⟨#[]⟩, .nilFunc, .nilFunc, .nilFunc, .nilFunc] HZ.out face_size rfl one_6 ?_)
 refine (HC.out _).mono ?_
 rintro e w4 ⟨rfl, s4⟩
 go_wp2_with fail
 go_ret
 exact ⟨rfl, HS3.out.trans s4⟩
theorem bnd_6 (wd sl cp sa ow : Int) (ia ra : Option Addr) (il ic rl rc : Nat) (op : Int) (w : World) (hsa : 0 ≤ sa ∧ sa < 4294967296 := by assumption) :
 Calls Tryz.prog 135 #[.agg #[.int .i64 6, .int .i64 wd, .int .i64 sl, .int .i64 cp, .int .u32 sa, .slice ia il ic, .int .i64 ow, .slice ra rl rc], .int .i64 op] w fun e w' => e = .returned (.int .i64 (boundF 6 wd sl cp sa il rl op)) ∧ Same w w' := by
 rw [bound_6]
 cases h : Ff.rightB wd sl cp sa il rl
 ·rw [if_neg Bool.false_ne_true]
  exact Ff.bound_no wd sl cp sa ow ia ra il ic rl rc op w h
 ·rw [if_pos rfl]
  exact Ff.bound_yes wd sl cp sa ow ia ra il ic rl rc op w h
set_option maxRecDepth 100000 in
theorem bound_of_6 (wd sl cp sa ow : Int) (ia ra : Option Addr) (il ic rl rc : Nat) (op : Int) (w : World) (hsa : 0 ≤ sa ∧ sa < 4294967296 := by assumption) :
 Calls Tryz.prog 179 #[.agg #[.int .i64 6, .int .i64 wd, .int .i64 sl, .int .i64 cp, .int .u32 sa, .slice ia il ic, .int .i64 ow, .slice ra rl rc], .int .i64 op] w fun e w' => e = .returned (.int .i64 (boundF 6 wd sl cp sa il rl op)) ∧ Same w w' := by
 have HC := Lib.hid (fun w' => bnd_6 wd sl cp sa ow ia ra il ic rl rc op w')
 have hb0 := Blk.new w 43 #[.int .i64 6, .int .i64 wd, .int .i64 sl, .int .i64 cp, .int .u32 sa, .slice ia il ic, .int .i64 ow, .slice ra rl rc]
 have HS0 := Lib.hid ((Same.refl w).alloc (.cells #[.int .i64 6, .int .i64 wd, .int .i64 sl, .int .i64 cp, .int .u32 sa, .slice ia il ic, .int .i64 ow, .slice ra rl rc] 43))
 have HB0 := Lib.hid hb0
 clear hb0
 generalize boundF 6 wd sl cp sa il rl op = rb at *
 go_enter Tryz.func179, Tryz.ntmps179
 go_wp2_with fail
 refine (face_6 _).mono ?_
 rintro e w2 ⟨rfl, s2⟩
 have HZ := Lib.hid (Blk.new w2 119 #[.string ⟨#[]⟩, .nilFunc, .nilFunc, .nilFunc, .nilFunc])
 have HS2 := Lib.hid (HS0.out.trans s2)
 have hb2 := HB0.out.same s2
 have hlt := hb2.lt
 have hb3 := (hb2.same ((Same.refl w2).alloc (.cells #[.string ⟨#[]⟩, .nilFunc, .nilFunc, .nilFunc, .nilFunc] 119)))
 have HB := Lib.hid (Blk.chg hb3 (chg_setRow (Chg.refl (fun i => i = w2.heap.size) _) (.inl rfl) #[.string ⟨#[102, 105, 102, 111]⟩, .func (.func 132) #[] #[], .func (.func 133) #[] #[], .func (.func 134) #[] #[], .func (.func 135) #[] #[]]) (by omega))
 have HF := Lib.hid (row_blk (cs := #[.string ⟨#[102, 105, 102, 111]⟩, .func (.func 132) #[] #[], .func (.func 133) #[] #[], .func (.func 134) #[] #[], .func (.func 135) #[] #[]]) HZ.out)
 have HS3 := Lib.hid (show Same w ((w2.alloc (.cells #[.string ⟨#[]⟩, .nilFunc, .nilFunc, .nilFunc, .nilFunc] 119)).setRow w2.heap.size #[.string ⟨#[102, 105, 102, 111]⟩, .func (.func 132) #[] #[], .func (.func 133) #[] #[], .func (.func 134) #[] #[], .func (.func 135) #[] #[]]) from chg_setRow (HS2.out.alloc _) (.inr HS2.out.size) _)
 clear s2 hb2 hb3 hlt HB0 HS0
 have d0 : ((w2.alloc (.cells #[.string ⟨#[]⟩, .nilFunc, .nilFunc, .nilFunc, .nilFunc] 119)).setRow w2.heap.size #[.string ⟨#[102, 105, 102, 111]⟩, .func (.func 132) #[] #[], .func (.func 133) #[] #[], .func (.func 134) #[] #[], .func (.func 135) #[] #[]]).cell? ⟨w.heap.size, 0, none⟩ = some (.int .i64 6) := HB.out.cell 0
 have d1 : ((w2.alloc (.cells #[.string ⟨#[]⟩, .nilFunc, .nilFunc, .nilFunc, .nilFunc] 119)).setRow w2.heap.size #[.string ⟨#[102, 105, 102, 111]⟩, .func (.func 132) #[] #[], .func (.func 133) #[] #[], .func (.func 134) #[] #[], .func (.func 135) #[] #[]]).cell? ⟨w.heap.size, 1, none⟩ = some (.int .i64 wd) := HB.out.cell 1
 have d2 : ((w2.alloc (.cells #[.string ⟨#[]⟩, .nilFunc, .nilFunc, .nilFunc, .nilFunc] 119)).setRow w2.heap.size #[.string ⟨#[102, 105, 102, 111]⟩, .func (.func 132) #[] #[], .func (.func 133) #[] #[], .func (.func 134) #[] #[], .func (.func 135) #[] #[]]).cell? ⟨w.heap.size, 2, none⟩ = some (.int .i64 sl) := HB.out.cell 2
 have d3 : ((w2.alloc (.cells #[.string ⟨#[]⟩, .nilFunc, .nilFunc, .nilFunc, .nilFunc] 119)).setRow w2.heap.size #[.string ⟨#[102, 105, 102, 111]⟩, .func (.func 132) #[] #[], .func (.func 133) #[] #[], .func (.func 134) #[] #[], .func (.func 135) #[] #[]]).cell? ⟨w.heap.size, 3, none⟩ = some (.int .i64 cp) := HB.out.cell 3
 have d4 : ((w2.alloc (.cells #[.string ⟨#[]⟩, .nilFunc, .nilFunc, .nilFunc, .nilFunc] 119)).setRow w2.heap.size #[.string ⟨#[102, 105, 102, 111]⟩, .func (.func 132) #[] #[], .func (.func 133) #[] #[], .func (.func 134) #[] #[], .func (.func 135) #[] #[]]).cell? ⟨w.heap.size, 4, none⟩ = some (.int .u32 sa) := HB.out.cell 4
 have d5 : ((w2.alloc (.cells #[.string ⟨#[]⟩, .nilFunc, .nilFunc, .nilFunc, .nilFunc] 119)).setRow w2.heap.size #[.string ⟨#[102, 105, 102, 111]⟩, .func (.func 132) #[] #[], .func (.func 133) #[] #[], .func (.func 134) #[] #[], .func (.func 135) #[] #[]]).cell? ⟨w.heap.size, 5, none⟩ = some (.slice ia il ic) := HB.out.cell 5
 have d6 : ((w2.alloc (.cells #[.string ⟨#[]⟩, .nilFunc, .nilFunc, .nilFunc, .nilFunc] 119)).setRow w2.heap.size #[.string ⟨#[102, 105, 102, 111]⟩, .func (.func 132) #[] #[], .func (.func 133) #[] #[], .func (.func 134) #[] #[], .func (.func 135) #[] #[]]).cell? ⟨w.heap.size, 6, none⟩ = some (.int .i64 ow) := HB.out.cell 6
 have d7 : ((w2.alloc (.cells #[.string ⟨#[]⟩, .nilFunc, .nilFunc, .nilFunc, .nilFunc] 119)).setRow w2.heap.size #[.string ⟨#[102, 105, 102, 111]⟩, .func (.func 132) #[] #[], .func (.func 133) #[] #[], .func (.func 134) #[] #[], .func (.func 135) #[] #[]]).cell? ⟨w.heap.size, 7, none⟩ = some (.slice ra rl rc) := HB.out.cell 7
 have df : ((w2.alloc (.cells #[.string ⟨#[]⟩, .nilFunc, .nilFunc, .nilFunc, .nilFunc] 119)).setRow w2.heap.size #[.string ⟨#[102, 105, 102, 111]⟩, .func (.func 132) #[] #[], .func (.func 133) #[] #[], .func (.func 134) #[] #[], .func (.func 135) #[] #[]]).cell? ⟨w2.heap.size, 4, none⟩ = some (.func (.func 135) #[] #[]) := HF.out.cell 4
 go_wp2_with (refine wpList_store_row rfl 119 (.tmp 5) (.tmp 11) rfl w2.heap.size #[.string ⟨#[102, 105, 102, 111]⟩, .func (.func 132) #[] #[], .func (.func 133) #[] #[], .func (.func 134) #[] #[], .func (.func 135) #[] #[]] rfl rfl 119 #[.string ⟨#[]⟩, .nilFunc, .nilFunc, .nilFunc, .nilFunc] HZ.out face_size rfl one_6 ?_)
 refine (HC.out _).mono ?_
 rintro e w4 ⟨rfl, s4⟩
 go_wp2_with fail
 go_ret
 exact ⟨rfl, HS3.out.trans s4⟩
set_option maxRecDepth 100000 in
theorem shaped_none (k : Int) (wd sl cp sa ow : Int) (ia ra : Option Addr) (il ic rl rc : Nat) (w : World) (h : k < 1 ∨ 6 < k) :
 Calls Tryz.prog 87 #[.agg #[.int .i64 k, .int .i64 wd, .int .i64 sl, .int .i64 cp, .int .u32 sa, .slice ia il ic, .int .i64 ow, .slice ra rl rc]] w fun e w' => e = .returned (.bool false) ∧ Same w w' := by
 have hb0 := Blk.new w 43 #[.int .i64 k, .int .i64 wd, .int .i64 sl, .int .i64 cp, .int .u32 sa, .slice ia il ic, .int .i64 ow, .slice ra rl rc]
 have HS0 := Lib.hid ((Same.refl w).alloc (.cells #[.int .i64 k, .int .i64 wd, .int .i64 sl, .int .i64 cp, .int .u32 sa, .slice ia il ic, .int .i64 ow, .slice ra rl rc] 43))
 have d0 := hb0.cell 0
 have HFN := Lib.hid (fun w' => face_none k h w')
 clear hb0 h
 go_enter Tryz.func87, Tryz.ntmps87
 go_wp2_with fail
 refine (HFN.out _).mono ?_
 rintro e w2 ⟨rfl, s2⟩
 have HZ := Lib.hid (Blk.new w2 119 #[.string ⟨#[]⟩, .nilFunc, .nilFunc, .nilFunc, .nilFunc])
 have HS2 := Lib.hid (HS0.out.trans s2)
 have HS3 := Lib.hid (show Same w ((w2.alloc (.cells #[.string ⟨#[]⟩, .nilFunc, .nilFunc, .nilFunc, .nilFunc] 119)).setRow w2.heap.size #[.string ⟨#[]⟩, .nilFunc, .nilFunc, .nilFunc, .nilFunc]) from chg_setRow (HS2.out.alloc _) (.inr HS2.out.size) _)
 clear s2 HS0
 go_wp2_with (refine wpList_store_row rfl 119 (.tmp 3) (.tmp 9) rfl w2.heap.size #[.string ⟨#[]⟩, .nilFunc, .nilFunc, .nilFunc, .nilFunc] rfl rfl 119 #[.string ⟨#[]⟩, .nilFunc, .nilFunc, .nilFunc, .nilFunc] HZ.out face_size rfl one_0 ?_)
 go_ret
 exact ⟨rfl, HS3.out⟩
set_option maxRecDepth 100000 in
theorem bound_of_none (k : Int) (wd sl cp sa ow : Int) (ia ra : Option Addr) (il ic rl rc : Nat) (op : Int) (w : World) (h : k < 1 ∨ 6 < k) :
 Calls Tryz.prog 179 #[.agg #[.int .i64 k, .int .i64 wd, .int .i64 sl, .int .i64 cp, .int .u32 sa, .slice ia il ic, .int .i64 ow, .slice ra rl rc], .int .i64 op] w fun e w' => e = .returned (.int .i64 0) ∧ Same w w' := by
 have hb0 := Blk.new w 43 #[.int .i64 k, .int .i64 wd, .int .i64 sl, .int .i64 cp, .int .u32 sa, .slice ia il ic, .int .i64 ow, .slice ra rl rc]
 have HS0 := Lib.hid ((Same.refl w).alloc (.cells #[.int .i64 k, .int .i64 wd, .int .i64 sl, .int .i64 cp, .int .u32 sa, .slice ia il ic, .int .i64 ow, .slice ra rl rc] 43))
 have d0 := hb0.cell 0
 have HFN := Lib.hid (fun w' => face_none k h w')
 clear hb0 h
 go_enter Tryz.func179, Tryz.ntmps179
 go_wp2_with fail
 refine (HFN.out _).mono ?_
 rintro e w2 ⟨rfl, s2⟩
 have HZ := Lib.hid (Blk.new w2 119 #[.string ⟨#[]⟩, .nilFunc, .nilFunc, .nilFunc, .nilFunc])
 have HS2 := Lib.hid (HS0.out.trans s2)
 have HS3 := Lib.hid (show Same w ((w2.alloc (.cells #[.string ⟨#[]⟩, .nilFunc, .nilFunc, .nilFunc, .nilFunc] 119)).setRow w2.heap.size #[.string ⟨#[]⟩, .nilFunc, .nilFunc, .nilFunc, .nilFunc]) from chg_setRow (HS2.out.alloc _) (.inr HS2.out.size) _)
 clear s2 HS0
 go_wp2_with (refine wpList_store_row rfl 119 (.tmp 5) (.tmp 11) rfl w2.heap.size #[.string ⟨#[]⟩, .nilFunc, .nilFunc, .nilFunc, .nilFunc] rfl rfl 119 #[.string ⟨#[]⟩, .nilFunc, .nilFunc, .nilFunc, .nilFunc] HZ.out face_size rfl one_0 ?_)
 go_ret
 exact ⟨rfl, HS3.out⟩
theorem shaped_any (k : Int) (wd sl cp sa ow : Int) (ia ra : Option Addr) (il ic rl rc : Nat) (w : World) (hsa : 0 ≤ sa ∧ sa < 4294967296) :
 Calls Tryz.prog 87 #[.agg #[.int .i64 k, .int .i64 wd, .int .i64 sl, .int .i64 cp, .int .u32 sa, .slice ia il ic, .int .i64 ow, .slice ra rl rc]] w fun e w' => e = .returned (.bool (rightF k wd sl cp sa il rl)) ∧ Same w w' := by
 by_cases h : k < 1 ∨ 6 < k
 ·rw [right_none wd sl cp sa il rl h]
  exact shaped_none k wd sl cp sa ow ia ra il ic rl rc w h
 rcases (show k = 1 ∨ k = 2 ∨ k = 3 ∨ k = 4 ∨ k = 5 ∨ k = 6 by omega) with rfl | rfl | rfl | rfl | rfl | rfl
 ·rw [right_1]; exact shaped_1 wd sl cp sa ow ia ra il ic rl rc w
 ·rw [right_2]; exact shaped_2 wd sl cp sa ow ia ra il ic rl rc w
 ·rw [right_3]; exact shaped_3 wd sl cp sa ow ia ra il ic rl rc w
 ·rw [right_4]; exact shaped_4 wd sl cp sa ow ia ra il ic rl rc w
 ·rw [right_5]; exact shaped_5 wd sl cp sa ow ia ra il ic rl rc w
 ·rw [right_6]; exact shaped_6 wd sl cp sa ow ia ra il ic rl rc w
theorem bound_any (k : Int) (wd sl cp sa ow : Int) (ia ra : Option Addr) (il ic rl rc : Nat) (op : Int) (w : World) (hsa : 0 ≤ sa ∧ sa < 4294967296) :
 Calls Tryz.prog 179 #[.agg #[.int .i64 k, .int .i64 wd, .int .i64 sl, .int .i64 cp, .int .u32 sa, .slice ia il ic, .int .i64 ow, .slice ra rl rc], .int .i64 op] w fun e w' => e = .returned (.int .i64 (boundF k wd sl cp sa il rl op)) ∧ Same w w' := by
 by_cases h : k < 1 ∨ 6 < k
 ·rw [bound_none wd sl cp sa il rl op h]
  exact bound_of_none k wd sl cp sa ow ia ra il ic rl rc op w h
 rcases (show k = 1 ∨ k = 2 ∨ k = 3 ∨ k = 4 ∨ k = 5 ∨ k = 6 by omega) with rfl | rfl | rfl | rfl | rfl | rfl
 ·exact bound_of_1 wd sl cp sa ow ia ra il ic rl rc op w
 ·exact bound_of_2 wd sl cp sa ow ia ra il ic rl rc op w
 ·exact bound_of_3 wd sl cp sa ow ia ra il ic rl rc op w
 ·exact bound_of_4 wd sl cp sa ow ia ra il ic rl rc op w
 ·exact bound_of_5 wd sl cp sa ow ia ra il ic rl rc op w
 ·exact bound_of_6 wd sl cp sa ow ia ra il ic rl rc op w
end Go.Proofs.YthhbhbfkbncegabGreatDoor.Fc
end
end
