/-

  An object by value: what package seq, and the document's own layer, say of one of the kind seq.
-/
import Derived.Test.YtaclphhbdfoaeaaDoorObjIdx
import Derived.Deep.LoopGhost
section
section
set_option linter.unusedSimpArgs false
set_option linter.unusedVariables false
namespace Go.Proofs.YtaclphhbdfoaeaaDoor.Ob
open Go.ChangeShapes Go.WideShapes Go.ChangeAt Go.RowKit Ws Mm Pa

theorem and_one (x : Int) (h : 0 ≤ x ∧ x < 4294967296) : bits .and .u32 x 1 = x % 2 := by
  obtain ⟨n, rfl⟩ := Int.eq_ofNat_of_zero_le h.1
  have := u32_and_nat n 1 (by omega) (by omega)
  rw [show ((1 : Nat) : Int) = 1 from rfl] at this
  rw [this, Nat.and_one_is_mod]
  omega
theorem u32_in (x : Int) (h : 0 ≤ x ∧ x < 4294967296) : IntKind.u32.wrap x = x := by
  rw [IntKind.wrap_u32']
  omega
theorem i64_in (x : Int) (h : -9223372036854775808 ≤ x ∧ x ≤ 9223372036854775807) : IntKind.i64.wrap x = x := Go.IntWalk.i64_in _ (by omega)
def zeros (n : Nat) : Array Value := madeCells (Value.int .u32 0).cells (n * 1)
theorem zeros_list (n : Nat) : (zeros n).toList = (List.replicate n (0 : Int)).map (Value.int .u32) := by
  unfold zeros madeCells
  apply List.ext_getElem
  · simp
  · intro i h1 h2
    simp [Value.cells]
    show [Value.int IntKind.u32 0][i % 1]?.getD default = _
    rw [Nat.mod_one]
    rfl
theorem zeros_size (n : Nat) : (zeros n).size = n := by unfold zeros; rw [size_madeCells, Nat.mul_one]

theorem u32_info : (Tryd.prog.info? 33).map (fun i => (i.zero, i.size, i.bytes)) = some (some (.int .u32 0), 1, 4) := by kernel_rfl

theorem make_any (n : Nat) (hn : n ≤ 4096) (W : World) : (Instr.makeSlice 36 (.int .i64 (n : Int)) (.int .i64 (n : Int))).run Tryd.prog W = .ok (.slice (some ⟨W.heap.size, 0, none⟩) n n) (W.alloc (.cells (zeros n) 33)) := by
  obtain ⟨i0, hi, hz0, hz1, hz2⟩ := info_parts u32_info
  have h := run_make (P := Tryd.prog) W 36 33 i0 _ Tryd.underlying36 hi hz0 .i64 .i64 n n (by omega) (by omega) (by rw [hz2]; omega) (by omega)
  rw [hz1, Int.toNat_natCast] at h
  exact h
theorem words_one (l : List Int) : ∀ u ∈ l.map (Value.int .u32), u.oneCell' = true := by
  intro u hu
  obtain ⟨x, _, rfl⟩ := List.mem_map.1 hu
  rfl

theorem u32_one : (Tryd.prog.info? 33).map (·.size) = some 1 := by kernel_rfl

theorem within_any (n a b : Int) (w : World) : Calls Tryd.prog 45 #[.int .i64 n, .int .i64 a, .int .i64 b] w fun e w' => e = .returned (.bool (decide (a ≤ n ∧ n ≤ b))) ∧ w = w' := by
  go_enter Tryd.func45, Tryd.ntmps45
  go_wp2
  all_goals
    go_ret
    refine ⟨ret_bool ?_, rfl⟩
    first
      | (rw [Bool.eq_iff_iff, decide_eq_true_eq, decide_eq_true_eq]; omega)
      | (simp <;> omega)
      | (rw [decide_eq_false (by omega)])

def regB (k wd : Int) (il rl : Nat) (kind : Int) : Bool := decide (k = kind ∧ (1 ≤ wd ∧ wd ≤ 8) ∧ (il : Int) = wd ∧ (1 ≤ (rl : Int) ∧ (rl : Int) ≤ 4))

theorem within_yes (n a b : Int) (h : a ≤ n ∧ n ≤ b) (w : World) : Calls Tryd.prog 45 #[.int .i64 n, .int .i64 a, .int .i64 b] w fun e w' => e = .returned (.bool true) ∧ w = w' :=
  (within_any n a b w).mono fun e w' ⟨he, hw⟩ => ⟨by rw [he, decide_eq_true h], hw⟩
theorem within_no (n a b : Int) (h : ¬ (a ≤ n ∧ n ≤ b)) (w : World) : Calls Tryd.prog 45 #[.int .i64 n, .int .i64 a, .int .i64 b] w fun e w' => e = .returned (.bool false) ∧ w = w' :=
  (within_any n a b w).mono fun e w' ⟨he, hw⟩ => ⟨by rw [he, decide_eq_false h], hw⟩

set_option maxHeartbeats 400000 in
theorem register_any (kind k wd sl cp sa ow : Int) (ia ra : Option Addr) (il ic rl rc : Nat) (w : World) :
    Calls Tryd.prog 95 #[.agg #[.int .i64 k, .int .i64 wd, .int .i64 sl, .int .i64 cp, .int .u32 sa, .slice ia il ic, .int .i64 ow, .slice ra rl rc], .int .i64 kind] w fun e w' => e = .returned (.bool (regB k wd il rl kind)) ∧ Same w w' := by
  by_cases h1 : 1 ≤ wd ∧ wd ≤ 8
  all_goals
    by_cases h2 : 1 ≤ (rl : Int) ∧ (rl : Int) ≤ 4
    all_goals
      go_enter Tryd.func95, Tryd.ntmps95
      go_wp2_with (go_at_call 45; first | ((with_reducible refine (within_yes _ _ _ (by assumption) _).mono ?_); rintro e w' ⟨rfl, rfl⟩) | ((with_reducible refine (within_no _ _ _ (by assumption) _).mono ?_); rintro e w' ⟨rfl, rfl⟩))
      all_goals
        go_ret
        refine ⟨ret_bool ?_, (Same.refl _).alloc _⟩
        unfold regB
        first
          | (rw [Bool.eq_iff_iff, decide_eq_true_eq, decide_eq_true_eq]; omega)
          | (rw [Bool.eq_iff_iff]; simp only [beq_iff_eq, bne_iff_ne, ne_eq, beq_eq_false_iff_ne, bne_eq_false_iff_eq, decide_eq_true_eq, Bool.false_eq_true, true_iff, false_iff, and_true, true_and, and_false, false_and] at *; omega)


theorem obj_cells {w : World} {q : Nat} {T : TypeId} {k wd sl cp sa ow : Int} {ia ra : Option Addr} {il ic rl rc : Nat} (h : Blk w q T #[.int .i64 k, .int .i64 wd, .int .i64 sl, .int .i64 cp, .int .u32 sa, .slice ia il ic, .int .i64 ow, .slice ra rl rc]) :
    w.cell? ⟨q, 0, none⟩ = some (.int .i64 k) ∧ w.cell? ⟨q, 1, none⟩ = some (.int .i64 wd) ∧ w.cell? ⟨q, 2, none⟩ = some (.int .i64 sl) ∧ w.cell? ⟨q, 3, none⟩ = some (.int .i64 cp) ∧ w.cell? ⟨q, 4, none⟩ = some (.int .u32 sa) ∧
      w.cell? ⟨q, 5, none⟩ = some (.slice ia il ic) ∧ w.cell? ⟨q, 6, none⟩ = some (.int .i64 ow) ∧ w.cell? ⟨q, 7, none⟩ = some (.slice ra rl rc) :=
  ⟨h.cell 0, h.cell 1, h.cell 2, h.cell 3, h.cell 4, h.cell 5, h.cell 6, h.cell 7⟩

/-! ### the document's own: what hangs on the kind alone -/
theorem ops_reg (k : Int) (h : k = 1 ∨ k = 2 ∨ k = 3 ∨ k = 4 ∨ k = 5) (w : World) : Calls Tryd.prog 62 #[.int .i64 k] w fun e w' => e = .returned (.tuple #[.int .i64 2, .int .i64 1, .bool true]) ∧ w = w' := by
  rcases h with rfl | rfl | rfl | rfl | rfl
  all_goals
    go_enter Tryd.func62, Tryd.ntmps62
    go_wp2
    go_ret3
    exact ⟨rfl, rfl⟩

end Go.Proofs.YtaclphhbdfoaeaaDoor.Ob
end
section
set_option linter.unusedSimpArgs false
set_option linter.unusedVariables false
namespace Go.Proofs.YtaclphhbdfoaeaaDoor.Fo
open Go.ChangeShapes Go.WideShapes Go.ChangeAt Go.RowKit Ws Mm Pa
open Go.Proofs.YtaclphhbdfoaeaaDoor.Ob

/-- whether an object of this kind may be -/
def rightB (wd sl cp sa : Int) (il rl : Nat) : Bool := decide ((1 ≤ wd ∧ wd ≤ 8) ∧ (il : Int) = wd ∧ (rl : Int) = 1 ∧ sl = 0 ∧ cp = 0 ∧ sa = 0)

theorem right_not (k wd sl cp sa ow : Int) (ia ra : Option Addr) (il ic rl rc : Nat) (hk : k ≠ 1) (w : World) :
    Calls Tryd.prog 70 #[.agg #[.int .i64 k, .int .i64 wd, .int .i64 sl, .int .i64 cp, .int .u32 sa, .slice ia il ic, .int .i64 ow, .slice ra rl rc]] w fun e w' => e = .returned (.bool false) ∧ Same w w' := by
  have hb : regB k wd il rl 1 = false := by unfold regB; rw [decide_eq_false (by omega)]
  have HR := fun w' => register_any 1 k wd sl cp sa ow ia ra il ic rl rc w'
  simp only [hb] at HR
  clear hb
  go_enter Tryd.func70, Tryd.ntmps70
  go_wp2_with fail
  refine (HR _).mono ?_
  rintro e w1 ⟨rfl, s1⟩
  go_wp2_with fail
  go_ret
  exact ⟨rfl, Same.trans ((Same.refl _).alloc _) s1⟩

set_option maxHeartbeats 400000 in
theorem right_any (wd sl cp sa ow : Int) (ia ra : Option Addr) (il ic rl rc : Nat) (w : World) :
    Calls Tryd.prog 70 #[.agg #[.int .i64 1, .int .i64 wd, .int .i64 sl, .int .i64 cp, .int .u32 sa, .slice ia il ic, .int .i64 ow, .slice ra rl rc]] w fun e w' => e = .returned (.bool (rightB wd sl cp sa il rl)) ∧ Same w w' := by
  have s0 := (Same.refl w).alloc (.cells #[.int .i64 1, .int .i64 wd, .int .i64 sl, .int .i64 cp, .int .u32 sa, .slice ia il ic, .int .i64 ow, .slice ra rl rc] 39)
  have hb := Blk.new w 39 #[.int .i64 1, .int .i64 wd, .int .i64 sl, .int .i64 cp, .int .u32 sa, .slice ia il ic, .int .i64 ow, .slice ra rl rc]
  have HB := Lib.hid hb
  clear hb
  cases hr : regB 1 wd il rl 1
  all_goals
    have HR := fun w' => register_any 1 1 wd sl cp sa ow ia ra il ic rl rc w'
    simp only [hr] at HR
    have hr2 := Lib.hid hr
    clear hr
    go_enter Tryd.func70, Tryd.ntmps70
    go_wp2_with fail
    refine (HR _).mono ?_
    rintro e w1 ⟨rfl, s1⟩
    obtain ⟨_, _, d2, d3, d4, _, _, d7⟩ := obj_cells (HB.out.same s1)
    have S := s0.trans s1
    clear HB s0 s1 HR
    generalize w.heap.size = q at *
    go_wp2
    all_goals
      go_ret
      have hr := hr2.out
      unfold regB at hr
      simp only [decide_eq_true_eq, decide_eq_false_iff_not] at hr
      refine ⟨ret_bool ?_, S⟩
      unfold rightB
      first
        | (rw [Bool.eq_iff_iff, decide_eq_true_eq, decide_eq_true_eq]; omega)
        | (rw [Bool.eq_iff_iff]; simp only [beq_iff_eq, bne_iff_ne, ne_eq, beq_eq_false_iff_ne, bne_eq_false_iff_eq, decide_eq_true_eq, Bool.false_eq_true, true_iff, false_iff, and_true, true_and, and_false, false_and] at *; omega)

end Go.Proofs.YtaclphhbdfoaeaaDoor.Fo
end
end
section
set_option linter.unusedSimpArgs false
set_option linter.unusedVariables false
namespace Go.Proofs.YtaclphhbdfoaeaaDoor.Sq
open Go.ChangeShapes Go.WideShapes Go.ChangeAt Go.RowKit Ws Mm Pa
open Go.Proofs.YtaclphhbdfoaeaaDoor.Ob

/-- whether an object of this kind may be -/
def rightB (wd sl cp sa : Int) (il rl : Nat) : Bool := decide ((1 ≤ wd ∧ wd ≤ 8) ∧ (il : Int) = wd ∧ (1 ≤ (rl : Int) ∧ (rl : Int) ≤ 4) ∧ sl = 0 ∧ (1 ≤ cp ∧ cp ≤ 16) ∧ sa % 2 = 0)

theorem right_not (k wd sl cp sa ow : Int) (ia ra : Option Addr) (il ic rl rc : Nat) (hk : k ≠ 3) (w : World) (hsa : 0 ≤ sa ∧ sa < 4294967296 := by assumption) :
    Calls Tryd.prog 78 #[.agg #[.int .i64 k, .int .i64 wd, .int .i64 sl, .int .i64 cp, .int .u32 sa, .slice ia il ic, .int .i64 ow, .slice ra rl rc]] w fun e w' => e = .returned (.bool false) ∧ Same w w' := by
  have hb : regB k wd il rl 3 = false := by unfold regB; rw [decide_eq_false (by omega)]
  have HR := fun w' => register_any 3 k wd sl cp sa ow ia ra il ic rl rc w'
  simp only [hb] at HR
  clear hb
  go_enter Tryd.func78, Tryd.ntmps78
  go_wp2_with fail
  refine (HR _).mono ?_
  rintro e w1 ⟨rfl, s1⟩
  go_wp2_with fail
  go_ret
  exact ⟨rfl, Same.trans ((Same.refl _).alloc _) s1⟩

set_option maxHeartbeats 400000 in
theorem right_any (wd sl cp sa ow : Int) (ia ra : Option Addr) (il ic rl rc : Nat) (w : World) (hsa : 0 ≤ sa ∧ sa < 4294967296 := by assumption) :
    Calls Tryd.prog 78 #[.agg #[.int .i64 3, .int .i64 wd, .int .i64 sl, .int .i64 cp, .int .u32 sa, .slice ia il ic, .int .i64 ow, .slice ra rl rc]] w fun e w' => e = .returned (.bool (rightB wd sl cp sa il rl)) ∧ Same w w' := by
  have f1 := and_one sa hsa
  have s0 := (Same.refl w).alloc (.cells #[.int .i64 3, .int .i64 wd, .int .i64 sl, .int .i64 cp, .int .u32 sa, .slice ia il ic, .int .i64 ow, .slice ra rl rc] 39)
  have hb := Blk.new w 39 #[.int .i64 3, .int .i64 wd, .int .i64 sl, .int .i64 cp, .int .u32 sa, .slice ia il ic, .int .i64 ow, .slice ra rl rc]
  have HB := Lib.hid hb
  clear hb
  cases hr : regB 3 wd il rl 3
  all_goals
    have HR := fun w' => register_any 3 3 wd sl cp sa ow ia ra il ic rl rc w'
    simp only [hr] at HR
    have hr2 := Lib.hid hr
    clear hr
    go_enter Tryd.func78, Tryd.ntmps78
    go_wp2_with fail
    refine (HR _).mono ?_
    rintro e w1 ⟨rfl, s1⟩
    obtain ⟨_, _, d2, d3, d4, _, _, d7⟩ := obj_cells (HB.out.same s1)
    have S := s0.trans s1
    clear HB s0 s1 HR
    generalize w.heap.size = q at *
    go_wp2
    all_goals
      go_ret
      have hr := hr2.out
      unfold regB at hr
      simp only [decide_eq_true_eq, decide_eq_false_iff_not] at hr
      refine ⟨ret_bool ?_, S⟩
      unfold rightB
      first
        | (rw [Bool.eq_iff_iff, decide_eq_true_eq, decide_eq_true_eq]; omega)
        | (rw [Bool.eq_iff_iff]; simp only [Bool.not_eq_true', Bool.not_eq_eq_eq_not, Bool.not_true, Bool.not_false, beq_iff_eq, bne_iff_ne, ne_eq, beq_eq_false_iff_ne, bne_eq_false_iff_eq, decide_eq_true_eq, Bool.false_eq_true, true_iff, false_iff, and_true, true_and, and_false, false_and] at *; omega)

end Go.Proofs.YtaclphhbdfoaeaaDoor.Sq
end
