/-

  An object by value: what package operation, and the document's own layer, say of it.
-/
import Derived.Test.YtejajmdmfipplabPartEnd
import Derived.Test.YtejajmdmfipplabOpKeep
import Derived.Deep.LoopGhost
set_option linter.unusedSimpArgs false
set_option linter.unusedVariables false
namespace Go.Proofs.Ytejajmdmfipplab.Ob
open Go.ChangeShapes Go.WideShapes Go.ChangeAt Go.RowKit Ws Mm Pa

theorem within_any (n a b : Int) (w : World) : Calls Try.prog 23 #[.int .i64 n, .int .i64 a, .int .i64 b] w fun e w' => e = .returned (.bool (decide (a ≤ n ∧ n ≤ b))) ∧ w = w' := by
  go_enter Try.func23, Try.ntmps23
  go_wp2
  all_goals
    go_ret
    refine ⟨ret_bool ?_, rfl⟩
    first
      | (rw [Bool.eq_iff_iff, decide_eq_true_eq, decide_eq_true_eq]; omega)
      | (simp <;> omega)
      | (rw [decide_eq_false (by omega)])

def regB (k wd : Int) (il rl : Nat) (kind : Int) : Bool := decide (k = kind ∧ (1 ≤ wd ∧ wd ≤ 8) ∧ (il : Int) = wd ∧ (1 ≤ (rl : Int) ∧ (rl : Int) ≤ 4))

theorem within_yes (n a b : Int) (h : a ≤ n ∧ n ≤ b) (w : World) : Calls Try.prog 23 #[.int .i64 n, .int .i64 a, .int .i64 b] w fun e w' => e = .returned (.bool true) ∧ w = w' :=
  (within_any n a b w).mono fun e w' ⟨he, hw⟩ => ⟨by rw [he, decide_eq_true h], hw⟩
theorem within_no (n a b : Int) (h : ¬ (a ≤ n ∧ n ≤ b)) (w : World) : Calls Try.prog 23 #[.int .i64 n, .int .i64 a, .int .i64 b] w fun e w' => e = .returned (.bool false) ∧ w = w' :=
  (within_any n a b w).mono fun e w' ⟨he, hw⟩ => ⟨by rw [he, decide_eq_false h], hw⟩

theorem obj_cells {w : World} {q : Nat} {T : TypeId} {k wd sl cp sa ow : Int} {ia ra : Option Addr} {il ic rl rc : Nat} (h : Blk w q T #[.int .i64 k, .int .i64 wd, .int .i64 sl, .int .i64 cp, .int .u32 sa, .slice ia il ic, .int .i64 ow, .slice ra rl rc]) :
    w.cell? ⟨q, 0, none⟩ = some (.int .i64 k) ∧ w.cell? ⟨q, 1, none⟩ = some (.int .i64 wd) ∧ w.cell? ⟨q, 2, none⟩ = some (.int .i64 sl) ∧ w.cell? ⟨q, 3, none⟩ = some (.int .i64 cp) ∧ w.cell? ⟨q, 4, none⟩ = some (.int .u32 sa) ∧
      w.cell? ⟨q, 5, none⟩ = some (.slice ia il ic) ∧ w.cell? ⟨q, 6, none⟩ = some (.int .i64 ow) ∧ w.cell? ⟨q, 7, none⟩ = some (.slice ra rl rc) :=
  ⟨h.cell 0, h.cell 1, h.cell 2, h.cell 3, h.cell 4, h.cell 5, h.cell 6, h.cell 7⟩

/-! ### the document's own: what hangs on the kind alone -/
theorem ops_reg (k : Int) (h : k = 1 ∨ k = 2 ∨ k = 3 ∨ k = 4 ∨ k = 5) (w : World) : Calls Try.prog 51 #[.int .i64 k] w fun e w' => e = .returned (.tuple #[.int .i64 2, .int .i64 1, .bool true]) ∧ w = w' := by
  rcases h with rfl | rfl | rfl | rfl | rfl
  all_goals
    go_enter Try.func51, Try.ntmps51
    go_wp2
    go_ret3
    exact ⟨rfl, rfl⟩

end Go.Proofs.Ytejajmdmfipplab.Ob
