/-

  The document's words of an object of the kind fifo at the beginning.
-/
import Derived.Test.YtejajmdmfipplabFifoWords
set_option linter.unusedSimpArgs false
set_option linter.unusedVariables false
namespace Go.Proofs.Ytejajmdmfipplab.Ff
open Go.ChangeShapes Go.WideShapes Go.ChangeAt Go.RowKit Ws Mm Pa
open Go.Proofs.Ytejajmdmfipplab.Ob (within_any obj_cells)

theorem lay_no (k wd sl cp sa ow : Int) (ia ra : Option Addr) (il ic rl rc : Nat) (w : World) (hr : k ≠ 6 ∨ rightB wd sl cp sa il rl = false) (hsa : 0 ≤ sa ∧ sa < 4294967296 := by assumption) :
    Calls Try.prog 10 #[.agg #[.int .i64 k, .int .i64 wd, .int .i64 sl, .int .i64 cp, .int .u32 sa, .slice ia il ic, .int .i64 ow, .slice ra rl rc]] w fun e w' => e = .returned (.slice none 0 0) ∧ Same w w' := by
  have HR : ∀ w', Calls Try.prog 7 #[.agg #[.int .i64 k, .int .i64 wd, .int .i64 sl, .int .i64 cp, .int .u32 sa, .slice ia il ic, .int .i64 ow, .slice ra rl rc]] w' fun e w'' => e = .returned (.bool false) ∧ Same w' w'' := by
    intro w'
    by_cases hk : k = 6
    · subst hk
      have := right_any wd sl cp sa ow ia ra il ic rl rc w'
      rcases hr with hr | hr
      · exact absurd rfl hr
      · rw [hr] at this
        exact this
    · exact right_not k wd sl cp sa ow ia ra il ic rl rc hk w'
  clear hr
  go_enter Try.func10, Try.ntmps10
  go_wp2_with fail
  refine (HR _).mono ?_
  rintro e w1 ⟨rfl, s1⟩
  go_wp2_with fail
  go_ret
  exact ⟨rfl, Same.trans ((Same.refl _).alloc _) s1⟩

theorem own_cell {w : World} {B g c : Nat} {e : TypeId} {l : List Int} (h : Own w B e (some ⟨g, 0, none⟩) c (l.map (Value.int .u32))) (j : Nat) (hj : j < l.length) :
    w.cell? ⟨g, j, none⟩ = some (.int .u32 (Op.gd l j)) ∧ w.frozen? ⟨g, j, none⟩ = false := by
  obtain ⟨g', hg', _, _, hf⟩ := h.thaw (by simp; omega)
  injection hg' with hg'
  injection hg' with hg'
  subst hg'
  obtain ⟨b, o, hA, hc⟩ := h.row j (.int .u32 l[j]) (by simp [hj])
  injection hA with hA
  injection hA with e1 e2
  subst e1
  subst e2
  rw [Nat.zero_add] at hc
  refine ⟨?_, hf j⟩
  rw [hc]
  unfold Op.gd
  rw [List.getD_eq_getElem?_getD, List.getElem?_eq_getElem hj]
  rfl
end Go.Proofs.Ytejajmdmfipplab.Ff
