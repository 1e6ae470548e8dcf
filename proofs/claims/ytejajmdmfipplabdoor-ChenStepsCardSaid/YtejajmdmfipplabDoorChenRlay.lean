/-

  The document's words of an object of the kind chen at the beginning.
-/
import Derived.Test.YtejajmdmfipplabDoorChenWords
set_option linter.unusedSimpArgs false
set_option linter.unusedVariables false
namespace Go.Proofs.YtejajmdmfipplabDoor.Ch
open Go.ChangeShapes Go.WideShapes Go.ChangeAt Go.RowKit Ws Mm Pa
open Go.Proofs.YtejajmdmfipplabDoor.Ob (regB register_any rwrites_reg rreads_reg ops_reg within_any obj_cells)

theorem lay_no (k wd sl cp sa ow : Int) (ia ra : Option Addr) (il ic rl rc : Nat) (w : World) (hr : k ≠ 2 ∨ rightB wd sl cp sa il rl = false) (hsa : 0 ≤ sa ∧ sa < 4294967296 := by assumption) :
    Calls Tryd.prog 31 #[.agg #[.int .i64 k, .int .i64 wd, .int .i64 sl, .int .i64 cp, .int .u32 sa, .slice ia il ic, .int .i64 ow, .slice ra rl rc]] w fun e w' => e = .returned (.slice none 0 0) ∧ Same w w' := by
  have HR : ∀ w', Calls Tryd.prog 29 #[.agg #[.int .i64 k, .int .i64 wd, .int .i64 sl, .int .i64 cp, .int .u32 sa, .slice ia il ic, .int .i64 ow, .slice ra rl rc]] w' fun e w'' => e = .returned (.bool false) ∧ Same w' w'' := by
    intro w'
    by_cases hk : k = 2
    · subst hk
      have := right_any wd sl cp sa ow ia ra il ic rl rc w'
      rcases hr with hr | hr
      · exact absurd rfl hr
      · rw [hr] at this
        exact this
    · exact right_not k wd sl cp sa ow ia ra il ic rl rc hk w'
  clear hr
  go_enter Tryd.func31, Tryd.ntmps31
  go_wp2_with fail
  refine (HR _).mono ?_
  rintro e w1 ⟨rfl, s1⟩
  go_wp2_with fail
  go_ret
  exact ⟨rfl, Same.trans ((Same.refl _).alloc _) s1⟩

theorem own_cell {w : World} {B g c : Nat} {e : TypeId} {l : List Int} (h : Own w B e (some ⟨g, 0, none⟩) c (l.map (Value.int .u32))) (j : Nat) (hj : j < l.length) :
    w.cell? ⟨g, j, none⟩ = some (.int .u32 (Op.gd l j)) ∧ w.frozen? ⟨g, j, none⟩ = false := by
  obtain ⟨g', hg', _, _, hf⟩ := h.thaw (by simp; omega)
  injection hg' with hg'
  injection hg' with hg'
  subst hg'
  obtain ⟨b, o, hA, hc⟩ := h.row j (.int .u32 l[j]) (by simp [hj])
  injection hA with hA
  injection hA with e1 e2
  subst e1
  subst e2
  rw [Nat.zero_add] at hc
  refine ⟨?_, hf j⟩
  rw [hc]
  unfold Op.gd
  rw [List.getD_eq_getElem?_getD, List.getElem?_eq_getElem hj]
  rfl
theorem objZ {w w' : World} {q : Nat} {T : TypeId} {W sl : Nat} {cp sa ow : Int} {ia ra : Option Addr} {il ic rl rc : Nat} {S : Nat → Prop} (h : Blk w q T #[.int .i64 2, .int .i64 W, .int .i64 sl, .int .i64 cp, .int .u32 sa, .slice ia il ic, .int .i64 ow, .slice ra rl rc]) (s : Chg S w w') (hn : ¬ S q) : w'.cell? ⟨q, 0, none⟩ = some (.int .i64 2) ∧ w'.cell? ⟨q, 1, none⟩ = some (.int .i64 W) ∧ w'.cell? ⟨q, 2, none⟩ = some (.int .i64 sl) ∧ w'.cell? ⟨q, 3, none⟩ = some (.int .i64 cp) ∧ w'.cell? ⟨q, 4, none⟩ = some (.int .u32 sa) ∧ w'.cell? ⟨q, 5, none⟩ = some (.slice ia il ic) ∧ w'.cell? ⟨q, 6, none⟩ = some (.int .i64 ow) ∧ w'.cell? ⟨q, 7, none⟩ = some (.slice ra rl rc) ∧ Chg S w w' := by
  obtain ⟨a, b, c, d, e, f, g, i⟩ := obj_cells (h.chg s hn)
  exact ⟨a, b, c, d, e, f, g, i, s⟩

end Go.Proofs.YtejajmdmfipplabDoor.Ch
