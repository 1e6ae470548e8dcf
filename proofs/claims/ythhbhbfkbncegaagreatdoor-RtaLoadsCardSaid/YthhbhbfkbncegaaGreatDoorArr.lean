/-
 An array of two whole numbers that came in by value.
-/
import Derived.Test.YthhbhbfkbncegaaGreatDoorFlat
set_option linter.unusedSimpArgs false
set_option linter.unusedVariables false
namespace Go.Proofs.YthhbhbfkbncegaaGreatDoor.Fl
open Go.RowKit Go.ChangeShapes Go.WideShapes Ws
section
variable {H : Type} {enc : TypeId × Value → H} {P : Program} {w : World} {base : Nat} {sp : Nat → Bool} {held : Bool}
theorem okWide_arr {r : Reach} {b0 : Nat} {t e : TypeId} {m : Nat} {v : Value} (ht : P.underlying t = some (.array m e)) (h : Value.okWide P w r b0 t v) : ∃ cs, v = .agg cs ∧ cs.size = P.cellsOf t := by
 simp only [Value.okWide, ht] at h
 obtain ⟨cs, h1, h2, _⟩ := h
 exact ⟨cs, h1, h2⟩
theorem pair_of {r : Reach} {b0 : Nat} {n : Nat} {t e : TypeId} {m : Nat} {v : Value} {d : DataW H} {p : List MemPlace} (hk : kinds P n t = some [.i64, .i64]) (hu : P.underlying t = some (.array m e)) (hv : Value.okWide P w r b0 t v) (h : DataW.Trod enc P w base sp held t v d p) :
 ∃ x y, v = .agg #[.int .i64 x, .int .i64 y] ∧ (Lit.int .i64 x).wf = true ∧ (Lit.int .i64 y).wf = true := by
 obtain ⟨cs, rfl, hsz⟩ := okWide_arr hu hv
 obtain ⟨fuel, hf⟩ := h
 have hc : (Value.agg cs).cells.toList = cs.toList := by simp [Value.cells]
 rw [hc] at hf
 obtain ⟨z, h1, h2⟩ := row_of hk (by simpa using hsz) hf
 obtain ⟨hl, hw⟩ := h1
 match z, hl with
 | [x, y], _ =>
  refine ⟨x, y, ?_, hw 0 .i64 rfl, hw 1 .i64 rfl⟩
  have : cs = #[.int .i64 x, .int .i64 y] := Array.toList_inj.1 (h2.trans rfl)
  rw [this]
end
end Go.Proofs.YthhbhbfkbncegaaGreatDoor.Fl
