/-
  A slice of truths that came in: plain.
-/
import Derived.Test.YtnlndkpjfgpodaaDoorWords
import Derived.Test.YtnlndkpjfgpodaaDoorFlat
import Derived.Deep.Slices
set_option linter.unusedSimpArgs false
set_option linter.unusedVariables false
namespace Go.Proofs.YtnlndkpjfgpodaaDoor.Fl
open Go.ChangeShapes Go.WideShapes Go.ChangeAt Go.RowKit Ws
/-- a slice of truths that came in reads as the list -/
theorem bools_of {H : Type} {enc : TypeId × Value → H} {P : Program} {w : World} {base : Nat} {sp : Nat → Bool} {held : Bool} {t e : TypeId} {A : Option Addr} {len cap : Nat} {d : DataW H} {p : List MemPlace}
    (ht : P.underlying t = some (.slice e)) (he : P.underlying e = some .bool) (hc : P.cellsOf e = 1) (h : DataW.Trod enc P w base sp held t (.slice A len cap) d p) :
    ∃ l : List Bool, l.length = len ∧ Row w A (l.map Value.bool) := by
  obtain ⟨fuel, hf⟩ := h
  rcases Go.Deep.open_slice1 ht hc hf with ⟨hcs, _⟩ | ⟨x, l, c, m, n, V, D, Pl, hcs, _, hl, hm, hmm, _, hx⟩
  · simp [Value.cells] at hcs
    obtain ⟨rfl, rfl, rfl⟩ := hcs
    exact ⟨[], rfl, Row.nil _ _⟩
  · simp [Value.cells] at hcs
    obtain ⟨rfl, rfl, rfl⟩ := hcs
    have hml : len ≤ m := by rw [hmm]; split <;> omega
    refine ⟨(List.range len).map fun i => (match V i with | .bool b => b | _ => false), by simp, ?_⟩
    intro j u hj
    rw [List.getElem?_map, List.getElem?_map] at hj
    by_cases hlt : j < len
    · rw [List.getElem?_range hlt] at hj
      simp at hj
      obtain ⟨hcell, ht2⟩ := hx j (by omega)
      obtain ⟨b, h1, h2⟩ := DataW.trod_bool he ht2
      have hV : V j = .bool b := by simpa using h1
      rw [hV] at hj hcell
      have hs : x.spot = none := spot_zero (by simpa [Addr.add] using (hx 0 (by omega)).1)
      obtain ⟨b', o, s⟩ := x
      cases hs
      refine ⟨b', o, rfl, ?_⟩
      rw [plain_add] at hcell
      rw [← hj, hcell]
    · rw [List.getElem?_eq_none (by simp; omega)] at hj
      cases hj
/-- the same, with its capacity -/
theorem bools_of2 {H : Type} {enc : TypeId × Value → H} {P : Program} {w : World} {base : Nat} {sp : Nat → Bool} {held : Bool} {t e : TypeId} {A : Option Addr} {len cap : Nat} {d : DataW H} {p : List MemPlace}
    (ht : P.underlying t = some (.slice e)) (he : P.underlying e = some .bool) (hc : P.cellsOf e = 1) (h : DataW.Trod enc P w base sp held t (.slice A len cap) d p) :
    ∃ l : List Bool, l.length = len ∧ Row w A (l.map Value.bool) ∧ len ≤ cap ∧ cap ≤ maxLen := by
  obtain ⟨fuel, hf⟩ := h
  rcases Go.Deep.open_slice1 ht hc hf with ⟨hcs, _⟩ | ⟨x, l, c, m, n, V, D, Pl, hcs, _, hl, hm, hmm, _, hx⟩
  · simp [Value.cells] at hcs
    obtain ⟨rfl, rfl, rfl⟩ := hcs
    exact ⟨[], rfl, Row.nil _ _, Nat.le_refl _, Nat.zero_le _⟩
  · simp [Value.cells] at hcs
    obtain ⟨rfl, rfl, rfl⟩ := hcs
    have hml : len ≤ m := by rw [hmm]; split <;> omega
    refine ⟨(List.range len).map fun i => (match V i with | .bool b => b | _ => false), by simp, ?_, hl, hm⟩
    intro j u hj
    rw [List.getElem?_map, List.getElem?_map] at hj
    by_cases hlt : j < len
    · rw [List.getElem?_range hlt] at hj
      simp at hj
      obtain ⟨hcell, ht2⟩ := hx j (by omega)
      obtain ⟨b, h1, h2⟩ := DataW.trod_bool he ht2
      have hV : V j = .bool b := by simpa using h1
      rw [hV] at hj hcell
      have hs : x.spot = none := spot_zero (by simpa [Addr.add] using (hx 0 (by omega)).1)
      obtain ⟨b', o, s⟩ := x
      cases hs
      refine ⟨b', o, rfl, ?_⟩
      rw [plain_add] at hcell
      rw [← hj, hcell]
    · rw [List.getElem?_eq_none (by simp; omega)] at hj
      cases hj
end Go.Proofs.YtnlndkpjfgpodaaDoor.Fl
