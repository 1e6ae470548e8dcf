/-
  A slice of slices of words that came in.
-/
import Derived.Test.YtejajmdmfipplaaDoorFlat
import Derived.Deep.Matrix
set_option linter.unusedSimpArgs false
set_option linter.unusedVariables false
namespace Go.Proofs.YtejajmdmfipplaaDoor.Mt
open Go.ChangeShapes Go.WideShapes Go.ChangeAt Go.RowKit Ws

/-- the slice at A holds slices of words, which read as l -/
def Mat (w : World) (A : Option Addr) (l : List (List Int)) : Prop :=
  ∀ (j : Nat) (r : List Int), l[j]? = some r → ∃ b o C c, A = some ⟨b, o, none⟩ ∧ w.cell? ⟨b, o + j, none⟩ = some (.slice C r.length c) ∧ Row w C (r.map (Value.int .u32))
theorem Mat.same {w w' : World} {A : Option Addr} {l : List (List Int)} (h : Mat w A l) (hc : Same w w') : Mat w' A l := fun j r hj => by
  obtain ⟨b, o, C, c, hA, h1, h2⟩ := h j r hj
  exact ⟨b, o, C, c, hA, hc.cell h1, h2.same hc⟩

theorem mat_of {H : Type} {enc : TypeId × Value → H} {P : Program} {w : World} {base : Nat} {held : Bool} {t e q : TypeId} {A : Option Addr} {len cap : Nat} {d : DataW H} {p : List MemPlace}
    (ht : P.underlying t = some (.slice e)) (he : P.underlying e = some (.slice q)) (hq : P.underlying q = some (.int .u32)) (ce : P.cellsOf e = 1) (cq : P.cellsOf q = 1)
    (h : DataW.Trod enc P w base (fun _ => true) held t (.slice A len cap) d p) :
    ∃ l : List (List Int), l.length = len ∧ Mat w A l ∧ (∀ r ∈ l, (∀ x ∈ r, 0 ≤ x ∧ x < 4294967296) ∧ r.length ≤ maxLen) := by
  obtain ⟨fuel, hf⟩ := h
  rcases Go.Deep.open_int_rows ht he hq ce cq hf with ⟨hcs, _⟩ | ⟨a, n, c, AA, L, C, Z, hcs, _, hl, hm, _, hall⟩
  · simp [Value.cells] at hcs
    obtain ⟨rfl, rfl, rfl⟩ := hcs
    exact ⟨[], rfl, fun j r hj => by simp at hj, fun r hr => by simp at hr⟩
  · simp [Value.cells] at hcs
    obtain ⟨rfl, rfl, rfl⟩ := hcs
    refine ⟨(List.range len).map fun j => (Z j).take (L j), by simp, ?_, ?_⟩
    · intro j r hj
      rw [List.getElem?_map] at hj
      have hlt : j < len := by
        rcases Nat.lt_or_ge j len with hlt | hge
        · exact hlt
        · rw [List.getElem?_eq_none (by simpa using hge)] at hj
          cases hj
      rw [List.getElem?_range hlt] at hj
      simp only [Option.map_some, Option.some.injEq] at hj
      subst hj
      obtain ⟨hc0, _⟩ := hall 0 (by omega)
      have hsp : a.spot = none := Fl.spot_zero (by simpa [Addr.add] using hc0)
      obtain ⟨hc, hLC, hCm, hZ, _, hnone, hrow⟩ := hall j (by omega)
      obtain ⟨b, o, s⟩ := a
      cases hsp
      rw [Fl.plain_add] at hc
      have hlen : ((Z j).take (L j)).length = L j := by rw [List.length_take]; omega
      refine ⟨b, o, AA j, C j, rfl, by rw [hlen]; exact hc, ?_⟩
      intro i u hi
      rw [List.getElem?_map, List.getElem?_take] at hi
      by_cases hil : i < L j
      · rw [if_pos hil, List.getElem?_eq_getElem (by omega)] at hi
        simp at hi
        cases hA : AA j with
        | none => have := hnone hA; omega
        | some a' =>
          obtain ⟨_, hcell⟩ := hrow a' hA
          have h0 := hcell 0 (by omega)
          have hs' : a'.spot = none := Fl.spot_zero (by simpa [Addr.add] using h0)
          have hci := hcell i (by omega)
          obtain ⟨b', o', s'⟩ := a'
          cases hs'
          rw [Fl.plain_add] at hci
          refine ⟨b', o', rfl, ?_⟩
          rw [hci, ← hi]
          congr 1
          simp [List.getD, List.getElem?_eq_getElem (show i < (Z j).length by omega)]
      · rw [if_neg hil] at hi
        cases hi
    · intro r hr
      obtain ⟨j, hj, rfl⟩ := List.mem_map.1 hr
      have hlt : j < len := by simpa using hj
      obtain ⟨_, hLC, hCm, hZ, hwf, _⟩ := hall j (by omega)
      exact ⟨fun x hx => Fl.u32_bd (hwf x (List.mem_of_mem_take hx)), by rw [List.length_take]; omega⟩

end Go.Proofs.YtejajmdmfipplaaDoor.Mt
