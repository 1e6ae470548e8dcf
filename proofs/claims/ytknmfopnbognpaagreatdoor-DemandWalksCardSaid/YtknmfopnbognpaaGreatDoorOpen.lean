/-
  Structs that hold whole numbers and slices, read by value: each place of them opened.
  Nothing here speaks of one program.
-/
import Derived.Test.YtknmfopnbognpaaGreatDoorFlat
set_option linter.unusedSimpArgs false
set_option linter.unusedVariables false
namespace Go.Proofs.YtknmfopnbognpaaGreatDoor.On
open Go.RowKit Go.ChangeShapes Go.WideShapes Ws Fl

/-- the type of the whole number, or slice, that stands at a place of a type -/
def leafAt (P : Program) : Nat → TypeId → Nat → Option TypeId
  | 0, _, _ => none
  | n + 1, t, i =>
    match P.underlying t with
    | some (.int _) => if i = 0 then some t else none
    | some (.slice _) => if i = 0 then some t else none
    | some (.struct fs) =>
      ((List.range fs.size).filterMap fun j =>
        match fs[j]? with
        | some f => if f.offset ≤ i ∧ i < f.offset + P.cellsOf f.type then leafAt P n f.type (i - f.offset) else none
        | none => none).head?
    | _ => none

section
variable {H : Type} {enc : TypeId × Value → H} {P : Program} {w : World} {base : Nat} {sp : Nat → Bool} {held : Bool}

theorem leaf_at : ∀ (n fuel : Nat) (t : TypeId) (cs : List Value) (x : DataW H × List MemPlace) (i : Nat) (u : TypeId),
      DataW.trod enc P w base sp held fuel t cs = some x → leafAt P n t i = some u → ∃ v m y, cs[i]? = some v ∧ DataW.trod enc P w base sp held m u [v] = some y := by
  intro n
  induction n with
  | zero => intro fuel t cs x i u _ h; simp [leafAt] at h
  | succ n ih =>
    intro fuel t cs x i u ht h
    unfold leafAt at h
    split at h
    · rename_i k' hu
      obtain ⟨z', rfl, _, hw⟩ := DataW.trod_int hu ht
      split at h
      · rename_i hc
        subst hc
        injection h with h
        subst h
        exact ⟨_, fuel, x, rfl, ht⟩
      · cases h
    · rename_i e hu
      split at h
      · rename_i hc
        subst hc
        injection h with h
        subst h
        rcases DataW.trod_slice hu ht with ⟨hcs, _⟩ | ⟨a, l, c, elems, rest, m, _, hcs, _⟩
        · subst hcs
          exact ⟨_, fuel, x, rfl, ht⟩
        · subst hcs
          exact ⟨_, fuel, x, rfl, ht⟩
      · cases h
    · rename_i fs hu
      obtain ⟨xs, m, rfl, hx, hl, hxl, hall⟩ := DataW.trod_struct hu ht
      obtain ⟨j, _, hj⟩ := List.mem_filterMap.1 (List.mem_of_mem_head? (Option.mem_def.2 h))
      split at hj
      · rename_i f hf
        split at hj
        · rename_i hb
          have hi := hall j f hf
          have hjl : j < xs.length := by
            rw [hxl]
            rcases Nat.lt_or_ge j fs.size with hlt | hge
            · exact hlt
            · rw [Array.getElem?_eq_none hge] at hf
              cases hf
          rw [List.getElem?_eq_getElem hjl] at hi
          obtain ⟨z, m', y, hz, hw⟩ := ih m f.type _ _ _ u hi hj
          exact ⟨z, m', y, Fl.part hb.1 hb.2 hz, hw⟩
        · cases hj
      · cases hj
    · cases h

/-- at a place of a struct stands a whole number -/
theorem int_leaf {n fuel : Nat} {t u : TypeId} {cs : List Value} {x : DataW H × List MemPlace} {i : Nat} {k : IntKind} (h : DataW.trod enc P w base sp held fuel t cs = some x) (hl : leafAt P n t i = some u) (hu : P.underlying u = some (.int k)) :
    ∃ z, cs[i]? = some (.int k z) ∧ (Lit.int k z).wf = true := by
  obtain ⟨v, m, y, hv, hy⟩ := leaf_at n fuel t cs x i u h hl
  obtain ⟨z, hz, _, hw⟩ := DataW.trod_int hu hy
  injection hz with hz
  subst hz
  exact ⟨z, hv, hw⟩
/-- at a place of a struct stands a slice -/
theorem slice_leaf {n fuel : Nat} {t u e : TypeId} {cs : List Value} {x : DataW H × List MemPlace} {i : Nat} (h : DataW.trod enc P w base sp held fuel t cs = some x) (hl : leafAt P n t i = some u) (hu : P.underlying u = some (.slice e)) :
    ∃ A len cap d p, cs[i]? = some (.slice A len cap) ∧ DataW.Trod enc P w base sp held u (.slice A len cap) d p := by
  obtain ⟨v, m, y, hv, hy⟩ := leaf_at n fuel t cs x i u h hl
  rcases DataW.trod_slice hu hy with ⟨hcs, _⟩ | ⟨a, l, c, elems, rest, m', _, hcs, _⟩
  · injection hcs with hcs
    subst hcs
    exact ⟨_, _, _, y.1, y.2, hv, m, by simpa [Value.cells] using hy⟩
  · injection hcs with hcs
    subst hcs
    exact ⟨_, _, _, y.1, y.2, hv, m, by simpa [Value.cells] using hy⟩
end

end Go.Proofs.YtknmfopnbognpaaGreatDoor.On
