/-

  Regions (api.Region) one behind the other: in which of them a word lies (layout.Owner).
-/
import Derived.Test.YtaclphhbdfoaeaaFlat
import Derived.Test.YtaclphhbdfoaeaaRows
import Derived.Test.YtaclphhbdfoaeaaWordsK
import Derived.ProofKit
import Derived.OpenShut
import Derived.WalkKit
import Derived.WalkLawsBesides
import Derived.Deep.LoopGhost
import Derived.Deep.RegionHeld3
import Derived.BigQuiet
import Derived.Lib.Hide
section
set_option linter.unusedSimpArgs false
set_option linter.unusedVariables false
namespace Go.Proofs.Ytaclphhbdfoaeaa.On
open Go.RowKit Go.ChangeShapes Go.WideShapes Ws Fl

/-- the type of the whole number, or slice, that stands at a place of a type -/
def leafAt (P : Program) : Nat → TypeId → Nat → Option TypeId
  | 0, _, _ => none
  | n + 1, t, i =>
    match P.underlying t with
    | some (.int _) => if i = 0 then some t else none
    | some (.slice _) => if i = 0 then some t else none
    | some (.struct fs) =>
      ((List.range fs.size).filterMap fun j =>
        match fs[j]? with
        | some f => if f.offset ≤ i ∧ i < f.offset + P.cellsOf f.type then leafAt P n f.type (i - f.offset) else none
        | none => none).head?
    | _ => none

section
variable {H : Type} {enc : TypeId × Value → H} {P : Program} {w : World} {base : Nat} {sp : Nat → Bool} {held : Bool}

theorem leaf_at : ∀ (n fuel : Nat) (t : TypeId) (cs : List Value) (x : DataW H × List MemPlace) (i : Nat) (u : TypeId),
      DataW.trod enc P w base sp held fuel t cs = some x → leafAt P n t i = some u → ∃ v m y, cs[i]? = some v ∧ DataW.trod enc P w base sp held m u [v] = some y := by
  intro n
  induction n with
  | zero => intro fuel t cs x i u _ h; simp [leafAt] at h
  | succ n ih =>
    intro fuel t cs x i u ht h
    unfold leafAt at h
    split at h
    · rename_i k' hu
      obtain ⟨z', rfl, _, hw⟩ := DataW.trod_int hu ht
      split at h
      · rename_i hc
        subst hc
        injection h with h
        subst h
        exact ⟨_, fuel, x, rfl, ht⟩
      · cases h
    · rename_i e hu
      split at h
      · rename_i hc
        subst hc
        injection h with h
        subst h
        rcases DataW.trod_slice hu ht with ⟨hcs, _⟩ | ⟨a, l, c, elems, rest, m, _, hcs, _⟩
        · subst hcs
          exact ⟨_, fuel, x, rfl, ht⟩
        · subst hcs
          exact ⟨_, fuel, x, rfl, ht⟩
      · cases h
    · rename_i fs hu
      obtain ⟨xs, m, rfl, hx, hl, hxl, hall⟩ := DataW.trod_struct hu ht
      obtain ⟨j, _, hj⟩ := List.mem_filterMap.1 (List.mem_of_mem_head? (Option.mem_def.2 h))
      split at hj
      · rename_i f hf
        split at hj
        · rename_i hb
          have hi := hall j f hf
          have hjl : j < xs.length := by
            rw [hxl]
            rcases Nat.lt_or_ge j fs.size with hlt | hge
            · exact hlt
            · rw [Array.getElem?_eq_none hge] at hf
              cases hf
          rw [List.getElem?_eq_getElem hjl] at hi
          obtain ⟨z, m', y, hz, hw⟩ := ih m f.type _ _ _ u hi hj
          exact ⟨z, m', y, Fl.part hb.1 hb.2 hz, hw⟩
        · cases hj
      · cases hj
    · cases h

/-- at a place of a struct stands a whole number -/
theorem int_leaf {n fuel : Nat} {t u : TypeId} {cs : List Value} {x : DataW H × List MemPlace} {i : Nat} {k : IntKind} (h : DataW.trod enc P w base sp held fuel t cs = some x) (hl : leafAt P n t i = some u) (hu : P.underlying u = some (.int k)) :
    ∃ z, cs[i]? = some (.int k z) ∧ (Lit.int k z).wf = true := by
  obtain ⟨v, m, y, hv, hy⟩ := leaf_at n fuel t cs x i u h hl
  obtain ⟨z, hz, _, hw⟩ := DataW.trod_int hu hy
  injection hz with hz
  subst hz
  exact ⟨z, hv, hw⟩
/-- at a place of a struct stands a slice -/
theorem slice_leaf {n fuel : Nat} {t u e : TypeId} {cs : List Value} {x : DataW H × List MemPlace} {i : Nat} (h : DataW.trod enc P w base sp held fuel t cs = some x) (hl : leafAt P n t i = some u) (hu : P.underlying u = some (.slice e)) :
    ∃ A len cap d p, cs[i]? = some (.slice A len cap) ∧ DataW.Trod enc P w base sp held u (.slice A len cap) d p := by
  obtain ⟨v, m, y, hv, hy⟩ := leaf_at n fuel t cs x i u h hl
  rcases DataW.trod_slice hu hy with ⟨hcs, _⟩ | ⟨a, l, c, elems, rest, m', _, hcs, _⟩
  · injection hcs with hcs
    subst hcs
    exact ⟨_, _, _, y.1, y.2, hv, m, by simpa [Value.cells] using hy⟩
  · injection hcs with hcs
    subst hcs
    exact ⟨_, _, _, y.1, y.2, hv, m, by simpa [Value.cells] using hy⟩
end

end Go.Proofs.Ytaclphhbdfoaeaa.On
end
section
set_option linter.unusedVariables false
set_option linter.unusedSimpArgs false
namespace Go.Proofs.Ytaclphhbdfoaeaa.Ly
open Go.ChangeShapes Go.WideShapes Go.ChangeAt Go.RowKit Ws

theorem ret_bool {a b : Bool} (h : a = b) : Ending.returned (.bool a) = .returned (.bool b) := by rw [h]
theorem ret_int {k : IntKind} {a b : Int} (h : a = b) : Ending.returned (.int k a) = .returned (.int k b) := by rw [h]
/-- the slice at A holds these regions -/
def Regs (w : World) (A : Option Addr) (l : List (Int × Int)) : Prop :=
  ∀ (k : Nat) (r : Int × Int), l[k]? = some r → ∃ b o, A = some ⟨b, o, none⟩ ∧ w.cell? ⟨b, o + k * 2, none⟩ = some (.int .i64 r.1) ∧ w.cell? ⟨b, o + k * 2 + 1, none⟩ = some (.int .i64 r.2)
theorem Regs.same {w w' : World} {A : Option Addr} {l : List (Int × Int)} (h : Regs w A l) (hs : Same w w') : Regs w' A l := fun k r hr => by
  obtain ⟨b, o, h1, h2, h3⟩ := h k r hr
  exact ⟨b, o, h1, hs.cell h2, hs.cell h3⟩
/-- has a region a place? -/
def hasB (r : Int × Int) (x : Int) : Bool := decide (0 ≤ r.1 ∧ r.1 ≤ x ∧ x - r.1 < r.2)
def bd (x : Int) : Prop := -9223372036854775808 ≤ x ∧ x ≤ 9223372036854775807
/-- the first one that has it; -1: none -/
def holdF (l : List (Int × Int)) (x : Int) : Int := match l.findIdx? (fun r => hasB r x) with
  | none => -1
  | some i => (i : Int)
theorem hold_none {l : List (Int × Int)} {x : Int} (h : ∀ r ∈ l, hasB r x = false) : holdF l x = -1 := by
  unfold holdF
  rw [List.findIdx?_eq_none_iff.2 h]
theorem hold_some {l : List (Int × Int)} {x : Int} {k : Nat} {r : Int × Int} (hk : l[k]? = some r) (hr : hasB r x = true) (hn : ∀ j, j < k → ∀ q, l[j]? = some q → hasB q x = false) : holdF l x = k := by
  unfold holdF
  have : l.findIdx? (fun r => hasB r x) = some k := by
    rw [List.findIdx?_eq_some_iff_getElem]
    obtain ⟨h1, h2⟩ := List.getElem?_eq_some_iff.1 hk
    refine ⟨h1, by rw [h2]; exact hr, fun j hj => ?_⟩
    have hjl : j < l.length := by omega
    have := hn j hj (l[j]) (List.getElem?_eq_getElem hjl)
    simp [this]
  rw [this]
/-- whose a word is: the task, or the object -/
def ownF (l m : List (Int × Int)) (x : Int) : Int × Int := if holdF l x ≠ -1 then (holdF l x, -1) else (-1, holdF m x)
theorem layout_cells {w : World} {g : Nat} {T : TypeId} {v0 v1 v2 : Value} (h : Blk w g T #[v0, v1, v2]) : w.cell? ⟨g, 0, none⟩ = some v0 ∧ w.cell? ⟨g, 1, none⟩ = some v1 ∧ w.cell? ⟨g, 2, none⟩ = some v2 := ⟨h.cell 0, h.cell 1, h.cell 2⟩
end Go.Proofs.Ytaclphhbdfoaeaa.Ly
end
