/-
  Tasks (api.Task): a slice of them that came in, and one by value; each has six whole numbers and a slice.
-/
import Derived.Test.YtaclphhbdfoaeaaDoorFlat
import Derived.Test.YtaclphhbdfoaeaaDoorRows
import Derived.Test.YtaclphhbdfoaeaaDoorWordsK
import Derived.ProofKit
import Derived.OpenShut
import Derived.WalkKit
import Derived.WalkLawsBesides
import Derived.Deep.LoopGhost
import Derived.Deep.RegionHeld3
import Derived.BigQuiet
import Derived.Lib.Hide
section
section
set_option linter.unusedSimpArgs false
set_option linter.unusedVariables false
namespace Go.Proofs.YtaclphhbdfoaeaaDoor.On
open Go.RowKit Go.ChangeShapes Go.WideShapes Ws Fl

/-- the type of the whole number, or slice, that stands at a place of a type -/
def leafAt (P : Program) : Nat → TypeId → Nat → Option TypeId
  | 0, _, _ => none
  | n + 1, t, i =>
    match P.underlying t with
    | some (.int _) => if i = 0 then some t else none
    | some (.slice _) => if i = 0 then some t else none
    | some (.struct fs) =>
      ((List.range fs.size).filterMap fun j =>
        match fs[j]? with
        | some f => if f.offset ≤ i ∧ i < f.offset + P.cellsOf f.type then leafAt P n f.type (i - f.offset) else none
        | none => none).head?
    | _ => none

section
variable {H : Type} {enc : TypeId × Value → H} {P : Program} {w : World} {base : Nat} {sp : Nat → Bool} {held : Bool}

theorem leaf_at : ∀ (n fuel : Nat) (t : TypeId) (cs : List Value) (x : DataW H × List MemPlace) (i : Nat) (u : TypeId),
      DataW.trod enc P w base sp held fuel t cs = some x → leafAt P n t i = some u → ∃ v m y, cs[i]? = some v ∧ DataW.trod enc P w base sp held m u [v] = some y := by
  intro n
  induction n with
  | zero => intro fuel t cs x i u _ h; simp [leafAt] at h
  | succ n ih =>
    intro fuel t cs x i u ht h
    unfold leafAt at h
    split at h
    · rename_i k' hu
      obtain ⟨z', rfl, _, hw⟩ := DataW.trod_int hu ht
      split at h
      · rename_i hc
        subst hc
        injection h with h
        subst h
        exact ⟨_, fuel, x, rfl, ht⟩
      · cases h
    · rename_i e hu
      split at h
      · rename_i hc
        subst hc
        injection h with h
        subst h
        rcases DataW.trod_slice hu ht with ⟨hcs, _⟩ | ⟨a, l, c, elems, rest, m, _, hcs, _⟩
        · subst hcs
          exact ⟨_, fuel, x, rfl, ht⟩
        · subst hcs
          exact ⟨_, fuel, x, rfl, ht⟩
      · cases h
    · rename_i fs hu
      obtain ⟨xs, m, rfl, hx, hl, hxl, hall⟩ := DataW.trod_struct hu ht
      obtain ⟨j, _, hj⟩ := List.mem_filterMap.1 (List.mem_of_mem_head? (Option.mem_def.2 h))
      split at hj
      · rename_i f hf
        split at hj
        · rename_i hb
          have hi := hall j f hf
          have hjl : j < xs.length := by
            rw [hxl]
            rcases Nat.lt_or_ge j fs.size with hlt | hge
            · exact hlt
            · rw [Array.getElem?_eq_none hge] at hf
              cases hf
          rw [List.getElem?_eq_getElem hjl] at hi
          obtain ⟨z, m', y, hz, hw⟩ := ih m f.type _ _ _ u hi hj
          exact ⟨z, m', y, Fl.part hb.1 hb.2 hz, hw⟩
        · cases hj
      · cases hj
    · cases h

/-- at a place of a struct stands a whole number -/
theorem int_leaf {n fuel : Nat} {t u : TypeId} {cs : List Value} {x : DataW H × List MemPlace} {i : Nat} {k : IntKind} (h : DataW.trod enc P w base sp held fuel t cs = some x) (hl : leafAt P n t i = some u) (hu : P.underlying u = some (.int k)) :
    ∃ z, cs[i]? = some (.int k z) ∧ (Lit.int k z).wf = true := by
  obtain ⟨v, m, y, hv, hy⟩ := leaf_at n fuel t cs x i u h hl
  obtain ⟨z, hz, _, hw⟩ := DataW.trod_int hu hy
  injection hz with hz
  subst hz
  exact ⟨z, hv, hw⟩
/-- at a place of a struct stands a slice -/
theorem slice_leaf {n fuel : Nat} {t u e : TypeId} {cs : List Value} {x : DataW H × List MemPlace} {i : Nat} (h : DataW.trod enc P w base sp held fuel t cs = some x) (hl : leafAt P n t i = some u) (hu : P.underlying u = some (.slice e)) :
    ∃ A len cap d p, cs[i]? = some (.slice A len cap) ∧ DataW.Trod enc P w base sp held u (.slice A len cap) d p := by
  obtain ⟨v, m, y, hv, hy⟩ := leaf_at n fuel t cs x i u h hl
  rcases DataW.trod_slice hu hy with ⟨hcs, _⟩ | ⟨a, l, c, elems, rest, m', _, hcs, _⟩
  · injection hcs with hcs
    subst hcs
    exact ⟨_, _, _, y.1, y.2, hv, m, by simpa [Value.cells] using hy⟩
  · injection hcs with hcs
    subst hcs
    exact ⟨_, _, _, y.1, y.2, hv, m, by simpa [Value.cells] using hy⟩
end

end Go.Proofs.YtaclphhbdfoaeaaDoor.On
end
section
set_option linter.unusedVariables false
set_option linter.unusedSimpArgs false
namespace Go.Proofs.YtaclphhbdfoaeaaDoor.Ly
open Go.ChangeShapes Go.WideShapes Go.ChangeAt Go.RowKit Ws

theorem ret_bool {a b : Bool} (h : a = b) : Ending.returned (.bool a) = .returned (.bool b) := by rw [h]
theorem ret_int {k : IntKind} {a b : Int} (h : a = b) : Ending.returned (.int k a) = .returned (.int k b) := by rw [h]
/-- the slice at A holds these regions -/
def Regs (w : World) (A : Option Addr) (l : List (Int × Int)) : Prop :=
  ∀ (k : Nat) (r : Int × Int), l[k]? = some r → ∃ b o, A = some ⟨b, o, none⟩ ∧ w.cell? ⟨b, o + k * 2, none⟩ = some (.int .i64 r.1) ∧ w.cell? ⟨b, o + k * 2 + 1, none⟩ = some (.int .i64 r.2)
theorem Regs.same {w w' : World} {A : Option Addr} {l : List (Int × Int)} (h : Regs w A l) (hs : Same w w') : Regs w' A l := fun k r hr => by
  obtain ⟨b, o, h1, h2, h3⟩ := h k r hr
  exact ⟨b, o, h1, hs.cell h2, hs.cell h3⟩
/-- has a region a place? -/
def hasB (r : Int × Int) (x : Int) : Bool := decide (0 ≤ r.1 ∧ r.1 ≤ x ∧ x - r.1 < r.2)
def bd (x : Int) : Prop := -9223372036854775808 ≤ x ∧ x ≤ 9223372036854775807
/-- the first one that has it; -1: none -/
def holdF (l : List (Int × Int)) (x : Int) : Int := match l.findIdx? (fun r => hasB r x) with
  | none => -1
  | some i => (i : Int)
theorem hold_none {l : List (Int × Int)} {x : Int} (h : ∀ r ∈ l, hasB r x = false) : holdF l x = -1 := by
  unfold holdF
  rw [List.findIdx?_eq_none_iff.2 h]
theorem hold_some {l : List (Int × Int)} {x : Int} {k : Nat} {r : Int × Int} (hk : l[k]? = some r) (hr : hasB r x = true) (hn : ∀ j, j < k → ∀ q, l[j]? = some q → hasB q x = false) : holdF l x = k := by
  unfold holdF
  have : l.findIdx? (fun r => hasB r x) = some k := by
    rw [List.findIdx?_eq_some_iff_getElem]
    obtain ⟨h1, h2⟩ := List.getElem?_eq_some_iff.1 hk
    refine ⟨h1, by rw [h2]; exact hr, fun j hj => ?_⟩
    have hjl : j < l.length := by omega
    have := hn j hj (l[j]) (List.getElem?_eq_getElem hjl)
    simp [this]
  rw [this]
/-- whose a word is: the task, or the object -/
def ownF (l m : List (Int × Int)) (x : Int) : Int × Int := if holdF l x ≠ -1 then (holdF l x, -1) else (-1, holdF m x)
theorem layout_cells {w : World} {g : Nat} {T : TypeId} {v0 v1 v2 : Value} (h : Blk w g T #[v0, v1, v2]) : w.cell? ⟨g, 0, none⟩ = some v0 ∧ w.cell? ⟨g, 1, none⟩ = some v1 ∧ w.cell? ⟨g, 2, none⟩ = some v2 := ⟨h.cell 0, h.cell 1, h.cell 2⟩
end Go.Proofs.YtaclphhbdfoaeaaDoor.Ly
end
end
section
set_option linter.unusedSimpArgs false
set_option linter.unusedVariables false
namespace Go.Proofs.YtaclphhbdfoaeaaDoor.Tk
open Go.ChangeShapes Go.WideShapes Go.ChangeAt Go.RowKit Ws Fl

/-- a task, as its cells tell it -/
structure Task where
  kind : Int
  prio : Int
  per : Int
  off : Int
  dl : Int
  own : Int
  A : Option Addr
  len : Nat
  cap : Nat
def cells (t : Task) : List Value := [.int .i64 t.kind, .int .i64 t.prio, .int .i64 t.per, .int .i64 t.off, .int .i64 t.dl, .int .i64 t.own, .slice t.A t.len t.cap]
def In (x : Int) : Prop := -9223372036854775808 ≤ x ∧ x ≤ 9223372036854775807
structure Task.ok (t : Task) : Prop where
  kind : In t.kind
  prio : In t.prio
  per : In t.per
  off : In t.off
  dl : In t.dl
  own : In t.own
/-- the slice at A holds these tasks, one behind the other -/
def Tasks (w : World) (A : Option Addr) (ts : List Task) : Prop :=
  ∀ i t, ts[i]? = some t → t.ok ∧ ∃ b o, A = some ⟨b, o, none⟩ ∧ ∀ j v, (cells t)[j]? = some v → w.cell? ⟨b, o + i * 7 + j, none⟩ = some v
theorem Tasks.same {w w' : World} {A : Option Addr} {ts : List Task} (h : Tasks w A ts) (hs : Same w w') : Tasks w' A ts := by
  intro i r hr
  obtain ⟨h1, b, o, h2, h3⟩ := h i r hr
  exact ⟨h1, b, o, h2, fun j v hv => hs.cell (h3 j v hv)⟩
theorem Tasks.drewN {w : World} {A : Option Addr} {ts : List Task} (h : Tasks w A ts) (n : Nat) : Tasks (w.drewN n) A ts := h
instance : Inhabited Task := ⟨⟨0, 0, 0, 0, 0, 0, none, 0, 0⟩⟩
def at_ (ts : List Task) (k : Nat) : Task := ts[k]?.getD default
theorem at_get {ts : List Task} {k : Nat} (h : k < ts.length) : ts[k]? = some (at_ ts k) := by
  unfold at_
  rw [List.getElem?_eq_getElem h]
  rfl
theorem Tasks.at_ {w : World} {A : Option Addr} {ts : List Task} (h : Tasks w A ts) {k : Nat} (hk : k < ts.length) :
    (Tk.at_ ts k).ok ∧ ∃ b o, A = some ⟨b, o, none⟩ ∧ w.cell? ⟨b, o + k * 7, none⟩ = some (.int .i64 (Tk.at_ ts k).kind) ∧ w.cell? ⟨b, o + k * 7 + 1, none⟩ = some (.int .i64 (Tk.at_ ts k).prio) ∧ w.cell? ⟨b, o + k * 7 + 2, none⟩ = some (.int .i64 (Tk.at_ ts k).per) ∧ w.cell? ⟨b, o + k * 7 + 3, none⟩ = some (.int .i64 (Tk.at_ ts k).off) ∧ w.cell? ⟨b, o + k * 7 + 4, none⟩ = some (.int .i64 (Tk.at_ ts k).dl) ∧ w.cell? ⟨b, o + k * 7 + 5, none⟩ = some (.int .i64 (Tk.at_ ts k).own) ∧ w.cell? ⟨b, o + k * 7 + 6, none⟩ = some (.slice (Tk.at_ ts k).A (Tk.at_ ts k).len (Tk.at_ ts k).cap) := by
  obtain ⟨h1, b, o, h2, h3⟩ := h k _ (at_get hk)
  exact ⟨h1, b, o, h2, h3 0 _ rfl, h3 1 _ rfl, h3 2 _ rfl, h3 3 _ rfl, h3 4 _ rfl, h3 5 _ rfl, h3 6 _ rfl⟩

section
variable {H : Type} {enc : TypeId × Value → H} {w : World} {base : Nat} {sp : Nat → Bool} {held : Bool}
theorem task_of_cells {fuel : Nat} {cs : List Value} {x : DataW H × List MemPlace} (hl : cs.length = 7) (h : DataW.trod enc Tryd.prog w base sp held fuel 32 cs = some x) : ∃ t : Task, t.ok ∧ cs = cells t := by
  obtain ⟨z0, e0, w0⟩ := On.int_leaf (n := 6) (i := 0) (u := 3) h (by kernel_rfl) Tryd.underlying3
  obtain ⟨z1, e1, w1⟩ := On.int_leaf (n := 6) (i := 1) (u := 3) h (by kernel_rfl) Tryd.underlying3
  obtain ⟨z2, e2, w2⟩ := On.int_leaf (n := 6) (i := 2) (u := 3) h (by kernel_rfl) Tryd.underlying3
  obtain ⟨z3, e3, w3⟩ := On.int_leaf (n := 6) (i := 3) (u := 3) h (by kernel_rfl) Tryd.underlying3
  obtain ⟨z4, e4, w4⟩ := On.int_leaf (n := 6) (i := 4) (u := 3) h (by kernel_rfl) Tryd.underlying3
  obtain ⟨z5, e5, w5⟩ := On.int_leaf (n := 6) (i := 5) (u := 3) h (by kernel_rfl) Tryd.underlying3
  obtain ⟨A, len, cap, d, p, e6, w6⟩ := On.slice_leaf (n := 6) (i := 6) (u := 30) h (by kernel_rfl) Tryd.underlying30
  refine ⟨⟨z0, z1, z2, z3, z4, z5, A, len, cap⟩, ⟨i64_bd w0, i64_bd w1, i64_bd w2, i64_bd w3, i64_bd w4, i64_bd w5⟩, ?_⟩
  apply List.ext_getElem?
  intro i
  match i with
  | 0 => exact e0
  | 1 => exact e1
  | 2 => exact e2
  | 3 => exact e3
  | 4 => exact e4
  | 5 => exact e5
  | 6 => exact e6
  | n + 7 => rw [List.getElem?_eq_none (by omega), List.getElem?_eq_none (by simp [cells])]
theorem tasks_of {A : Option Addr} {len cap : Nat} {d : DataW H} {p : List MemPlace} (h : DataW.Trod enc Tryd.prog w base sp held 22 (.slice A len cap) d p) :
    ∃ ts, ts.length = len ∧ Tasks w A ts ∧ len ≤ maxLen := by
  have hkl : Tryd.prog.cellsOf 32 = 7 := by kernel_rfl
  obtain ⟨fuel, hf⟩ := h
  rcases DataW.trod_slice Tryd.underlying22 hf with ⟨hcs, _⟩ | ⟨a, l, c, elems, rest, m, _, hcs, _, _, hl, hm, hel, hall, _, _⟩
  · simp [Value.cells] at hcs
    obtain ⟨rfl, rfl, rfl⟩ := hcs
    exact ⟨[], rfl, fun i r hr => by simp at hr, Nat.zero_le _⟩
  · simp [Value.cells] at hcs
    obtain ⟨rfl, rfl, rfl⟩ := hcs
    rw [hkl] at hall
    have hspot : ∀ {i : Nat}, i < len → a.spot = none := by
      intro i hi
      have hai := hall 0 (by omega)
      rw [List.getElem?_eq_getElem (by omega)] at hai
      obtain ⟨cs, hcs, hx⟩ := Option.bind_eq_some_iff.1 hai
      obtain ⟨hcl, hcc⟩ := cells_get hcs
      obtain ⟨v0, hv0⟩ : ∃ v, cs[0]? = some v := ⟨_, List.getElem?_eq_getElem (by rw [hcl]; omega)⟩
      have h0 := hcc 0 v0 hv0
      rw [Nat.zero_mul] at h0
      exact spot_zero (by simpa [Addr.add] using h0)
    have each : ∀ i, i < len → ∃ t : Task, t.ok ∧ ∃ b o, some a = some (⟨b, o, none⟩ : Addr) ∧ ∀ j v, (cells t)[j]? = some v → w.cell? ⟨b, o + i * 7 + j, none⟩ = some v := by
      intro i hi
      have hai := hall i hi
      rw [List.getElem?_eq_getElem (by omega)] at hai
      obtain ⟨cs, hcs, hx⟩ := Option.bind_eq_some_iff.1 hai
      obtain ⟨hcl, hcc⟩ := cells_get hcs
      obtain ⟨t, ht1, rfl⟩ := task_of_cells hcl hx
      have hs := hspot hi
      obtain ⟨b, o, s⟩ := a
      cases hs
      refine ⟨t, ht1, b, o, rfl, fun j v hv => ?_⟩
      have := hcc j v hv
      rw [add_add _ _ _ rfl] at this
      exact this
    have hch : ∀ i : Nat, ∃ t : Task, i < len → (t.ok ∧ ∃ b o, some a = some (⟨b, o, none⟩ : Addr) ∧ ∀ j v, (cells t)[j]? = some v → w.cell? ⟨b, o + i * 7 + j, none⟩ = some v) := by
      intro i
      by_cases hi : i < len
      · obtain ⟨r, hr⟩ := each i hi
        exact ⟨r, fun _ => hr⟩
      · exact ⟨default, fun h => absurd h hi⟩
    refine ⟨(List.range len).map fun i => Classical.choose (hch i), by simp, fun i r hr => ?_, by omega⟩
    have hlt : i < len := by
      rcases Nat.lt_or_ge i len with hlt | hge
      · exact hlt
      · rw [List.getElem?_eq_none (by simpa using hge)] at hr
        cases hr
    rw [List.getElem?_map, List.getElem?_range hlt] at hr
    injection hr with hr
    rw [← hr]
    exact Classical.choose_spec (hch i) hlt
end

def flat (ts : List Task) : List Value := ts.flatMap cells
theorem flat_get : ∀ (p : List Task) (i : Nat) (x : Task), p[i]? = some x → ∀ j v, (cells x)[j]? = some v → (flat p)[i * 7 + j]? = some v
  | [], i, x, h, _, _, _ => by simp at h
  | y :: p, 0, x, h, j, v, hv => by
    simp at h
    subst h
    have hj : j < (cells y).length := by
      rcases Nat.lt_or_ge j (cells y).length with h | h
      · exact h
      · rw [List.getElem?_eq_none h] at hv; cases hv
    have e : flat (y :: p) = cells y ++ flat p := rfl
    rw [e, Nat.zero_mul, Nat.zero_add, List.getElem?_append_left hj]
    exact hv
  | y :: p, i + 1, x, h, j, v, hv => by
    have := flat_get p i x (by simpa using h) j v hv
    have e : flat (y :: p) = cells y ++ flat p := rfl
    have hl : (cells y).length = 7 := rfl
    rw [e, List.getElem?_append_right (by omega), hl, show (i + 1) * 7 + j - 7 = i * 7 + j by omega]
    exact this
theorem tasks_row {w : World} {A : Option Addr} {p : List Task} (h : Row w A (flat p)) (hok : ∀ x ∈ p, x.ok) : Tasks w A p := by
  intro i x hx
  refine ⟨hok x (List.mem_of_getElem? hx), ?_⟩
  obtain ⟨b, o, hA, _⟩ := h _ _ (flat_get p i x hx 0 _ rfl)
  refine ⟨b, o, hA, fun j v hv => ?_⟩
  obtain ⟨b', o', hA', hc⟩ := h _ _ (flat_get p i x hx j v hv)
  rw [hA] at hA'
  injection hA' with hA'
  injection hA' with e1 e2
  subst e1
  subst e2
  rw [Nat.add_assoc]
  exact hc

end Go.Proofs.YtaclphhbdfoaeaaDoor.Tk
end
