/-
  Tasks (api.Task): a slice of them that came in, and one by value; each has six whole numbers and a slice.
-/
import Derived.Test.YtaclphhbdfoaeaaRows
import Derived.Test.YtaclphhbdfoaeaaLayHas
import Derived.ProofKit
import Derived.OpenShut
set_option linter.unusedSimpArgs false
set_option linter.unusedVariables false
namespace Go.Proofs.Ytaclphhbdfoaeaa.Tk
open Go.ChangeShapes Go.WideShapes Go.ChangeAt Go.RowKit Ws Fl

/-- a task, as its cells tell it -/
structure Task where
  kind : Int
  prio : Int
  per : Int
  off : Int
  dl : Int
  own : Int
  A : Option Addr
  len : Nat
  cap : Nat
def cells (t : Task) : List Value := [.int .i64 t.kind, .int .i64 t.prio, .int .i64 t.per, .int .i64 t.off, .int .i64 t.dl, .int .i64 t.own, .slice t.A t.len t.cap]
def In (x : Int) : Prop := -9223372036854775808 ≤ x ∧ x ≤ 9223372036854775807
structure Task.ok (t : Task) : Prop where
  kind : In t.kind
  prio : In t.prio
  per : In t.per
  off : In t.off
  dl : In t.dl
  own : In t.own
/-- the slice at A holds these tasks, one behind the other -/
def Tasks (w : World) (A : Option Addr) (ts : List Task) : Prop :=
  ∀ i t, ts[i]? = some t → t.ok ∧ ∃ b o, A = some ⟨b, o, none⟩ ∧ ∀ j v, (cells t)[j]? = some v → w.cell? ⟨b, o + i * 7 + j, none⟩ = some v
theorem Tasks.same {w w' : World} {A : Option Addr} {ts : List Task} (h : Tasks w A ts) (hs : Same w w') : Tasks w' A ts := by
  intro i r hr
  obtain ⟨h1, b, o, h2, h3⟩ := h i r hr
  exact ⟨h1, b, o, h2, fun j v hv => hs.cell (h3 j v hv)⟩
theorem Tasks.drewN {w : World} {A : Option Addr} {ts : List Task} (h : Tasks w A ts) (n : Nat) : Tasks (w.drewN n) A ts := h
instance : Inhabited Task := ⟨⟨0, 0, 0, 0, 0, 0, none, 0, 0⟩⟩
def at_ (ts : List Task) (k : Nat) : Task := ts[k]?.getD default
theorem at_get {ts : List Task} {k : Nat} (h : k < ts.length) : ts[k]? = some (at_ ts k) := by
  unfold at_
  rw [List.getElem?_eq_getElem h]
  rfl
theorem Tasks.at_ {w : World} {A : Option Addr} {ts : List Task} (h : Tasks w A ts) {k : Nat} (hk : k < ts.length) :
    (Tk.at_ ts k).ok ∧ ∃ b o, A = some ⟨b, o, none⟩ ∧ w.cell? ⟨b, o + k * 7, none⟩ = some (.int .i64 (Tk.at_ ts k).kind) ∧ w.cell? ⟨b, o + k * 7 + 1, none⟩ = some (.int .i64 (Tk.at_ ts k).prio) ∧ w.cell? ⟨b, o + k * 7 + 2, none⟩ = some (.int .i64 (Tk.at_ ts k).per) ∧ w.cell? ⟨b, o + k * 7 + 3, none⟩ = some (.int .i64 (Tk.at_ ts k).off) ∧ w.cell? ⟨b, o + k * 7 + 4, none⟩ = some (.int .i64 (Tk.at_ ts k).dl) ∧ w.cell? ⟨b, o + k * 7 + 5, none⟩ = some (.int .i64 (Tk.at_ ts k).own) ∧ w.cell? ⟨b, o + k * 7 + 6, none⟩ = some (.slice (Tk.at_ ts k).A (Tk.at_ ts k).len (Tk.at_ ts k).cap) := by
  obtain ⟨h1, b, o, h2, h3⟩ := h k _ (at_get hk)
  exact ⟨h1, b, o, h2, h3 0 _ rfl, h3 1 _ rfl, h3 2 _ rfl, h3 3 _ rfl, h3 4 _ rfl, h3 5 _ rfl, h3 6 _ rfl⟩

section
variable {H : Type} {enc : TypeId × Value → H} {w : World} {base : Nat} {sp : Nat → Bool} {held : Bool}
theorem task_of_cells {fuel : Nat} {cs : List Value} {x : DataW H × List MemPlace} (hl : cs.length = 7) (h : DataW.trod enc Try.prog w base sp held fuel 51 cs = some x) : ∃ t : Task, t.ok ∧ cs = cells t := by
  obtain ⟨z0, e0, w0⟩ := On.int_leaf (n := 6) (i := 0) (u := 3) h (by kernel_rfl) Try.underlying3
  obtain ⟨z1, e1, w1⟩ := On.int_leaf (n := 6) (i := 1) (u := 3) h (by kernel_rfl) Try.underlying3
  obtain ⟨z2, e2, w2⟩ := On.int_leaf (n := 6) (i := 2) (u := 3) h (by kernel_rfl) Try.underlying3
  obtain ⟨z3, e3, w3⟩ := On.int_leaf (n := 6) (i := 3) (u := 3) h (by kernel_rfl) Try.underlying3
  obtain ⟨z4, e4, w4⟩ := On.int_leaf (n := 6) (i := 4) (u := 3) h (by kernel_rfl) Try.underlying3
  obtain ⟨z5, e5, w5⟩ := On.int_leaf (n := 6) (i := 5) (u := 3) h (by kernel_rfl) Try.underlying3
  obtain ⟨A, len, cap, d, p, e6, w6⟩ := On.slice_leaf (n := 6) (i := 6) (u := 49) h (by kernel_rfl) Try.underlying49
  refine ⟨⟨z0, z1, z2, z3, z4, z5, A, len, cap⟩, ⟨i64_bd w0, i64_bd w1, i64_bd w2, i64_bd w3, i64_bd w4, i64_bd w5⟩, ?_⟩
  apply List.ext_getElem?
  intro i
  match i with
  | 0 => exact e0
  | 1 => exact e1
  | 2 => exact e2
  | 3 => exact e3
  | 4 => exact e4
  | 5 => exact e5
  | 6 => exact e6
  | n + 7 => rw [List.getElem?_eq_none (by omega), List.getElem?_eq_none (by simp [cells])]
theorem tasks_of {A : Option Addr} {len cap : Nat} {d : DataW H} {p : List MemPlace} (h : DataW.Trod enc Try.prog w base sp held 22 (.slice A len cap) d p) :
    ∃ ts, ts.length = len ∧ Tasks w A ts ∧ len ≤ maxLen := by
  have hkl : Try.prog.cellsOf 51 = 7 := by kernel_rfl
  obtain ⟨fuel, hf⟩ := h
  rcases DataW.trod_slice Try.underlying22 hf with ⟨hcs, _⟩ | ⟨a, l, c, elems, rest, m, _, hcs, _, _, hl, hm, hel, hall, _, _⟩
  · simp [Value.cells] at hcs
    obtain ⟨rfl, rfl, rfl⟩ := hcs
    exact ⟨[], rfl, fun i r hr => by simp at hr, Nat.zero_le _⟩
  · simp [Value.cells] at hcs
    obtain ⟨rfl, rfl, rfl⟩ := hcs
    rw [hkl] at hall
    have hspot : ∀ {i : Nat}, i < len → a.spot = none := by
      intro i hi
      have hai := hall 0 (by omega)
      rw [List.getElem?_eq_getElem (by omega)] at hai
      obtain ⟨cs, hcs, hx⟩ := Option.bind_eq_some_iff.1 hai
      obtain ⟨hcl, hcc⟩ := cells_get hcs
      obtain ⟨v0, hv0⟩ : ∃ v, cs[0]? = some v := ⟨_, List.getElem?_eq_getElem (by rw [hcl]; omega)⟩
      have h0 := hcc 0 v0 hv0
      rw [Nat.zero_mul] at h0
      exact spot_zero (by simpa [Addr.add] using h0)
    have each : ∀ i, i < len → ∃ t : Task, t.ok ∧ ∃ b o, some a = some (⟨b, o, none⟩ : Addr) ∧ ∀ j v, (cells t)[j]? = some v → w.cell? ⟨b, o + i * 7 + j, none⟩ = some v := by
      intro i hi
      have hai := hall i hi
      rw [List.getElem?_eq_getElem (by omega)] at hai
      obtain ⟨cs, hcs, hx⟩ := Option.bind_eq_some_iff.1 hai
      obtain ⟨hcl, hcc⟩ := cells_get hcs
      obtain ⟨t, ht1, rfl⟩ := task_of_cells hcl hx
      have hs := hspot hi
      obtain ⟨b, o, s⟩ := a
      cases hs
      refine ⟨t, ht1, b, o, rfl, fun j v hv => ?_⟩
      have := hcc j v hv
      rw [add_add _ _ _ rfl] at this
      exact this
    have hch : ∀ i : Nat, ∃ t : Task, i < len → (t.ok ∧ ∃ b o, some a = some (⟨b, o, none⟩ : Addr) ∧ ∀ j v, (cells t)[j]? = some v → w.cell? ⟨b, o + i * 7 + j, none⟩ = some v) := by
      intro i
      by_cases hi : i < len
      · obtain ⟨r, hr⟩ := each i hi
        exact ⟨r, fun _ => hr⟩
      · exact ⟨default, fun h => absurd h hi⟩
    refine ⟨(List.range len).map fun i => Classical.choose (hch i), by simp, fun i r hr => ?_, by omega⟩
    have hlt : i < len := by
      rcases Nat.lt_or_ge i len with hlt | hge
      · exact hlt
      · rw [List.getElem?_eq_none (by simpa using hge)] at hr
        cases hr
    rw [List.getElem?_map, List.getElem?_range hlt] at hr
    injection hr with hr
    rw [← hr]
    exact Classical.choose_spec (hch i) hlt
end

def flat (ts : List Task) : List Value := ts.flatMap cells
theorem flat_get : ∀ (p : List Task) (i : Nat) (x : Task), p[i]? = some x → ∀ j v, (cells x)[j]? = some v → (flat p)[i * 7 + j]? = some v
  | [], i, x, h, _, _, _ => by simp at h
  | y :: p, 0, x, h, j, v, hv => by
    simp at h
    subst h
    have hj : j < (cells y).length := by
      rcases Nat.lt_or_ge j (cells y).length with h | h
      · exact h
      · rw [List.getElem?_eq_none h] at hv; cases hv
    have e : flat (y :: p) = cells y ++ flat p := rfl
    rw [e, Nat.zero_mul, Nat.zero_add, List.getElem?_append_left hj]
    exact hv
  | y :: p, i + 1, x, h, j, v, hv => by
    have := flat_get p i x (by simpa using h) j v hv
    have e : flat (y :: p) = cells y ++ flat p := rfl
    have hl : (cells y).length = 7 := rfl
    rw [e, List.getElem?_append_right (by omega), hl, show (i + 1) * 7 + j - 7 = i * 7 + j by omega]
    exact this
theorem tasks_row {w : World} {A : Option Addr} {p : List Task} (h : Row w A (flat p)) (hok : ∀ x ∈ p, x.ok) : Tasks w A p := by
  intro i x hx
  refine ⟨hok x (List.mem_of_getElem? hx), ?_⟩
  obtain ⟨b, o, hA, _⟩ := h _ _ (flat_get p i x hx 0 _ rfl)
  refine ⟨b, o, hA, fun j v hv => ?_⟩
  obtain ⟨b', o', hA', hc⟩ := h _ _ (flat_get p i x hx j v hv)
  rw [hA] at hA'
  injection hA' with hA'
  injection hA' with e1 e2
  subst e1
  subst e2
  rw [Nat.add_assoc]
  exact hc

end Go.Proofs.Ytaclphhbdfoaeaa.Tk
