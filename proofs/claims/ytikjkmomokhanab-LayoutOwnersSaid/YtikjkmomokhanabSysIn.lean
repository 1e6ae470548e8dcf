/-

  A system (api.System) that came in.
-/
import Derived.Test.YtikjkmomokhanabLayOf
set_option linter.unusedVariables false
set_option linter.unusedSimpArgs false
namespace Go.Proofs.Ytikjkmomokhanab.Ly
open Go.ChangeShapes Go.WideShapes Go.ChangeAt Go.RowKit Ws

section
variable {H : Type} {enc : TypeId × Value → H} {w : World} {base : Nat} {sp : Nat → Bool} {held : Bool}
theorem obj_of_cells {fuel : Nat} {cs : List Value} {x : DataW H × List MemPlace} (hl : cs.length = 8) (h : DataW.trod enc Try.prog w base sp held fuel 52 cs = some x) : ∃ t : Objt, (0 ≤ t.sa ∧ t.sa < 4294967296) ∧ cs = ocells t := by
  obtain ⟨z0, e0, w0⟩ := On.int_leaf (n := 6) (i := 0) (u := 3) h (by kernel_rfl) Try.underlying3
  obtain ⟨z1, e1, w1⟩ := On.int_leaf (n := 6) (i := 1) (u := 3) h (by kernel_rfl) Try.underlying3
  obtain ⟨z2, e2, w2⟩ := On.int_leaf (n := 6) (i := 2) (u := 3) h (by kernel_rfl) Try.underlying3
  obtain ⟨z3, e3, w3⟩ := On.int_leaf (n := 6) (i := 3) (u := 3) h (by kernel_rfl) Try.underlying3
  obtain ⟨z4, e4, w4⟩ := On.int_leaf (n := 6) (i := 4) (u := 49) h (by kernel_rfl) Try.underlying49
  obtain ⟨A, il, ic, d, p, e5, w5⟩ := On.slice_leaf (n := 6) (i := 5) (u := 39) h (by kernel_rfl) Try.underlying39
  obtain ⟨z6, e6, w6⟩ := On.int_leaf (n := 6) (i := 6) (u := 3) h (by kernel_rfl) Try.underlying3
  obtain ⟨B, rl, rc, d', p', e7, w7⟩ := On.slice_leaf (n := 6) (i := 7) (u := 50) h (by kernel_rfl) Try.underlying50
  refine ⟨⟨z0, z1, z2, z3, z4, A, il, ic, z6, B, rl, rc⟩, Fl.u32_bd w4, ?_⟩
  apply List.ext_getElem?
  intro i
  match i with
  | 0 => exact e0
  | 1 => exact e1
  | 2 => exact e2
  | 3 => exact e3
  | 4 => exact e4
  | 5 => exact e5
  | 6 => exact e6
  | 7 => exact e7
  | n + 8 => rw [List.getElem?_eq_none (by omega), List.getElem?_eq_none (by simp [ocells])]
theorem objs_of {A : Option Addr} {len cap : Nat} {d : DataW H} {p : List MemPlace} (h : DataW.Trod enc Try.prog w base sp held 23 (.slice A len cap) d p) :
    ∃ ts, ts.length = len ∧ Objs w A ts ∧ len ≤ maxLen := by
  have hkl : Try.prog.cellsOf 52 = 8 := by kernel_rfl
  obtain ⟨fuel, hf⟩ := h
  rcases DataW.trod_slice Try.underlying23 hf with ⟨hcs, _⟩ | ⟨a, l, c, elems, rest, m, _, hcs, _, _, hl, hm, hel, hall, _, _⟩
  · simp [Value.cells] at hcs
    obtain ⟨rfl, rfl, rfl⟩ := hcs
    exact ⟨[], rfl, fun i r hr => by simp at hr, Nat.zero_le _⟩
  · simp [Value.cells] at hcs
    obtain ⟨rfl, rfl, rfl⟩ := hcs
    rw [hkl] at hall
    have hspot : ∀ {i : Nat}, i < len → a.spot = none := by
      intro i hi
      have hai := hall 0 (by omega)
      rw [List.getElem?_eq_getElem (by omega)] at hai
      obtain ⟨cs, hcs, hx⟩ := Option.bind_eq_some_iff.1 hai
      obtain ⟨hcl, hcc⟩ := Fl.cells_get hcs
      obtain ⟨v0, hv0⟩ : ∃ v, cs[0]? = some v := ⟨_, List.getElem?_eq_getElem (by rw [hcl]; omega)⟩
      have h0 := hcc 0 v0 hv0
      rw [Nat.zero_mul] at h0
      exact Fl.spot_zero (by simpa [Addr.add] using h0)
    have each : ∀ i, i < len → ∃ t : Objt, (0 ≤ t.sa ∧ t.sa < 4294967296) ∧ ∃ b o, some a = some (⟨b, o, none⟩ : Addr) ∧ ∀ j v, (ocells t)[j]? = some v → w.cell? ⟨b, o + i * 8 + j, none⟩ = some v := by
      intro i hi
      have hai := hall i hi
      rw [List.getElem?_eq_getElem (by omega)] at hai
      obtain ⟨cs, hcs, hx⟩ := Option.bind_eq_some_iff.1 hai
      obtain ⟨hcl, hcc⟩ := Fl.cells_get hcs
      obtain ⟨t, ht1, rfl⟩ := obj_of_cells hcl hx
      have hs := hspot hi
      obtain ⟨b, o, s⟩ := a
      cases hs
      refine ⟨t, ht1, b, o, rfl, fun j v hv => ?_⟩
      have := hcc j v hv
      rw [Fl.add_add _ _ _ rfl] at this
      exact this
    have hch : ∀ i : Nat, ∃ t : Objt, i < len → ((0 ≤ t.sa ∧ t.sa < 4294967296) ∧ ∃ b o, some a = some (⟨b, o, none⟩ : Addr) ∧ ∀ j v, (ocells t)[j]? = some v → w.cell? ⟨b, o + i * 8 + j, none⟩ = some v) := by
      intro i
      by_cases hi : i < len
      · obtain ⟨r, hr⟩ := each i hi
        exact ⟨r, fun _ => hr⟩
      · exact ⟨default, fun h => absurd h hi⟩
    refine ⟨(List.range len).map fun i => Classical.choose (hch i), by simp, fun i r hr => ?_, by omega⟩
    have hlt : i < len := by
      rcases Nat.lt_or_ge i len with hlt | hge
      · exact hlt
      · rw [List.getElem?_eq_none (by simpa using hge)] at hr
        cases hr
    rw [List.getElem?_map, List.getElem?_range hlt] at hr
    injection hr with hr
    rw [← hr]
    exact Classical.choose_spec (hch i) hlt
end
set_option maxRecDepth 100000 in
theorem system_of {H : Type} {enc : TypeId × Value → H} {w : World} {base : Nat} {sp : Nat → Bool} {held : Bool} {r : Reach} {b0 : Nat} {v : Value} {d : DataW H} {p : List MemPlace}
    (hv : Value.okWide Try.prog w r b0 25 v) (h : DataW.Trod enc Try.prog w base sp held 25 v d p) :
    ∃ (A B : Option Addr) (n c m d : Nat) (ts : List Tk.Task) (os : List Objt), v = .agg #[.slice A n c, .slice B m d] ∧ ts.length = n ∧ os.length = m ∧ Tk.Tasks w A ts ∧ Objs w B os ∧ n ≤ maxLen ∧ m ≤ maxLen := by
  obtain ⟨cs, rfl, hsz⟩ := okWide_struct Try.underlying25 hv
  obtain ⟨fuel, hf⟩ := h
  have hc : (Value.agg cs).cells.toList = cs.toList := by simp [Value.cells]
  rw [hc] at hf
  obtain ⟨l⟩ := cs
  have h3 : l.length = 2 := by
    have := hsz.trans (show Try.prog.cellsOf 25 = 2 by kernel_rfl)
    simpa using this
  match l, h3 with
  | [c0, c1], _ =>
    obtain ⟨A, n, c, d0, p0, e0, t0⟩ := On.slice_leaf hf (show On.leafAt Try.prog 6 25 0 = some 22 by kernel_rfl) Try.underlying22
    obtain ⟨B, m, c', d1, p1, e1, t1⟩ := On.slice_leaf hf (show On.leafAt Try.prog 6 25 1 = some 23 by kernel_rfl) Try.underlying23
    simp at e0 e1
    subst e0 e1
    obtain ⟨ts, l0, w0, m0⟩ := Tk.tasks_of t0
    obtain ⟨os, l1, w1, m1⟩ := objs_of t1
    exact ⟨A, B, n, c, m, c', ts, os, rfl, l0, l1, w0, w1, m0, m1⟩

end Go.Proofs.Ytikjkmomokhanab.Ly
