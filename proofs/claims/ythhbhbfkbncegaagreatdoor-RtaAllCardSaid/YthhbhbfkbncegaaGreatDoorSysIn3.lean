/-

 A system that came in, with the bounds of all its numbers.
-/
import Derived.Test.YthhbhbfkbncegaaGreatDoorSysFew
set_option linter.unusedVariables false
set_option linter.unusedSimpArgs false
namespace Go.Proofs.YthhbhbfkbncegaaGreatDoor.Im
open Go.ChangeShapes Go.WideShapes Go.ChangeAt Go.RowKit Ws

structure TWg (t : PT) : Prop where
 kind : (Lit.int .i64 t.kind).wf = true
 prio : (Lit.int .i64 t.prio).wf = true
 per : (Lit.int .i64 t.per).wf = true
 off : (Lit.int .i64 t.off).wf = true
 dl : (Lit.int .i64 t.dl).wf = true
 own : (Lit.int .i64 t.own).wf = true
def OWg (o : PO) : Prop := ∀ y ∈ o.k :: o.wd :: o.sl :: o.cp :: o.ow :: o.rd, (Lit.int .i64 y).wf = true
structure SysWg (s : PS) : Prop where
 ts : ∀ p ∈ s.ts, TWg p
 os : ∀ p ∈ s.os, OWg p
section
variable {H : Type} {enc : TypeId × Value → H} {w : World} {base : Nat} {sp : Nat → Bool} {held : Bool}
theorem task_cells_g {fuel : Nat} {cs : List Value} {x : DataW H × List MemPlace} (hl : cs.length = 7) (h : DataW.trod enc Tryz.prog w base sp held fuel 47 cs = some x) : ∃ (t : PT) (X : Option Addr) (c : Nat), cs = tcells t X c ∧ Code w X t.code ∧ t.code.length ≤ maxLen ∧ TWg t := by
 obtain ⟨z0, e0, w0⟩ := On.int_leaf (n := 6) (i := 0) (u := 3) h (by kernel_rfl) Tryz.underlying3
 obtain ⟨z1, e1, w1⟩ := On.int_leaf (n := 6) (i := 1) (u := 3) h (by kernel_rfl) Tryz.underlying3
 obtain ⟨z2, e2, w2⟩ := On.int_leaf (n := 6) (i := 2) (u := 3) h (by kernel_rfl) Tryz.underlying3
 obtain ⟨z3, e3, w3⟩ := On.int_leaf (n := 6) (i := 3) (u := 3) h (by kernel_rfl) Tryz.underlying3
 obtain ⟨z4, e4, w4⟩ := On.int_leaf (n := 6) (i := 4) (u := 3) h (by kernel_rfl) Tryz.underlying3
 obtain ⟨z5, e5, w5⟩ := On.int_leaf (n := 6) (i := 5) (u := 3) h (by kernel_rfl) Tryz.underlying3
 obtain ⟨A, len, cap, d, p, e6, w6⟩ := On.slice_leaf (n := 6) (i := 6) (u := 45) h (by kernel_rfl) Tryz.underlying45
 obtain ⟨rows, hr, hrl, hml⟩ := Fl.rows_of Tryz.underlying45 (show Fl.kinds Tryz.prog 6 70 = some [.i64, .i64, .i64, .i64, .u32] by kernel_rfl) (by decide) w6
 obtain ⟨code, hcl, hcode⟩ := code_in hr
 refine ⟨⟨z0, z1, z2, z3, z4, z5, code⟩, A, cap, ?_, hcode, (by show code.length ≤ maxLen; omega), ⟨w0, w1, w2, w3, w4, w5⟩⟩
 have hlen : code.length = len := by omega
 apply List.ext_getElem?
 intro i
 match i with
 | 0 => exact e0
 | 1 => exact e1
 | 2 => exact e2
 | 3 => exact e3
 | 4 => exact e4
 | 5 => exact e5
 | 6 => rw [e6]; simp [tcells, hlen]
 | n + 7 => rw [List.getElem?_eq_none (by omega), List.getElem?_eq_none (by simp [tcells])]
theorem tasks_in_g {A : Option Addr} {len cap : Nat} {d : DataW H} {p : List MemPlace} (h : DataW.Trod enc Tryz.prog w base sp held 22 (.slice A len cap) d p) :
 ∃ ts : List PT, ts.length = len ∧ TsAt w A ts ∧ (∀ p ∈ ts, TWg p) ∧ len ≤ maxLen := by
 have hkl : Tryz.prog.cellsOf 47 = 7 := by kernel_rfl
 obtain ⟨fuel, hf⟩ := h
 rcases DataW.trod_slice Tryz.underlying22 hf with ⟨hcs, _⟩ | ⟨a, l, c, elems, rest, m, _, hcs, _, _, hl, hm, hel, hall, _, _⟩
 ·simp [Value.cells] at hcs
  obtain ⟨rfl, rfl, rfl⟩ := hcs
  exact ⟨[], rfl, fun i r hr => by simp at hr, fun r hr => by simp at hr, Nat.zero_le _⟩
 ·simp [Value.cells] at hcs
  obtain ⟨rfl, rfl, rfl⟩ := hcs
  rw [hkl] at hall
  have hspot : ∀ {i : Nat}, i < len → a.spot = none := by
   intro i hi
   have hai := hall 0 (by omega)
   rw [List.getElem?_eq_getElem (by omega)] at hai
   obtain ⟨cs, hcs, hx⟩ := Option.bind_eq_some_iff.1 hai
   obtain ⟨hcl, hcc⟩ := Fl.cells_get hcs
   obtain ⟨v0, hv0⟩ : ∃ v, cs[0]? = some v := ⟨_, List.getElem?_eq_getElem (by rw [hcl]; omega)⟩
   have h0 := hcc 0 v0 hv0
   rw [Nat.zero_mul] at h0
   exact Fl.spot_zero (by simpa [Addr.add] using h0)
  have hch : ∀ i : Nat, ∃ p : PT, i < len → ∃ b o, some a = some (⟨b, o, none⟩ : Addr) ∧ ∃ X c, (∀ j v, (tcells p X c)[j]? = some v → w.cell? ⟨b, o + i * 7 + j, none⟩ = some v) ∧ Code w X p.code ∧ p.code.length ≤ maxLen ∧ TWg p := by
   intro i
   by_cases hi : i < len
   ·have hai := hall i hi
    rw [List.getElem?_eq_getElem (by omega)] at hai
    obtain ⟨cs, hcs, hx⟩ := Option.bind_eq_some_iff.1 hai
    obtain ⟨hcl, hcc⟩ := Fl.cells_get hcs
    have hs := hspot hi
    obtain ⟨b, o, s⟩ := a
    cases hs
    obtain ⟨t, X, c, rfl, hcode⟩ := task_cells_g hcl hx
    refine ⟨t, fun _ => ⟨b, o, rfl, X, c, fun j v hv => ?_, hcode⟩⟩
    have := hcc j v hv
    rw [Fl.add_add _ _ _ rfl] at this
    exact this
   ·exact ⟨default, fun h => absurd h hi⟩
  refine ⟨(List.range len).map fun i => Classical.choose (hch i), by simp, fun i r hr => ?_, fun r hr => ?_, by omega⟩
  ·have hlt : i < len := by
    rcases Nat.lt_or_ge i len with hlt | hge
    ·exact hlt
    ·rw [List.getElem?_eq_none (by simpa using hge)] at hr
     cases hr
   rw [List.getElem?_map, List.getElem?_range hlt] at hr
   injection hr with hr
   rw [← hr]
   obtain ⟨b, o, h1, X, c, h2, h3, h4, _⟩ := Classical.choose_spec (hch i) hlt
   exact ⟨b, o, h1, X, c, h2, h3, h4⟩
  ·obtain ⟨i, hi, rfl⟩ := List.mem_map.1 hr
   obtain ⟨b, o, h1, X, c, h2, h3, h4, h5⟩ := Classical.choose_spec (hch i) (List.mem_range.1 hi)
   exact h5

theorem obj_cells_g {fuel : Nat} {cs : List Value} {x : DataW H × List MemPlace} (hl : cs.length = 8) (h : DataW.trod enc Tryz.prog w base sp held fuel 34 cs = some x) : ∃ (p : PO) (X : Option Addr) (c : Nat) (Y : Option Addr) (d : Nat), cs = ocells p X c Y d ∧ (0 ≤ p.sa ∧ p.sa < 4294967296) ∧ Row w X (p.ini.map (Value.int .u32)) ∧ (∀ y ∈ p.ini, 0 ≤ y ∧ y < 4294967296) ∧ Row w Y (p.rd.map (Value.int .i64)) ∧ p.ini.length ≤ maxLen ∧ p.rd.length ≤ maxLen ∧ OWg p := by
 obtain ⟨z0, e0, w0⟩ := On.int_leaf (n := 6) (i := 0) (u := 3) h (by kernel_rfl) Tryz.underlying3
 obtain ⟨z1, e1, w1⟩ := On.int_leaf (n := 6) (i := 1) (u := 3) h (by kernel_rfl) Tryz.underlying3
 obtain ⟨z2, e2, w2⟩ := On.int_leaf (n := 6) (i := 2) (u := 3) h (by kernel_rfl) Tryz.underlying3
 obtain ⟨z3, e3, w3⟩ := On.int_leaf (n := 6) (i := 3) (u := 3) h (by kernel_rfl) Tryz.underlying3
 obtain ⟨z4, e4, w4⟩ := On.int_leaf (n := 6) (i := 4) (u := 30) h (by kernel_rfl) Tryz.underlying30
 obtain ⟨A, il, ic, d5, p5, e5, t5⟩ := On.slice_leaf (n := 6) (i := 5) (u := 31) h (by kernel_rfl) Tryz.underlying31
 obtain ⟨z6, e6, w6⟩ := On.int_leaf (n := 6) (i := 6) (u := 3) h (by kernel_rfl) Tryz.underlying3
 obtain ⟨B, rl, rc, d7, p7, e7, t7⟩ := On.slice_leaf (n := 6) (i := 7) (u := 32) h (by kernel_rfl) Tryz.underlying32
 obtain ⟨ini, hil, hirow, hiwf, hi1, hi2⟩ := Fl.ints_of Tryz.underlying31 Tryz.underlying30 (by kernel_rfl) t5
 obtain ⟨rd, hrl, hrrow, hrwf, hr1, hr2⟩ := Fl.ints_of Tryz.underlying32 Tryz.underlying3 (by kernel_rfl) t7
 refine ⟨⟨z0, z1, z2, z3, z4, z6, rd, ini⟩, A, ic, B, rc, ?_, Fl.u32_bd w4, hirow, fun y hy => Fl.u32_bd (hiwf y hy), hrrow, Nat.le_trans (Nat.le_of_eq hil) (Nat.le_trans hi1 hi2), Nat.le_trans (Nat.le_of_eq hrl) (Nat.le_trans hr1 hr2), fun y hy => by
  rcases List.mem_cons.1 hy with hy | hy
  ·rw [hy]; exact w0
  rcases List.mem_cons.1 hy with hy | hy
  ·rw [hy]; exact w1
  rcases List.mem_cons.1 hy with hy | hy
  ·rw [hy]; exact w2
  rcases List.mem_cons.1 hy with hy | hy
  ·rw [hy]; exact w3
  rcases List.mem_cons.1 hy with hy | hy
  ·rw [hy]; exact w6
  ·exact hrwf y hy⟩
 apply List.ext_getElem?
 intro i
 match i with
 | 0 => exact e0
 | 1 => exact e1
 | 2 => exact e2
 | 3 => exact e3
 | 4 => exact e4
 | 5 => rw [e5]; simp [ocells, hil]
 | 6 => exact e6
 | 7 => rw [e7]; simp [ocells, hrl]
 | n + 8 => rw [List.getElem?_eq_none (by omega), List.getElem?_eq_none (by simp [ocells])]
theorem objs_in_g {A : Option Addr} {len cap : Nat} {d : DataW H} {p : List MemPlace} (h : DataW.Trod enc Tryz.prog w base sp held 23 (.slice A len cap) d p) :
 ∃ ts : List PO, ts.length = len ∧ OsAt w A ts ∧ (∀ p ∈ ts, OWg p) ∧ len ≤ maxLen := by
 have hkl : Tryz.prog.cellsOf 34 = 8 := by kernel_rfl
 obtain ⟨fuel, hf⟩ := h
 rcases DataW.trod_slice Tryz.underlying23 hf with ⟨hcs, _⟩ | ⟨a, l, c, elems, rest, m, _, hcs, _, _, hl, hm, hel, hall, _, _⟩
 ·simp [Value.cells] at hcs
  obtain ⟨rfl, rfl, rfl⟩ := hcs
  exact ⟨[], rfl, fun i r hr => by simp at hr, fun r hr => by simp at hr, Nat.zero_le _⟩
 ·simp [Value.cells] at hcs
  obtain ⟨rfl, rfl, rfl⟩ := hcs
  rw [hkl] at hall
  have hspot : ∀ {i : Nat}, i < len → a.spot = none := by
   intro i hi
   have hai := hall 0 (by omega)
   rw [List.getElem?_eq_getElem (by omega)] at hai
   obtain ⟨cs, hcs, hx⟩ := Option.bind_eq_some_iff.1 hai
   obtain ⟨hcl, hcc⟩ := Fl.cells_get hcs
   obtain ⟨v0, hv0⟩ : ∃ v, cs[0]? = some v := ⟨_, List.getElem?_eq_getElem (by rw [hcl]; omega)⟩
   have h0 := hcc 0 v0 hv0
   rw [Nat.zero_mul] at h0
   exact Fl.spot_zero (by simpa [Addr.add] using h0)
  have hch : ∀ i : Nat, ∃ p : PO, i < len → ∃ b o, some a = some (⟨b, o, none⟩ : Addr) ∧ ∃ X c Y d, (∀ j v, (ocells p X c Y d)[j]? = some v → w.cell? ⟨b, o + i * 8 + j, none⟩ = some v) ∧ (0 ≤ p.sa ∧ p.sa < 4294967296) ∧ Row w X (p.ini.map (Value.int .u32)) ∧ (∀ y ∈ p.ini, 0 ≤ y ∧ y < 4294967296) ∧ Row w Y (p.rd.map (Value.int .i64)) ∧ p.ini.length ≤ maxLen ∧ p.rd.length ≤ maxLen ∧ OWg p := by
   intro i
   by_cases hi : i < len
   ·have hai := hall i hi
    rw [List.getElem?_eq_getElem (by omega)] at hai
    obtain ⟨cs, hcs, hx⟩ := Option.bind_eq_some_iff.1 hai
    obtain ⟨hcl, hcc⟩ := Fl.cells_get hcs
    have hs := hspot hi
    obtain ⟨b, o, s⟩ := a
    cases hs
    obtain ⟨t, X, c, Y, d, rfl, h1, h2, h3, h4⟩ := obj_cells_g hcl hx
    refine ⟨t, fun _ => ⟨b, o, rfl, X, c, Y, d, fun j v hv => ?_, h1, h2, h3, h4⟩⟩
    have := hcc j v hv
    rw [Fl.add_add _ _ _ rfl] at this
    exact this
   ·exact ⟨default, fun h => absurd h hi⟩
  refine ⟨(List.range len).map fun i => Classical.choose (hch i), by simp, fun i r hr => ?_, fun r hr => ?_, by omega⟩
  ·have hlt : i < len := by
    rcases Nat.lt_or_ge i len with hlt | hge
    ·exact hlt
    ·rw [List.getElem?_eq_none (by simpa using hge)] at hr
     cases hr
   rw [List.getElem?_map, List.getElem?_range hlt] at hr
   injection hr with hr
   rw [← hr]
   obtain ⟨b, o, h1, X, c, Y, d, h2, h3, h4, h5, h6, h7, h8, _⟩ := Classical.choose_spec (hch i) hlt
   exact ⟨b, o, h1, X, c, Y, d, h2, h3, h4, h5, h6, h7, h8⟩
  ·obtain ⟨i, hi, rfl⟩ := List.mem_map.1 hr
   obtain ⟨b, o, h1, X, c, Y, d, h2, h3, h4, h5, h6, h7, h8, h9⟩ := Classical.choose_spec (hch i) (List.mem_range.1 hi)
   exact h9

end
set_option maxRecDepth 100000 in
theorem system_in_g {H : Type} {enc : TypeId × Value → H} {w : World} {base : Nat} {sp : Nat → Bool} {held : Bool} {r : Reach} {b0 : Nat} {v : Value} {d : DataW H} {p : List MemPlace}
 (hv : Value.okWide Tryz.prog w r b0 25 v) (h : DataW.Trod enc Tryz.prog w base sp held 25 v d p) :
 ∃ (A B : Option Addr) (n c m d : Nat) (s : PS), v = .agg #[.slice A n c, .slice B m d] ∧ SysAt w A n B m s ∧ SysWg s ∧ n ≤ maxLen ∧ m ≤ maxLen := by
 obtain ⟨cs, rfl, hsz⟩ := okWide_struct Tryz.underlying25 hv
 obtain ⟨fuel, hf⟩ := h
 have hc : (Value.agg cs).cells.toList = cs.toList := by simp [Value.cells]
 rw [hc] at hf
 obtain ⟨l⟩ := cs
 have h3 : l.length = 2 := by
  have := hsz.trans (show Tryz.prog.cellsOf 25 = 2 by kernel_rfl)
  simpa using this
 match l, h3 with
 | [c0, c1], _ =>
  obtain ⟨A, n, c, d0, p0, e0, t0⟩ := On.slice_leaf hf (show On.leafAt Tryz.prog 6 25 0 = some 22 by kernel_rfl) Tryz.underlying22
  obtain ⟨B, m, c', d1, p1, e1, t1⟩ := On.slice_leaf hf (show On.leafAt Tryz.prog 6 25 1 = some 23 by kernel_rfl) Tryz.underlying23
  simp at e0 e1
  subst e0 e1
  obtain ⟨ts, l0, w0, f0, m0⟩ := tasks_in_g t0
  obtain ⟨os, l1, w1, f1, m1⟩ := objs_in_g t1
  exact ⟨A, B, n, c, m, c', ⟨ts, os⟩, rfl, ⟨l0, l1, w0, w1⟩, ⟨f0, f1⟩, m0, m1⟩
theorem SysWg.sl {s : PS} (h : SysWg s) : ∀ o ∈ s.os, o.sl ≤ 9223372036854775807 := fun o ho => by
 have := h.os o ho o.sl (by simp)
 simp only [Lit.wf, IntKind.min, IntKind.max, IntKind.signed, IntKind.bits, Bool.and_eq_true] at this
 simp at this
 omega
end Go.Proofs.YthhbhbfkbncegaaGreatDoor.Im
