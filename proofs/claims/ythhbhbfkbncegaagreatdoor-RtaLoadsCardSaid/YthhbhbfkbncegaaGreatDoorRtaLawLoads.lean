/-

 The law RtaLoads.
-/
import Derived.Test.YthhbhbfkbncegaaGreatDoorSysFew
import Derived.Test.YthhbhbfkbncegaaGreatDoorRtaPure
import Derived.Test.YthhbhbfkbncegaaGreatDoorSplRjob
import Derived.Test.YthhbhbfkbncegaaGreatDoorRegionOff
import Derived.Test.YthhbhbfkbncegaaGreatDoorRtaLoad
import Derived.Test.YthhbhbfkbncegaaGreatDoorSplSpec
import Derived.Test.YthhbhbfkbncegaaGreatDoorRtaEx
section
set_option linter.unusedVariables false
set_option linter.unusedSimpArgs false
namespace Go.Proofs.YthhbhbfkbncegaaGreatDoor.Im
open Go.ChangeShapes Go.WideShapes Go.ChangeAt Go.RowKit Ws

structure TWg (t : PT) : Prop where
 kind : (Lit.int .i64 t.kind).wf = true
 prio : (Lit.int .i64 t.prio).wf = true
 per : (Lit.int .i64 t.per).wf = true
 off : (Lit.int .i64 t.off).wf = true
 dl : (Lit.int .i64 t.dl).wf = true
 own : (Lit.int .i64 t.own).wf = true
def OWg (o : PO) : Prop := ∀ y ∈ o.k :: o.wd :: o.sl :: o.cp :: o.ow :: o.rd, (Lit.int .i64 y).wf = true
structure SysWg (s : PS) : Prop where
 ts : ∀ p ∈ s.ts, TWg p
 os : ∀ p ∈ s.os, OWg p
section
variable {H : Type} {enc : TypeId × Value → H} {w : World} {base : Nat} {sp : Nat → Bool} {held : Bool}
theorem task_cells_g {fuel : Nat} {cs : List Value} {x : DataW H × List MemPlace} (hl : cs.length = 7) (h : DataW.trod enc Tryz.prog w base sp held fuel 47 cs = some x) : ∃ (t : PT) (X : Option Addr) (c : Nat), cs = tcells t X c ∧ Code w X t.code ∧ t.code.length ≤ maxLen ∧ TWg t := by
 obtain ⟨z0, e0, w0⟩ := On.int_leaf (n := 6) (i := 0) (u := 3) h (by kernel_rfl) Tryz.underlying3
 obtain ⟨z1, e1, w1⟩ := On.int_leaf (n := 6) (i := 1) (u := 3) h (by kernel_rfl) Tryz.underlying3
 obtain ⟨z2, e2, w2⟩ := On.int_leaf (n := 6) (i := 2) (u := 3) h (by kernel_rfl) Tryz.underlying3
 obtain ⟨z3, e3, w3⟩ := On.int_leaf (n := 6) (i := 3) (u := 3) h (by kernel_rfl) Tryz.underlying3
 obtain ⟨z4, e4, w4⟩ := On.int_leaf (n := 6) (i := 4) (u := 3) h (by kernel_rfl) Tryz.underlying3
 obtain ⟨z5, e5, w5⟩ := On.int_leaf (n := 6) (i := 5) (u := 3) h (by kernel_rfl) Tryz.underlying3
 obtain ⟨A, len, cap, d, p, e6, w6⟩ := On.slice_leaf (n := 6) (i := 6) (u := 45) h (by kernel_rfl) Tryz.underlying45
 obtain ⟨rows, hr, hrl, hml⟩ := Fl.rows_of Tryz.underlying45 (show Fl.kinds Tryz.prog 6 70 = some [.i64, .i64, .i64, .i64, .u32] by kernel_rfl) (by decide) w6
 obtain ⟨code, hcl, hcode⟩ := code_in hr
 refine ⟨⟨z0, z1, z2, z3, z4, z5, code⟩, A, cap, ?_, hcode, (by show code.length ≤ maxLen; omega), ⟨w0, w1, w2, w3, w4, w5⟩⟩
 have hlen : code.length = len := by omega
 apply List.ext_getElem?
 intro i
 match i with
 | 0 => exact e0
 | 1 => exact e1
 | 2 => exact e2
 | 3 => exact e3
 | 4 => exact e4
 | 5 => exact e5
 | 6 => rw [e6]; simp [tcells, hlen]
 | n + 7 => rw [List.getElem?_eq_none (by omega), List.getElem?_eq_none (by simp [tcells])]
theorem tasks_in_g {A : Option Addr} {len cap : Nat} {d : DataW H} {p : List MemPlace} (h : DataW.Trod enc Tryz.prog w base sp held 22 (.slice A len cap) d p) :
  ∃ ts : List PT, ts.length = len ∧ TsAt w A ts ∧ (∀ p ∈ ts, TWg p) ∧ len ≤ maxLen := by
 have hkl : Tryz.prog.cellsOf 47 = 7 := by kernel_rfl
 obtain ⟨fuel, hf⟩ := h
 rcases DataW.trod_slice Tryz.underlying22 hf with ⟨hcs, _⟩ | ⟨a, l, c, elems, rest, m, _, hcs, _, _, hl, hm, hel, hall, _, _⟩
 ·simp [Value.cells] at hcs
  obtain ⟨rfl, rfl, rfl⟩ := hcs
  exact ⟨[], rfl, fun i r hr => by simp at hr, fun r hr => by simp at hr, Nat.zero_le _⟩
 ·simp [Value.cells] at hcs
  obtain ⟨rfl, rfl, rfl⟩ := hcs
  rw [hkl] at hall
  have hspot : ∀ {i : Nat}, i < len → a.spot = none := by
   intro i hi
   have hai := hall 0 (by omega)
   rw [List.getElem?_eq_getElem (by omega)] at hai
   obtain ⟨cs, hcs, hx⟩ := Option.bind_eq_some_iff.1 hai
   obtain ⟨hcl, hcc⟩ := Fl.cells_get hcs
   obtain ⟨v0, hv0⟩ : ∃ v, cs[0]? = some v := ⟨_, List.getElem?_eq_getElem (by rw [hcl]; omega)⟩
   have h0 := hcc 0 v0 hv0
   rw [Nat.zero_mul] at h0
   exact Fl.spot_zero (by simpa [Addr.add] using h0)
  have hch : ∀ i : Nat, ∃ p : PT, i < len → ∃ b o, some a = some (⟨b, o, none⟩ : Addr) ∧ ∃ X c, (∀ j v, (tcells p X c)[j]? = some v → w.cell? ⟨b, o + i * 7 + j, none⟩ = some v) ∧ Code w X p.code ∧ p.code.length ≤ maxLen ∧ TWg p := by
   intro i
   by_cases hi : i < len
   ·have hai := hall i hi
    rw [List.getElem?_eq_getElem (by omega)] at hai
    obtain ⟨cs, hcs, hx⟩ := Option.bind_eq_some_iff.1 hai
    obtain ⟨hcl, hcc⟩ := Fl.cells_get hcs
    have hs := hspot hi
    obtain ⟨b, o, s⟩ := a
    cases hs
    obtain ⟨t, X, c, rfl, hcode⟩ := task_cells_g hcl hx
    refine ⟨t, fun _ => ⟨b, o, rfl, X, c, fun j v hv => ?_, hcode⟩⟩
    have := hcc j v hv
    rw [Fl.add_add _ _ _ rfl] at this
    exact this
   ·exact ⟨default, fun h => absurd h hi⟩
  refine ⟨(List.range len).map fun i => Classical.choose (hch i), by simp, fun i r hr => ?_, fun r hr => ?_, by omega⟩
  ·have hlt : i < len := by
    rcases Nat.lt_or_ge i len with hlt | hge
    ·exact hlt
    ·rw [List.getElem?_eq_none (by simpa using hge)] at hr
     cases hr
   rw [List.getElem?_map, List.getElem?_range hlt] at hr
   injection hr with hr
   rw [← hr]
   obtain ⟨b, o, h1, X, c, h2, h3, h4, _⟩ := Classical.choose_spec (hch i) hlt
   exact ⟨b, o, h1, X, c, h2, h3, h4⟩
  ·obtain ⟨i, hi, rfl⟩ := List.mem_map.1 hr
   obtain ⟨b, o, h1, X, c, h2, h3, h4, h5⟩ := Classical.choose_spec (hch i) (List.mem_range.1 hi)
   exact h5

theorem obj_cells_g {fuel : Nat} {cs : List Value} {x : DataW H × List MemPlace} (hl : cs.length = 8) (h : DataW.trod enc Tryz.prog w base sp held fuel 34 cs = some x) : ∃ (p : PO) (X : Option Addr) (c : Nat) (Y : Option Addr) (d : Nat), cs = ocells p X c Y d ∧ (0 ≤ p.sa ∧ p.sa < 4294967296) ∧ Row w X (p.ini.map (Value.int .u32)) ∧ (∀ y ∈ p.ini, 0 ≤ y ∧ y < 4294967296) ∧ Row w Y (p.rd.map (Value.int .i64)) ∧ p.ini.length ≤ maxLen ∧ p.rd.length ≤ maxLen ∧ OWg p := by
 obtain ⟨z0, e0, w0⟩ := On.int_leaf (n := 6) (i := 0) (u := 3) h (by kernel_rfl) Tryz.underlying3
 obtain ⟨z1, e1, w1⟩ := On.int_leaf (n := 6) (i := 1) (u := 3) h (by kernel_rfl) Tryz.underlying3
 obtain ⟨z2, e2, w2⟩ := On.int_leaf (n := 6) (i := 2) (u := 3) h (by kernel_rfl) Tryz.underlying3
 obtain ⟨z3, e3, w3⟩ := On.int_leaf (n := 6) (i := 3) (u := 3) h (by kernel_rfl) Tryz.underlying3
 obtain ⟨z4, e4, w4⟩ := On.int_leaf (n := 6) (i := 4) (u := 30) h (by kernel_rfl) Tryz.underlying30
 obtain ⟨A, il, ic, d5, p5, e5, t5⟩ := On.slice_leaf (n := 6) (i := 5) (u := 31) h (by kernel_rfl) Tryz.underlying31
 obtain ⟨z6, e6, w6⟩ := On.int_leaf (n := 6) (i := 6) (u := 3) h (by kernel_rfl) Tryz.underlying3
 obtain ⟨B, rl, rc, d7, p7, e7, t7⟩ := On.slice_leaf (n := 6) (i := 7) (u := 32) h (by kernel_rfl) Tryz.underlying32
 obtain ⟨ini, hil, hirow, hiwf, hi1, hi2⟩ := Fl.ints_of Tryz.underlying31 Tryz.underlying30 (by kernel_rfl) t5
 obtain ⟨rd, hrl, hrrow, hrwf, hr1, hr2⟩ := Fl.ints_of Tryz.underlying32 Tryz.underlying3 (by kernel_rfl) t7
 refine ⟨⟨z0, z1, z2, z3, z4, z6, rd, ini⟩, A, ic, B, rc, ?_, Fl.u32_bd w4, hirow, fun y hy => Fl.u32_bd (hiwf y hy), hrrow, Nat.le_trans (Nat.le_of_eq hil) (Nat.le_trans hi1 hi2), Nat.le_trans (Nat.le_of_eq hrl) (Nat.le_trans hr1 hr2), fun y hy => by
  rcases List.mem_cons.1 hy with hy | hy
  ·rw [hy]; exact w0
  rcases List.mem_cons.1 hy with hy | hy
  ·rw [hy]; exact w1
  rcases List.mem_cons.1 hy with hy | hy
  ·rw [hy]; exact w2
  rcases List.mem_cons.1 hy with hy | hy
  ·rw [hy]; exact w3
  rcases List.mem_cons.1 hy with hy | hy
  ·rw [hy]; exact w6
  ·exact hrwf y hy⟩
 apply List.ext_getElem?
 intro i
 match i with
 | 0 => exact e0
 | 1 => exact e1
 | 2 => exact e2
 | 3 => exact e3
 | 4 => exact e4
 | 5 => rw [e5]; simp [ocells, hil]
 | 6 => exact e6
 | 7 => rw [e7]; simp [ocells, hrl]
 | n + 8 => rw [List.getElem?_eq_none (by omega), List.getElem?_eq_none (by simp [ocells])]
theorem objs_in_g {A : Option Addr} {len cap : Nat} {d : DataW H} {p : List MemPlace} (h : DataW.Trod enc Tryz.prog w base sp held 23 (.slice A len cap) d p) :
  ∃ ts : List PO, ts.length = len ∧ OsAt w A ts ∧ (∀ p ∈ ts, OWg p) ∧ len ≤ maxLen := by
 have hkl : Tryz.prog.cellsOf 34 = 8 := by kernel_rfl
 obtain ⟨fuel, hf⟩ := h
 rcases DataW.trod_slice Tryz.underlying23 hf with ⟨hcs, _⟩ | ⟨a, l, c, elems, rest, m, _, hcs, _, _, hl, hm, hel, hall, _, _⟩
 ·simp [Value.cells] at hcs
  obtain ⟨rfl, rfl, rfl⟩ := hcs
  exact ⟨[], rfl, fun i r hr => by simp at hr, fun r hr => by simp at hr, Nat.zero_le _⟩
 ·simp [Value.cells] at hcs
  obtain ⟨rfl, rfl, rfl⟩ := hcs
  rw [hkl] at hall
  have hspot : ∀ {i : Nat}, i < len → a.spot = none := by
   intro i hi
   have hai := hall 0 (by omega)
   rw [List.getElem?_eq_getElem (by omega)] at hai
   obtain ⟨cs, hcs, hx⟩ := Option.bind_eq_some_iff.1 hai
   obtain ⟨hcl, hcc⟩ := Fl.cells_get hcs
   obtain ⟨v0, hv0⟩ : ∃ v, cs[0]? = some v := ⟨_, List.getElem?_eq_getElem (by rw [hcl]; omega)⟩
   have h0 := hcc 0 v0 hv0
   rw [Nat.zero_mul] at h0
   exact Fl.spot_zero (by simpa [Addr.add] using h0)
  have hch : ∀ i : Nat, ∃ p : PO, i < len → ∃ b o, some a = some (⟨b, o, none⟩ : Addr) ∧ ∃ X c Y d, (∀ j v, (ocells p X c Y d)[j]? = some v → w.cell? ⟨b, o + i * 8 + j, none⟩ = some v) ∧ (0 ≤ p.sa ∧ p.sa < 4294967296) ∧ Row w X (p.ini.map (Value.int .u32)) ∧ (∀ y ∈ p.ini, 0 ≤ y ∧ y < 4294967296) ∧ Row w Y (p.rd.map (Value.int .i64)) ∧ p.ini.length ≤ maxLen ∧ p.rd.length ≤ maxLen ∧ OWg p := by
   intro i
   by_cases hi : i < len
   ·have hai := hall i hi
    rw [List.getElem?_eq_getElem (by omega)] at hai
    obtain ⟨cs, hcs, hx⟩ := Option.bind_eq_some_iff.1 hai
    obtain ⟨hcl, hcc⟩ := Fl.cells_get hcs
    have hs := hspot hi
    obtain ⟨b, o, s⟩ := a
    cases hs
    obtain ⟨t, X, c, Y, d, rfl, h1, h2, h3, h4⟩ := obj_cells_g hcl hx
    refine ⟨t, fun _ => ⟨b, o, rfl, X, c, Y, d, fun j v hv => ?_, h1, h2, h3, h4⟩⟩
    have := hcc j v hv
    rw [Fl.add_add _ _ _ rfl] at this
    exact this
   ·exact ⟨default, fun h => absurd h hi⟩
  refine ⟨(List.range len).map fun i => Classical.choose (hch i), by simp, fun i r hr => ?_, fun r hr => ?_, by omega⟩
  ·have hlt : i < len := by
    rcases Nat.lt_or_ge i len with hlt | hge
    ·exact hlt
    ·rw [List.getElem?_eq_none (by simpa using hge)] at hr
     cases hr
   rw [List.getElem?_map, List.getElem?_range hlt] at hr
   injection hr with hr
   rw [← hr]
   obtain ⟨b, o, h1, X, c, Y, d, h2, h3, h4, h5, h6, h7, h8, _⟩ := Classical.choose_spec (hch i) hlt
   exact ⟨b, o, h1, X, c, Y, d, h2, h3, h4, h5, h6, h7, h8⟩
  ·obtain ⟨i, hi, rfl⟩ := List.mem_map.1 hr
   obtain ⟨b, o, h1, X, c, Y, d, h2, h3, h4, h5, h6, h7, h8, h9⟩ := Classical.choose_spec (hch i) (List.mem_range.1 hi)
   exact h9

end
set_option maxRecDepth 100000 in
theorem system_in_g {H : Type} {enc : TypeId × Value → H} {w : World} {base : Nat} {sp : Nat → Bool} {held : Bool} {r : Reach} {b0 : Nat} {v : Value} {d : DataW H} {p : List MemPlace}
  (hv : Value.okWide Tryz.prog w r b0 25 v) (h : DataW.Trod enc Tryz.prog w base sp held 25 v d p) :
  ∃ (A B : Option Addr) (n c m d : Nat) (s : PS), v = .agg #[.slice A n c, .slice B m d] ∧ SysAt w A n B m s ∧ SysWg s ∧ n ≤ maxLen ∧ m ≤ maxLen := by
 obtain ⟨cs, rfl, hsz⟩ := okWide_struct Tryz.underlying25 hv
 obtain ⟨fuel, hf⟩ := h
 have hc : (Value.agg cs).cells.toList = cs.toList := by simp [Value.cells]
 rw [hc] at hf
 obtain ⟨l⟩ := cs
 have h3 : l.length = 2 := by
  have := hsz.trans (show Tryz.prog.cellsOf 25 = 2 by kernel_rfl)
  simpa using this
 match l, h3 with
 | [c0, c1], _ =>
  obtain ⟨A, n, c, d0, p0, e0, t0⟩ := On.slice_leaf hf (show On.leafAt Tryz.prog 6 25 0 = some 22 by kernel_rfl) Tryz.underlying22
  obtain ⟨B, m, c', d1, p1, e1, t1⟩ := On.slice_leaf hf (show On.leafAt Tryz.prog 6 25 1 = some 23 by kernel_rfl) Tryz.underlying23
  simp at e0 e1
  subst e0 e1
  obtain ⟨ts, l0, w0, f0, m0⟩ := tasks_in_g t0
  obtain ⟨os, l1, w1, f1, m1⟩ := objs_in_g t1
  exact ⟨A, B, n, c, m, c', ⟨ts, os⟩, rfl, ⟨l0, l1, w0, w1⟩, ⟨f0, f1⟩, m0, m1⟩
theorem SysWg.sl {s : PS} (h : SysWg s) : ∀ o ∈ s.os, o.sl ≤ 9223372036854775807 := fun o ho => by
 have := h.os o ho o.sl (by simp)
 simp only [Lit.wf, IntKind.min, IntKind.max, IntKind.signed, IntKind.bits, Bool.and_eq_true] at this
 simp at this
 omega
theorem int_bd {x : Int} (h : (Lit.int .i64 x).wf = true) : -9223372036854775808 ≤ x ∧ x ≤ 9223372036854775807 := by
 simp only [Lit.wf, IntKind.min, IntKind.max, IntKind.signed, IntKind.bits, Bool.and_eq_true] at h
 simp at h
 omega
end Go.Proofs.YthhbhbfkbncegaaGreatDoor.Im
end
section
section
set_option linter.unusedVariables false
set_option linter.unusedSimpArgs false
namespace Go.Proofs.YthhbhbfkbncegaaGreatDoor.Rt
open Go.ChangeShapes Go.WideShapes Go.ChangeAt Go.RowKit Ws
open Im (PT PO PS TsAt OsAt SysAt tcells ocells)
open Go.Proofs.YthhbhbfkbncegaaGreatDoor.Wd (ret_bool ret_int addv mulv ceilv)
open Sl (jobI)
set_option maxRecDepth 100000 in
set_option maxHeartbeats 4000000 in
theorem rLoad_any (A B C : Option Addr) (n c m d cl cc : Nat) (s : PS) (i r : Int) (br : -9223372036854775808 ≤ r ∧ r ≤ 9223372036854775807) (hsl : ∀ o ∈ s.os, o.sl ≤ 9223372036854775807) (costs : List Int) (w : World) (hs : SysAt w A n B m s) (hnm : n ≤ 1000 ∧ m ≤ maxLen) (hf : ∀ p ∈ s.ts, p.code.length ≤ 200) (ho : Sy.OFew s.os 5000) (hcl : costs.length = cl) (hr : Row w C (costs.map (Value.int .i64))) :
  Calls Tryz.prog 24 #[.agg #[.slice A n c, .slice B m d], .int .i64 i, .int .i64 r, .slice C cl cc] w fun e w' => e = .returned (.int .i64 (loadI s i costs r)) ∧ Same w w' := by
 have hnm' : n ≤ maxLen ∧ m ≤ maxLen := ⟨by unfold maxLen; omega, hnm.2⟩
 obtain ⟨w0, hw0⟩ : ∃ w0, w0 = w.alloc (.cells #[.slice A n c, .slice B m d] 25) := ⟨_, rfl⟩
 obtain ⟨g, hg⟩ : ∃ g, g = w.heap.size := ⟨_, rfl⟩
 have s0 : Same w w0 := hw0 ▸ (Same.refl w).alloc _
 have b0 : Blk w0 g 25 #[.slice A n c, .slice B m d] := by rw [hw0, hg]; exact Blk.new w _ _
 have HE0 := Lib.hid hw0
 have HG := Lib.hid hg
 have S0 := Lib.hid s0
 obtain ⟨c0, c1⟩ := (⟨b0.cell 0, b0.cell 1⟩ : _ ∧ _)
 simp only [Ws.q_] at c0 c1
 have B0 := Lib.hid b0
 rcases (show i < 0 ∨ (¬ i < 0 ∧ (n : Int) ≤ i) ∨ (¬ i < 0 ∧ ¬ (n : Int) ≤ i) by omega) with h0 | ⟨h1, h2⟩ | ⟨h1, h2⟩
 ·have d0 : decide (i < 0) = true := decide_eq_true h0
  have HV := Lib.hid (show loadI s i costs r = 0 from loadT_away (by omega) costs r _)
  clear h0 hw0 hg s0 b0 hs hf ho hcl hr B0
  go_enter Tryz.func24, Tryz.ntmps24
  go_upto_region 1 with fail
  rw [← HE0.out, ← HG.out]
  clear HE0 HG
  go_wp2_with fail
  go_ret
  exact ⟨ret_int HV.out.symm, S0.out⟩
 ·have d0 : decide (i < 0) = false := decide_eq_false h1
  have d1 : decide ((n : Int) ≤ i) = true := decide_eq_true h2
  have HV := Lib.hid (show loadI s i costs r = 0 from loadT_away (by have := hs.hn; omega) costs r _)
  clear h1 h2 hw0 hg s0 b0 hs hf ho hcl hr B0
  go_enter Tryz.func24, Tryz.ntmps24
  go_upto_region 1 with fail
  rw [← HE0.out, ← HG.out]
  clear HE0 HG
  go_wp2_with fail
  go_ret
  exact ⟨ret_int HV.out.symm, S0.out⟩
 ·have d0 : decide (i < 0) = false := decide_eq_false h1
  have d1 : decide ((n : Int) ≤ i) = false := decide_eq_false h2
  have hn5 : (n : Int) ≤ 5000 := by omega
  have RJ := Lib.hid (fun W (h : Same w0 W) => Sl.rjob37 A B n c m d s i r br hsl W (hs.same (s0.trans h)) hnm' hf ho)
  have RA := Lib.hid (fun (j : Nat) W (h : Same w0 W) => Ah.rahead_gen A n c s.ts j i W hs.hn (hs.ht.same (s0.trans h)))
  have HS := Lib.hid (hs.same s0)
  have HCL := Lib.hid hcl
  have HR := Lib.hid (hr.same s0)
  clear h1 h2 hw0 hg s0 b0 hs hf ho hcl hr
  go_enter Tryz.func24, Tryz.ntmps24
  go_upto_region 1 with fail
  rw [← HE0.out, ← HG.out]
  clear HE0 HG
  go_wp2_with fail
  refine (RJ.out _ (Same.refl _)).mono ?_
  rintro e w1 ⟨rfl, s1⟩
  have HS1 := Lib.hid s1
  have c0 := s1.cell c0
  have c1 := s1.cell c1
  clear s1 RJ
  go_wp2_with fail
  go_loopg [28, 9] n (fun gk iv nv wx => ∃ j : Nat, j + gk = n ∧ iv = .int .i64 (j : Int) ∧ nv = .int .i64 (loadT s i costs r j) ∧ Same w0 wx)
  case atStart => exact ⟨0, by omega, rfl, rfl, HS1.out⟩
  case round =>
   obtain ⟨j, hk, rfl, rfl, sx⟩ := hrel
   have HSX := Lib.hid sx
   clear c0 c1
   cases gk with
   | zero =>
    obtain rfl : j = n := by omega
    have hge : ¬ (j : Int) < (j : Int) := by omega
    have HV := Lib.hid (show loadI s i costs r = loadT s i costs r j by unfold loadI; rw [HS.out.hn])
    clear sx
    go_wp2_with fail
    go_ret
    exact ⟨ret_int HV.out.symm, S0.out.trans HSX.out⟩
   | succ GK =>
    have hlt : (j : Int) < n := by omega
    have hj0 : (0 : Int) ≤ j := by omega
    have HKK := Lib.hid hk
    obtain ⟨p, hp⟩ : ∃ p, s.ts[j]? = some p := ⟨s.ts[j]'(by have := HS.out.hn; omega), List.getElem?_eq_getElem _⟩
    have HPT := Lib.hid (show (Ah.pt s.ts j).per = p.per by unfold Ah.pt; rw [List.getD_eq_getElem?_getD, hp]; rfl)
    have HY := Lib.hid (fun (h : Ah.aheadI s.ts j i = true) => load_yes (costs := costs) (r := r) h)
    have HN := Lib.hid (fun (h : Ah.aheadI s.ts j i = false) => load_no (costs := costs) (r := r) h)
    have HFR := Lib.hid (fun (h : costs.length ≤ j) => load_far (i := i) (r := r) HS.out.ht h)
    rw [HPT.out] at HY
    have C01 := B0.out.same sx
    obtain ⟨c0, c1⟩ := (⟨C01.cell 0, C01.cell 1⟩ : _ ∧ _)
    simp only [Ws.q_] at c0 c1
    obtain ⟨bA, oA, rfl, X, cX, t0, t1, t2, t3, t4, t5, t6, _⟩ := (HS.out.ht.same sx).at_ hp
    have HQ4 := Lib.hid (Blk.new wr 47 #[.int .i64 p.kind, .int .i64 p.prio, .int .i64 p.per, .int .i64 p.off, .int .i64 p.dl, .int .i64 p.own, .slice X p.code.length cX])
    have HX4 := Lib.hid ((Same.refl wr).alloc (.cells #[.int .i64 p.kind, .int .i64 p.prio, .int .i64 p.per, .int .i64 p.off, .int .i64 p.dl, .int .i64 p.own, .slice X p.code.length cX] 47))
    clear C01 hk hp sx
    generalize loadT s i costs r j = v at *
    go_upto_region 7 with fail
    generalize wr.alloc (.cells #[.int .i64 p.kind, .int .i64 p.prio, .int .i64 p.per, .int .i64 p.off, .int .i64 p.dl, .int .i64 p.own, .slice X p.code.length cX] 47) = w4 at *
    generalize wr.heap.size = q4 at *
    have c0 := HX4.out.cell c0
    have c1 := HX4.out.cell c1
    clear t0 t1 t2 t3 t4 t5 t6
    have HS4 := Lib.hid (HSX.out.trans HX4.out)
    have RX := Lib.hid (RA.out j w4 HS4.out)
    cases hab : Ah.aheadI s.ts j i with
    | false =>
     rw [hab] at RX
     have HV := Lib.hid (HN.out hab)
     clear hab HY HN HFR RA
     go_wp2_with fail
     refine RX.out.mono ?_
     rintro e w5 ⟨rfl, s5⟩
     have HS5 := Lib.hid (HS4.out.trans s5)
     clear s5 RX c0 c1
     go_wp2_with fail
     go_roundg GK
     case rel => exact ⟨j + 1, by have := HKK.out; omega, by go_num, by rw [HV.out], HS5.out⟩
     case measure => omega
    | true =>
     rw [hab] at RX
     have HV := Lib.hid (HY.out hab)
     clear hab HY HN RA
     by_cases hjc : (j : Int) < cl
     ·obtain ⟨cv, hcv⟩ : ∃ cv, costs[j]? = some cv := ⟨costs[j]'(by have := HCL.out; omega), List.getElem?_eq_getElem _⟩
      have HV := Lib.hid (show loadT s i costs r (j + 1) = addv v (mulv (ceilv r p.per) cv) by rw [HV.out, List.getD_eq_getElem?_getD, hcv, Sl.mulv_comm]; rfl)
      have hrow := HR.out.same HS4.out
      obtain ⟨bC, oC, rfl, y0⟩ := hrow j (.int .i64 cv) (by rw [List.getElem?_map, hcv]; rfl)
      clear hcv hrow HFR
      go_wp2_with fail
      refine RX.out.mono ?_
      rintro e w5 ⟨rfl, s5⟩
      have HS5 := Lib.hid (HS4.out.trans s5)
      have HQ5 := Lib.hid (HQ4.out.same s5)
      have HCC := Lib.hid (s5.cell y0)
      clear s5 RX c0 c1 y0
      go_wp2_with fail
      refine wp_region_held_drew (S := fun w' => Same w5 w') (by kernel_rfl) ?_ (fun hHeld => ?_)
      ·exact (Same.refl w5).drew
      refine Ro.tn 0 ?_ ?_ ?_
      rotate_left
      ·intro wS hSw; (try dsimp only at hSw); go_simp; try with_reducible rfl
      try simp only [Ro.p]
      refine Ro.tn 1 ?_ ?_ ?_
      rotate_left
      ·intro wS hSw; (try dsimp only at hSw); go_simp; try with_reducible rfl
      try simp only [Ro.p]
      refine Ro.tn 2 ?_ ?_ ?_
      rotate_left
      ·intro wS hSw; (try dsimp only at hSw); go_simp; try with_reducible rfl
      try simp only [Ro.p]
      refine Ro.tn 3 ?_ ?_ ?_
      rotate_left
      ·intro wS hSw; (try dsimp only at hSw); have v2 := (HQ5.out.same hSw).cell 2; simp only [Ws.q_] at v2; go_simp; try with_reducible rfl
      try simp only [Ro.p]
      refine Ro.tn 5 ?_ ?_ ?_
      rotate_left
      ·intro wS hSw; (try dsimp only at hSw); go_simp; try with_reducible rfl
      try simp only [Ro.p]
      refine Ro.tn 6 ?_ ?_ ?_
      rotate_left
      ·intro wS hSw; (try dsimp only at hSw); go_simp; try with_reducible rfl
      try simp only [Ro.p]
      refine Ro.tn 7 ?_ ?_ ?_
      rotate_left
      ·intro wS hSw; (try dsimp only at hSw); go_simp; try with_reducible rfl
      try simp only [Ro.p]
      refine Ro.tn 8 ?_ ?_ ?_
      rotate_left
      ·intro wS hSw; (try dsimp only at hSw); have v3 := hSw.cell HCC.out; go_simp; try with_reducible rfl
      try simp only [Ro.p]
      refine Ro.one_on (i := 4) rfl (by kernel_rfl) (by rfl) (fun K hK => ?_)
      go_simp
      go_at_call 39
      refine (Wd.rceil _ _ br _).mono ?_
      rintro e wN ⟨rfl, rfl⟩
      refine hK.out _ _ ?_ (fun hNew => ?_)
      ·exact hHeld
      clear hK K hHeld; have hHeld := hNew; clear hNew
      try simp only [Ro.p]
      refine Ro.one_on (i := 9) rfl (by kernel_rfl) (by rfl) (fun K hK => ?_)
      go_simp
      go_at_call 38
      refine (Wd.rmul _ _ _).mono ?_
      rintro e wN ⟨rfl, rfl⟩
      refine hK.out _ _ ?_ (fun hNew => ?_)
      ·exact hHeld
      clear hK K hHeld; have hHeld := hNew; clear hNew
      try simp only [Ro.p]
      refine Ro.one_on (i := 10) rfl (by kernel_rfl) (by rfl) (fun K hK => ?_)
      go_simp
      go_at_call 44
      refine (Wd.radd _ _ _).mono ?_
      rintro e wN ⟨rfl, rfl⟩
      refine hK.out _ _ ?_ (fun hNew => ?_)
      ·exact hHeld
      clear hK K hHeld; have hHeld := hNew; clear hNew
      try simp only [Ro.p]
      refine Ro.tn 11 ?_ ?_ ?_
      rotate_left
      ·intro wS hSw; (try dsimp only at hSw); go_simp; try with_reducible rfl
      try simp only [Ro.p]
      refine wpAnyH_done (by kernel_rfl) ?_ _
      go_wp2_with fail
      go_roundg GK
      case rel => exact ⟨j + 1, by have := HKK.out; omega, by go_num, by rw [HV.out], HS5.out.trans hHeld⟩
      case measure => omega
     ·have HV := Lib.hid (show loadT s i costs r (j + 1) = v by exact HFR.out (by have := HCL.out; omega))
      clear HFR
      go_wp2_with fail
      refine RX.out.mono ?_
      rintro e w5 ⟨rfl, s5⟩
      have HS5 := Lib.hid (HS4.out.trans s5)
      clear s5 RX c0 c1
      go_wp2_with fail
      go_roundg GK
      case rel => exact ⟨j + 1, by have := HKK.out; omega, by go_num, by rw [HV.out], HS5.out⟩
      case measure => omega
end Go.Proofs.YthhbhbfkbncegaaGreatDoor.Rt
end
section
section
set_option linter.unusedVariables false
set_option linter.unusedSimpArgs false
namespace Go.Proofs.YthhbhbfkbncegaaGreatDoor.Rt
open Go.ChangeShapes Go.WideShapes Go.ChangeAt Go.RowKit Ws
open Im (PT PO PS TsAt OsAt SysAt tcells ocells)
open Go.Proofs.YthhbhbfkbncegaaGreatDoor.Wd (ret_bool ret_int addv mulv ceilv)
open Sl (jobC jobR jobI rcells)
set_option maxRecDepth 100000 in
set_option maxHeartbeats 4000000 in
theorem Load_any (A B C : Option Addr) (n c m d cl cc : Nat) (s : PS) (i r : Int) (br : -9223372036854775808 ≤ r ∧ r ≤ 9223372036854775807) (hsl : ∀ o ∈ s.os, o.sl ≤ 9223372036854775807) (costs : List Int) (w : World) (hs : SysAt w A n B m s) (hnm : n ≤ 1000 ∧ m ≤ maxLen) (hf : ∀ p ∈ s.ts, p.code.length ≤ 200) (ho : Sy.OFew s.os 5000) (hT : Is.Tabs w) (hcl : costs.length = cl) (hr : Row w C (costs.map (Value.int .i64))) :
  Calls Tryz.prog 23 #[.agg #[.slice A n c, .slice B m d], .int .i64 i, .int .i64 r, .slice C cl cc] w fun e w' => e = .returned (.int .i64 (loadI s i costs r)) ∧ Same w w' := by
 obtain ⟨w0, hw0⟩ : ∃ w0, w0 = w.alloc (.cells #[.slice A n c, .slice B m d] 25) := ⟨_, rfl⟩
 obtain ⟨g, hg⟩ : ∃ g, g = w.heap.size := ⟨_, rfl⟩
 have s0 : Same w w0 := hw0 ▸ (Same.refl w).alloc _
 have b0 : Blk w0 g 25 #[.slice A n c, .slice B m d] := by rw [hw0, hg]; exact Blk.new w _ _
 have HE0 := Lib.hid hw0
 have HG := Lib.hid hg
 have S0 := Lib.hid s0
 obtain ⟨c0, c1⟩ := (⟨b0.cell 0, b0.cell 1⟩ : _ ∧ _)
 simp only [Ws.q_] at c0 c1
 have B0 := Lib.hid b0
 have RT := Lib.hid (Dm.rowt_any A n c s.ts i w0 (hs.ht.same s0) hs.hn)
 have LO := Lib.hid (fun W (h : Same w0 W) => load_any A B C n c m d cl cc s i costs W (hs.same (s0.trans h)) hnm hf ho (hT.same (s0.trans h)) hcl (hr.same (s0.trans h)))
 have L1 := Lib.hid (fun g7 g8 q5 q3 RA AA rc al ac W (h : LdAt W s i costs A B C n c m d cl cc g7 g8 q5 q3 RA AA rc al ac) => load1_any s i costs A B C n c m d cl cc g7 g8 q5 q3 RA AA rc al ac r br hsl ho (by omega) W h)
 have HOUT := Lib.hid (show (i < 0 ∨ (s.ts.length : Int) ≤ i) → loadI s i costs r = 0 from fun h => loadT_away (by omega) costs r _)
 clear hw0 hg s0 b0 hs hT hf ho hcl hr
 unfold LoadP at LO
 go_enter Tryz.func23, Tryz.ntmps23
 go_upto_region 1 with fail
 rw [← HE0.out, ← HG.out]
 clear HE0 HG
 go_wp2_with fail
 refine RT.out.mono ?_
 rintro e w1 ⟨s1, ht⟩
 have S1 := Lib.hid s1
 have B1 := Lib.hid (B0.out.same s1)
 clear s1 RT c0 c1 B0
 rcases ht with ⟨ki, p, X, cX, rfl, hp, hcode, hlen, rfl⟩ | ⟨hout, rfl⟩
 ·have HB4 := Lib.hid (B1.out.same ((Same.refl w1).alloc (.cells #[.int .i64 p.kind, .int .i64 p.prio, .int .i64 p.per, .int .i64 p.off, .int .i64 p.dl, .int .i64 p.own, .slice X p.code.length cX] 47)))
  have HS4 := Lib.hid (S1.out.alloc (.cells #[.int .i64 p.kind, .int .i64 p.prio, .int .i64 p.per, .int .i64 p.off, .int .i64 p.dl, .int .i64 p.own, .slice X p.code.length cX] 47))
  clear hp hcode hlen HOUT
  go_upto_region 2 with fail
  generalize w1.alloc (.cells #[.int .i64 p.kind, .int .i64 p.prio, .int .i64 p.per, .int .i64 p.off, .int .i64 p.dl, .int .i64 p.own, .slice X p.code.length cX] 47) = w4 at *
  generalize w1.heap.size = q1 at *
  obtain ⟨c0, c1⟩ := (⟨HB4.out.cell 0, HB4.out.cell 1⟩ : _ ∧ _)
  simp only [Ws.q_] at c0 c1
  go_wp2_with fail
  refine (LO.out _ HS4.out).mono ?_
  rintro e w5 ⟨g7, g8, q5, q3, RA, AA, rc, al, ac, rfl, hld, s5⟩
  have LX := Lib.hid (L1.out g7 g8 q5 q3 RA AA rc al ac w5 hld)
  clear hld LO L1
  go_wp2_with fail
  refine LX.out.mono ?_
  rintro e w6 ⟨rfl, s6⟩
  go_wp2_with fail
  go_ret
  exact ⟨rfl, S0.out.trans (HS4.out.trans (s5.trans s6))⟩
 ·have HS4 := Lib.hid (S1.out.alloc (.cells #[.int .i64 0, .int .i64 0, .int .i64 0, .int .i64 0, .int .i64 0, .int .i64 0, .slice none 0 0] 47))
  have HV := Lib.hid (HOUT.out hout)
  clear hout LO L1 HOUT
  go_upto_region 2 with fail
  generalize w1.alloc (.cells #[.int .i64 0, .int .i64 0, .int .i64 0, .int .i64 0, .int .i64 0, .int .i64 0, .slice none 0 0] 47) = w4 at *
  generalize w1.heap.size = q1 at *
  go_wp2_with fail
  go_ret
  exact ⟨ret_int HV.out.symm, S0.out.trans HS4.out⟩
end Go.Proofs.YthhbhbfkbncegaaGreatDoor.Rt
end
section
section
section
section
set_option linter.unusedVariables false
set_option linter.unusedSimpArgs false
namespace Go.Proofs.YthhbhbfkbncegaaGreatDoor.Sl
open Go.ChangeShapes Go.WideShapes Go.ChangeAt Go.RowKit Ws
open Im (PT PO PS TsAt OsAt SysAt tcells ocells)
end Go.Proofs.YthhbhbfkbncegaaGreatDoor.Sl
end
section
set_option linter.unusedVariables false
set_option linter.unusedSimpArgs false
namespace Go.Proofs.YthhbhbfkbncegaaGreatDoor.Sl
open Go.ChangeShapes Go.WideShapes Go.ChangeAt Go.RowKit Ws
open Im (PT PO PS TsAt OsAt SysAt tcells ocells)
end Go.Proofs.YthhbhbfkbncegaaGreatDoor.Sl
end
end
section
set_option linter.unusedSimpArgs false
set_option linter.unusedVariables false
namespace Go.Proofs.YthhbhbfkbncegaaGreatDoor.Sl
open Im (PT PO PS TsAt OsAt SysAt)
theorem few_wid {os : List PO} {N : Int} (h : Sy.OFew os N) (hN : N ≤ 5000) : Sy.OFew os 5000 := ⟨Int.le_trans h.1 hN, h.2⟩
end Go.Proofs.YthhbhbfkbncegaaGreatDoor.Sl
end
end
section
set_option linter.unusedVariables false
set_option linter.unusedSimpArgs false
namespace Go.Proofs.YthhbhbfkbncegaaGreatDoor.Rt
open Go.ChangeShapes Go.WideShapes Go.ChangeAt Go.RowKit Ws
open Im (PT PO PS TsAt OsAt SysAt tcells ocells)
open Go.Proofs.YthhbhbfkbncegaaGreatDoor.Wd (ret_bool ret_int addv mulv ceilv)
open Sl (jobC jobR jobI rcells)
set_option maxRecDepth 100000 in
set_option maxHeartbeats 8000000 in
theorem loads_walk (A B C : Option Addr) (n c m d cl cc : Nat) (s : PS) (i r : Int) (br : -9223372036854775808 ≤ r ∧ r ≤ 9223372036854775807) (costs : List Int) (w : World) (hs : SysAt w A n B m s) (hwf : Im.SysWg s) (hnm : n ≤ maxLen ∧ m ≤ maxLen) (hT : Is.Tabs w) (hcl : costs.length = cl) (hr : Row w C (costs.map (Value.int .i64))) :
  Calls Tryz.prog 6 #[.agg #[.slice A n c, .slice B m d], .agg #[.int .i64 i, .int .i64 r], .slice C cl cc] w fun e w' => e = .returned (.bool true) ∧ Same w w' := by
 obtain ⟨w0, hw0⟩ : ∃ w0, w0 = w.alloc (.cells #[.slice A n c, .slice B m d] 25) := ⟨_, rfl⟩
 obtain ⟨q0, hq0⟩ : ∃ q0, q0 = w.heap.size := ⟨_, rfl⟩
 obtain ⟨q1, hq1⟩ : ∃ q1, q1 = w0.heap.size := ⟨_, rfl⟩
 obtain ⟨w1, hw1⟩ : ∃ w1, w1 = w0.alloc (.cells #[.int .i64 i, .int .i64 r] 26) := ⟨_, rfl⟩
 have s0 : Same w w0 := hw0 ▸ (Same.refl w).alloc _
 have s1 : Same w0 w1 := hw1 ▸ (Same.refl w0).alloc _
 have b0 : Blk w0 q0 25 #[.slice A n c, .slice B m d] := by rw [hw0, hq0]; exact Blk.new w _ _
 have b1 : Blk w1 q1 26 #[.int .i64 i, .int .i64 r] := by rw [hw1, hq1]; exact Blk.new w0 _ _
 have S0 := Lib.hid (s0.trans s1)
 have B0 := Lib.hid (b0.same s1)
 have B1 := Lib.hid b1
 have HE0 := Lib.hid hw0
 have HE1 := Lib.hid hw1
 have HQ0 := Lib.hid hq0
 have E1 := Lib.hid (show q0 + 1 = q1 by rw [hq1, hw0, hq0]; show _ = (w.heap.push _).size; rw [Array.size_push])
 have FE := Lib.hid (Sy.few31 A B n c m d s 20 w1 (hs.same S0.out) hnm)
 have HS := Lib.hid (hs.same S0.out)
 have HT := Lib.hid (hT.same S0.out)
 have HR := Lib.hid (hr.same S0.out)
 obtain ⟨c0, c1⟩ := (⟨B0.out.cell 0, B0.out.cell 1⟩ : _ ∧ _)
 simp only [Ws.q_] at c0 c1
 clear hw0 hw1 hq0 hq1 s0 s1 b0 b1 hs hT hr
 go_enter Tryz.func6, Tryz.ntmps6
 go_upto_region 1 with fail
 rw [← HQ0.out, E1.out, ← HE0.out, ← HE1.out]
 clear HE0 HE1 HQ0 E1
 go_wp2_with fail
 refine FE.out.mono ?_
 rintro e wf ⟨⟨bf, rfl, hbf⟩, sf⟩
 have SF := Lib.hid sf
 have AW := Lib.hid (fun W (h : Same wf W) => awake38 W (HT.out.same (sf.trans h)))
 have HT := Lib.hid (HT.out.same sf)
 have HS := Lib.hid (HS.out.same sf)
 have B0 := Lib.hid (B0.out.same sf)
 have B1 := Lib.hid (B1.out.same sf)
 have HR := Lib.hid (HR.out.same sf)
 clear sf FE c0 c1
 cases bf with
 | false =>
  clear hbf
  go_wp2_with fail
  refine (AW.out _ (Same.refl _)).mono ?_
  rintro e w3 ⟨rfl, s3⟩
  go_wp2_with fail
  go_ret
  exact ⟨rfl, S0.out.trans (SF.out.trans s3)⟩
 | true =>
  by_cases hlong : (cl : Int) > 100
  ·have g : decide ((100 : Int) < cl) = true := by simpa using hlong
   clear hbf
   go_wp2_with fail
   refine (AW.out _ (Same.refl _)).mono ?_
   rintro e w3 ⟨rfl, s3⟩
   go_wp2_with fail
   go_ret
   exact ⟨rfl, S0.out.trans (SF.out.trans s3)⟩
  ·have g : decide ((100 : Int) < cl) = false := by simpa using hlong
   obtain ⟨hft, hfo⟩ := hbf rfl
   have hf : ∀ p ∈ s.ts, p.code.length ≤ 200 := hft.2
   have ho := Sl.few_wid hfo (by omega)
   have hsl := hwf.sl
   have hn1 : n ≤ 1000 ∧ m ≤ maxLen := ⟨by have := hft.1; rw [HS.out.hn] at this; omega, hnm.2⟩
   have LD := Lib.hid (fun W (h : Same wf W) => Load_any A B C n c m d cl cc s i r br hsl costs W (HS.out.same h) hn1 hf ho (HT.out.same h) hcl (HR.out.same h))
   have RL := Lib.hid (fun W (h : Same wf W) => rLoad_any A B C n c m d cl cc s i r br hsl costs W (HS.out.same h) hn1 hf ho hcl (HR.out.same h))
   clear hbf hft hfo hf ho hsl hcl hlong hn1
   generalize loadI s i costs r = x1 at *
   have ex1 : (x1 == x1) = true := by simp
   obtain ⟨c0, c1⟩ := (⟨B0.out.cell 0, B0.out.cell 1⟩ : _ ∧ _)
   simp only [Ws.q_] at c0 c1
   obtain ⟨e0, e1⟩ := (⟨B1.out.cell 0, B1.out.cell 1⟩ : _ ∧ _)
   simp only [Ws.q_] at e0 e1
   go_wp2_with fail
   go_quiet (fail)
   have S4 := Lib.hid ((Same.refl wf).drewN nq)
   generalize wf.drewN nq = w4 at *
   clear c0 c1 e0 e1
   go_wp2_with fail
   have BB0 := Lib.hid (B0.out.same S4.out)
   refine wp_region_held_drew (S := fun w' => Same w4 w') (by kernel_rfl) ?_ (fun hHeld => ?_)
   ·exact (Same.refl w4).drew
   refine Ro.tn 0 ?_ ?_ ?_
   rotate_left
   ·intro wS hSw; (try dsimp only at hSw); obtain ⟨v0, v1⟩ := (⟨(BB0.out.same hSw).cell 0, (BB0.out.same hSw).cell 1⟩ : _ ∧ _); simp only [Ws.q_] at v0 v1; go_simp; try with_reducible rfl
   try simp only [Ro.p]
   refine Ro.tn 1 ?_ ?_ ?_
   rotate_left
   ·intro wS hSw; (try dsimp only at hSw); go_simp; try with_reducible rfl
   try simp only [Ro.p]
   refine Ro.tn 2 ?_ ?_ ?_
   rotate_left
   ·intro wS hSw; (try dsimp only at hSw); go_simp; try with_reducible rfl
   try simp only [Ro.p]
   refine Ro.tn 3 ?_ ?_ ?_
   rotate_left
   ·intro wS hSw; (try dsimp only at hSw); go_simp; try with_reducible rfl
   try simp only [Ro.p]
   refine Ro.tn 5 ?_ ?_ ?_
   rotate_left
   ·intro wS hSw; (try dsimp only at hSw); obtain ⟨v0, v1⟩ := (⟨(BB0.out.same hSw).cell 0, (BB0.out.same hSw).cell 1⟩ : _ ∧ _); simp only [Ws.q_] at v0 v1; go_simp; try with_reducible rfl
   try simp only [Ro.p]
   refine Ro.tn 6 ?_ ?_ ?_
   rotate_left
   ·intro wS hSw; (try dsimp only at hSw); go_simp; try with_reducible rfl
   try simp only [Ro.p]
   refine Ro.tn 7 ?_ ?_ ?_
   rotate_left
   ·intro wS hSw; (try dsimp only at hSw); go_simp; try with_reducible rfl
   try simp only [Ro.p]
   refine Ro.tn 8 ?_ ?_ ?_
   rotate_left
   ·intro wS hSw; (try dsimp only at hSw); go_simp; try with_reducible rfl
   try simp only [Ro.p]
   refine Ro.one_on (i := 4) rfl (by kernel_rfl) (by rfl) (fun K hK => ?_)
   go_simp
   go_at_call 23
   refine (LD.out _ (S4.out.trans hHeld)).mono ?_
   rintro e wN ⟨rfl, sN⟩
   refine hK.out _ _ ?_ (fun hNew => ?_)
   ·exact hHeld.trans sN
   clear hK K hHeld; have hHeld := hNew; clear hNew
   try simp only [Ro.p]
   refine Ro.one_on (i := 9) rfl (by kernel_rfl) (by rfl) (fun K hK => ?_)
   go_simp
   go_at_call 24
   refine (RL.out _ (S4.out.trans hHeld)).mono ?_
   rintro e wN ⟨rfl, sN⟩
   refine hK.out _ _ ?_ (fun hNew => ?_)
   ·exact hHeld.trans sN
   clear hK K hHeld; have hHeld := hNew; clear hNew
   try simp only [Ro.p]
   refine Ro.tn 10 ?_ ?_ ?_
   rotate_left
   ·intro wS hSw; (try dsimp only at hSw); go_simp; try with_reducible rfl
   try simp only [Ro.p]
   refine Ro.tn 11 ?_ ?_ ?_
   rotate_left
   ·intro wS hSw; (try dsimp only at hSw); go_simp; try with_reducible rfl
   try simp only [Ro.p]
   refine Ro.one_on (i := 12) rfl (by kernel_rfl) (by rfl) (fun K hK => ?_)
   go_simp
   go_at_call 22
   refine (AW.out _ (S4.out.trans hHeld)).mono ?_
   rintro e wN ⟨rfl, sN⟩
   refine hK.out _ _ ?_ (fun hNew => ?_)
   ·exact hHeld.trans sN
   clear hK K hHeld; have hHeld := hNew; clear hNew
   try simp only [Ro.p]
   refine Ro.tn 13 ?_ ?_ ?_
   rotate_left
   ·intro wS hSw; (try dsimp only at hSw); go_simp; try with_reducible rfl
   try simp only [Ro.p]
   refine Ro.tn 14 ?_ ?_ ?_
   rotate_left
   ·intro wS hSw; (try dsimp only at hSw); go_simp; try with_reducible rfl
   try simp only [Ro.p]
   refine wpAnyH_done (by kernel_rfl) ?_ _
   go_wp2_with fail
   go_ret
   exact ⟨rfl, S0.out.trans (SF.out.trans (S4.out.trans hHeld))⟩
end Go.Proofs.YthhbhbfkbncegaaGreatDoor.Rt
end
end
end
end
