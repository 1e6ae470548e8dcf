/-

  The law InterfereNone.
-/
import Derived.Test.YthhbhbfkbncegaaGreatDoorSysFew
import Derived.Test.YthhbhbfkbncegaaGreatDoorSplOf
import Derived.Test.YthhbhbfkbncegaaGreatDoorSplUse
import Derived.Test.YthhbhbfkbncegaaGreatDoorSplPairF
import Derived.Test.YthhbhbfkbncegaaGreatDoorSplJobOf
import Derived.Test.YthhbhbfkbncegaaGreatDoorRegionOff
section
set_option linter.unusedVariables false
set_option linter.unusedSimpArgs false
namespace Go.Proofs.YthhbhbfkbncegaaGreatDoor.Im
open Go.ChangeShapes Go.WideShapes Go.ChangeAt Go.RowKit Ws

structure TWg (t : PT) : Prop where
  kind : (Lit.int .i64 t.kind).wf = true
  prio : (Lit.int .i64 t.prio).wf = true
  per : (Lit.int .i64 t.per).wf = true
  off : (Lit.int .i64 t.off).wf = true
  dl : (Lit.int .i64 t.dl).wf = true
  own : (Lit.int .i64 t.own).wf = true
def OWg (o : PO) : Prop := ∀ y ∈ o.k :: o.wd :: o.sl :: o.cp :: o.ow :: o.rd, (Lit.int .i64 y).wf = true
structure SysWg (s : PS) : Prop where
  ts : ∀ p ∈ s.ts, TWg p
  os : ∀ p ∈ s.os, OWg p
section
variable {H : Type} {enc : TypeId × Value → H} {w : World} {base : Nat} {sp : Nat → Bool} {held : Bool}
theorem task_cells_g {fuel : Nat} {cs : List Value} {x : DataW H × List MemPlace} (hl : cs.length = 7) (h : DataW.trod enc Tryz.prog w base sp held fuel 47 cs = some x) : ∃ (t : PT) (X : Option Addr) (c : Nat), cs = tcells t X c ∧ Code w X t.code ∧ t.code.length ≤ maxLen ∧ TWg t := by
  obtain ⟨z0, e0, w0⟩ := On.int_leaf (n := 6) (i := 0) (u := 3) h (by kernel_rfl) Tryz.underlying3
  obtain ⟨z1, e1, w1⟩ := On.int_leaf (n := 6) (i := 1) (u := 3) h (by kernel_rfl) Tryz.underlying3
  obtain ⟨z2, e2, w2⟩ := On.int_leaf (n := 6) (i := 2) (u := 3) h (by kernel_rfl) Tryz.underlying3
  obtain ⟨z3, e3, w3⟩ := On.int_leaf (n := 6) (i := 3) (u := 3) h (by kernel_rfl) Tryz.underlying3
  obtain ⟨z4, e4, w4⟩ := On.int_leaf (n := 6) (i := 4) (u := 3) h (by kernel_rfl) Tryz.underlying3
  obtain ⟨z5, e5, w5⟩ := On.int_leaf (n := 6) (i := 5) (u := 3) h (by kernel_rfl) Tryz.underlying3
  obtain ⟨A, len, cap, d, p, e6, w6⟩ := On.slice_leaf (n := 6) (i := 6) (u := 45) h (by kernel_rfl) Tryz.underlying45
  obtain ⟨rows, hr, hrl, hml⟩ := Fl.rows_of Tryz.underlying45 (show Fl.kinds Tryz.prog 6 70 = some [.i64, .i64, .i64, .i64, .u32] by kernel_rfl) (by decide) w6
  obtain ⟨code, hcl, hcode⟩ := code_in hr
  refine ⟨⟨z0, z1, z2, z3, z4, z5, code⟩, A, cap, ?_, hcode, (by show code.length ≤ maxLen; omega), ⟨w0, w1, w2, w3, w4, w5⟩⟩
  have hlen : code.length = len := by omega
  apply List.ext_getElem?
  intro i
  match i with
  | 0 => exact e0
  | 1 => exact e1
  | 2 => exact e2
  | 3 => exact e3
  | 4 => exact e4
  | 5 => exact e5
  | 6 => rw [e6]; simp [tcells, hlen]
  | n + 7 => rw [List.getElem?_eq_none (by omega), List.getElem?_eq_none (by simp [tcells])]
theorem tasks_in_g {A : Option Addr} {len cap : Nat} {d : DataW H} {p : List MemPlace} (h : DataW.Trod enc Tryz.prog w base sp held 22 (.slice A len cap) d p) :
    ∃ ts : List PT, ts.length = len ∧ TsAt w A ts ∧ (∀ p ∈ ts, TWg p) ∧ len ≤ maxLen := by
  have hkl : Tryz.prog.cellsOf 47 = 7 := by kernel_rfl
  obtain ⟨fuel, hf⟩ := h
  rcases DataW.trod_slice Tryz.underlying22 hf with ⟨hcs, _⟩ | ⟨a, l, c, elems, rest, m, _, hcs, _, _, hl, hm, hel, hall, _, _⟩
  · simp [Value.cells] at hcs
    obtain ⟨rfl, rfl, rfl⟩ := hcs
    exact ⟨[], rfl, fun i r hr => by simp at hr, fun r hr => by simp at hr, Nat.zero_le _⟩
  · simp [Value.cells] at hcs
    obtain ⟨rfl, rfl, rfl⟩ := hcs
    rw [hkl] at hall
    have hspot : ∀ {i : Nat}, i < len → a.spot = none := by
      intro i hi
      have hai := hall 0 (by omega)
      rw [List.getElem?_eq_getElem (by omega)] at hai
      obtain ⟨cs, hcs, hx⟩ := Option.bind_eq_some_iff.1 hai
      obtain ⟨hcl, hcc⟩ := Fl.cells_get hcs
      obtain ⟨v0, hv0⟩ : ∃ v, cs[0]? = some v := ⟨_, List.getElem?_eq_getElem (by rw [hcl]; omega)⟩
      have h0 := hcc 0 v0 hv0
      rw [Nat.zero_mul] at h0
      exact Fl.spot_zero (by simpa [Addr.add] using h0)
    have hch : ∀ i : Nat, ∃ p : PT, i < len → ∃ b o, some a = some (⟨b, o, none⟩ : Addr) ∧ ∃ X c, (∀ j v, (tcells p X c)[j]? = some v → w.cell? ⟨b, o + i * 7 + j, none⟩ = some v) ∧ Code w X p.code ∧ p.code.length ≤ maxLen ∧ TWg p := by
      intro i
      by_cases hi : i < len
      · have hai := hall i hi
        rw [List.getElem?_eq_getElem (by omega)] at hai
        obtain ⟨cs, hcs, hx⟩ := Option.bind_eq_some_iff.1 hai
        obtain ⟨hcl, hcc⟩ := Fl.cells_get hcs
        have hs := hspot hi
        obtain ⟨b, o, s⟩ := a
        cases hs
        obtain ⟨t, X, c, rfl, hcode⟩ := task_cells_g hcl hx
        refine ⟨t, fun _ => ⟨b, o, rfl, X, c, fun j v hv => ?_, hcode⟩⟩
        have := hcc j v hv
        rw [Fl.add_add _ _ _ rfl] at this
        exact this
      · exact ⟨default, fun h => absurd h hi⟩
    refine ⟨(List.range len).map fun i => Classical.choose (hch i), by simp, fun i r hr => ?_, fun r hr => ?_, by omega⟩
    · have hlt : i < len := by
        rcases Nat.lt_or_ge i len with hlt | hge
        · exact hlt
        · rw [List.getElem?_eq_none (by simpa using hge)] at hr
          cases hr
      rw [List.getElem?_map, List.getElem?_range hlt] at hr
      injection hr with hr
      rw [← hr]
      obtain ⟨b, o, h1, X, c, h2, h3, h4, _⟩ := Classical.choose_spec (hch i) hlt
      exact ⟨b, o, h1, X, c, h2, h3, h4⟩
    · obtain ⟨i, hi, rfl⟩ := List.mem_map.1 hr
      obtain ⟨b, o, h1, X, c, h2, h3, h4, h5⟩ := Classical.choose_spec (hch i) (List.mem_range.1 hi)
      exact h5

theorem obj_cells_g {fuel : Nat} {cs : List Value} {x : DataW H × List MemPlace} (hl : cs.length = 8) (h : DataW.trod enc Tryz.prog w base sp held fuel 34 cs = some x) : ∃ (p : PO) (X : Option Addr) (c : Nat) (Y : Option Addr) (d : Nat), cs = ocells p X c Y d ∧ (0 ≤ p.sa ∧ p.sa < 4294967296) ∧ Row w X (p.ini.map (Value.int .u32)) ∧ (∀ y ∈ p.ini, 0 ≤ y ∧ y < 4294967296) ∧ Row w Y (p.rd.map (Value.int .i64)) ∧ p.ini.length ≤ maxLen ∧ p.rd.length ≤ maxLen ∧ OWg p := by
  obtain ⟨z0, e0, w0⟩ := On.int_leaf (n := 6) (i := 0) (u := 3) h (by kernel_rfl) Tryz.underlying3
  obtain ⟨z1, e1, w1⟩ := On.int_leaf (n := 6) (i := 1) (u := 3) h (by kernel_rfl) Tryz.underlying3
  obtain ⟨z2, e2, w2⟩ := On.int_leaf (n := 6) (i := 2) (u := 3) h (by kernel_rfl) Tryz.underlying3
  obtain ⟨z3, e3, w3⟩ := On.int_leaf (n := 6) (i := 3) (u := 3) h (by kernel_rfl) Tryz.underlying3
  obtain ⟨z4, e4, w4⟩ := On.int_leaf (n := 6) (i := 4) (u := 30) h (by kernel_rfl) Tryz.underlying30
  obtain ⟨A, il, ic, d5, p5, e5, t5⟩ := On.slice_leaf (n := 6) (i := 5) (u := 31) h (by kernel_rfl) Tryz.underlying31
  obtain ⟨z6, e6, w6⟩ := On.int_leaf (n := 6) (i := 6) (u := 3) h (by kernel_rfl) Tryz.underlying3
  obtain ⟨B, rl, rc, d7, p7, e7, t7⟩ := On.slice_leaf (n := 6) (i := 7) (u := 32) h (by kernel_rfl) Tryz.underlying32
  obtain ⟨ini, hil, hirow, hiwf, hi1, hi2⟩ := Fl.ints_of Tryz.underlying31 Tryz.underlying30 (by kernel_rfl) t5
  obtain ⟨rd, hrl, hrrow, hrwf, hr1, hr2⟩ := Fl.ints_of Tryz.underlying32 Tryz.underlying3 (by kernel_rfl) t7
  refine ⟨⟨z0, z1, z2, z3, z4, z6, rd, ini⟩, A, ic, B, rc, ?_, Fl.u32_bd w4, hirow, fun y hy => Fl.u32_bd (hiwf y hy), hrrow, Nat.le_trans (Nat.le_of_eq hil) (Nat.le_trans hi1 hi2), Nat.le_trans (Nat.le_of_eq hrl) (Nat.le_trans hr1 hr2), fun y hy => by
    rcases List.mem_cons.1 hy with hy | hy
    · rw [hy]; exact w0
    rcases List.mem_cons.1 hy with hy | hy
    · rw [hy]; exact w1
    rcases List.mem_cons.1 hy with hy | hy
    · rw [hy]; exact w2
    rcases List.mem_cons.1 hy with hy | hy
    · rw [hy]; exact w3
    rcases List.mem_cons.1 hy with hy | hy
    · rw [hy]; exact w6
    · exact hrwf y hy⟩
  apply List.ext_getElem?
  intro i
  match i with
  | 0 => exact e0
  | 1 => exact e1
  | 2 => exact e2
  | 3 => exact e3
  | 4 => exact e4
  | 5 => rw [e5]; simp [ocells, hil]
  | 6 => exact e6
  | 7 => rw [e7]; simp [ocells, hrl]
  | n + 8 => rw [List.getElem?_eq_none (by omega), List.getElem?_eq_none (by simp [ocells])]
theorem objs_in_g {A : Option Addr} {len cap : Nat} {d : DataW H} {p : List MemPlace} (h : DataW.Trod enc Tryz.prog w base sp held 23 (.slice A len cap) d p) :
    ∃ ts : List PO, ts.length = len ∧ OsAt w A ts ∧ (∀ p ∈ ts, OWg p) ∧ len ≤ maxLen := by
  have hkl : Tryz.prog.cellsOf 34 = 8 := by kernel_rfl
  obtain ⟨fuel, hf⟩ := h
  rcases DataW.trod_slice Tryz.underlying23 hf with ⟨hcs, _⟩ | ⟨a, l, c, elems, rest, m, _, hcs, _, _, hl, hm, hel, hall, _, _⟩
  · simp [Value.cells] at hcs
    obtain ⟨rfl, rfl, rfl⟩ := hcs
    exact ⟨[], rfl, fun i r hr => by simp at hr, fun r hr => by simp at hr, Nat.zero_le _⟩
  · simp [Value.cells] at hcs
    obtain ⟨rfl, rfl, rfl⟩ := hcs
    rw [hkl] at hall
    have hspot : ∀ {i : Nat}, i < len → a.spot = none := by
      intro i hi
      have hai := hall 0 (by omega)
      rw [List.getElem?_eq_getElem (by omega)] at hai
      obtain ⟨cs, hcs, hx⟩ := Option.bind_eq_some_iff.1 hai
      obtain ⟨hcl, hcc⟩ := Fl.cells_get hcs
      obtain ⟨v0, hv0⟩ : ∃ v, cs[0]? = some v := ⟨_, List.getElem?_eq_getElem (by rw [hcl]; omega)⟩
      have h0 := hcc 0 v0 hv0
      rw [Nat.zero_mul] at h0
      exact Fl.spot_zero (by simpa [Addr.add] using h0)
    have hch : ∀ i : Nat, ∃ p : PO, i < len → ∃ b o, some a = some (⟨b, o, none⟩ : Addr) ∧ ∃ X c Y d, (∀ j v, (ocells p X c Y d)[j]? = some v → w.cell? ⟨b, o + i * 8 + j, none⟩ = some v) ∧ (0 ≤ p.sa ∧ p.sa < 4294967296) ∧ Row w X (p.ini.map (Value.int .u32)) ∧ (∀ y ∈ p.ini, 0 ≤ y ∧ y < 4294967296) ∧ Row w Y (p.rd.map (Value.int .i64)) ∧ p.ini.length ≤ maxLen ∧ p.rd.length ≤ maxLen ∧ OWg p := by
      intro i
      by_cases hi : i < len
      · have hai := hall i hi
        rw [List.getElem?_eq_getElem (by omega)] at hai
        obtain ⟨cs, hcs, hx⟩ := Option.bind_eq_some_iff.1 hai
        obtain ⟨hcl, hcc⟩ := Fl.cells_get hcs
        have hs := hspot hi
        obtain ⟨b, o, s⟩ := a
        cases hs
        obtain ⟨t, X, c, Y, d, rfl, h1, h2, h3, h4⟩ := obj_cells_g hcl hx
        refine ⟨t, fun _ => ⟨b, o, rfl, X, c, Y, d, fun j v hv => ?_, h1, h2, h3, h4⟩⟩
        have := hcc j v hv
        rw [Fl.add_add _ _ _ rfl] at this
        exact this
      · exact ⟨default, fun h => absurd h hi⟩
    refine ⟨(List.range len).map fun i => Classical.choose (hch i), by simp, fun i r hr => ?_, fun r hr => ?_, by omega⟩
    · have hlt : i < len := by
        rcases Nat.lt_or_ge i len with hlt | hge
        · exact hlt
        · rw [List.getElem?_eq_none (by simpa using hge)] at hr
          cases hr
      rw [List.getElem?_map, List.getElem?_range hlt] at hr
      injection hr with hr
      rw [← hr]
      obtain ⟨b, o, h1, X, c, Y, d, h2, h3, h4, h5, h6, h7, h8, _⟩ := Classical.choose_spec (hch i) hlt
      exact ⟨b, o, h1, X, c, Y, d, h2, h3, h4, h5, h6, h7, h8⟩
    · obtain ⟨i, hi, rfl⟩ := List.mem_map.1 hr
      obtain ⟨b, o, h1, X, c, Y, d, h2, h3, h4, h5, h6, h7, h8, h9⟩ := Classical.choose_spec (hch i) (List.mem_range.1 hi)
      exact h9

end
set_option maxRecDepth 100000 in
theorem system_in_g {H : Type} {enc : TypeId × Value → H} {w : World} {base : Nat} {sp : Nat → Bool} {held : Bool} {r : Reach} {b0 : Nat} {v : Value} {d : DataW H} {p : List MemPlace}
    (hv : Value.okWide Tryz.prog w r b0 25 v) (h : DataW.Trod enc Tryz.prog w base sp held 25 v d p) :
    ∃ (A B : Option Addr) (n c m d : Nat) (s : PS), v = .agg #[.slice A n c, .slice B m d] ∧ SysAt w A n B m s ∧ SysWg s ∧ n ≤ maxLen ∧ m ≤ maxLen := by
  obtain ⟨cs, rfl, hsz⟩ := okWide_struct Tryz.underlying25 hv
  obtain ⟨fuel, hf⟩ := h
  have hc : (Value.agg cs).cells.toList = cs.toList := by simp [Value.cells]
  rw [hc] at hf
  obtain ⟨l⟩ := cs
  have h3 : l.length = 2 := by
    have := hsz.trans (show Tryz.prog.cellsOf 25 = 2 by kernel_rfl)
    simpa using this
  match l, h3 with
  | [c0, c1], _ =>
    obtain ⟨A, n, c, d0, p0, e0, t0⟩ := On.slice_leaf hf (show On.leafAt Tryz.prog 6 25 0 = some 22 by kernel_rfl) Tryz.underlying22
    obtain ⟨B, m, c', d1, p1, e1, t1⟩ := On.slice_leaf hf (show On.leafAt Tryz.prog 6 25 1 = some 23 by kernel_rfl) Tryz.underlying23
    simp at e0 e1
    subst e0 e1
    obtain ⟨ts, l0, w0, f0, m0⟩ := tasks_in_g t0
    obtain ⟨os, l1, w1, f1, m1⟩ := objs_in_g t1
    exact ⟨A, B, n, c, m, c', ⟨ts, os⟩, rfl, ⟨l0, l1, w0, w1⟩, ⟨f0, f1⟩, m0, m1⟩
theorem SysWg.sl {s : PS} (h : SysWg s) : ∀ o ∈ s.os, o.sl ≤ 9223372036854775807 := fun o ho => by
  have := h.os o ho o.sl (by simp)
  simp only [Lit.wf, IntKind.min, IntKind.max, IntKind.signed, IntKind.bits, Bool.and_eq_true] at this
  simp at this
  omega
theorem int_bd {x : Int} (h : (Lit.int .i64 x).wf = true) : -9223372036854775808 ≤ x ∧ x ≤ 9223372036854775807 := by
  simp only [Lit.wf, IntKind.min, IntKind.max, IntKind.signed, IntKind.bits, Bool.and_eq_true] at h
  simp at h
  omega
end Go.Proofs.YthhbhbfkbncegaaGreatDoor.Im
end
section
section
section
set_option linter.unusedVariables false
set_option linter.unusedSimpArgs false
namespace Go.Proofs.YthhbhbfkbncegaaGreatDoor.Sl
open Go.ChangeShapes Go.WideShapes Go.ChangeAt Go.RowKit Ws
open Im (PT PO PS TsAt OsAt SysAt tcells ocells)
theorem of_sl {s : PS} {i k : Int} (h : ∀ o ∈ s.os, o.sl ≤ 9223372036854775807) : (ofR s i k).sl ≤ 9223372036854775807 := by
  cases g : readsP s i k with
  | false => rw [of_no g]; decide
  | true =>
    rw [(of_k g).2.1]
    unfold obj
    rw [List.getD_eq_getElem?_getD]
    cases e : s.os[k.toNat]? with
    | none => decide
    | some o => exact h o (List.mem_of_getElem? e)
set_option maxRecDepth 100000 in
theorem ihope_any (A B : Option Addr) (n c m d : Nat) (s : PS) (i k : Int) (w : World) (hs : SysAt w A n B m s) (hnm : n ≤ maxLen ∧ m ≤ maxLen) (hf : ∀ p ∈ s.ts, p.code.length ≤ 200) (ho : Sy.OFew s.os 5000) (hT : Is.Tabs w) :
    Calls Tryz.prog 13 #[.agg #[.slice A n c, .slice B m d], .int .i64 i, .int .i64 k] w fun e w' => e = .returned (.bool (hopeR (ofR s i k))) ∧ Same w w' := by
  obtain ⟨w0, hw0⟩ : ∃ w0, w0 = w.alloc (.cells #[.slice A n c, .slice B m d] 25) := ⟨_, rfl⟩
  obtain ⟨g, hg⟩ : ∃ g, g = w.heap.size := ⟨_, rfl⟩
  have s0 : Same w w0 := hw0 ▸ (Same.refl w).alloc _
  have b0 : Blk w0 g 25 #[.slice A n c, .slice B m d] := by rw [hw0, hg]; exact Blk.new w _ _
  have HE0 := Lib.hid hw0
  have HG := Lib.hid hg
  have S0 := Lib.hid s0
  obtain ⟨c0, c1⟩ := (⟨b0.cell 0, b0.cell 1⟩ : _ ∧ _)
  simp only [List.getElem?_toArray, List.getElem?_cons_zero, List.getElem?_cons_succ] at c0 c1
  have OF := Lib.hid (of_any A B n c m d s i k w0 (hs.same s0) hnm hf ho (hT.same s0))
  have LM := Lib.hid (fun W => hope_any (ofR s i k) W)
  clear hw0 hg s0 b0 hs hT hf ho
  generalize (rcells (ofR s i k)).toArray = rc at *
  go_enter Tryz.func13, Tryz.ntmps13
  go_upto_region 1 with fail
  rw [← HE0.out, ← HG.out]
  clear HE0 HG
  go_wp2_with fail
  refine OF.out.mono ?_
  rintro e w1 ⟨rfl, s1⟩
  go_wp2_with fail
  refine (LM.out _).mono ?_
  rintro e w2 ⟨rfl, s2⟩
  go_wp2_with fail
  go_ret
  exact ⟨rfl, S0.out.trans (s1.trans s2)⟩
set_option maxRecDepth 100000 in
theorem iwrites_any (A B : Option Addr) (n c m d : Nat) (s : PS) (i k : Int) (r : Int) (br : -9223372036854775808 ≤ r ∧ r ≤ 9223372036854775807) (w : World) (hs : SysAt w A n B m s) (hnm : n ≤ maxLen ∧ m ≤ maxLen) (hf : ∀ p ∈ s.ts, p.code.length ≤ 200) (ho : Sy.OFew s.os 5000) (hT : Is.Tabs w) :
    Calls Tryz.prog 14 #[.agg #[.slice A n c, .slice B m d], .int .i64 i, .int .i64 k, .int .i64 r] w fun e w' => e = .returned (.int .i64 (wrR (ofR s i k) r)) ∧ Same w w' := by
  obtain ⟨w0, hw0⟩ : ∃ w0, w0 = w.alloc (.cells #[.slice A n c, .slice B m d] 25) := ⟨_, rfl⟩
  obtain ⟨g, hg⟩ : ∃ g, g = w.heap.size := ⟨_, rfl⟩
  have s0 : Same w w0 := hw0 ▸ (Same.refl w).alloc _
  have b0 : Blk w0 g 25 #[.slice A n c, .slice B m d] := by rw [hw0, hg]; exact Blk.new w _ _
  have HE0 := Lib.hid hw0
  have HG := Lib.hid hg
  have S0 := Lib.hid s0
  obtain ⟨c0, c1⟩ := (⟨b0.cell 0, b0.cell 1⟩ : _ ∧ _)
  simp only [List.getElem?_toArray, List.getElem?_cons_zero, List.getElem?_cons_succ] at c0 c1
  have OF := Lib.hid (of_any A B n c m d s i k w0 (hs.same s0) hnm hf ho (hT.same s0))
  have LM := Lib.hid (fun W => writes_sp (ofR s i k) r br W)
  clear hw0 hg s0 b0 hs hT hf ho
  generalize (rcells (ofR s i k)).toArray = rc at *
  go_enter Tryz.func14, Tryz.ntmps14
  go_upto_region 1 with fail
  rw [← HE0.out, ← HG.out]
  clear HE0 HG
  go_wp2_with fail
  refine OF.out.mono ?_
  rintro e w1 ⟨rfl, s1⟩
  go_wp2_with fail
  refine (LM.out _).mono ?_
  rintro e w2 ⟨rfl, s2⟩
  go_wp2_with fail
  go_ret
  exact ⟨rfl, S0.out.trans (s1.trans s2)⟩
set_option maxRecDepth 100000 in
theorem ifails_any (A B : Option Addr) (n c m d : Nat) (s : PS) (i k : Int) (r : Int) (br : -9223372036854775808 ≤ r ∧ r ≤ 9223372036854775807) (hsl : ∀ o ∈ s.os, o.sl ≤ 9223372036854775807) (w : World) (hs : SysAt w A n B m s) (hnm : n ≤ maxLen ∧ m ≤ maxLen) (hf : ∀ p ∈ s.ts, p.code.length ≤ 200) (ho : Sy.OFew s.os 5000) (hT : Is.Tabs w) :
    Calls Tryz.prog 16 #[.agg #[.slice A n c, .slice B m d], .int .i64 i, .int .i64 k, .int .i64 r] w fun e w' => e = .returned (.int .i64 (flR (ofR s i k) r)) ∧ Same w w' := by
  obtain ⟨w0, hw0⟩ : ∃ w0, w0 = w.alloc (.cells #[.slice A n c, .slice B m d] 25) := ⟨_, rfl⟩
  obtain ⟨g, hg⟩ : ∃ g, g = w.heap.size := ⟨_, rfl⟩
  have s0 : Same w w0 := hw0 ▸ (Same.refl w).alloc _
  have b0 : Blk w0 g 25 #[.slice A n c, .slice B m d] := by rw [hw0, hg]; exact Blk.new w _ _
  have HE0 := Lib.hid hw0
  have HG := Lib.hid hg
  have S0 := Lib.hid s0
  obtain ⟨c0, c1⟩ := (⟨b0.cell 0, b0.cell 1⟩ : _ ∧ _)
  simp only [List.getElem?_toArray, List.getElem?_cons_zero, List.getElem?_cons_succ] at c0 c1
  have OF := Lib.hid (of_any A B n c m d s i k w0 (hs.same s0) hnm hf ho (hT.same s0))
  have LM := Lib.hid (fun W => fails_sp (ofR s i k) r (of_sl hsl) br W)
  clear hw0 hg s0 b0 hs hT hf ho
  generalize (rcells (ofR s i k)).toArray = rc at *
  go_enter Tryz.func16, Tryz.ntmps16
  go_upto_region 1 with fail
  rw [← HE0.out, ← HG.out]
  clear HE0 HG
  go_wp2_with fail
  refine OF.out.mono ?_
  rintro e w1 ⟨rfl, s1⟩
  go_wp2_with fail
  refine (LM.out _).mono ?_
  rintro e w2 ⟨rfl, s2⟩
  go_wp2_with fail
  go_ret
  exact ⟨rfl, S0.out.trans (s1.trans s2)⟩
end Go.Proofs.YthhbhbfkbncegaaGreatDoor.Sl
end
section
section
set_option linter.unusedVariables false
set_option linter.unusedSimpArgs false
namespace Go.Proofs.YthhbhbfkbncegaaGreatDoor.Sl
open Go.ChangeShapes Go.WideShapes Go.ChangeAt Go.RowKit Ws
open Im (PT PO PS TsAt OsAt SysAt tcells ocells)
theorem pair_few (o : PO) (h : o.ini.length ≤ 100 ∧ o.rd.length ≤ 100) : (∀ p ∈ (pairS o).ts, p.code.length ≤ 200) ∧ Sy.OFew (pairS o).os 5000 := by
  refine ⟨fun p hp => ?_, by show ((1 : Nat) : Int) ≤ 5000; omega, fun p hp => ?_⟩
  · simp only [pairS, List.mem_cons, List.not_mem_nil, or_false] at hp
    rcases hp with rfl | rfl <;> decide
  · simp only [pairS, List.mem_cons, List.not_mem_nil, or_false] at hp
    subst hp
    exact h
theorem few37 : (∀ p ∈ s37.ts, p.code.length ≤ 200) ∧ Sy.OFew s37.os 5000 := pair_few _ ⟨by decide, by decide⟩
theorem sl37 : ∀ o ∈ s37.os, o.sl ≤ 9223372036854775807 := by
  intro p hp
  simp only [s37, List.mem_cons, List.not_mem_nil, or_false] at hp
  subst hp
  decide
set_option maxRecDepth 100000 in
set_option maxHeartbeats 4000000 in
theorem awake37 (w : World) (hT : Is.Tabs w) : Calls Tryz.prog 10 #[] w fun e w' => e = .returned (.bool true) ∧ Same w w' := by
  obtain ⟨u, hu⟩ : ∃ u, u = w.heap.size := ⟨_, rfl⟩
  obtain ⟨w1, hw1⟩ : ∃ w1, w1 = w.alloc (.cells #[.int .u32 1, .int .u32 2] 30) := ⟨_, rfl⟩
  have s1 : Same w w1 := hw1 ▸ (Same.refl w).alloc _
  have bu : Blk w1 u 30 #[.int .u32 1, .int .u32 2] := by rw [hw1, hu]; exact Blk.new w _ _
  have PR := Lib.hid (pair_any 3 2 0 3 0 0 (some ⟨u, 0, none⟩) none 2 2 0 0 [1, 2] w1 rfl (by unfold maxLen; omega) (by omega) (Cs.blk_row bu) (fun y hy => by simp only [List.mem_cons, List.not_mem_nil, or_false] at hy; rcases hy with rfl | rfl <;> omega))
  have E1 := Lib.hid hw1
  have U := Lib.hid hu
  have HT := Lib.hid (hT.same s1)
  have S1 := Lib.hid s1
  have HIS := Lib.hid (show (Tryz.prog.info? 25).map (·.size) = some (#[.slice none 0 0, .slice none 0 0] : Array Value).size by kernel_rfl)
  clear hw1 hu s1 bu hT
  unfold PairP at PR
  go_enter Tryz.func10, Tryz.ntmps10
  go_wp2_with fail
  rw [← U.out, ← E1.out]
  clear E1 U
  refine PR.out.mono ?_
  rintro e w2 ⟨a, b, rfl, hsy, s2⟩
  have HSY := Lib.hid hsy
  have S2 := Lib.hid (S1.out.trans s2)
  have HT := Lib.hid (HT.out.same s2)
  clear PR hsy s2 S1
  have BN := Lib.hid (Blk.new w2 25 #[.slice none 0 0, .slice none 0 0])
  have SN := Lib.hid ((Same.refl w2).alloc (.cells #[.slice none 0 0, .slice none 0 0] 25))
  go_upto_region 2 with (first | (refine wpList_store_row rfl 25 (.tmp 1) (.tmp 4) rfl w2.heap.size #[.slice (some ⟨a, 0, none⟩) 2 2, .slice (some ⟨b, 0, none⟩) 1 1] rfl rfl 25 #[.slice none 0 0, .slice none 0 0] BN.out HIS.out rfl (by simp [Value.oneCell']) ?_))
  obtain ⟨q, hq⟩ : ∃ g, g = w2.heap.size := ⟨_, rfl⟩
  obtain ⟨w3, hw3⟩ : ∃ x, x = World.setRow (w2.alloc (.cells #[.slice none 0 0, .slice none 0 0] 25)) q #[.slice (some ⟨a, 0, none⟩) 2 2, .slice (some ⟨b, 0, none⟩) 1 1] := ⟨_, rfl⟩
  have s3 : Same w2 w3 := by rw [hw3, hq]; exact Dm.chgRow SN.out (.inr (Nat.le_refl _)) _
  have bq : Blk w3 q 25 #[.slice (some ⟨a, 0, none⟩) 2 2, .slice (some ⟨b, 0, none⟩) 1 1] := by rw [hw3, hq]; exact Dm.rowb BN.out
  rw [← hq, ← hw3]
  clear hq hw3 BN SN
  have hsy3 : SysAt w3 (some ⟨a, 0, none⟩) 2 (some ⟨b, 0, none⟩) 1 s37 := HSY.out.same s3
  have hT3 := HT.out.same s3
  have S3 := Lib.hid (S2.out.trans s3)
  have hnm : 2 ≤ maxLen ∧ 1 ≤ maxLen := by unfold maxLen; omega
  have WR := Lib.hid (fun W (h : Same w3 W) => iwrites_any (some ⟨a, 0, none⟩) (some ⟨b, 0, none⟩) 2 2 1 1 s37 1 0 25 (by omega) W (hsy3.same h) hnm few37.1 few37.2 (hT3.same h))
  rw [s37_w] at WR
  have FL := Lib.hid (fun W (h : Same w3 W) => ifails_any (some ⟨a, 0, none⟩) (some ⟨b, 0, none⟩) 2 2 1 1 s37 1 0 25 (by omega) sl37 W (hsy3.same h) hnm few37.1 few37.2 (hT3.same h))
  rw [s37_f] at FL
  have JB := Lib.hid (fun W (h : Same w3 W) => ijob_any (some ⟨a, 0, none⟩) (some ⟨b, 0, none⟩) 2 2 1 1 s37 1 25 (by omega) sl37 W (hsy3.same h) hnm few37.1 few37.2 (hT3.same h))
  rw [s37_j] at JB
  have HO := Lib.hid (fun W (h : Same w3 W) => ihope_any (some ⟨a, 0, none⟩) (some ⟨b, 0, none⟩) 2 2 1 1 s37 1 0 W (hsy3.same h) hnm few37.1 few37.2 (hT3.same h))
  rw [s37_h] at HO
  have HQ := Lib.hid bq
  obtain ⟨c0, c1⟩ := (⟨bq.cell 0, bq.cell 1⟩ : _ ∧ _)
  simp only [List.getElem?_toArray, List.getElem?_cons_zero, List.getElem?_cons_succ] at c0 c1
  clear s3 bq hsy3 hT3 hnm HSY HT S2
  go_wp2_with fail
  refine (WR.out w3 (Same.refl _)).mono ?_
  rintro e w4 ⟨rfl, s4⟩
  have H4 := Lib.hid s4
  have c0 := s4.cell c0
  have c1 := s4.cell c1
  clear s4 WR
  go_wp2_with fail
  refine (FL.out _ H4.out).mono ?_
  rintro e w5 ⟨rfl, s5⟩
  have H5 := Lib.hid (H4.out.trans s5)
  have c0 := s5.cell c0
  have c1 := s5.cell c1
  clear s5 FL H4
  go_wp2_with fail
  refine (JB.out _ H5.out).mono ?_
  rintro e w6 ⟨rfl, s6⟩
  have H6 := Lib.hid (H5.out.trans s6)
  have c0 := s6.cell c0
  have c1 := s6.cell c1
  clear s6 JB H5
  go_wp2_with fail
  refine (HO.out _ H6.out).mono ?_
  rintro e w7 ⟨rfl, s7⟩
  go_wp2_with fail
  go_ret
  exact ⟨rfl, S3.out.trans (H6.out.trans s7)⟩
end Go.Proofs.YthhbhbfkbncegaaGreatDoor.Sl
end
section
set_option linter.unusedVariables false
set_option linter.unusedSimpArgs false
namespace Go.Proofs.YthhbhbfkbncegaaGreatDoor.Sl
open Go.ChangeShapes Go.WideShapes Go.ChangeAt Go.RowKit Ws
open Im (PT PO PS TsAt OsAt SysAt tcells ocells SysWg)
open Dm (demI dearI dearE)
theorem few_wid {os : List PO} {N : Int} (h : Sy.OFew os N) (hN : N ≤ 5000) : Sy.OFew os 5000 := ⟨Int.le_trans h.1 hN, h.2⟩
theorem hope_doc (s : PS) (i k : Int) : hopeR (ofR s i k) = (readsP s i k && decide ((obj s k).k = 3) && !aheadP s i k) := by
  cases h : readsP s i k with
  | false => rw [of_no h]; rfl
  | true =>
    cases g : aheadP s i k with
    | false => rw [of_behind h g]; simp [hopeR]
    | true => rw [of_ahead h g]; simp [hopeR]
/-- whether nobody of the first k goes ahead -/
def firstB (s : PS) (i : Int) : Nat → Bool
  | 0 => true
  | k + 1 => firstB s i k && !Ah.aheadI s.ts k i
theorem firstB_all {s : PS} {i : Int} : ∀ k, firstB s i k = true → ∀ j : Nat, j < k → Ah.aheadI s.ts j i = false
  | 0, _, j, hj => by omega
  | k + 1, h, j, hj => by
    unfold firstB at h
    rw [Bool.and_eq_true] at h
    by_cases g : j = k
    · subst g
      simpa using h.2
    · exact firstB_all k h.1 j (by omega)
end Go.Proofs.YthhbhbfkbncegaaGreatDoor.Sl
end
end
end
section
set_option linter.unusedVariables false
set_option linter.unusedSimpArgs false
namespace Go.Proofs.YthhbhbfkbncegaaGreatDoor.Sl
open Go.ChangeShapes Go.WideShapes Go.ChangeAt Go.RowKit Ws
open Im (PT PO PS TsAt OsAt SysAt tcells ocells SysWg)
open Dm (demI dearI dearE)

set_option maxRecDepth 100000 in
set_option maxHeartbeats 8000000 in
theorem interfereNone_walk (A B : Option Addr) (n c m d : Nat) (s : PS) (i k : Int) (r : Int) (br : -9223372036854775808 ≤ r ∧ r ≤ 9223372036854775807) (w : World) (hs : SysAt w A n B m s) (wf : SysWg s) (hnm : n ≤ maxLen ∧ m ≤ maxLen) (hT : Is.Tabs w) :
    Calls Tryz.prog 5 #[.agg #[.slice A n c, .slice B m d], .agg #[.int .i64 i, .int .i64 k], .int .i64 r] w fun e w' => e = .returned (.bool true) ∧ Same w w' := by
  obtain ⟨w0, hw0⟩ : ∃ w0, w0 = w.alloc (.cells #[.slice A n c, .slice B m d] 25) := ⟨_, rfl⟩
  obtain ⟨q0, hq0⟩ : ∃ q0, q0 = w.heap.size := ⟨_, rfl⟩
  obtain ⟨q1, hq1⟩ : ∃ q1, q1 = w0.heap.size := ⟨_, rfl⟩
  obtain ⟨w1, hw1⟩ : ∃ w1, w1 = w0.alloc (.cells #[.int .i64 i, .int .i64 k] 26) := ⟨_, rfl⟩
  have s0 : Same w w0 := hw0 ▸ (Same.refl w).alloc _
  have s1 : Same w0 w1 := hw1 ▸ (Same.refl w0).alloc _
  have b0 : Blk w0 q0 25 #[.slice A n c, .slice B m d] := by rw [hw0, hq0]; exact Blk.new w _ _
  have b1 : Blk w1 q1 26 #[.int .i64 i, .int .i64 k] := by rw [hw1, hq1]; exact Blk.new w0 _ _
  have e1 : w.heap.size + 1 = q1 := by rw [hq1, hw0]; show _ = (w.heap.push _).size; rw [Array.size_push]
  have S0 := Lib.hid (s0.trans s1)
  have B0 := Lib.hid (b0.same s1)
  have B1 := Lib.hid b1
  have HE0 := Lib.hid hw0
  have HE1 := Lib.hid hw1
  have HQ0 := Lib.hid hq0
  have E1 := Lib.hid e1
  have HS := Lib.hid (hs.same S0.out)
  have HT := Lib.hid (hT.same S0.out)
  have WF := Lib.hid wf
  have FE := Lib.hid (Sy.few31 A B n c m d s 20 w1 (hs.same S0.out) hnm)
  obtain ⟨c0, c1⟩ := (⟨B0.out.cell 0, B0.out.cell 1⟩ : _ ∧ _)
  simp only [List.getElem?_toArray, List.getElem?_cons_zero, List.getElem?_cons_succ] at c0 c1
  clear hw0 hw1 hq0 hq1 s0 s1 b0 b1 e1 hs hT wf
  go_enter Tryz.func5, Tryz.ntmps5
  go_upto_region 1 with fail
  rw [E1.out, ← HQ0.out, ← HE0.out, ← HE1.out]
  clear HE0 HE1 HQ0 E1
  go_wp2_with fail
  refine FE.out.mono ?_
  rintro e wf ⟨⟨bf, rfl, hbf⟩, sf⟩
  have SF := Lib.hid sf
  have B0 := Lib.hid (B0.out.same sf)
  have B1 := Lib.hid (B1.out.same sf)
  have AW := Lib.hid (fun W (h : Same wf W) => awake37 W (HT.out.same (sf.trans h)))
  have HT := Lib.hid (HT.out.same sf)
  have HS := Lib.hid (HS.out.same sf)
  clear sf FE c0 c1
  cases bf with
  | false =>
    clear hbf
    go_wp2_with fail
    refine (AW.out _ (Same.refl _)).mono ?_
    rintro e w3 ⟨rfl, s3⟩
    go_wp2_with fail
    go_ret
    exact ⟨rfl, S0.out.trans (SF.out.trans s3)⟩
  | true =>
    obtain ⟨hft, hfo⟩ := hbf rfl
    have hf : ∀ p ∈ s.ts, p.code.length ≤ 200 := hft.2
    have ho := few_wid hfo (by omega)
    have hsl := WF.out.sl
    have WR := Lib.hid (fun W (h : Same wf W) => iwrites_any A B n c m d s i k r br W (HS.out.same h) hnm hf ho (HT.out.same h))
    have FL := Lib.hid (fun W (h : Same wf W) => ifails_any A B n c m d s i k r br hsl W (HS.out.same h) hnm hf ho (HT.out.same h))
    have JB := Lib.hid (fun W (h : Same wf W) => ijob_any A B n c m d s i r br hsl W (HS.out.same h) hnm hf ho (HT.out.same h))
    have RA := Lib.hid (fun (j : Int) W (h : Same wf W) => Ah.rahead_gen A n c s.ts j i W HS.out.hn (HS.out.ht.same h))
    have CL := Lib.hid (fun W (h : Same wf W) => Dm.clean36_any A B n c m d s i W (HS.out.same h) hf (HT.out.same h))
    have HW := Lib.hid (fun h : firstB s i n = true => wr_none (first_of (first_all (by rw [HS.out.hn]; exact firstB_all n h)) k) r)
    have HF := Lib.hid (fun h : firstB s i n = true => fl_none (first_of (first_all (by rw [HS.out.hn]; exact firstB_all n h)) k) r)
    have HJ := Lib.hid (fun (h : firstB s i n = true) (g : dearE s i 0 = 0) => job_first HS.out.ht (first_all (by rw [HS.out.hn]; exact firstB_all n h)) g r)
    have hnb : (n : Int) ≤ 9223372036854775807 := by have := hft.1; rw [HS.out.hn] at this; omega
    clear hbf hft hfo hf ho hsl
    generalize wrR (ofR s i k) r = x1 at *
    generalize flR (ofR s i k) r = x2 at *
    generalize jobI s i r = x3 at *
    generalize dearI s i 0 = dv at *
    generalize dearE s i 0 = de at *
    obtain ⟨c0, c1⟩ := (⟨B0.out.cell 0, B0.out.cell 1⟩ : _ ∧ _)
    simp only [List.getElem?_toArray, List.getElem?_cons_zero, List.getElem?_cons_succ] at c0 c1
    obtain ⟨e0, e1⟩ := (⟨B1.out.cell 0, B1.out.cell 1⟩ : _ ∧ _)
    simp only [List.getElem?_toArray, List.getElem?_cons_zero, List.getElem?_cons_succ] at e0 e1

    go_wp2_with fail
    go_quiet (fail)
    have SN := Lib.hid ((Same.refl wf).drewN nq)
    have c0 := SN.out.cell c0
    have c1 := SN.out.cell c1
    generalize wf.drewN nq = w3 at *
    clear e0 e1
    go_wp2_with fail
    go_loopg [24, 9] n (fun gk iv fv wx => ∃ j : Nat, j + gk = n ∧ iv = .int .i64 j ∧ fv = .bool (firstB s i j) ∧ Same w3 wx)
    case atStart => exact ⟨0, by omega, rfl, rfl, Same.refl _⟩
    case round =>
      obtain ⟨j, hk, rfl, rfl, sx⟩ := hrel
      have HSX := Lib.hid sx
      have c0 := sx.cell c0
      have c1 := sx.cell c1
      clear sx
      cases gk with
      | zero =>
        obtain rfl : j = n := by omega
        have hge : ¬ (j : Int) < (j : Int) := by omega
        have S4 := Lib.hid (SN.out.trans HSX.out)
        clear RA hk
        cases hfb : firstB s i j with
        | true =>
          have hx1 := HW.out hfb
          have hx2 := HF.out hfb
          have HJ := Lib.hid (HJ.out hfb)
          subst hx1 hx2
          clear hfb HW HF
          go_wp2_with fail
          refine (WR.out _ S4.out).mono ?_
          rintro e w5 ⟨rfl, s5⟩
          have S5 := Lib.hid (S4.out.trans s5)
          have c0 := s5.cell c0
          have c1 := s5.cell c1
          clear s5 WR
          go_wp2_with fail
          refine (FL.out _ S5.out).mono ?_
          rintro e w6 ⟨rfl, s6⟩
          have S6 := Lib.hid (S5.out.trans s6)
          have c0 := s6.cell c0
          have c1 := s6.cell c1
          clear s6 FL
          go_wp2_with fail
          refine (CL.out _ S6.out).mono ?_
          rintro e w7 ⟨rfl, s7⟩
          have S7 := Lib.hid (S6.out.trans s7)
          have c0 := s7.cell c0
          have c1 := s7.cell c1
          clear s7 CL
          by_cases he : de = 0
          · have hj := HJ.out he
            have ee : (de == 0) = true := by simpa using he
            have ej : (dv != dv) = false := by simp
            subst hj
            clear he HJ
            go_wp2_with fail
            refine (JB.out _ S7.out).mono ?_
            rintro e w8 ⟨rfl, s8⟩
            have S8 := Lib.hid (S7.out.trans s8)
            clear s8 JB
            go_wp2_with fail
            refine (AW.out _ S8.out).mono ?_
            rintro e w9 ⟨rfl, s9⟩
            go_wp2_with fail
            go_ret
            exact ⟨rfl, S0.out.trans (SF.out.trans (S8.out.trans s9))⟩
          · have ee : (de == 0) = false := by simpa using he
            clear he HJ
            go_wp2_with fail
            refine (AW.out _ S7.out).mono ?_
            rintro e w9 ⟨rfl, s9⟩
            go_wp2_with fail
            go_ret
            exact ⟨rfl, S0.out.trans (SF.out.trans (S7.out.trans s9))⟩
        | false =>
          clear hfb HW HF HJ
          go_wp2_with fail
          refine (CL.out _ S4.out).mono ?_
          rintro e w7 ⟨rfl, s7⟩
          have S7 := Lib.hid (S4.out.trans s7)
          have c0 := s7.cell c0
          have c1 := s7.cell c1
          clear s7 CL
          by_cases he : de = 0
          · have ee : (de == 0) = true := by simpa using he
            clear he
            go_wp2_with fail
            refine (AW.out _ S7.out).mono ?_
            rintro e w9 ⟨rfl, s9⟩
            go_wp2_with fail
            go_ret
            exact ⟨rfl, S0.out.trans (SF.out.trans (S7.out.trans s9))⟩
          · have ee : (de == 0) = false := by simpa using he
            clear he
            go_wp2_with fail
            refine (AW.out _ S7.out).mono ?_
            rintro e w9 ⟨rfl, s9⟩
            go_wp2_with fail
            go_ret
            exact ⟨rfl, S0.out.trans (SF.out.trans (S7.out.trans s9))⟩
      | succ GK =>
        have hlt : (j : Int) < n := by omega
        have HKK := Lib.hid hk
        have HE := Lib.hid (show firstB s i (j + 1) = (firstB s i j && !Ah.aheadI s.ts j i) from rfl)
        have S4 := Lib.hid (SN.out.trans HSX.out)
        clear hk
        cases hfb : firstB s i j with
        | false =>
          have HE := Lib.hid (show firstB s i (j + 1) = false by rw [HE.out, hfb]; rfl)
          clear hfb
          go_wp2_with fail
          go_roundg GK
          case rel => exact ⟨j + 1, by have := HKK.out; omega, by go_num, by rw [HE.out], HSX.out⟩
          case measure => omega
        | true =>
          have HE := Lib.hid (show firstB s i (j + 1) = !Ah.aheadI s.ts j i by rw [HE.out, hfb]; rfl)
          clear hfb
          go_wp2_with fail
          refine (RA.out _ _ S4.out).mono ?_
          rintro e w5 ⟨rfl, s5⟩
          have HSX := Lib.hid (HSX.out.trans s5)
          clear s5
          go_wp2_with fail
          go_roundg GK
          case rel => exact ⟨j + 1, by have := HKK.out; omega, by go_num, by rw [HE.out], HSX.out⟩
          case measure => omega
end Go.Proofs.YthhbhbfkbncegaaGreatDoor.Sl
end
end
