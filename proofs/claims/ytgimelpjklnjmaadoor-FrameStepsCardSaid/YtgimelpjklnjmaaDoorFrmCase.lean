/-

  Layer 13: a case that came in; whether it is small.
-/
import Derived.Test.YtgimelpjklnjmaaDoorFlat
import Derived.Test.YtgimelpjklnjmaaDoorFrmAwake
section
set_option linter.unusedSimpArgs false
set_option linter.unusedVariables false
namespace Go.Proofs.YtgimelpjklnjmaaDoor.Oa
open Go.RowKit Go.ChangeShapes Go.WideShapes Ws Fl

/-- the type of the whole number, or slice, that stands at a place of a type -/
def leafAt (P : Program) : Nat → TypeId → Nat → Option TypeId
  | 0, _, _ => none
  | n + 1, t, i =>
    match P.underlying t with
    | some (.int _) => if i = 0 then some t else none
    | some (.slice _) => if i = 0 then some t else none
    | some (.struct fs) =>
      ((List.range fs.size).filterMap fun j =>
        match fs[j]? with
        | some f => if f.offset ≤ i ∧ i < f.offset + P.cellsOf f.type then leafAt P n f.type (i - f.offset) else none
        | none => none).head?
    | some (.array m e) => if P.cellsOf e = 0 then none else if i / P.cellsOf e < m then leafAt P n e (i % P.cellsOf e) else none
    | _ => none

section
variable {H : Type} {enc : TypeId × Value → H} {P : Program} {w : World} {base : Nat} {sp : Nat → Bool} {held : Bool}

theorem leaf_at : ∀ (n fuel : Nat) (t : TypeId) (cs : List Value) (x : DataW H × List MemPlace) (i : Nat) (u : TypeId),
      DataW.trod enc P w base sp held fuel t cs = some x → leafAt P n t i = some u → ∃ v m y, cs[i]? = some v ∧ DataW.trod enc P w base sp held m u [v] = some y := by
  intro n
  induction n with
  | zero => intro fuel t cs x i u _ h; simp [leafAt] at h
  | succ n ih =>
    intro fuel t cs x i u ht h
    unfold leafAt at h
    split at h
    · rename_i k' hu
      obtain ⟨z', rfl, _, hw⟩ := DataW.trod_int hu ht
      split at h
      · rename_i hc
        subst hc
        injection h with h
        subst h
        exact ⟨_, fuel, x, rfl, ht⟩
      · cases h
    · rename_i e hu
      split at h
      · rename_i hc
        subst hc
        injection h with h
        subst h
        rcases DataW.trod_slice hu ht with ⟨hcs, _⟩ | ⟨a, l, c, elems, rest, m, _, hcs, _⟩
        · subst hcs
          exact ⟨_, fuel, x, rfl, ht⟩
        · subst hcs
          exact ⟨_, fuel, x, rfl, ht⟩
      · cases h
    · rename_i fs hu
      obtain ⟨xs, m, rfl, hx, hl, hxl, hall⟩ := DataW.trod_struct hu ht
      obtain ⟨j, _, hj⟩ := List.mem_filterMap.1 (List.mem_of_mem_head? (Option.mem_def.2 h))
      split at hj
      · rename_i f hf
        split at hj
        · rename_i hb
          have hi := hall j f hf
          have hjl : j < xs.length := by
            rw [hxl]
            rcases Nat.lt_or_ge j fs.size with hlt | hge
            · exact hlt
            · rw [Array.getElem?_eq_none hge] at hf
              cases hf
          rw [List.getElem?_eq_getElem hjl] at hi
          obtain ⟨z, m', y, hz, hw⟩ := ih m f.type _ _ _ u hi hj
          exact ⟨z, m', y, Fl.part hb.1 hb.2 hz, hw⟩
        · cases hj
      · cases hj
    · rename_i m0 e hu
      obtain ⟨xs, m, rfl, hx, hl, hxl, hall⟩ := DataW.trod_array hu ht
      split at h
      · cases h
      · rename_i hc
        split at h
        · rename_i hlt
          have hi := hall _ hlt
          have hxl2 : i / P.cellsOf e < xs.length := by omega
          rw [List.getElem?_eq_getElem hxl2] at hi
          have hpos : 0 < P.cellsOf e := by omega
          have hdm : i / P.cellsOf e * P.cellsOf e + i % P.cellsOf e = i := by rw [Nat.mul_comm]; exact Nat.div_add_mod i (P.cellsOf e)
          have hmod := Nat.mod_lt i hpos
          obtain ⟨z, m', y, hz, hw⟩ := ih m e _ _ _ u hi h
          obtain ⟨q, hq1⟩ : ∃ q, q = i / P.cellsOf e * P.cellsOf e := ⟨_, rfl⟩
          rw [← hq1] at hdm hz
          rw [show i % P.cellsOf e = i - q by omega] at hz
          exact ⟨z, m', y, Fl.part (o := q) (c := P.cellsOf e) (by omega) (by omega) hz, hw⟩
        · cases h
    · cases h

/-- at a place of a struct stands a whole number -/
theorem int_leaf {n fuel : Nat} {t u : TypeId} {cs : List Value} {x : DataW H × List MemPlace} {i : Nat} {k : IntKind} (h : DataW.trod enc P w base sp held fuel t cs = some x) (hl : leafAt P n t i = some u) (hu : P.underlying u = some (.int k)) :
    ∃ z, cs[i]? = some (.int k z) ∧ (Lit.int k z).wf = true := by
  obtain ⟨v, m, y, hv, hy⟩ := leaf_at n fuel t cs x i u h hl
  obtain ⟨z, hz, _, hw⟩ := DataW.trod_int hu hy
  injection hz with hz
  subst hz
  exact ⟨z, hv, hw⟩
/-- at a place of a struct stands a slice -/
theorem slice_leaf {n fuel : Nat} {t u e : TypeId} {cs : List Value} {x : DataW H × List MemPlace} {i : Nat} (h : DataW.trod enc P w base sp held fuel t cs = some x) (hl : leafAt P n t i = some u) (hu : P.underlying u = some (.slice e)) :
    ∃ A len cap d p, cs[i]? = some (.slice A len cap) ∧ DataW.Trod enc P w base sp held u (.slice A len cap) d p := by
  obtain ⟨v, m, y, hv, hy⟩ := leaf_at n fuel t cs x i u h hl
  rcases DataW.trod_slice hu hy with ⟨hcs, _⟩ | ⟨a, l, c, elems, rest, m', _, hcs, _⟩
  · injection hcs with hcs
    subst hcs
    exact ⟨_, _, _, y.1, y.2, hv, m, by simpa [Value.cells] using hy⟩
  · injection hcs with hcs
    subst hcs
    exact ⟨_, _, _, y.1, y.2, hv, m, by simpa [Value.cells] using hy⟩
end

end Go.Proofs.YtgimelpjklnjmaaDoor.Oa
end
section
set_option linter.unusedVariables false
set_option linter.unusedSimpArgs false
namespace Go.Proofs.YtgimelpjklnjmaaDoor.Fr
open Go.ChangeShapes Go.WideShapes Go.ChangeAt Go.RowKit Ws
open Go.Proofs.YtgimelpjklnjmaaDoor.Fp (Ins at_ Fine at_some)
open Go.Proofs.YtgimelpjklnjmaaDoor.Fw (Prg okB ckE check_any okB_fine rightI)
open Go.Proofs.YtgimelpjklnjmaaDoor.Is (Tabs)

theorem nats_of : ∀ {l : List Int}, (∀ x ∈ l, (Lit.int .u32 x).wf = true) → ∃ ws : List Nat, l = cst ws ∧ ∀ x ∈ ws, x < 4294967296
  | [], _ => ⟨[], rfl, fun x h => by cases h⟩
  | a :: l, h => by
    obtain ⟨ws, h1, h2⟩ := nats_of (fun x hx => h x (List.mem_cons_of_mem a hx))
    obtain ⟨n, hn, hb⟩ := Al.nat_of (h a (List.mem_cons_self ..))
    exact ⟨n :: ws, by subst h1 hn; rfl, fun x hx => by
      rcases List.mem_cons.1 hx with hx | hx
      · rw [hx]; exact hb
      · exact h2 x hx⟩
set_option maxRecDepth 100000 in
theorem case_of {H : Type} {enc : TypeId × Value → H} {w : World} {base : Nat} {sp : Nat → Bool} {held : Bool} {r : Reach} {b0 : Nat} {v : Value} {d : DataW H} {p : List MemPlace}
    (hv : Value.okWide Tryd.prog w r b0 57 v) (h : DataW.Trod enc Tryd.prog w base sp held 57 v d p) :
    ∃ (f : FS) (T : Option Addr) (nT cT : Nat) (A : Option Addr) (m cA : Nat) (L : Option Addr) (nL cL : Nat) (oa ol : Int) (ws : List Nat) (p : List Ins), v = .agg #[.int .i64 f.pc, .int .u32 (rk f 0), .int .u32 (rk f 1), .int .u32 (rk f 2), .int .u32 (rk f 3), .int .u32 (rk f 4), .int .u32 (rk f 5), .int .u32 (rk f 6), .int .u32 (rk f 7), .slice T nT cT, .slice A m cA, .slice L nL cL, .int .i64 oa, .int .i64 ol] ∧
      Row w T (f.tn.map (Value.int .i64)) ∧ f.tn.length = nT ∧ Prg w A p ∧ p.length = m ∧ Row w L ((cst ws).map (Value.int .u32)) ∧ ws.length = nL ∧ f.rg.length = 8 ∧ (∀ x ∈ f.rg, x < 4294967296) ∧ (∀ x ∈ ws, x < 4294967296) := by
  obtain ⟨cs, rfl, hsz⟩ := okWide_struct Tryd.underlying57 hv
  obtain ⟨fuel, hf⟩ := h
  have hc : (Value.agg cs).cells.toList = cs.toList := by simp [Value.cells]
  rw [hc] at hf
  obtain ⟨l⟩ := cs
  have h14 : l.length = 14 := by
    have := hsz.trans (show Tryd.prog.cellsOf 57 = 14 by kernel_rfl)
    simpa using this
  match l, h14 with
  | [c0, c1, c2, c3, c4, c5, c6, c7, c8, c9, c10, c11, c12, c13], _ =>
    obtain ⟨x0, e0, b0⟩ := Oa.int_leaf hf (show Oa.leafAt Tryd.prog 8 57 0 = some 3 by kernel_rfl) Tryd.underlying3
    obtain ⟨r1, e1, b1⟩ := Oa.int_leaf hf (show Oa.leafAt Tryd.prog 8 57 1 = some 50 by kernel_rfl) Tryd.underlying50
    obtain ⟨r2, e2, b2⟩ := Oa.int_leaf hf (show Oa.leafAt Tryd.prog 8 57 2 = some 50 by kernel_rfl) Tryd.underlying50
    obtain ⟨r3, e3, b3⟩ := Oa.int_leaf hf (show Oa.leafAt Tryd.prog 8 57 3 = some 50 by kernel_rfl) Tryd.underlying50
    obtain ⟨r4, e4, b4⟩ := Oa.int_leaf hf (show Oa.leafAt Tryd.prog 8 57 4 = some 50 by kernel_rfl) Tryd.underlying50
    obtain ⟨r5, e5, b5⟩ := Oa.int_leaf hf (show Oa.leafAt Tryd.prog 8 57 5 = some 50 by kernel_rfl) Tryd.underlying50
    obtain ⟨r6, e6, b6⟩ := Oa.int_leaf hf (show Oa.leafAt Tryd.prog 8 57 6 = some 50 by kernel_rfl) Tryd.underlying50
    obtain ⟨r7, e7, b7⟩ := Oa.int_leaf hf (show Oa.leafAt Tryd.prog 8 57 7 = some 50 by kernel_rfl) Tryd.underlying50
    obtain ⟨r8, e8, b8⟩ := Oa.int_leaf hf (show Oa.leafAt Tryd.prog 8 57 8 = some 50 by kernel_rfl) Tryd.underlying50
    obtain ⟨T, nT, cT, d9, p9, e9, t9⟩ := Oa.slice_leaf hf (show Oa.leafAt Tryd.prog 8 57 9 = some 31 by kernel_rfl) Tryd.underlying31
    obtain ⟨A, m, cA, d10, p10, e10, t10⟩ := Oa.slice_leaf hf (show Oa.leafAt Tryd.prog 8 57 10 = some 29 by kernel_rfl) Tryd.underlying29
    obtain ⟨L, nL, cL, d11, p11, e11, t11⟩ := Oa.slice_leaf hf (show Oa.leafAt Tryd.prog 8 57 11 = some 22 by kernel_rfl) Tryd.underlying22
    obtain ⟨x12, e12, b12⟩ := Oa.int_leaf hf (show Oa.leafAt Tryd.prog 8 57 12 = some 3 by kernel_rfl) Tryd.underlying3
    obtain ⟨x13, e13, b13⟩ := Oa.int_leaf hf (show Oa.leafAt Tryd.prog 8 57 13 = some 3 by kernel_rfl) Tryd.underlying3
    simp at e0 e1 e2 e3 e4 e5 e6 e7 e8 e9 e10 e11 e12 e13
    subst e0 e1 e2 e3 e4 e5 e6 e7 e8 e9 e10 e11 e12 e13
    obtain ⟨tn, hl, hrow, _, _⟩ := Fl.ints_of Tryd.underlying31 Tryd.underlying3 (by kernel_rfl) t9
    obtain ⟨rows, hp, hpl, _⟩ := Fl.rows_of Tryd.underlying29 (show Fl.kinds Tryd.prog 6 94 = some [.i64, .i64, .i64, .i64, .u32] by kernel_rfl) (by decide) t10
    obtain ⟨pr, hpr, hprg⟩ := Fw.prg_in hp
    obtain ⟨ls, hl2, hrow2, hwf2, _⟩ := Fl.ints_of Tryd.underlying22 Tryd.underlying50 (by kernel_rfl) t11
    obtain ⟨ws, rfl, hwb⟩ := nats_of hwf2
    obtain ⟨n1, rfl, q1⟩ := Al.nat_of b1
    obtain ⟨n2, rfl, q2⟩ := Al.nat_of b2
    obtain ⟨n3, rfl, q3⟩ := Al.nat_of b3
    obtain ⟨n4, rfl, q4⟩ := Al.nat_of b4
    obtain ⟨n5, rfl, q5⟩ := Al.nat_of b5
    obtain ⟨n6, rfl, q6⟩ := Al.nat_of b6
    obtain ⟨n7, rfl, q7⟩ := Al.nat_of b7
    obtain ⟨n8, rfl, q8⟩ := Al.nat_of b8
    refine ⟨⟨x0, [n1, n2, n3, n4, n5, n6, n7, n8], tn⟩, T, nT, cT, A, m, cA, L, nL, cL, x12, x13, ws, pr, rfl, hrow, hl, hprg, by rw [hpr]; exact hpl, hrow2, by rw [← cst_len]; exact hl2, rfl, fun x hx => ?_, hwb⟩
    simp only [List.mem_cons, List.not_mem_nil, or_false] at hx
    rcases hx with rfl | rfl | rfl | rfl | rfl | rfl | rfl | rfl <;> assumption
def lightB (m nL nT : Nat) : Bool := decide ((m : Int) ≤ 200 ∧ (nL : Int) ≤ 300 ∧ (nT : Int) ≤ 200)
theorem light_any (f : FS) (T : Option Addr) (nT cT : Nat) (A : Option Addr) (m cA : Nat) (L : Option Addr) (nL cL : Nat) (oa ol : Int) (w : World) :
    Calls Tryd.prog 28 #[.agg #[.int .i64 f.pc, .int .u32 (rk f 0), .int .u32 (rk f 1), .int .u32 (rk f 2), .int .u32 (rk f 3), .int .u32 (rk f 4), .int .u32 (rk f 5), .int .u32 (rk f 6), .int .u32 (rk f 7), .slice T nT cT, .slice A m cA, .slice L nL cL, .int .i64 oa, .int .i64 ol]] w fun e w' => e = .returned (.bool (lightB m nL nT)) ∧ Same w w' := by
  by_cases h1 : (m : Int) ≤ 200
  · by_cases h2 : (nL : Int) ≤ 300
    · by_cases h3 : (nT : Int) ≤ 200
      · have hb : lightB m nL nT = true := decide_eq_true ⟨h1, h2, h3⟩
        rw [hb]
        clear hb
        go_enter Tryd.func28, Tryd.ntmps28
        go_wp2
        go_ret
        exact ⟨rfl, (Same.refl _).alloc _⟩
      · have hb : lightB m nL nT = false := decide_eq_false (fun h => h3 h.2.2)
        rw [hb]
        clear hb
        go_enter Tryd.func28, Tryd.ntmps28
        go_wp2
        go_ret
        exact ⟨rfl, (Same.refl _).alloc _⟩
    · have hb : lightB m nL nT = false := decide_eq_false (fun h => h2 h.2.1)
      rw [hb]
      clear hb
      go_enter Tryd.func28, Tryd.ntmps28
      go_wp2
      go_ret
      exact ⟨rfl, (Same.refl _).alloc _⟩
  · have hb : lightB m nL nT = false := decide_eq_false (fun h => h1 h.1)
    rw [hb]
    clear hb
    go_enter Tryd.func28, Tryd.ntmps28
    go_wp2
    go_ret
    exact ⟨rfl, (Same.refl _).alloc _⟩
end Go.Proofs.YtgimelpjklnjmaaDoor.Fr
end
