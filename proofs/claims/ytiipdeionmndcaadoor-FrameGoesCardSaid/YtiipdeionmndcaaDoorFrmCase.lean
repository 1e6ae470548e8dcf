/-

  Layer 13: a case that came in; whether it is small.
-/
import Derived.Test.YtiipdeionmndcaaDoorFrmAwake
import Derived.Test.YtiipdeionmndcaaDoorOpenA
import Derived.Test.YtiipdeionmndcaaDoorFlowChecks
set_option linter.unusedVariables false
set_option linter.unusedSimpArgs false
namespace Go.Proofs.YtiipdeionmndcaaDoor.Fr
open Go.ChangeShapes Go.WideShapes Go.ChangeAt Go.RowKit Ws
open Go.Proofs.YtiipdeionmndcaaDoor.Fp (Ins at_ Fine at_some)
open Go.Proofs.YtiipdeionmndcaaDoor.Fw (Prg okB ckE check_any okB_fine rightI)
open Go.Proofs.YtiipdeionmndcaaDoor.Is (Tabs)

theorem nats_of : ∀ {l : List Int}, (∀ x ∈ l, (Lit.int .u32 x).wf = true) → ∃ ws : List Nat, l = cst ws ∧ ∀ x ∈ ws, x < 4294967296
  | [], _ => ⟨[], rfl, fun x h => by cases h⟩
  | a :: l, h => by
    obtain ⟨ws, h1, h2⟩ := nats_of (fun x hx => h x (List.mem_cons_of_mem a hx))
    obtain ⟨n, hn, hb⟩ := Al.nat_of (h a (List.mem_cons_self ..))
    exact ⟨n :: ws, by subst h1 hn; rfl, fun x hx => by
      rcases List.mem_cons.1 hx with hx | hx
      · rw [hx]; exact hb
      · exact h2 x hx⟩
set_option maxRecDepth 100000 in
theorem case_of {H : Type} {enc : TypeId × Value → H} {w : World} {base : Nat} {sp : Nat → Bool} {held : Bool} {r : Reach} {b0 : Nat} {v : Value} {d : DataW H} {p : List MemPlace}
    (hv : Value.okWide Tryd.prog w r b0 49 v) (h : DataW.Trod enc Tryd.prog w base sp held 49 v d p) :
    ∃ (f : FS) (T : Option Addr) (nT cT : Nat) (A : Option Addr) (m cA : Nat) (L : Option Addr) (nL cL : Nat) (oa ol : Int) (ws : List Nat) (p : List Ins), v = .agg #[.int .i64 f.pc, .int .u32 (rk f 0), .int .u32 (rk f 1), .int .u32 (rk f 2), .int .u32 (rk f 3), .int .u32 (rk f 4), .int .u32 (rk f 5), .int .u32 (rk f 6), .int .u32 (rk f 7), .slice T nT cT, .slice A m cA, .slice L nL cL, .int .i64 oa, .int .i64 ol] ∧
      Row w T (f.tn.map (Value.int .i64)) ∧ f.tn.length = nT ∧ Prg w A p ∧ p.length = m ∧ Row w L ((cst ws).map (Value.int .u32)) ∧ ws.length = nL ∧ f.rg.length = 8 ∧ (∀ x ∈ f.rg, x < 4294967296) ∧ (∀ x ∈ ws, x < 4294967296) := by
  obtain ⟨cs, rfl, hsz⟩ := okWide_struct Tryd.underlying49 hv
  obtain ⟨fuel, hf⟩ := h
  have hc : (Value.agg cs).cells.toList = cs.toList := by simp [Value.cells]
  rw [hc] at hf
  obtain ⟨l⟩ := cs
  have h14 : l.length = 14 := by
    have := hsz.trans (show Tryd.prog.cellsOf 49 = 14 by kernel_rfl)
    simpa using this
  match l, h14 with
  | [c0, c1, c2, c3, c4, c5, c6, c7, c8, c9, c10, c11, c12, c13], _ =>
    obtain ⟨x0, e0, b0⟩ := Oa.int_leaf hf (show Oa.leafAt Tryd.prog 8 49 0 = some 3 by kernel_rfl) Tryd.underlying3
    obtain ⟨r1, e1, b1⟩ := Oa.int_leaf hf (show Oa.leafAt Tryd.prog 8 49 1 = some 41 by kernel_rfl) Tryd.underlying41
    obtain ⟨r2, e2, b2⟩ := Oa.int_leaf hf (show Oa.leafAt Tryd.prog 8 49 2 = some 41 by kernel_rfl) Tryd.underlying41
    obtain ⟨r3, e3, b3⟩ := Oa.int_leaf hf (show Oa.leafAt Tryd.prog 8 49 3 = some 41 by kernel_rfl) Tryd.underlying41
    obtain ⟨r4, e4, b4⟩ := Oa.int_leaf hf (show Oa.leafAt Tryd.prog 8 49 4 = some 41 by kernel_rfl) Tryd.underlying41
    obtain ⟨r5, e5, b5⟩ := Oa.int_leaf hf (show Oa.leafAt Tryd.prog 8 49 5 = some 41 by kernel_rfl) Tryd.underlying41
    obtain ⟨r6, e6, b6⟩ := Oa.int_leaf hf (show Oa.leafAt Tryd.prog 8 49 6 = some 41 by kernel_rfl) Tryd.underlying41
    obtain ⟨r7, e7, b7⟩ := Oa.int_leaf hf (show Oa.leafAt Tryd.prog 8 49 7 = some 41 by kernel_rfl) Tryd.underlying41
    obtain ⟨r8, e8, b8⟩ := Oa.int_leaf hf (show Oa.leafAt Tryd.prog 8 49 8 = some 41 by kernel_rfl) Tryd.underlying41
    obtain ⟨T, nT, cT, d9, p9, e9, t9⟩ := Oa.slice_leaf hf (show Oa.leafAt Tryd.prog 8 49 9 = some 23 by kernel_rfl) Tryd.underlying23
    obtain ⟨A, m, cA, d10, p10, e10, t10⟩ := Oa.slice_leaf hf (show Oa.leafAt Tryd.prog 8 49 10 = some 22 by kernel_rfl) Tryd.underlying22
    obtain ⟨L, nL, cL, d11, p11, e11, t11⟩ := Oa.slice_leaf hf (show Oa.leafAt Tryd.prog 8 49 11 = some 45 by kernel_rfl) Tryd.underlying45
    obtain ⟨x12, e12, b12⟩ := Oa.int_leaf hf (show Oa.leafAt Tryd.prog 8 49 12 = some 3 by kernel_rfl) Tryd.underlying3
    obtain ⟨x13, e13, b13⟩ := Oa.int_leaf hf (show Oa.leafAt Tryd.prog 8 49 13 = some 3 by kernel_rfl) Tryd.underlying3
    simp at e0 e1 e2 e3 e4 e5 e6 e7 e8 e9 e10 e11 e12 e13
    subst e0 e1 e2 e3 e4 e5 e6 e7 e8 e9 e10 e11 e12 e13
    obtain ⟨tn, hl, hrow, _, _⟩ := Fl.ints_of Tryd.underlying23 Tryd.underlying3 (by kernel_rfl) t9
    obtain ⟨rows, hp, hpl, _⟩ := Fl.rows_of Tryd.underlying22 (show Fl.kinds Tryd.prog 6 67 = some [.i64, .i64, .i64, .i64, .u32] by kernel_rfl) (by decide) t10
    obtain ⟨pr, hpr, hprg⟩ := Fw.prg_in hp
    obtain ⟨ls, hl2, hrow2, hwf2, _⟩ := Fl.ints_of Tryd.underlying45 Tryd.underlying41 (by kernel_rfl) t11
    obtain ⟨ws, rfl, hwb⟩ := nats_of hwf2
    obtain ⟨n1, rfl, q1⟩ := Al.nat_of b1
    obtain ⟨n2, rfl, q2⟩ := Al.nat_of b2
    obtain ⟨n3, rfl, q3⟩ := Al.nat_of b3
    obtain ⟨n4, rfl, q4⟩ := Al.nat_of b4
    obtain ⟨n5, rfl, q5⟩ := Al.nat_of b5
    obtain ⟨n6, rfl, q6⟩ := Al.nat_of b6
    obtain ⟨n7, rfl, q7⟩ := Al.nat_of b7
    obtain ⟨n8, rfl, q8⟩ := Al.nat_of b8
    refine ⟨⟨x0, [n1, n2, n3, n4, n5, n6, n7, n8], tn⟩, T, nT, cT, A, m, cA, L, nL, cL, x12, x13, ws, pr, rfl, hrow, hl, hprg, by rw [hpr]; exact hpl, hrow2, by rw [← cst_len]; exact hl2, rfl, fun x hx => ?_, hwb⟩
    simp only [List.mem_cons, List.not_mem_nil, or_false] at hx
    rcases hx with rfl | rfl | rfl | rfl | rfl | rfl | rfl | rfl <;> assumption
def lightB (m nL nT : Nat) : Bool := decide ((m : Int) ≤ 200 ∧ (nL : Int) ≤ 300 ∧ (nT : Int) ≤ 200)
theorem light_any (f : FS) (T : Option Addr) (nT cT : Nat) (A : Option Addr) (m cA : Nat) (L : Option Addr) (nL cL : Nat) (oa ol : Int) (w : World) :
    Calls Tryd.prog 17 #[.agg #[.int .i64 f.pc, .int .u32 (rk f 0), .int .u32 (rk f 1), .int .u32 (rk f 2), .int .u32 (rk f 3), .int .u32 (rk f 4), .int .u32 (rk f 5), .int .u32 (rk f 6), .int .u32 (rk f 7), .slice T nT cT, .slice A m cA, .slice L nL cL, .int .i64 oa, .int .i64 ol]] w fun e w' => e = .returned (.bool (lightB m nL nT)) ∧ Same w w' := by
  by_cases h1 : (m : Int) ≤ 200
  · by_cases h2 : (nL : Int) ≤ 300
    · by_cases h3 : (nT : Int) ≤ 200
      · have hb : lightB m nL nT = true := decide_eq_true ⟨h1, h2, h3⟩
        rw [hb]
        clear hb
        go_enter Tryd.func17, Tryd.ntmps17
        go_wp2
        go_ret
        exact ⟨rfl, (Same.refl _).alloc _⟩
      · have hb : lightB m nL nT = false := decide_eq_false (fun h => h3 h.2.2)
        rw [hb]
        clear hb
        go_enter Tryd.func17, Tryd.ntmps17
        go_wp2
        go_ret
        exact ⟨rfl, (Same.refl _).alloc _⟩
    · have hb : lightB m nL nT = false := decide_eq_false (fun h => h2 h.2.1)
      rw [hb]
      clear hb
      go_enter Tryd.func17, Tryd.ntmps17
      go_wp2
      go_ret
      exact ⟨rfl, (Same.refl _).alloc _⟩
  · have hb : lightB m nL nT = false := decide_eq_false (fun h => h1 h.1)
    rw [hb]
    clear hb
    go_enter Tryd.func17, Tryd.ntmps17
    go_wp2
    go_ret
    exact ⟨rfl, (Same.refl _).alloc _⟩
end Go.Proofs.YtiipdeionmndcaaDoor.Fr
