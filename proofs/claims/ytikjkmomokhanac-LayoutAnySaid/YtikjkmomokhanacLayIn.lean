/-

  A layout that came in.
-/
import Derived.Test.YtikjkmomokhanacLayHas
set_option linter.unusedVariables false
set_option linter.unusedSimpArgs false
namespace Go.Proofs.Ytikjkmomokhanac.Ly
open Go.ChangeShapes Go.WideShapes Go.ChangeAt Go.RowKit Ws

theorem regs_in {w : World} {A : Option Addr} {rows : List (List Int)} (h : Fl.Rows w A [.i64, .i64] rows) : Regs w A (rows.map fun r => (r.getD 0 0, r.getD 1 0)) := by
  intro k r hr
  rw [List.getElem?_map] at hr
  cases hk : rows[k]? with
  | none => rw [hk] at hr; simp at hr
  | some s =>
    rw [hk] at hr
    injection hr with hr
    obtain ⟨hf, b, o, hA, hc⟩ := h k s hk
    have hlen : s.length = 2 := hf.1
    match s, hlen with
    | [a, e], _ =>
      subst hr
      exact ⟨b, o, hA, hc 0 _ rfl, hc 1 _ rfl⟩
set_option maxRecDepth 100000 in
theorem layout_of {H : Type} {enc : TypeId × Value → H} {w : World} {base : Nat} {sp : Nat → Bool} {held : Bool} {r : Reach} {b0 : Nat} {v : Value} {d : DataW H} {p : List MemPlace}
    (hv : Value.okWide Try.prog w r b0 24 v) (h : DataW.Trod enc Try.prog w base sp held 24 v d p) :
    ∃ (A B : Option Addr) (n c m d : Nat) (z : Int) (l q : List (Int × Int)), v = .agg #[.slice A n c, .slice B m d, .int .i64 z] ∧ l.length = n ∧ q.length = m ∧ Regs w A l ∧ Regs w B q := by
  obtain ⟨cs, rfl, hsz⟩ := okWide_struct Try.underlying24 hv
  obtain ⟨fuel, hf⟩ := h
  have hc : (Value.agg cs).cells.toList = cs.toList := by simp [Value.cells]
  rw [hc] at hf
  obtain ⟨l⟩ := cs
  have h3 : l.length = 3 := by
    have := hsz.trans (show Try.prog.cellsOf 24 = 3 by kernel_rfl)
    simpa using this
  match l, h3 with
  | [c0, c1, c2], _ =>
    obtain ⟨A, n, c, d0, p0, e0, t0⟩ := On.slice_leaf hf (show On.leafAt Try.prog 6 24 0 = some 22 by kernel_rfl) Try.underlying22
    obtain ⟨B, m, c', d1, p1, e1, t1⟩ := On.slice_leaf hf (show On.leafAt Try.prog 6 24 1 = some 22 by kernel_rfl) Try.underlying22
    obtain ⟨z, e2, _⟩ := On.int_leaf hf (show On.leafAt Try.prog 6 24 2 = some 3 by kernel_rfl) Try.underlying3
    simp at e0 e1 e2
    subst e0 e1 e2
    obtain ⟨r0, w0, l0, _⟩ := Fl.rows_of Try.underlying22 (show Fl.kinds Try.prog 6 29 = some [.i64, .i64] by kernel_rfl) (by decide) t0
    obtain ⟨r1, w1, l1, _⟩ := Fl.rows_of Try.underlying22 (show Fl.kinds Try.prog 6 29 = some [.i64, .i64] by kernel_rfl) (by decide) t1
    exact ⟨A, B, n, c, m, c', z, _, _, rfl, by rw [List.length_map]; exact l0, by rw [List.length_map]; exact l1, regs_in w0, regs_in w1⟩

end Go.Proofs.Ytikjkmomokhanac.Ly
