/-

  An object that came in, by value; and the walk of ChenShapes, whatever the object is.
-/
import Derived.Test.YtdepogopepjonaaDoorChenYes
import Derived.Test.YtdepogopepjonaaDoorOpen
set_option linter.unusedSimpArgs false
set_option linter.unusedVariables false
namespace Go.Proofs.YtdepogopepjonaaDoor.Ch
open Go.ChangeShapes Go.WideShapes Go.ChangeAt Go.RowKit Ws Mm Pa

set_option maxRecDepth 100000 in
theorem object_of {H : Type} {enc : TypeId × Value → H} {w : World} {base : Nat} {sp : Nat → Bool} {held : Bool} {r : Reach} {b0 : Nat} {v : Value} {d : DataW H} {p : List MemPlace}
    (hv : Value.okWide Tryd.prog w r b0 26 v) (h : DataW.Trod enc Tryd.prog w base sp held 26 v d p) :
    ∃ (k wd sl cp sa ow : Int) (ia ra : Option Addr) (il ic rl rc : Nat) (init : List Int), v = .agg #[.int .i64 k, .int .i64 wd, .int .i64 sl, .int .i64 cp, .int .u32 sa, .slice ia il ic, .int .i64 ow, .slice ra rl rc] ∧ init.length = il ∧ Row w ia (init.map (Value.int .u32)) ∧ (0 ≤ sa ∧ sa < 4294967296) := by
  obtain ⟨cs, rfl, hsz⟩ := okWide_struct Tryd.underlying26 hv
  obtain ⟨fuel, hf⟩ := h
  have hc : (Value.agg cs).cells.toList = cs.toList := by simp [Value.cells]
  rw [hc] at hf
  obtain ⟨l⟩ := cs
  have h8 : l.length = 8 := by
    have := hsz.trans (show Tryd.prog.cellsOf 26 = 8 by kernel_rfl)
    simpa using this
  match l, h8 with
  | [c0, c1, c2, c3, c4, c5, c6, c7], _ =>
    obtain ⟨k, e0, _⟩ := On.int_leaf hf (show On.leafAt Tryd.prog 6 26 0 = some 3 by kernel_rfl) Tryd.underlying3
    obtain ⟨wd, e1, _⟩ := On.int_leaf hf (show On.leafAt Tryd.prog 6 26 1 = some 3 by kernel_rfl) Tryd.underlying3
    obtain ⟨sl, e2, _⟩ := On.int_leaf hf (show On.leafAt Tryd.prog 6 26 2 = some 3 by kernel_rfl) Tryd.underlying3
    obtain ⟨cp, e3, _⟩ := On.int_leaf hf (show On.leafAt Tryd.prog 6 26 3 = some 3 by kernel_rfl) Tryd.underlying3
    obtain ⟨sa, e4, b4⟩ := On.int_leaf hf (show On.leafAt Tryd.prog 6 26 4 = some 22 by kernel_rfl) Tryd.underlying22
    obtain ⟨ia, il, ic, d5, p5, e5, t5⟩ := On.slice_leaf hf (show On.leafAt Tryd.prog 6 26 5 = some 23 by kernel_rfl) Tryd.underlying23
    obtain ⟨ow, e6, _⟩ := On.int_leaf hf (show On.leafAt Tryd.prog 6 26 6 = some 3 by kernel_rfl) Tryd.underlying3
    obtain ⟨ra, rl, rc, d7, p7, e7, t7⟩ := On.slice_leaf hf (show On.leafAt Tryd.prog 6 26 7 = some 24 by kernel_rfl) Tryd.underlying24
    simp at e0 e1 e2 e3 e4 e5 e6 e7
    subst e0 e1 e2 e3 e4 e5 e6 e7
    obtain ⟨init, hl, hrow, _⟩ := Fl.ints_of Tryd.underlying23 Tryd.underlying22 (by kernel_rfl) t5
    exact ⟨k, wd, sl, cp, sa, ow, ia, ra, il, ic, rl, rc, init, rfl, hl, hrow, Fl.u32_bd b4⟩

theorem shapes_any (k wd sl cp sa ow : Int) (ia ra : Option Addr) (il ic rl rc : Nat) (init : List Int) (op : Int) (w : World) (hl : init.length = il) (hi : Row w ia (init.map (Value.int .u32))) (hsa : 0 ≤ sa ∧ sa < 4294967296 := by assumption) (hT : TZ w := by assumption) :
    Calls Tryd.prog 3 #[.agg #[.int .i64 k, .int .i64 wd, .int .i64 sl, .int .i64 cp, .int .u32 sa, .slice ia il ic, .int .i64 ow, .slice ra rl rc], .int .i64 op] w fun e w' => e = .returned (.bool true) ∧ Same w w' := by
  cases hsm : decide ((il : Int) ≤ 100 ∧ (rl : Int) ≤ 100)
  · exact shapes_big k wd sl cp sa ow ia ra il ic rl rc op w hsm
  · by_cases hk : k = 2
    · subst hk
      cases hr : rightB wd sl cp sa il rl
      · exact shapes_no1 wd sl cp sa ow ia ra il ic rl rc op w hsm hr
      · obtain ⟨⟨h1, h2⟩, _, _, h3, _, _⟩ := HQ hr
        obtain ⟨W, rfl⟩ := Int.eq_ofNat_of_zero_le (show 0 ≤ wd by omega)
        obtain ⟨slN, rfl⟩ := Int.eq_ofNat_of_zero_le (show 0 ≤ sl by omega)
        exact shapes_yes W slN cp sa ow ia ra il ic rl rc init op w hsm hr hi hl
    · exact shapes_nok k wd sl cp sa ow ia ra il ic rl rc op w hsm (by simpa using hk)

end Go.Proofs.YtdepogopepjonaaDoor.Ch
