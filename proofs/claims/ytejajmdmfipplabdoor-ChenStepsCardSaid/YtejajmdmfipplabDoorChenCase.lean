/-

  A case that came in, by value: an operation on an object, a memory's words, and what others do.
-/
import Derived.Test.YtejajmdmfipplabDoorChenAny
import Derived.Test.YtejajmdmfipplabDoorChenShapes
import Derived.Test.YtejajmdmfipplabDoorOpen
set_option linter.unusedSimpArgs false
set_option linter.unusedVariables false
namespace Go.Proofs.YtejajmdmfipplabDoor.Ch
open Go.ChangeShapes Go.WideShapes Go.ChangeAt Go.RowKit Ws Mm Pa
open Go.Proofs.YtejajmdmfipplabDoor.Ob (obj_cells)

theorem wd_of {l : List Int} (h : ∀ x ∈ l, (Lit.int .u32 x).wf = true) : Op.Wd l := fun x hx => Fl.u32_bd (h x hx)

set_option maxRecDepth 100000 in
theorem case_of {H : Type} {enc : TypeId × Value → H} {w : World} {base : Nat} {sp : Nat → Bool} {held : Bool} {r : Reach} {b0 : Nat} {v : Value} {d : DataW H} {p : List MemPlace}
    (hv : Value.okWide Tryd.prog w r b0 48 v) (h : DataW.Trod enc Tryd.prog w base sp held 48 v d p) :
    ∃ (k wd sl cp sa ow : Int) (ia ra : Option Addr) (il ic rl rc : Nat) (at_ op rd : Int) (A : Option Addr) (m c : Nat) (LA : Option Addr) (n lc : Nat) (pa : Option Addr) (pn pc : Nat) (rec ls : List Int) (pokes : List (List Int)), v = .agg #[.int .i64 k, .int .i64 wd, .int .i64 sl, .int .i64 cp, .int .u32 sa, .slice ia il ic, .int .i64 ow, .slice ra rl rc, .int .i64 at_, .int .i64 op, .int .i64 rd, .slice A m c, .slice LA n lc, .slice pa pn pc] ∧
      rec.length = m ∧ Row w A (rec.map (Value.int .u32)) ∧ Op.Wd rec ∧ ls.length = n ∧ Row w LA (ls.map (Value.int .u32)) ∧ Op.Wd ls ∧ Fl.Rows w pa [.i64, .i64, .u32] pokes ∧ pokes.length = pn ∧ pn ≤ maxLen ∧ (0 ≤ sa ∧ sa < 4294967296) := by
  obtain ⟨cs, rfl, hsz⟩ := okWide_struct Tryd.underlying48 hv
  obtain ⟨fuel, hf⟩ := h
  have hc : (Value.agg cs).cells.toList = cs.toList := by simp [Value.cells]
  rw [hc] at hf
  obtain ⟨l⟩ := cs
  have h14 : l.length = 14 := by
    have := hsz.trans (show Tryd.prog.cellsOf 48 = 14 by kernel_rfl)
    simpa using this
  match l, h14 with
  | [c0, c1, c2, c3, c4, c5, c6, c7, c8, c9, c10, c11, c12, c13], _ =>
    obtain ⟨k, e0, _⟩ := On.int_leaf hf (show On.leafAt Tryd.prog 6 48 0 = some 3 by kernel_rfl) Tryd.underlying3
    obtain ⟨wd, e1, _⟩ := On.int_leaf hf (show On.leafAt Tryd.prog 6 48 1 = some 3 by kernel_rfl) Tryd.underlying3
    obtain ⟨sl, e2, _⟩ := On.int_leaf hf (show On.leafAt Tryd.prog 6 48 2 = some 3 by kernel_rfl) Tryd.underlying3
    obtain ⟨cp, e3, _⟩ := On.int_leaf hf (show On.leafAt Tryd.prog 6 48 3 = some 3 by kernel_rfl) Tryd.underlying3
    obtain ⟨sa, e4, b4⟩ := On.int_leaf hf (show On.leafAt Tryd.prog 6 48 4 = some 22 by kernel_rfl) Tryd.underlying22
    obtain ⟨ia, il, ic, d5, p5, e5, t5⟩ := On.slice_leaf hf (show On.leafAt Tryd.prog 6 48 5 = some 28 by kernel_rfl) Tryd.underlying28
    obtain ⟨ow, e6, _⟩ := On.int_leaf hf (show On.leafAt Tryd.prog 6 48 6 = some 3 by kernel_rfl) Tryd.underlying3
    obtain ⟨ra, rl, rc, d7, p7, e7, t7⟩ := On.slice_leaf hf (show On.leafAt Tryd.prog 6 48 7 = some 24 by kernel_rfl) Tryd.underlying24
    obtain ⟨at_, e8, _⟩ := On.int_leaf hf (show On.leafAt Tryd.prog 6 48 8 = some 3 by kernel_rfl) Tryd.underlying3
    obtain ⟨op, e9, _⟩ := On.int_leaf hf (show On.leafAt Tryd.prog 6 48 9 = some 3 by kernel_rfl) Tryd.underlying3
    obtain ⟨rd, e10, _⟩ := On.int_leaf hf (show On.leafAt Tryd.prog 6 48 10 = some 3 by kernel_rfl) Tryd.underlying3
    obtain ⟨A, m, c, d11, p11, e11, t11⟩ := On.slice_leaf hf (show On.leafAt Tryd.prog 6 48 11 = some 28 by kernel_rfl) Tryd.underlying28
    obtain ⟨LA, n, lc, d12, p12, e12, t12⟩ := On.slice_leaf hf (show On.leafAt Tryd.prog 6 48 12 = some 28 by kernel_rfl) Tryd.underlying28
    obtain ⟨pa, pn, pc, d13, p13, e13, t13⟩ := On.slice_leaf hf (show On.leafAt Tryd.prog 6 48 13 = some 46 by kernel_rfl) Tryd.underlying46
    simp at e0 e1 e2 e3 e4 e5 e6 e7 e8 e9 e10 e11 e12 e13
    subst e0 e1 e2 e3 e4 e5 e6 e7 e8 e9 e10 e11 e12 e13
    obtain ⟨rec, hl, hrow, hwf, _⟩ := Fl.ints_of Tryd.underlying28 Tryd.underlying22 (by kernel_rfl) t11
    obtain ⟨ls, hl2, hrow2, hwf2, _⟩ := Fl.ints_of Tryd.underlying28 Tryd.underlying22 (by kernel_rfl) t12
    obtain ⟨pokes, hp, hpl, hpm⟩ := Fl.rows_of Tryd.underlying46 (show Fl.kinds Tryd.prog 6 103 = some [.i64, .i64, .u32] by kernel_rfl) (by decide) t13
    exact ⟨k, wd, sl, cp, sa, ow, ia, ra, il, ic, rl, rc, at_, op, rd, A, m, c, LA, n, lc, pa, pn, pc, rec, ls, pokes, rfl, hl, hrow, wd_of hwf, hl2, hrow2, wd_of hwf2, hp, hpl, hpm, Fl.u32_bd b4⟩

theorem case_cells {w w' : World} {q : Nat} {T : TypeId} {k wd sl cp sa ow : Int} {ia ra : Option Addr} {il ic rl rc : Nat} {at_ op rd : Int} {A : Option Addr} {m c : Nat} {LA : Option Addr} {n lc : Nat} {pa : Option Addr} {pn pc : Nat} (h : Blk w q T #[.int .i64 k, .int .i64 wd, .int .i64 sl, .int .i64 cp, .int .u32 sa, .slice ia il ic, .int .i64 ow, .slice ra rl rc, .int .i64 at_, .int .i64 op, .int .i64 rd, .slice A m c, .slice LA n lc, .slice pa pn pc]) (s : Same w w') :
    (w'.cell? ⟨q, 0, none⟩ = some (.int .i64 k) ∧ w'.cell? ⟨q, 1, none⟩ = some (.int .i64 wd) ∧ w'.cell? ⟨q, 2, none⟩ = some (.int .i64 sl) ∧ w'.cell? ⟨q, 3, none⟩ = some (.int .i64 cp) ∧ w'.cell? ⟨q, 4, none⟩ = some (.int .u32 sa) ∧
      w'.cell? ⟨q, 5, none⟩ = some (.slice ia il ic) ∧ w'.cell? ⟨q, 6, none⟩ = some (.int .i64 ow) ∧ w'.cell? ⟨q, 7, none⟩ = some (.slice ra rl rc)) ∧ w'.cell? ⟨q, 8, none⟩ = some (.int .i64 at_) ∧ w'.cell? ⟨q, 9, none⟩ = some (.int .i64 op) ∧ w'.cell? ⟨q, 10, none⟩ = some (.int .i64 rd) ∧
      w'.cell? ⟨q, 11, none⟩ = some (.slice A m c) ∧ w'.cell? ⟨q, 12, none⟩ = some (.slice LA n lc) ∧ w'.cell? ⟨q, 13, none⟩ = some (.slice pa pn pc) :=
  ⟨⟨(h.same s).cell 0, (h.same s).cell 1, (h.same s).cell 2, (h.same s).cell 3, (h.same s).cell 4, (h.same s).cell 5, (h.same s).cell 6, (h.same s).cell 7⟩, (h.same s).cell 8, (h.same s).cell 9, (h.same s).cell 10, (h.same s).cell 11, (h.same s).cell 12, (h.same s).cell 13⟩

def lightB (il rl m n pn : Nat) : Bool := decide (((il : Int) ≤ 100 ∧ (rl : Int) ≤ 100) ∧ (m : Int) ≤ 100 ∧ (n : Int) ≤ 400 ∧ (pn : Int) ≤ 100)
theorem light_any (k wd sl cp sa ow : Int) (ia ra : Option Addr) (il ic rl rc : Nat) (at_ op rd : Int) (A : Option Addr) (m c : Nat) (LA : Option Addr) (n lc : Nat) (pa : Option Addr) (pn pc : Nat) (w : World) (hsa : 0 ≤ sa ∧ sa < 4294967296 := by assumption) :
    Calls Tryd.prog 13 #[.agg #[.int .i64 k, .int .i64 wd, .int .i64 sl, .int .i64 cp, .int .u32 sa, .slice ia il ic, .int .i64 ow, .slice ra rl rc, .int .i64 at_, .int .i64 op, .int .i64 rd, .slice A m c, .slice LA n lc, .slice pa pn pc]] w fun e w' => e = .returned (.bool (lightB il rl m n pn)) ∧ Same w w' := by
  have hb := Blk.new w 48 #[.int .i64 k, .int .i64 wd, .int .i64 sl, .int .i64 cp, .int .u32 sa, .slice ia il ic, .int .i64 ow, .slice ra rl rc, .int .i64 at_, .int .i64 op, .int .i64 rd, .slice A m c, .slice LA n lc, .slice pa pn pc]
  have s0 := (Same.refl w).alloc (.cells #[.int .i64 k, .int .i64 wd, .int .i64 sl, .int .i64 cp, .int .u32 sa, .slice ia il ic, .int .i64 ow, .slice ra rl rc, .int .i64 at_, .int .i64 op, .int .i64 rd, .slice A m c, .slice LA n lc, .slice pa pn pc] 48)
  have HB0 := Lib.hid hb
  have HS0 := Lib.hid s0
  have HSM := fun w' => small_any k wd sl cp sa ow ia ra il ic rl rc w' _ rfl
  cases hsm : decide ((il : Int) ≤ 100 ∧ (rl : Int) ≤ 100)
  all_goals
    rw [hsm] at HSM
    have HD := Lib.hid hsm
    clear hb s0 hsm
    go_enter Tryd.func13, Tryd.ntmps13
    obtain ⟨⟨d0, d1, d2, d3, d4, d5, d6, d7⟩, d8, d9, d10, d11, d12, d13⟩ := case_cells HB0.out (Same.refl _)
    go_wp2_with fail
    refine (HSM _).mono ?_
    rintro e v1 ⟨rfl, s1⟩
    obtain ⟨⟨f0, f1, f2, f3, f4, f5, f6, f7⟩, f8, f9, f10, f11, f12, f13⟩ := case_cells HB0.out s1
    have S1 := Lib.hid (HS0.out.trans s1)
    clear d0 d1 d2 d3 d4 d5 d6 d7 d8 d9 d10 d11 d12 d13 s1
    go_wp2
    all_goals
      go_ret
      refine ⟨ret_bool ?_, S1.out⟩
      have hd := HD.out
      unfold lightB
      simp only [decide_eq_true_eq, decide_eq_false_iff_not] at hd
      first
        | (rw [Bool.eq_iff_iff, decide_eq_true_eq, decide_eq_true_eq]; omega)
        | (rw [decide_eq_false (by omega)])
        | (simp <;> omega)

end Go.Proofs.YtejajmdmfipplabDoor.Ch
