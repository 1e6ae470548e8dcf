/-

  ObjectShapes: what an object of any kind is: of package object, and of the document.
-/
import Derived.Test.YtikjkmomokhanabGreatObjAwakeK
import Derived.Test.YtikjkmomokhanabGreatKFaceLay
import Derived.Test.YtikjkmomokhanabGreatObjRt2
import Derived.Test.YtikjkmomokhanabGreatObjRt3
import Derived.Test.YtikjkmomokhanabGreatRegionOff
import Derived.Test.YtikjkmomokhanabGreatOpen
import Derived.Test.YtikjkmomokhanabGreatFlat
set_option linter.unusedVariables false
set_option linter.unusedSimpArgs false
namespace Go.Proofs.YtikjkmomokhanabGreat.Os
open Go.ChangeShapes Go.WideShapes Go.ChangeAt Go.RowKit Ws

theorem small_any (k wd sl cp sa ow : Int) (ia ra : Option Addr) (il ic rl rc : Nat) (w : World) : Calls Tryz.prog 7 #[.agg #[.int .i64 k, .int .i64 wd, .int .i64 sl, .int .i64 cp, .int .u32 sa, .slice ia il ic, .int .i64 ow, .slice ra rl rc]] w fun e w' => e = .returned (.bool (decide ((il : Int) ≤ 100 ∧ (rl : Int) ≤ 100))) ∧ Same w w' := by
  by_cases h : (il : Int) ≤ 100
  · have hE : decide ((il : Int) ≤ 100 ∧ (rl : Int) ≤ 100) = decide ((rl : Int) ≤ 100) := by rw [decide_eq_decide]; omega
    rw [hE]
    have b0 : decide ((il : Int) ≤ 100) = true := decide_eq_true h
    clear hE h
    generalize hb : decide ((rl : Int) ≤ 100) = b at *
    go_enter Tryz.func7, Tryz.ntmps7
    go_wp2_with fail
    go_ret
    exact ⟨rfl, (Same.refl _).alloc _⟩
  · have hE : decide ((il : Int) ≤ 100 ∧ (rl : Int) ≤ 100) = false := decide_eq_false (by omega)
    rw [hE]
    have b0 : decide ((il : Int) ≤ 100) = false := decide_eq_false h
    clear hE h
    go_enter Tryz.func7, Tryz.ntmps7
    go_wp2_with fail
    go_ret
    exact ⟨rfl, (Same.refl _).alloc _⟩
theorem swords (A C : Option Addr) (n m c d : Nat) (xs : List Int) (w : World) (hn : xs.length = n) (hm : xs.length = m) (hx : Row w A (xs.map (Value.int .u32))) (hy : Row w C (xs.map (Value.int .u32))) (b1 : n ≤ 4294967296) (b2 : m ≤ 4294967296) :
    Calls Tryz.prog 17 #[.slice A n c, .slice C m d] w fun e w' => e = .returned (.bool true) ∧ Same w w' :=
  (Mm.words_eq A C n m c d xs xs w hn hm hx hy b1 b2).mono fun e w' ⟨he, k, hk⟩ => ⟨by rw [he, decide_eq_true rfl], by rw [hk]; exact (Same.refl w).drewN k⟩
theorem prod_bd {a b p q : Int} (h0 : 0 ≤ a) (h1 : a ≤ p) (h2 : 0 ≤ b) (h3 : b ≤ q) (hp : 0 ≤ p) : 0 ≤ a * b ∧ a * b ≤ p * q :=
  ⟨Int.mul_nonneg h0 h2, Int.mul_le_mul h1 h3 h2 hp⟩
theorem sizb (k wd sl cp sa : Int) (il rl : Nat) : 0 ≤ Kfc.sizeF k wd sl cp sa il rl ∧ Kfc.sizeF k wd sl cp sa il rl ≤ 1000000 := by
  by_cases h1 : k = 1
  · subst h1
    rw [Kfc.size_1]
    by_cases h : Kfo.rightB wd sl cp sa il rl = true
    · rw [if_pos h]
      have hq := of_decide_eq_true h
      omega
    · rw [if_neg h]
      omega
  by_cases h2 : k = 2
  · subst h2
    rw [Kfc.size_2]
    by_cases h : Kch.rightB wd sl cp sa il rl = true
    · rw [if_pos h]
      have hq := of_decide_eq_true h
      have hp := prod_bd (a := (rl : Int) + 2) (b := wd) (p := 6) (q := 8) (by omega) (by omega) (by omega) (by omega) (by omega)
      omega
    · rw [if_neg h]
      omega
  by_cases h3 : k = 3
  · subst h3
    rw [Kfc.size_3]
    by_cases h : Ksq.rightB wd sl cp sa il rl = true
    · rw [if_pos h]
      have hq := of_decide_eq_true h
      omega
    · rw [if_neg h]
      omega
  by_cases h4 : k = 4
  · subst h4
    rw [Kfc.size_4]
    by_cases h : Krg.rightB wd sl cp sa il rl = true
    · rw [if_pos h]
      have hq := of_decide_eq_true h
      have hp := prod_bd (a := sl) (b := wd) (p := 16) (q := 8) (by omega) (by omega) (by omega) (by omega) (by omega)
      omega
    · rw [if_neg h]
      omega
  by_cases h5 : k = 5
  · subst h5
    rw [Kfc.size_5]
    by_cases h : Kcb.rightB wd sl cp sa il rl = true
    · rw [if_pos h]
      have hq := of_decide_eq_true h
      have hp := prod_bd (a := sl) (b := wd) (p := 16) (q := 8) (by omega) (by omega) (by omega) (by omega) (by omega)
      omega
    · rw [if_neg h]
      omega
  by_cases h6 : k = 6
  · subst h6
    rw [Kfc.size_6]
    by_cases h : Kff.rightB wd sl cp sa il rl = true
    · rw [if_pos h]
      have hq := Kff.HQ h
      have hp := prod_bd (a := sl) (b := wd) (p := 16) (q := 8) (by omega) (by omega) (by omega) (by omega) (by omega)
      omega
    · rw [if_neg h]
      omega
  rw [Kfc.size_none0 wd sl cp sa il rl (by omega)]
  omega
/-- words come out -/
def LayQ (w : World) (ws : List Int) (e : Ending) (w' : World) : Prop := ∃ (A : Option Addr) (n c : Nat), n = ws.length ∧ e = .returned (.slice A n c) ∧ Same w w' ∧ Row w' A (ws.map (Value.int .u32))
def layW (k wd sl cp sa : Int) (il rl : Nat) (init : List Int) : List Int := if Kfc.rightF k wd sl cp sa il rl = true then Kfc.layF k wd.toNat sl.toNat rl sa init else []
theorem lay_small (k wd sl cp sa : Int) (il rl : Nat) (init : List Int) : (layW k wd sl cp sa il rl init).length ≤ 4294967296 := by
  unfold layW
  by_cases h : Kfc.rightF k wd sl cp sa il rl = true
  · rw [if_pos h]
    have h1 := Kfc.lay_size k wd sl cp sa il rl init h
    have h2 := sizb k wd sl cp sa il rl
    omega
  · rw [if_neg h]
    simp
theorem olay_q (k wd sl cp sa ow : Int) (ia ra : Option Addr) (il ic rl rc : Nat) (init : List Int) (w : World) (hi : Row w ia (init.map (Value.int .u32))) (hl : init.length = il) (hsa : 0 ≤ sa ∧ sa < 4294967296) :
    Calls Tryz.prog 18 #[.agg #[.int .i64 k, .int .i64 wd, .int .i64 sl, .int .i64 cp, .int .u32 sa, .slice ia il ic, .int .i64 ow, .slice ra rl rc]] w (LayQ w (layW k wd sl cp sa il rl init)) := by
  unfold layW
  cases h : Kfc.rightF k wd sl cp sa il rl
  · rw [if_neg Bool.false_ne_true]
    exact (Kfc.olay_no k wd sl cp sa ow ia ra il ic rl rc w h hsa).mono fun e w' ⟨he, hs⟩ => ⟨none, 0, 0, rfl, he, hs, Row.nil _ _⟩
  · rw [if_pos rfl]
    refine (Kfc.lay_any k wd sl cp sa ow ia ra il ic rl rc init w h hi hl hsa).mono fun e w' he => ?_
    obtain ⟨g, N, hN, rfl, s, r⟩ := he
    exact ⟨_, _, _, hN, rfl, s, r⟩
theorem rlay_q (k wd sl cp sa ow : Int) (ia ra : Option Addr) (il ic rl rc : Nat) (init : List Int) (w : World) (hi : Row w ia (init.map (Value.int .u32))) (hl : init.length = il) (hsa : 0 ≤ sa ∧ sa < 4294967296) :
    Calls Tryz.prog 19 #[.agg #[.int .i64 k, .int .i64 wd, .int .i64 sl, .int .i64 cp, .int .u32 sa, .slice ia il ic, .int .i64 ow, .slice ra rl rc]] w (LayQ w (layW k wd sl cp sa il rl init)) := by
  unfold layW
  cases h : Kfc.rightF k wd sl cp sa il rl
  · rw [if_neg Bool.false_ne_true]
    exact (Kfc.rlay_no k wd sl cp sa ow ia ra il ic rl rc w h hsa).mono fun e w' ⟨⟨A, c, he⟩, hs⟩ => ⟨A, 0, c, rfl, he, hs, Row.nil _ _⟩
  · rw [if_pos rfl]
    refine (Kfc.rlay_any k wd sl cp sa ow ia ra il ic rl rc init w h hi hl hsa).mono fun e w' he => ?_
    obtain ⟨g, N, hN, rfl, s, r⟩ := he
    exact ⟨_, _, _, hN, rfl, s, r⟩
theorem blk_drew {w : World} {g : Nat} {T : TypeId} {cs : Array Value} (h : Blk w g T cs) : Blk w.drew g T cs := h
def S8 (g : Nat) (v0 v1 v2 v3 v4 v5 v6 v7 : Value) (w w' : World) : Prop := w'.cell? ⟨g, 0, none⟩ = some (v0) ∧ w'.cell? ⟨g, 1, none⟩ = some (v1) ∧ w'.cell? ⟨g, 2, none⟩ = some (v2) ∧ w'.cell? ⟨g, 3, none⟩ = some (v3) ∧ w'.cell? ⟨g, 4, none⟩ = some (v4) ∧ w'.cell? ⟨g, 5, none⟩ = some (v5) ∧ w'.cell? ⟨g, 6, none⟩ = some (v6) ∧ w'.cell? ⟨g, 7, none⟩ = some (v7) ∧ Same w w'
theorem keep8 {g : Nat} {v0 v1 v2 v3 v4 v5 v6 v7 : Value} {w w1 w2 : World} (h : S8 g v0 v1 v2 v3 v4 v5 v6 v7 w w1) (s : Same w1 w2) : S8 g v0 v1 v2 v3 v4 v5 v6 v7 w w2 := by
  obtain ⟨h0, h1, h2, h3, h4, h5, h6, h7, hs⟩ := h
  exact ⟨s.cell h0, s.cell h1, s.cell h2, s.cell h3, s.cell h4, s.cell h5, s.cell h6, s.cell h7, hs.trans s⟩
theorem S8.of {g : Nat} {v0 v1 v2 v3 v4 v5 v6 v7 : Value} {w w1 : World} (h : S8 g v0 v1 v2 v3 v4 v5 v6 v7 w w1) : Same w w1 := h.2.2.2.2.2.2.2.2
theorem S8.mk {g : Nat} {T : TypeId} {v0 v1 v2 v3 v4 v5 v6 v7 : Value} {w w1 : World} (h : Blk w1 g T #[v0, v1, v2, v3, v4, v5, v6, v7]) (s : Same w w1) : S8 g v0 v1 v2 v3 v4 v5 v6 v7 w w1 :=
  ⟨h.cell 0, h.cell 1, h.cell 2, h.cell 3, h.cell 4, h.cell 5, h.cell 6, h.cell 7, s⟩
set_option maxRecDepth 100000 in
theorem object_of3 {H : Type} {enc : TypeId × Value → H} {w : World} {base : Nat} {sp : Nat → Bool} {held : Bool} {r : Reach} {b0 : Nat} {v : Value} {d : DataW H} {p : List MemPlace}
    (hv : Value.okWide Tryz.prog w r b0 26 v) (h : DataW.Trod enc Tryz.prog w base sp held 26 v d p) :
    ∃ (k wd sl cp sa ow : Int) (ia ra : Option Addr) (il ic rl rc : Nat) (init rs : List Int), v = .agg #[.int .i64 k, .int .i64 wd, .int .i64 sl, .int .i64 cp, .int .u32 sa, .slice ia il ic, .int .i64 ow, .slice ra rl rc] ∧ init.length = il ∧ Row w ia (init.map (Value.int .u32)) ∧ rs.length = rl ∧ Row w ra (rs.map (Value.int .i64)) ∧ (∀ y ∈ ow :: rs, (Lit.int .i64 y).wf = true) ∧ (0 ≤ sa ∧ sa < 4294967296) := by
  obtain ⟨cs, rfl, hsz⟩ := okWide_struct Tryz.underlying26 hv
  obtain ⟨fuel, hf⟩ := h
  have hc : (Value.agg cs).cells.toList = cs.toList := by simp [Value.cells]
  rw [hc] at hf
  obtain ⟨l⟩ := cs
  have h8 : l.length = 8 := by
    have := hsz.trans (show Tryz.prog.cellsOf 26 = 8 by kernel_rfl)
    simpa using this
  match l, h8 with
  | [c0, c1, c2, c3, c4, c5, c6, c7], _ =>
    obtain ⟨k, e0, _⟩ := On.int_leaf hf (show On.leafAt Tryz.prog 6 26 0 = some 3 by kernel_rfl) Tryz.underlying3
    obtain ⟨wd, e1, _⟩ := On.int_leaf hf (show On.leafAt Tryz.prog 6 26 1 = some 3 by kernel_rfl) Tryz.underlying3
    obtain ⟨sl, e2, _⟩ := On.int_leaf hf (show On.leafAt Tryz.prog 6 26 2 = some 3 by kernel_rfl) Tryz.underlying3
    obtain ⟨cp, e3, _⟩ := On.int_leaf hf (show On.leafAt Tryz.prog 6 26 3 = some 3 by kernel_rfl) Tryz.underlying3
    obtain ⟨sa, e4, b4⟩ := On.int_leaf hf (show On.leafAt Tryz.prog 6 26 4 = some 22 by kernel_rfl) Tryz.underlying22
    obtain ⟨ia, il, ic, d5, p5, e5, t5⟩ := On.slice_leaf hf (show On.leafAt Tryz.prog 6 26 5 = some 23 by kernel_rfl) Tryz.underlying23
    obtain ⟨ow, e6, b6⟩ := On.int_leaf hf (show On.leafAt Tryz.prog 6 26 6 = some 3 by kernel_rfl) Tryz.underlying3
    obtain ⟨ra, rl, rc, d7, p7, e7, t7⟩ := On.slice_leaf hf (show On.leafAt Tryz.prog 6 26 7 = some 24 by kernel_rfl) Tryz.underlying24
    simp at e0 e1 e2 e3 e4 e5 e6 e7
    subst e0 e1 e2 e3 e4 e5 e6 e7
    obtain ⟨init, hl, hrow, _⟩ := Fl.ints_of Tryz.underlying23 Tryz.underlying22 (by kernel_rfl) t5
    obtain ⟨rs, hl2, hrow2, hwf, _⟩ := Fl.ints_of Tryz.underlying24 Tryz.underlying3 (by kernel_rfl) t7
    refine ⟨k, wd, sl, cp, sa, ow, ia, ra, il, ic, rl, rc, init, rs, rfl, hl, hrow, hl2, hrow2, fun y hy => ?_, Fl.u32_bd b4⟩
    rcases List.mem_cons.1 hy with rfl | hy
    · exact b6
    · exact hwf y hy
set_option maxRecDepth 100000 in
set_option maxHeartbeats 4000000 in
theorem shapes_any (k wd sl cp sa ow : Int) (ia ra : Option Addr) (il ic rl rc : Nat) (init rs : List Int) (op task : Int) (w : World) (hl : init.length = il) (hi : Row w ia (init.map (Value.int .u32))) (hrl : rs.length = rl) (hr : Row w ra (rs.map (Value.int .i64))) (hwf : ∀ y ∈ ow :: rs, (Lit.int .i64 y).wf = true) (hsa : 0 ≤ sa ∧ sa < 4294967296) :
    Calls Tryz.prog 3 #[.agg #[.int .i64 k, .int .i64 wd, .int .i64 sl, .int .i64 cp, .int .u32 sa, .slice ia il ic, .int .i64 ow, .slice ra rl rc], .int .i64 op, .int .i64 task] w fun e w' => e = .returned (.bool true) ∧ Same w w' := by
  have hb0 := Blk.new w 26 #[.int .i64 k, .int .i64 wd, .int .i64 sl, .int .i64 cp, .int .u32 sa, .slice ia il ic, .int .i64 ow, .slice ra rl rc]
  have HB0 := Lib.hid hb0
  have HS0 := Lib.hid ((Same.refl w).alloc (.cells #[.int .i64 k, .int .i64 wd, .int .i64 sl, .int .i64 cp, .int .u32 sa, .slice ia il ic, .int .i64 ow, .slice ra rl rc] 26))
  obtain ⟨d0, d1, d2, d3, d4, d5, d6, d7⟩ := Kb.obj_cells hb0
  have AW := Lib.hid (fun w' => Oj.awake_any w')
  have SML := Lib.hid (fun w' => small_any k wd sl cp sa ow ia ra il ic rl rc w')
  by_cases hsm : (il : Int) ≤ 100 ∧ (rl : Int) ≤ 100
  rotate_left
  · rw [decide_eq_false hsm] at SML
    clear hl hi hrl hr hwf hb0
    go_enter Tryz.func3, Tryz.ntmps3
    go_wp2_with fail
    refine (SML.out _).mono ?_
    rintro e w1 ⟨rfl, s1⟩
    have HS1 := Lib.hid (HS0.out.trans s1)
    clear s1
    go_wp2_with fail
    refine (AW.out _).mono ?_
    rintro e w2 ⟨rfl, s2⟩
    have HS2 := Lib.hid (HS1.out.trans s2)
    clear s2
    go_wp2_with fail
    go_ret
    exact ⟨rfl, HS2.out⟩
  rw [decide_eq_true hsm] at SML
  have hrl100 : rl ≤ 100 := by omega
  have RD := Lib.hid (fun w' (s : Same w w') => reader_any k wd sl cp sa ow ia ra il ic rl rc rs task w' hrl hrl100 (hr.same s))
  have RRD := Lib.hid (fun w' (s : Same w w') => rreader_any k wd sl cp sa ow ia ra il ic rl rc rs task w' hrl hrl100 (hr.same s))
  have SH := Lib.hid (fun w' (s : Same w w') => Kfc.shaped_any k wd sl cp sa ow ia ra il ic rl rc w' hsa)
  have RSH := Lib.hid (fun w' (s : Same w w') => Kfc.rright_any k wd sl cp sa ow ia ra il ic rl rc w' hsa)
  have OR := Lib.hid (fun w' (s : Same w w') => oright_all k wd sl cp sa ow ia ra il ic rl rc rs w' hrl hrl100 (hr.same s) hwf hsa)
  have ROR := Lib.hid (fun w' (s : Same w w') => rright_all k wd sl cp sa ow ia ra il ic rl rc rs w' hrl hrl100 (hr.same s) hsa)
  have SZ := Lib.hid (fun w' (s : Same w w') => Kfc.size_any k wd sl cp sa ow ia ra il ic rl rc w' hsa)
  have RSZ := Lib.hid (fun w' (s : Same w w') => Kfc.rsize_any k wd sl cp sa ow ia ra il ic rl rc w' hsa)
  have LY := Lib.hid (fun w' (s : Same w w') => olay_q k wd sl cp sa ow ia ra il ic rl rc init w' (hi.same s) hl hsa)
  have RLY := Lib.hid (fun w' (s : Same w w') => rlay_q k wd sl cp sa ow ia ra il ic rl rc init w' (hi.same s) hl hsa)
  have BD := Lib.hid (fun w' (s : Same w w') => Kfc.bound_any k wd sl cp sa ow ia ra il ic rl rc op w' hsa)
  have RBD := Lib.hid (fun w' (s : Same w w') => Kfc.rbound_any k wd sl cp sa ow ia ra il ic rl rc op w' hsa)
  have LSM := Lib.hid (lay_small k wd sl cp sa il rl init)
  have AW2 := Lib.hid (fun w' (s : Same w w') => Oj.awake_any w')
  clear hl hi hrl hr hwf hb0 hrl100
  generalize layW k wd sl cp sa il rl init = ws at *
  generalize Kfc.sizeF k wd sl cp sa il rl = zs at *
  generalize Kfc.boundF k wd sl cp sa il rl op = bs at *
  generalize rightO k wd sl cp sa il rl (ow :: rs) = ro at *
  generalize Kfc.rightF k wd sl cp sa il rl = rf at *
  generalize idxF rs task = y at *
  unfold LayQ at LY RLY
  by_cases hy : 0 ≤ y
  · skip
    rw [if_pos hy, decide_eq_true hy] at RD
    have hyd : decide (0 ≤ y) = true := decide_eq_true hy
    go_enter Tryz.func3, Tryz.ntmps3
    go_wp2_with fail
    refine (SML.out _).mono ?_
    rintro e w1 ⟨rfl, s1⟩
    have HS1 := Lib.hid (HS0.out.trans s1)
    have HB1 := Lib.hid (HB0.out.same s1)
    clear s1 d0 d1 d2 d3 d4 d5 d6 d7
    obtain ⟨d0, d1, d2, d3, d4, d5, d6, d7⟩ := Kb.obj_cells HB1.out
    go_wp2_with fail
    refine (RD.out _ HS1.out).mono ?_
    rintro e w2 ⟨rfl, s2⟩
    have HS2 := Lib.hid (HS1.out.trans s2)
    have HB2 := Lib.hid (HB1.out.same s2)
    clear s2 d0 d1 d2 d3 d4 d5 d6 d7
    obtain ⟨d0, d1, d2, d3, d4, d5, d6, d7⟩ := Kb.obj_cells HB2.out
    go_wp2_with fail
    refine (RRD.out _ HS2.out).mono ?_
    rintro e w4 ⟨rfl, s4⟩
    have HS4 := Lib.hid (HS2.out.trans s4)
    have HB4 := Lib.hid (HB2.out.same s4)
    clear s4 d0 d1 d2 d3 d4 d5 d6 d7
    go_wp2_with fail
    refine wp_region_held_drew (S := fun w' => w'.cell? ⟨w.heap.size, 0, none⟩ = some (.int .i64 k) ∧ w'.cell? ⟨w.heap.size, 1, none⟩ = some (.int .i64 wd) ∧ w'.cell? ⟨w.heap.size, 2, none⟩ = some (.int .i64 sl) ∧ w'.cell? ⟨w.heap.size, 3, none⟩ = some (.int .i64 cp) ∧ w'.cell? ⟨w.heap.size, 4, none⟩ = some (.int .u32 sa) ∧ w'.cell? ⟨w.heap.size, 5, none⟩ = some (.slice ia il ic) ∧ w'.cell? ⟨w.heap.size, 6, none⟩ = some (.int .i64 ow) ∧ w'.cell? ⟨w.heap.size, 7, none⟩ = some (.slice ra rl rc) ∧ Same w w') (by kernel_rfl) ?_ (fun hHeld => ?_)
    · exact (S8.mk (blk_drew HB4.out) HS4.out.drew)
    first
      | (refine Ro.take_off (i := 0) rfl (by kernel_rfl) (by kernel_rfl) (by kernel_rfl) (fun _ _ _ h => h) (by rfl) (by assumption) ?_)
      | (refine Ro.take_on (i := 0) (v := ?_) rfl (by kernel_rfl) (by kernel_rfl) (by kernel_rfl) (fun _ _ _ h => h) (by rfl) (by assumption) ?_ ?_; rotate_left; · (intro wS hSw; (try dsimp only at hSw); go_simp; try with_reducible rfl))
    try simp only [Act.put, List.setIfInBounds_toArray, List.set_cons_zero, List.set_cons_succ]
    first
      | (refine Ro.take_off (i := 2) rfl (by kernel_rfl) (by kernel_rfl) (by kernel_rfl) (fun _ _ _ h => h) (by rfl) (by assumption) ?_)
      | (refine Ro.take_on (i := 2) (v := ?_) rfl (by kernel_rfl) (by kernel_rfl) (by kernel_rfl) (fun _ _ _ h => h) (by rfl) (by assumption) ?_ ?_; rotate_left; · (intro wS hSw; (try dsimp only at hSw); go_simp; try with_reducible rfl))
    try simp only [Act.put, List.setIfInBounds_toArray, List.set_cons_zero, List.set_cons_succ]
    first
      | (refine Ro.take_off (i := 1) rfl (by kernel_rfl) (by kernel_rfl) (by kernel_rfl) (fun _ _ _ h => h) (by rfl) (by assumption) ?_)
      | (refine Ro.one_on (i := 1) rfl (by kernel_rfl) (by rfl) (fun K hK => ?_); go_simp; go_at_call 11; (with_reducible refine (SH.out _ hHeld.2.2.2.2.2.2.2.2).mono ?_); rintro e w' ⟨rfl, hs9⟩; (first | refine hK.out _ _ ?_ (fun hNew => ?_) | (go_wp2_with fail; refine hK.out _ _ ?_ (fun hNew => ?_))); (· (exact keep8 (g := w.heap.size) (v0 := .int .i64 k) (v1 := .int .i64 wd) (v2 := .int .i64 sl) (v3 := .int .i64 cp) (v4 := .int .u32 sa) (v5 := .slice ia il ic) (v6 := .int .i64 ow) (v7 := .slice ra rl rc) (w := w) hHeld hs9)); clear hK K hHeld; have hHeld := hNew; clear hNew)
    try simp only [Act.put, List.setIfInBounds_toArray, List.set_cons_zero, List.set_cons_succ]
    first
      | (refine Ro.take_off (i := 3) rfl (by kernel_rfl) (by kernel_rfl) (by kernel_rfl) (fun _ _ _ h => h) (by rfl) (by assumption) ?_)
      | (refine Ro.one_on (i := 3) rfl (by kernel_rfl) (by rfl) (fun K hK => ?_); go_simp; go_at_call 12; (with_reducible refine (RSH.out _ hHeld.2.2.2.2.2.2.2.2).mono ?_); rintro e w' ⟨rfl, hs9⟩; (first | refine hK.out _ _ ?_ (fun hNew => ?_) | (go_wp2_with fail; refine hK.out _ _ ?_ (fun hNew => ?_))); (· (exact keep8 (g := w.heap.size) (v0 := .int .i64 k) (v1 := .int .i64 wd) (v2 := .int .i64 sl) (v3 := .int .i64 cp) (v4 := .int .u32 sa) (v5 := .slice ia il ic) (v6 := .int .i64 ow) (v7 := .slice ra rl rc) (w := w) hHeld hs9)); clear hK K hHeld; have hHeld := hNew; clear hNew)
    try simp only [Act.put, List.setIfInBounds_toArray, List.set_cons_zero, List.set_cons_succ]
    first
      | (refine Ro.take_off (i := 4) rfl (by kernel_rfl) (by kernel_rfl) (by kernel_rfl) (fun _ _ _ h => h) (by rfl) (by assumption) ?_)
      | (refine Ro.take_on (i := 4) (v := ?_) rfl (by kernel_rfl) (by kernel_rfl) (by kernel_rfl) (fun _ _ _ h => h) (by rfl) (by assumption) ?_ ?_; rotate_left; · (intro wS hSw; (try dsimp only at hSw); go_simp; try with_reducible rfl))
    try simp only [Act.put, List.setIfInBounds_toArray, List.set_cons_zero, List.set_cons_succ]
    first
      | (refine Ro.take_off (i := 5) rfl (by kernel_rfl) (by kernel_rfl) (by kernel_rfl) (fun _ _ _ h => h) (by rfl) (by assumption) ?_)
      | (refine Ro.take_on (i := 5) (v := ?_) rfl (by kernel_rfl) (by kernel_rfl) (by kernel_rfl) (fun _ _ _ h => h) (by rfl) (by assumption) ?_ ?_; rotate_left; · (intro wS hSw; (try dsimp only at hSw); go_simp; try with_reducible rfl))
    try simp only [Act.put, List.setIfInBounds_toArray, List.set_cons_zero, List.set_cons_succ]
    first
      | (refine Ro.take_off (i := 6) rfl (by kernel_rfl) (by kernel_rfl) (by kernel_rfl) (fun _ _ _ h => h) (by rfl) (by assumption) ?_)
      | (refine Ro.take_on (i := 6) (v := ?_) rfl (by kernel_rfl) (by kernel_rfl) (by kernel_rfl) (fun _ _ _ h => h) (by rfl) (by assumption) ?_ ?_; rotate_left; · (intro wS hSw; (try dsimp only at hSw); go_simp; try with_reducible rfl))
    try simp only [Act.put, List.setIfInBounds_toArray, List.set_cons_zero, List.set_cons_succ]
    first
      | (refine Ro.take_off (i := 8) rfl (by kernel_rfl) (by kernel_rfl) (by kernel_rfl) (fun _ _ _ h => h) (by rfl) (by assumption) ?_)
      | (refine Ro.take_on (i := 8) (v := ?_) rfl (by kernel_rfl) (by kernel_rfl) (by kernel_rfl) (fun _ _ _ h => h) (by rfl) (by assumption) ?_ ?_; rotate_left; · (intro wS hSw; (try dsimp only at hSw); go_simp; try with_reducible rfl))
    try simp only [Act.put, List.setIfInBounds_toArray, List.set_cons_zero, List.set_cons_succ]
    first
      | (refine Ro.take_off (i := 7) rfl (by kernel_rfl) (by kernel_rfl) (by kernel_rfl) (fun _ _ _ h => h) (by rfl) (by assumption) ?_)
      | (refine Ro.one_on (i := 7) rfl (by kernel_rfl) (by rfl) (fun K hK => ?_); go_simp; go_at_call 13; (with_reducible refine (OR.out _ hHeld.2.2.2.2.2.2.2.2).mono ?_); rintro e w' ⟨rfl, hs9⟩; (first | refine hK.out _ _ ?_ (fun hNew => ?_) | (go_wp2_with fail; refine hK.out _ _ ?_ (fun hNew => ?_))); (· (exact keep8 (g := w.heap.size) (v0 := .int .i64 k) (v1 := .int .i64 wd) (v2 := .int .i64 sl) (v3 := .int .i64 cp) (v4 := .int .u32 sa) (v5 := .slice ia il ic) (v6 := .int .i64 ow) (v7 := .slice ra rl rc) (w := w) hHeld hs9)); clear hK K hHeld; have hHeld := hNew; clear hNew)
    try simp only [Act.put, List.setIfInBounds_toArray, List.set_cons_zero, List.set_cons_succ]
    first
      | (refine Ro.take_off (i := 9) rfl (by kernel_rfl) (by kernel_rfl) (by kernel_rfl) (fun _ _ _ h => h) (by rfl) (by assumption) ?_)
      | (refine Ro.one_on (i := 9) rfl (by kernel_rfl) (by rfl) (fun K hK => ?_); go_simp; go_at_call 14; (with_reducible refine (ROR.out _ hHeld.2.2.2.2.2.2.2.2).mono ?_); rintro e w' ⟨rfl, hs9⟩; (first | refine hK.out _ _ ?_ (fun hNew => ?_) | (go_wp2_with fail; refine hK.out _ _ ?_ (fun hNew => ?_))); (· (exact keep8 (g := w.heap.size) (v0 := .int .i64 k) (v1 := .int .i64 wd) (v2 := .int .i64 sl) (v3 := .int .i64 cp) (v4 := .int .u32 sa) (v5 := .slice ia il ic) (v6 := .int .i64 ow) (v7 := .slice ra rl rc) (w := w) hHeld hs9)); clear hK K hHeld; have hHeld := hNew; clear hNew)
    try simp only [Act.put, List.setIfInBounds_toArray, List.set_cons_zero, List.set_cons_succ]
    first
      | (refine Ro.take_off (i := 10) rfl (by kernel_rfl) (by kernel_rfl) (by kernel_rfl) (fun _ _ _ h => h) (by rfl) (by assumption) ?_)
      | (refine Ro.take_on (i := 10) (v := ?_) rfl (by kernel_rfl) (by kernel_rfl) (by kernel_rfl) (fun _ _ _ h => h) (by rfl) (by assumption) ?_ ?_; rotate_left; · (intro wS hSw; (try dsimp only at hSw); go_simp; try with_reducible rfl))
    try simp only [Act.put, List.setIfInBounds_toArray, List.set_cons_zero, List.set_cons_succ]
    first
      | (refine Ro.take_off (i := 11) rfl (by kernel_rfl) (by kernel_rfl) (by kernel_rfl) (fun _ _ _ h => h) (by rfl) (by assumption) ?_)
      | (refine Ro.take_on (i := 11) (v := ?_) rfl (by kernel_rfl) (by kernel_rfl) (by kernel_rfl) (fun _ _ _ h => h) (by rfl) (by assumption) ?_ ?_; rotate_left; · (intro wS hSw; (try dsimp only at hSw); go_simp; try with_reducible rfl))
    try simp only [Act.put, List.setIfInBounds_toArray, List.set_cons_zero, List.set_cons_succ]
    first
      | (refine Ro.take_off (i := 12) rfl (by kernel_rfl) (by kernel_rfl) (by kernel_rfl) (fun _ _ _ h => h) (by rfl) (by assumption) ?_)
      | (refine Ro.take_on (i := 12) (v := ?_) rfl (by kernel_rfl) (by kernel_rfl) (by kernel_rfl) (fun _ _ _ h => h) (by rfl) (by assumption) ?_ ?_; rotate_left; · (intro wS hSw; (try dsimp only at hSw); go_simp; try with_reducible rfl))
    try simp only [Act.put, List.setIfInBounds_toArray, List.set_cons_zero, List.set_cons_succ]
    first
      | (refine Ro.take_off (i := 13) rfl (by kernel_rfl) (by kernel_rfl) (by kernel_rfl) (fun _ _ _ h => h) (by rfl) (by assumption) ?_)
      | (refine Ro.take_on (i := 13) (v := ?_) rfl (by kernel_rfl) (by kernel_rfl) (by kernel_rfl) (fun _ _ _ h => h) (by rfl) (by assumption) ?_ ?_; rotate_left; · (intro wS hSw; (try dsimp only at hSw); go_simp; try with_reducible rfl))
    try simp only [Act.put, List.setIfInBounds_toArray, List.set_cons_zero, List.set_cons_succ]
    first
      | (refine Ro.take_off (i := 14) rfl (by kernel_rfl) (by kernel_rfl) (by kernel_rfl) (fun _ _ _ h => h) (by rfl) (by assumption) ?_)
      | (refine Ro.take_on (i := 14) (v := ?_) rfl (by kernel_rfl) (by kernel_rfl) (by kernel_rfl) (fun _ _ _ h => h) (by rfl) (by assumption) ?_ ?_; rotate_left; · (intro wS hSw; (try dsimp only at hSw); go_simp; try with_reducible rfl))
    try simp only [Act.put, List.setIfInBounds_toArray, List.set_cons_zero, List.set_cons_succ]
    first
      | (refine Ro.take_off (i := 15) rfl (by kernel_rfl) (by kernel_rfl) (by kernel_rfl) (fun _ _ _ h => h) (by rfl) (by assumption) ?_)
      | (refine Ro.take_on (i := 15) (v := ?_) rfl (by kernel_rfl) (by kernel_rfl) (by kernel_rfl) (fun _ _ _ h => h) (by rfl) (by assumption) ?_ ?_; rotate_left; · (intro wS hSw; (try dsimp only at hSw); go_simp; try with_reducible rfl))
    try simp only [Act.put, List.setIfInBounds_toArray, List.set_cons_zero, List.set_cons_succ]
    first
      | (refine Ro.take_off (i := 16) rfl (by kernel_rfl) (by kernel_rfl) (by kernel_rfl) (fun _ _ _ h => h) (by rfl) (by assumption) ?_)
      | (refine Ro.take_on (i := 16) (v := ?_) rfl (by kernel_rfl) (by kernel_rfl) (by kernel_rfl) (fun _ _ _ h => h) (by rfl) (by assumption) ?_ ?_; rotate_left; · (intro wS hSw; (try dsimp only at hSw); go_simp; try with_reducible rfl))
    try simp only [Act.put, List.setIfInBounds_toArray, List.set_cons_zero, List.set_cons_succ]
    first
      | (refine Ro.take_off (i := 17) rfl (by kernel_rfl) (by kernel_rfl) (by kernel_rfl) (fun _ _ _ h => h) (by rfl) (by assumption) ?_)
      | (refine Ro.take_on (i := 17) (v := ?_) rfl (by kernel_rfl) (by kernel_rfl) (by kernel_rfl) (fun _ _ _ h => h) (by rfl) (by assumption) ?_ ?_; rotate_left; · (intro wS hSw; (try dsimp only at hSw); go_simp; try with_reducible rfl))
    try simp only [Act.put, List.setIfInBounds_toArray, List.set_cons_zero, List.set_cons_succ]
    first
      | (refine Ro.take_off (i := 18) rfl (by kernel_rfl) (by kernel_rfl) (by kernel_rfl) (fun _ _ _ h => h) (by rfl) (by assumption) ?_)
      | (refine Ro.take_on (i := 18) (v := ?_) rfl (by kernel_rfl) (by kernel_rfl) (by kernel_rfl) (fun _ _ _ h => h) (by rfl) (by assumption) ?_ ?_; rotate_left; · (intro wS hSw; (try dsimp only at hSw); go_simp; try with_reducible rfl))
    try simp only [Act.put, List.setIfInBounds_toArray, List.set_cons_zero, List.set_cons_succ]
    first
      | (refine Ro.take_off (i := 19) rfl (by kernel_rfl) (by kernel_rfl) (by kernel_rfl) (fun _ _ _ h => h) (by rfl) (by assumption) ?_)
      | (refine Ro.take_on (i := 19) (v := ?_) rfl (by kernel_rfl) (by kernel_rfl) (by kernel_rfl) (fun _ _ _ h => h) (by rfl) (by assumption) ?_ ?_; rotate_left; · (intro wS hSw; (try dsimp only at hSw); go_simp; try with_reducible rfl))
    try simp only [Act.put, List.setIfInBounds_toArray, List.set_cons_zero, List.set_cons_succ]
    first
      | (refine Ro.take_off (i := 20) rfl (by kernel_rfl) (by kernel_rfl) (by kernel_rfl) (fun _ _ _ h => h) (by rfl) (by assumption) ?_)
      | (refine Ro.take_on (i := 20) (v := ?_) rfl (by kernel_rfl) (by kernel_rfl) (by kernel_rfl) (fun _ _ _ h => h) (by rfl) (by assumption) ?_ ?_; rotate_left; · (intro wS hSw; (try dsimp only at hSw); go_simp; try with_reducible rfl))
    try simp only [Act.put, List.setIfInBounds_toArray, List.set_cons_zero, List.set_cons_succ]
    first
      | (refine Ro.take_off (i := 21) rfl (by kernel_rfl) (by kernel_rfl) (by kernel_rfl) (fun _ _ _ h => h) (by rfl) (by assumption) ?_)
      | (refine Ro.take_on (i := 21) (v := ?_) rfl (by kernel_rfl) (by kernel_rfl) (by kernel_rfl) (fun _ _ _ h => h) (by rfl) (by assumption) ?_ ?_; rotate_left; · (intro wS hSw; (try dsimp only at hSw); go_simp; try with_reducible rfl))
    try simp only [Act.put, List.setIfInBounds_toArray, List.set_cons_zero, List.set_cons_succ]
    first
      | (refine Ro.take_off (i := 22) rfl (by kernel_rfl) (by kernel_rfl) (by kernel_rfl) (fun _ _ _ h => h) (by rfl) (by assumption) ?_)
      | (refine Ro.take_on (i := 22) (v := ?_) rfl (by kernel_rfl) (by kernel_rfl) (by kernel_rfl) (fun _ _ _ h => h) (by rfl) (by assumption) ?_ ?_; rotate_left; · (intro wS hSw; (try dsimp only at hSw); go_simp; try with_reducible rfl))
    try simp only [Act.put, List.setIfInBounds_toArray, List.set_cons_zero, List.set_cons_succ]
    first
      | (refine Ro.take_off (i := 23) rfl (by kernel_rfl) (by kernel_rfl) (by kernel_rfl) (fun _ _ _ h => h) (by rfl) (by assumption) ?_)
      | (refine Ro.take_on (i := 23) (v := ?_) rfl (by kernel_rfl) (by kernel_rfl) (by kernel_rfl) (fun _ _ _ h => h) (by rfl) (by assumption) ?_ ?_; rotate_left; · (intro wS hSw; (try dsimp only at hSw); go_simp; try with_reducible rfl))
    try simp only [Act.put, List.setIfInBounds_toArray, List.set_cons_zero, List.set_cons_succ]
    first
      | (refine Ro.take_off (i := 24) rfl (by kernel_rfl) (by kernel_rfl) (by kernel_rfl) (fun _ _ _ h => h) (by rfl) (by assumption) ?_)
      | (refine Ro.take_on (i := 24) (v := ?_) rfl (by kernel_rfl) (by kernel_rfl) (by kernel_rfl) (fun _ _ _ h => h) (by rfl) (by assumption) ?_ ?_; rotate_left; · (intro wS hSw; (try dsimp only at hSw); go_simp; try with_reducible rfl))
    try simp only [Act.put, List.setIfInBounds_toArray, List.set_cons_zero, List.set_cons_succ]
    first
      | (refine Ro.take_off (i := 25) rfl (by kernel_rfl) (by kernel_rfl) (by kernel_rfl) (fun _ _ _ h => h) (by rfl) (by assumption) ?_)
      | (refine Ro.take_on (i := 25) (v := ?_) rfl (by kernel_rfl) (by kernel_rfl) (by kernel_rfl) (fun _ _ _ h => h) (by rfl) (by assumption) ?_ ?_; rotate_left; · (intro wS hSw; (try dsimp only at hSw); go_simp; try with_reducible rfl))
    try simp only [Act.put, List.setIfInBounds_toArray, List.set_cons_zero, List.set_cons_succ]
    first
      | (refine Ro.take_off (i := 26) rfl (by kernel_rfl) (by kernel_rfl) (by kernel_rfl) (fun _ _ _ h => h) (by rfl) (by assumption) ?_)
      | (refine Ro.take_on (i := 26) (v := ?_) rfl (by kernel_rfl) (by kernel_rfl) (by kernel_rfl) (fun _ _ _ h => h) (by rfl) (by assumption) ?_ ?_; rotate_left; · (intro wS hSw; (try dsimp only at hSw); go_simp; try with_reducible rfl))
    try simp only [Act.put, List.setIfInBounds_toArray, List.set_cons_zero, List.set_cons_succ]
    first
      | (refine Ro.take_off (i := 27) rfl (by kernel_rfl) (by kernel_rfl) (by kernel_rfl) (fun _ _ _ h => h) (by rfl) (by assumption) ?_)
      | (refine Ro.take_on (i := 27) (v := ?_) rfl (by kernel_rfl) (by kernel_rfl) (by kernel_rfl) (fun _ _ _ h => h) (by rfl) (by assumption) ?_ ?_; rotate_left; · (intro wS hSw; (try dsimp only at hSw); go_simp; try with_reducible rfl))
    try simp only [Act.put, List.setIfInBounds_toArray, List.set_cons_zero, List.set_cons_succ]
    first
      | (refine Ro.take_off (i := 28) rfl (by kernel_rfl) (by kernel_rfl) (by kernel_rfl) (fun _ _ _ h => h) (by rfl) (by assumption) ?_)
      | (refine Ro.take_on (i := 28) (v := ?_) rfl (by kernel_rfl) (by kernel_rfl) (by kernel_rfl) (fun _ _ _ h => h) (by rfl) (by assumption) ?_ ?_; rotate_left; · (intro wS hSw; (try dsimp only at hSw); go_simp; try with_reducible rfl))
    try simp only [Act.put, List.setIfInBounds_toArray, List.set_cons_zero, List.set_cons_succ]
    first
      | (refine Ro.take_off (i := 29) rfl (by kernel_rfl) (by kernel_rfl) (by kernel_rfl) (fun _ _ _ h => h) (by rfl) (by assumption) ?_)
      | (refine Ro.take_on (i := 29) (v := ?_) rfl (by kernel_rfl) (by kernel_rfl) (by kernel_rfl) (fun _ _ _ h => h) (by rfl) (by assumption) ?_ ?_; rotate_left; · (intro wS hSw; (try dsimp only at hSw); go_simp; try with_reducible rfl))
    try simp only [Act.put, List.setIfInBounds_toArray, List.set_cons_zero, List.set_cons_succ]
    first
      | (refine Ro.take_off (i := 30) rfl (by kernel_rfl) (by kernel_rfl) (by kernel_rfl) (fun _ _ _ h => h) (by rfl) (by assumption) ?_)
      | (refine Ro.take_on (i := 30) (v := ?_) rfl (by kernel_rfl) (by kernel_rfl) (by kernel_rfl) (fun _ _ _ h => h) (by rfl) (by assumption) ?_ ?_; rotate_left; · (intro wS hSw; (try dsimp only at hSw); go_simp; try with_reducible rfl))
    try simp only [Act.put, List.setIfInBounds_toArray, List.set_cons_zero, List.set_cons_succ]
    first
      | (refine Ro.take_off (i := 31) rfl (by kernel_rfl) (by kernel_rfl) (by kernel_rfl) (fun _ _ _ h => h) (by rfl) (by assumption) ?_)
      | (refine Ro.take_on (i := 31) (v := ?_) rfl (by kernel_rfl) (by kernel_rfl) (by kernel_rfl) (fun _ _ _ h => h) (by rfl) (by assumption) ?_ ?_; rotate_left; · (intro wS hSw; (try dsimp only at hSw); go_simp; try with_reducible rfl))
    try simp only [Act.put, List.setIfInBounds_toArray, List.set_cons_zero, List.set_cons_succ]
    first
      | (refine Ro.take_off (i := 32) rfl (by kernel_rfl) (by kernel_rfl) (by kernel_rfl) (fun _ _ _ h => h) (by rfl) (by assumption) ?_)
      | (refine Ro.take_on (i := 32) (v := ?_) rfl (by kernel_rfl) (by kernel_rfl) (by kernel_rfl) (fun _ _ _ h => h) (by rfl) (by assumption) ?_ ?_; rotate_left; · (intro wS hSw; (try dsimp only at hSw); go_simp; try with_reducible rfl))
    try simp only [Act.put, List.setIfInBounds_toArray, List.set_cons_zero, List.set_cons_succ]
    first
      | (refine Ro.take_off (i := 33) rfl (by kernel_rfl) (by kernel_rfl) (by kernel_rfl) (fun _ _ _ h => h) (by rfl) (by assumption) ?_)
      | (refine Ro.take_on (i := 33) (v := ?_) rfl (by kernel_rfl) (by kernel_rfl) (by kernel_rfl) (fun _ _ _ h => h) (by rfl) (by assumption) ?_ ?_; rotate_left; · (intro wS hSw; (try dsimp only at hSw); go_simp; try with_reducible rfl))
    try simp only [Act.put, List.setIfInBounds_toArray, List.set_cons_zero, List.set_cons_succ]
    refine wpAnyH_done (by kernel_rfl) ?_ _
    have HS5 := Lib.hid hHeld.2.2.2.2.2.2.2.2
    have HSV := Lib.hid hHeld
    clear hHeld
    go_wp2_with fail
    refine wp_region_held_drew (S := fun w' => w'.cell? ⟨w.heap.size, 0, none⟩ = some (.int .i64 k) ∧ w'.cell? ⟨w.heap.size, 1, none⟩ = some (.int .i64 wd) ∧ w'.cell? ⟨w.heap.size, 2, none⟩ = some (.int .i64 sl) ∧ w'.cell? ⟨w.heap.size, 3, none⟩ = some (.int .i64 cp) ∧ w'.cell? ⟨w.heap.size, 4, none⟩ = some (.int .u32 sa) ∧ w'.cell? ⟨w.heap.size, 5, none⟩ = some (.slice ia il ic) ∧ w'.cell? ⟨w.heap.size, 6, none⟩ = some (.int .i64 ow) ∧ w'.cell? ⟨w.heap.size, 7, none⟩ = some (.slice ra rl rc) ∧ Same w w') (by kernel_rfl) ?_ (fun hHeld => ?_)
    · exact keep8 (g := w.heap.size) (v0 := .int .i64 k) (v1 := .int .i64 wd) (v2 := .int .i64 sl) (v3 := .int .i64 cp) (v4 := .int .u32 sa) (v5 := .slice ia il ic) (v6 := .int .i64 ow) (v7 := .slice ra rl rc) (w := w) HSV.out (Same.refl _).drew
    first
      | (refine Ro.take_off (i := 0) rfl (by kernel_rfl) (by kernel_rfl) (by kernel_rfl) (fun _ _ _ h => h) (by rfl) (by assumption) ?_)
      | (refine Ro.take_on (i := 0) (v := ?_) rfl (by kernel_rfl) (by kernel_rfl) (by kernel_rfl) (fun _ _ _ h => h) (by rfl) (by assumption) ?_ ?_; rotate_left; · (intro wS hSw; (try dsimp only at hSw); go_simp; try with_reducible rfl))
    try simp only [Act.put, List.setIfInBounds_toArray, List.set_cons_zero, List.set_cons_succ]
    first
      | (refine Ro.take_off (i := 2) rfl (by kernel_rfl) (by kernel_rfl) (by kernel_rfl) (fun _ _ _ h => h) (by rfl) (by assumption) ?_)
      | (refine Ro.take_on (i := 2) (v := ?_) rfl (by kernel_rfl) (by kernel_rfl) (by kernel_rfl) (fun _ _ _ h => h) (by rfl) (by assumption) ?_ ?_; rotate_left; · (intro wS hSw; (try dsimp only at hSw); go_simp; try with_reducible rfl))
    try simp only [Act.put, List.setIfInBounds_toArray, List.set_cons_zero, List.set_cons_succ]
    first
      | (refine Ro.take_off (i := 1) rfl (by kernel_rfl) (by kernel_rfl) (by kernel_rfl) (fun _ _ _ h => h) (by rfl) (by assumption) ?_)
      | (refine Ro.one_on (i := 1) rfl (by kernel_rfl) (by rfl) (fun K hK => ?_); go_simp; go_at_call 15; (with_reducible refine (SZ.out _ hHeld.2.2.2.2.2.2.2.2).mono ?_); rintro e w' ⟨rfl, hs9⟩; (first | refine hK.out _ _ ?_ (fun hNew => ?_) | (go_wp2_with fail; refine hK.out _ _ ?_ (fun hNew => ?_))); (· (exact keep8 (g := w.heap.size) (v0 := .int .i64 k) (v1 := .int .i64 wd) (v2 := .int .i64 sl) (v3 := .int .i64 cp) (v4 := .int .u32 sa) (v5 := .slice ia il ic) (v6 := .int .i64 ow) (v7 := .slice ra rl rc) (w := w) hHeld hs9)); clear hK K hHeld; have hHeld := hNew; clear hNew)
    try simp only [Act.put, List.setIfInBounds_toArray, List.set_cons_zero, List.set_cons_succ]
    first
      | (refine Ro.take_off (i := 3) rfl (by kernel_rfl) (by kernel_rfl) (by kernel_rfl) (fun _ _ _ h => h) (by rfl) (by assumption) ?_)
      | (refine Ro.one_on (i := 3) rfl (by kernel_rfl) (by rfl) (fun K hK => ?_); go_simp; go_at_call 16; (with_reducible refine (RSZ.out _ hHeld.2.2.2.2.2.2.2.2).mono ?_); rintro e w' ⟨rfl, hs9⟩; (first | refine hK.out _ _ ?_ (fun hNew => ?_) | (go_wp2_with fail; refine hK.out _ _ ?_ (fun hNew => ?_))); (· (exact keep8 (g := w.heap.size) (v0 := .int .i64 k) (v1 := .int .i64 wd) (v2 := .int .i64 sl) (v3 := .int .i64 cp) (v4 := .int .u32 sa) (v5 := .slice ia il ic) (v6 := .int .i64 ow) (v7 := .slice ra rl rc) (w := w) hHeld hs9)); clear hK K hHeld; have hHeld := hNew; clear hNew)
    try simp only [Act.put, List.setIfInBounds_toArray, List.set_cons_zero, List.set_cons_succ]
    first
      | (refine Ro.take_off (i := 4) rfl (by kernel_rfl) (by kernel_rfl) (by kernel_rfl) (fun _ _ _ h => h) (by rfl) (by assumption) ?_)
      | (refine Ro.take_on (i := 4) (v := ?_) rfl (by kernel_rfl) (by kernel_rfl) (by kernel_rfl) (fun _ _ _ h => h) (by rfl) (by assumption) ?_ ?_; rotate_left; · (intro wS hSw; (try dsimp only at hSw); go_simp; try with_reducible rfl))
    try simp only [Act.put, List.setIfInBounds_toArray, List.set_cons_zero, List.set_cons_succ]
    first
      | (refine Ro.take_off (i := 5) rfl (by kernel_rfl) (by kernel_rfl) (by kernel_rfl) (fun _ _ _ h => h) (by rfl) (by assumption) ?_)
      | (refine Ro.take_on (i := 5) (v := ?_) rfl (by kernel_rfl) (by kernel_rfl) (by kernel_rfl) (fun _ _ _ h => h) (by rfl) (by assumption) ?_ ?_; rotate_left; · (intro wS hSw; (try dsimp only at hSw); go_simp; try with_reducible rfl))
    try simp only [Act.put, List.setIfInBounds_toArray, List.set_cons_zero, List.set_cons_succ]
    first
      | (refine Ro.take_off (i := 6) rfl (by kernel_rfl) (by kernel_rfl) (by kernel_rfl) (fun _ _ _ h => h) (by rfl) (by assumption) ?_)
      | (refine Ro.take_on (i := 6) (v := ?_) rfl (by kernel_rfl) (by kernel_rfl) (by kernel_rfl) (fun _ _ _ h => h) (by rfl) (by assumption) ?_ ?_; rotate_left; · (intro wS hSw; (try dsimp only at hSw); go_simp; try with_reducible rfl))
    try simp only [Act.put, List.setIfInBounds_toArray, List.set_cons_zero, List.set_cons_succ]
    first
      | (refine Ro.take_off (i := 8) rfl (by kernel_rfl) (by kernel_rfl) (by kernel_rfl) (fun _ _ _ h => h) (by rfl) (by assumption) ?_)
      | (refine Ro.take_on (i := 8) (v := ?_) rfl (by kernel_rfl) (by kernel_rfl) (by kernel_rfl) (fun _ _ _ h => h) (by rfl) (by assumption) ?_ ?_; rotate_left; · (intro wS hSw; (try dsimp only at hSw); go_simp; try with_reducible rfl))
    try simp only [Act.put, List.setIfInBounds_toArray, List.set_cons_zero, List.set_cons_succ]
    first
      | (refine Ro.take_off (i := 7) rfl (by kernel_rfl) (by kernel_rfl) (by kernel_rfl) (fun _ _ _ h => h) (by rfl) (by assumption) ?_)
      | (refine Ro.one_on (i := 7) rfl (by kernel_rfl) (by rfl) (fun K hK => ?_); go_simp; go_at_call 18; (with_reducible refine (LY.out _ hHeld.2.2.2.2.2.2.2.2).mono ?_); rintro e w' ⟨A1, n1, c1, hn1, rfl, hs9, hr1⟩; have HN1 := Lib.hid hn1; have HRW1 := Lib.hid hr1; clear hn1 hr1; (first | refine hK.out _ _ ?_ (fun hNew => ?_) | (go_wp2_with fail; refine hK.out _ _ ?_ (fun hNew => ?_))); (· (exact keep8 (g := w.heap.size) (v0 := .int .i64 k) (v1 := .int .i64 wd) (v2 := .int .i64 sl) (v3 := .int .i64 cp) (v4 := .int .u32 sa) (v5 := .slice ia il ic) (v6 := .int .i64 ow) (v7 := .slice ra rl rc) (w := w) hHeld hs9)); clear hK K hHeld; have hHeld := hNew; clear hNew)
    try simp only [Act.put, List.setIfInBounds_toArray, List.set_cons_zero, List.set_cons_succ]
    first
      | (refine Ro.take_off (i := 9) rfl (by kernel_rfl) (by kernel_rfl) (by kernel_rfl) (fun _ _ _ h => h) (by rfl) (by assumption) ?_)
      | (refine Ro.one_on (i := 9) rfl (by kernel_rfl) (by rfl) (fun K hK => ?_); go_simp; go_at_call 19; (with_reducible refine (RLY.out _ hHeld.2.2.2.2.2.2.2.2).mono ?_); rintro e w' ⟨A2, n2, c2, hn2, rfl, hs9, hr2⟩; have HN2 := Lib.hid hn2; have HRW2 := Lib.hid hr2; clear hn2 hr2; have hs19 := Lib.hid hs9; (first | refine hK.out _ _ ?_ (fun hNew => ?_) | (go_wp2_with fail; refine hK.out _ _ ?_ (fun hNew => ?_))); (· (exact keep8 (g := w.heap.size) (v0 := .int .i64 k) (v1 := .int .i64 wd) (v2 := .int .i64 sl) (v3 := .int .i64 cp) (v4 := .int .u32 sa) (v5 := .slice ia il ic) (v6 := .int .i64 ow) (v7 := .slice ra rl rc) (w := w) hHeld hs9)); clear hK K hHeld; have hHeld := hNew; clear hNew)
    try simp only [Act.put, List.setIfInBounds_toArray, List.set_cons_zero, List.set_cons_succ]
    first
      | (refine Ro.take_off (i := 10) rfl (by kernel_rfl) (by kernel_rfl) (by kernel_rfl) (fun _ _ _ h => h) (by rfl) (by assumption) ?_)
      | (refine Ro.one_on (i := 10) rfl (by kernel_rfl) (by rfl) (fun K hK => ?_); go_simp; go_at_call 17; (with_reducible refine (swords A1 A2 n1 n2 c1 c2 ws _ HN1.out.symm HN2.out.symm (HRW1.out.same hs19.out) HRW2.out (by have h1 := LSM.out; have h2 := HN1.out; omega) (by have h1 := LSM.out; have h2 := HN2.out; omega)).mono ?_); rintro e w' ⟨rfl, hs9⟩; (first | refine hK.out _ _ ?_ (fun hNew => ?_) | (go_wp2_with fail; refine hK.out _ _ ?_ (fun hNew => ?_))); (· (exact keep8 (g := w.heap.size) (v0 := .int .i64 k) (v1 := .int .i64 wd) (v2 := .int .i64 sl) (v3 := .int .i64 cp) (v4 := .int .u32 sa) (v5 := .slice ia il ic) (v6 := .int .i64 ow) (v7 := .slice ra rl rc) (w := w) hHeld hs9)); clear hK K hHeld; have hHeld := hNew; clear hNew)
    try simp only [Act.put, List.setIfInBounds_toArray, List.set_cons_zero, List.set_cons_succ]
    first
      | (refine Ro.take_off (i := 11) rfl (by kernel_rfl) (by kernel_rfl) (by kernel_rfl) (fun _ _ _ h => h) (by rfl) (by assumption) ?_)
      | (refine Ro.take_on (i := 11) (v := ?_) rfl (by kernel_rfl) (by kernel_rfl) (by kernel_rfl) (fun _ _ _ h => h) (by rfl) (by assumption) ?_ ?_; rotate_left; · (intro wS hSw; (try dsimp only at hSw); go_simp; try with_reducible rfl))
    try simp only [Act.put, List.setIfInBounds_toArray, List.set_cons_zero, List.set_cons_succ]
    first
      | (refine Ro.take_off (i := 12) rfl (by kernel_rfl) (by kernel_rfl) (by kernel_rfl) (fun _ _ _ h => h) (by rfl) (by assumption) ?_)
      | (refine Ro.take_on (i := 12) (v := ?_) rfl (by kernel_rfl) (by kernel_rfl) (by kernel_rfl) (fun _ _ _ h => h) (by rfl) (by assumption) ?_ ?_; rotate_left; · (intro wS hSw; (try dsimp only at hSw); go_simp; try with_reducible rfl))
    try simp only [Act.put, List.setIfInBounds_toArray, List.set_cons_zero, List.set_cons_succ]
    first
      | (refine Ro.take_off (i := 13) rfl (by kernel_rfl) (by kernel_rfl) (by kernel_rfl) (fun _ _ _ h => h) (by rfl) (by assumption) ?_)
      | (refine Ro.take_on (i := 13) (v := ?_) rfl (by kernel_rfl) (by kernel_rfl) (by kernel_rfl) (fun _ _ _ h => h) (by rfl) (by assumption) ?_ ?_; rotate_left; · (intro wS hSw; (try dsimp only at hSw); go_simp; try with_reducible rfl))
    try simp only [Act.put, List.setIfInBounds_toArray, List.set_cons_zero, List.set_cons_succ]
    first
      | (refine Ro.take_off (i := 14) rfl (by kernel_rfl) (by kernel_rfl) (by kernel_rfl) (fun _ _ _ h => h) (by rfl) (by assumption) ?_)
      | (refine Ro.take_on (i := 14) (v := ?_) rfl (by kernel_rfl) (by kernel_rfl) (by kernel_rfl) (fun _ _ _ h => h) (by rfl) (by assumption) ?_ ?_; rotate_left; · (intro wS hSw; (try dsimp only at hSw); go_simp; try with_reducible rfl))
    try simp only [Act.put, List.setIfInBounds_toArray, List.set_cons_zero, List.set_cons_succ]
    first
      | (refine Ro.take_off (i := 16) rfl (by kernel_rfl) (by kernel_rfl) (by kernel_rfl) (fun _ _ _ h => h) (by rfl) (by assumption) ?_)
      | (refine Ro.take_on (i := 16) (v := ?_) rfl (by kernel_rfl) (by kernel_rfl) (by kernel_rfl) (fun _ _ _ h => h) (by rfl) (by assumption) ?_ ?_; rotate_left; · (intro wS hSw; (try dsimp only at hSw); go_simp; try with_reducible rfl))
    try simp only [Act.put, List.setIfInBounds_toArray, List.set_cons_zero, List.set_cons_succ]
    first
      | (refine Ro.take_off (i := 17) rfl (by kernel_rfl) (by kernel_rfl) (by kernel_rfl) (fun _ _ _ h => h) (by rfl) (by assumption) ?_)
      | (refine Ro.take_on (i := 17) (v := ?_) rfl (by kernel_rfl) (by kernel_rfl) (by kernel_rfl) (fun _ _ _ h => h) (by rfl) (by assumption) ?_ ?_; rotate_left; · (intro wS hSw; (try dsimp only at hSw); go_simp; try with_reducible rfl))
    try simp only [Act.put, List.setIfInBounds_toArray, List.set_cons_zero, List.set_cons_succ]
    first
      | (refine Ro.take_off (i := 15) rfl (by kernel_rfl) (by kernel_rfl) (by kernel_rfl) (fun _ _ _ h => h) (by rfl) (by assumption) ?_)
      | (refine Ro.one_on (i := 15) rfl (by kernel_rfl) (by rfl) (fun K hK => ?_); go_simp; go_at_call 20; (with_reducible refine (BD.out _ hHeld.2.2.2.2.2.2.2.2).mono ?_); rintro e w' ⟨rfl, hs9⟩; (first | refine hK.out _ _ ?_ (fun hNew => ?_) | (go_wp2_with fail; refine hK.out _ _ ?_ (fun hNew => ?_))); (· (exact keep8 (g := w.heap.size) (v0 := .int .i64 k) (v1 := .int .i64 wd) (v2 := .int .i64 sl) (v3 := .int .i64 cp) (v4 := .int .u32 sa) (v5 := .slice ia il ic) (v6 := .int .i64 ow) (v7 := .slice ra rl rc) (w := w) hHeld hs9)); clear hK K hHeld; have hHeld := hNew; clear hNew)
    try simp only [Act.put, List.setIfInBounds_toArray, List.set_cons_zero, List.set_cons_succ]
    first
      | (refine Ro.take_off (i := 18) rfl (by kernel_rfl) (by kernel_rfl) (by kernel_rfl) (fun _ _ _ h => h) (by rfl) (by assumption) ?_)
      | (refine Ro.one_on (i := 18) rfl (by kernel_rfl) (by rfl) (fun K hK => ?_); go_simp; go_at_call 21; (with_reducible refine (RBD.out _ hHeld.2.2.2.2.2.2.2.2).mono ?_); rintro e w' ⟨rfl, hs9⟩; (first | refine hK.out _ _ ?_ (fun hNew => ?_) | (go_wp2_with fail; refine hK.out _ _ ?_ (fun hNew => ?_))); (· (exact keep8 (g := w.heap.size) (v0 := .int .i64 k) (v1 := .int .i64 wd) (v2 := .int .i64 sl) (v3 := .int .i64 cp) (v4 := .int .u32 sa) (v5 := .slice ia il ic) (v6 := .int .i64 ow) (v7 := .slice ra rl rc) (w := w) hHeld hs9)); clear hK K hHeld; have hHeld := hNew; clear hNew)
    try simp only [Act.put, List.setIfInBounds_toArray, List.set_cons_zero, List.set_cons_succ]
    first
      | (refine Ro.take_off (i := 19) rfl (by kernel_rfl) (by kernel_rfl) (by kernel_rfl) (fun _ _ _ h => h) (by rfl) (by assumption) ?_)
      | (refine Ro.take_on (i := 19) (v := ?_) rfl (by kernel_rfl) (by kernel_rfl) (by kernel_rfl) (fun _ _ _ h => h) (by rfl) (by assumption) ?_ ?_; rotate_left; · (intro wS hSw; (try dsimp only at hSw); go_simp; try with_reducible rfl))
    try simp only [Act.put, List.setIfInBounds_toArray, List.set_cons_zero, List.set_cons_succ]
    first
      | (refine Ro.take_off (i := 20) rfl (by kernel_rfl) (by kernel_rfl) (by kernel_rfl) (fun _ _ _ h => h) (by rfl) (by assumption) ?_)
      | (refine Ro.take_on (i := 20) (v := ?_) rfl (by kernel_rfl) (by kernel_rfl) (by kernel_rfl) (fun _ _ _ h => h) (by rfl) (by assumption) ?_ ?_; rotate_left; · (intro wS hSw; (try dsimp only at hSw); go_simp; try with_reducible rfl))
    try simp only [Act.put, List.setIfInBounds_toArray, List.set_cons_zero, List.set_cons_succ]
    first
      | (refine Ro.take_off (i := 21) rfl (by kernel_rfl) (by kernel_rfl) (by kernel_rfl) (fun _ _ _ h => h) (by rfl) (by assumption) ?_)
      | (refine Ro.take_on (i := 21) (v := ?_) rfl (by kernel_rfl) (by kernel_rfl) (by kernel_rfl) (fun _ _ _ h => h) (by rfl) (by assumption) ?_ ?_; rotate_left; · (intro wS hSw; (try dsimp only at hSw); go_simp; try with_reducible rfl))
    try simp only [Act.put, List.setIfInBounds_toArray, List.set_cons_zero, List.set_cons_succ]
    first
      | (refine Ro.take_off (i := 22) rfl (by kernel_rfl) (by kernel_rfl) (by kernel_rfl) (fun _ _ _ h => h) (by rfl) (by assumption) ?_)
      | (refine Ro.one_on (i := 22) rfl (by kernel_rfl) (by rfl) (fun K hK => ?_); go_simp; go_at_call 8; (with_reducible refine (AW2.out _ hHeld.2.2.2.2.2.2.2.2).mono ?_); rintro e w' ⟨rfl, hs9⟩; (first | refine hK.out _ _ ?_ (fun hNew => ?_) | (go_wp2_with fail; refine hK.out _ _ ?_ (fun hNew => ?_))); (· (exact keep8 (g := w.heap.size) (v0 := .int .i64 k) (v1 := .int .i64 wd) (v2 := .int .i64 sl) (v3 := .int .i64 cp) (v4 := .int .u32 sa) (v5 := .slice ia il ic) (v6 := .int .i64 ow) (v7 := .slice ra rl rc) (w := w) hHeld hs9)); clear hK K hHeld; have hHeld := hNew; clear hNew)
    try simp only [Act.put, List.setIfInBounds_toArray, List.set_cons_zero, List.set_cons_succ]
    first
      | (refine Ro.take_off (i := 23) rfl (by kernel_rfl) (by kernel_rfl) (by kernel_rfl) (fun _ _ _ h => h) (by rfl) (by assumption) ?_)
      | (refine Ro.take_on (i := 23) (v := ?_) rfl (by kernel_rfl) (by kernel_rfl) (by kernel_rfl) (fun _ _ _ h => h) (by rfl) (by assumption) ?_ ?_; rotate_left; · (intro wS hSw; (try dsimp only at hSw); go_simp; try with_reducible rfl))
    try simp only [Act.put, List.setIfInBounds_toArray, List.set_cons_zero, List.set_cons_succ]
    first
      | (refine Ro.take_off (i := 24) rfl (by kernel_rfl) (by kernel_rfl) (by kernel_rfl) (fun _ _ _ h => h) (by rfl) (by assumption) ?_)
      | (refine Ro.take_on (i := 24) (v := ?_) rfl (by kernel_rfl) (by kernel_rfl) (by kernel_rfl) (fun _ _ _ h => h) (by rfl) (by assumption) ?_ ?_; rotate_left; · (intro wS hSw; (try dsimp only at hSw); go_simp; try with_reducible rfl))
    try simp only [Act.put, List.setIfInBounds_toArray, List.set_cons_zero, List.set_cons_succ]
    refine wpAnyH_done (by kernel_rfl) ?_ _
    go_wp2_with fail
    go_ret
    exact ⟨rfl, hHeld.2.2.2.2.2.2.2.2⟩
  · skip
    rw [if_neg hy, decide_eq_false hy] at RD
    have hyd : decide (0 ≤ y) = false := decide_eq_false hy
    go_enter Tryz.func3, Tryz.ntmps3
    go_wp2_with fail
    refine (SML.out _).mono ?_
    rintro e w1 ⟨rfl, s1⟩
    have HS1 := Lib.hid (HS0.out.trans s1)
    have HB1 := Lib.hid (HB0.out.same s1)
    clear s1 d0 d1 d2 d3 d4 d5 d6 d7
    obtain ⟨d0, d1, d2, d3, d4, d5, d6, d7⟩ := Kb.obj_cells HB1.out
    go_wp2_with fail
    refine (RD.out _ HS1.out).mono ?_
    rintro e w2 ⟨rfl, s2⟩
    have HS2 := Lib.hid (HS1.out.trans s2)
    have HB2 := Lib.hid (HB1.out.same s2)
    clear s2 d0 d1 d2 d3 d4 d5 d6 d7
    obtain ⟨d0, d1, d2, d3, d4, d5, d6, d7⟩ := Kb.obj_cells HB2.out
    go_wp2_with fail
    refine (RRD.out _ HS2.out).mono ?_
    rintro e w4 ⟨rfl, s4⟩
    have HS4 := Lib.hid (HS2.out.trans s4)
    have HB4 := Lib.hid (HB2.out.same s4)
    clear s4 d0 d1 d2 d3 d4 d5 d6 d7
    go_wp2_with fail
    refine wp_region_held_drew (S := fun w' => w'.cell? ⟨w.heap.size, 0, none⟩ = some (.int .i64 k) ∧ w'.cell? ⟨w.heap.size, 1, none⟩ = some (.int .i64 wd) ∧ w'.cell? ⟨w.heap.size, 2, none⟩ = some (.int .i64 sl) ∧ w'.cell? ⟨w.heap.size, 3, none⟩ = some (.int .i64 cp) ∧ w'.cell? ⟨w.heap.size, 4, none⟩ = some (.int .u32 sa) ∧ w'.cell? ⟨w.heap.size, 5, none⟩ = some (.slice ia il ic) ∧ w'.cell? ⟨w.heap.size, 6, none⟩ = some (.int .i64 ow) ∧ w'.cell? ⟨w.heap.size, 7, none⟩ = some (.slice ra rl rc) ∧ Same w w') (by kernel_rfl) ?_ (fun hHeld => ?_)
    · exact (S8.mk (blk_drew HB4.out) HS4.out.drew)
    first
      | (refine Ro.take_off (i := 0) rfl (by kernel_rfl) (by kernel_rfl) (by kernel_rfl) (fun _ _ _ h => h) (by rfl) (by assumption) ?_)
      | (refine Ro.take_on (i := 0) (v := ?_) rfl (by kernel_rfl) (by kernel_rfl) (by kernel_rfl) (fun _ _ _ h => h) (by rfl) (by assumption) ?_ ?_; rotate_left; · (intro wS hSw; (try dsimp only at hSw); go_simp; try with_reducible rfl))
    try simp only [Act.put, List.setIfInBounds_toArray, List.set_cons_zero, List.set_cons_succ]
    first
      | (refine Ro.take_off (i := 2) rfl (by kernel_rfl) (by kernel_rfl) (by kernel_rfl) (fun _ _ _ h => h) (by rfl) (by assumption) ?_)
      | (refine Ro.take_on (i := 2) (v := ?_) rfl (by kernel_rfl) (by kernel_rfl) (by kernel_rfl) (fun _ _ _ h => h) (by rfl) (by assumption) ?_ ?_; rotate_left; · (intro wS hSw; (try dsimp only at hSw); go_simp; try with_reducible rfl))
    try simp only [Act.put, List.setIfInBounds_toArray, List.set_cons_zero, List.set_cons_succ]
    first
      | (refine Ro.take_off (i := 1) rfl (by kernel_rfl) (by kernel_rfl) (by kernel_rfl) (fun _ _ _ h => h) (by rfl) (by assumption) ?_)
      | (refine Ro.one_on (i := 1) rfl (by kernel_rfl) (by rfl) (fun K hK => ?_); go_simp; go_at_call 11; (with_reducible refine (SH.out _ hHeld.2.2.2.2.2.2.2.2).mono ?_); rintro e w' ⟨rfl, hs9⟩; (first | refine hK.out _ _ ?_ (fun hNew => ?_) | (go_wp2_with fail; refine hK.out _ _ ?_ (fun hNew => ?_))); (· (exact keep8 (g := w.heap.size) (v0 := .int .i64 k) (v1 := .int .i64 wd) (v2 := .int .i64 sl) (v3 := .int .i64 cp) (v4 := .int .u32 sa) (v5 := .slice ia il ic) (v6 := .int .i64 ow) (v7 := .slice ra rl rc) (w := w) hHeld hs9)); clear hK K hHeld; have hHeld := hNew; clear hNew)
    try simp only [Act.put, List.setIfInBounds_toArray, List.set_cons_zero, List.set_cons_succ]
    first
      | (refine Ro.take_off (i := 3) rfl (by kernel_rfl) (by kernel_rfl) (by kernel_rfl) (fun _ _ _ h => h) (by rfl) (by assumption) ?_)
      | (refine Ro.one_on (i := 3) rfl (by kernel_rfl) (by rfl) (fun K hK => ?_); go_simp; go_at_call 12; (with_reducible refine (RSH.out _ hHeld.2.2.2.2.2.2.2.2).mono ?_); rintro e w' ⟨rfl, hs9⟩; (first | refine hK.out _ _ ?_ (fun hNew => ?_) | (go_wp2_with fail; refine hK.out _ _ ?_ (fun hNew => ?_))); (· (exact keep8 (g := w.heap.size) (v0 := .int .i64 k) (v1 := .int .i64 wd) (v2 := .int .i64 sl) (v3 := .int .i64 cp) (v4 := .int .u32 sa) (v5 := .slice ia il ic) (v6 := .int .i64 ow) (v7 := .slice ra rl rc) (w := w) hHeld hs9)); clear hK K hHeld; have hHeld := hNew; clear hNew)
    try simp only [Act.put, List.setIfInBounds_toArray, List.set_cons_zero, List.set_cons_succ]
    first
      | (refine Ro.take_off (i := 4) rfl (by kernel_rfl) (by kernel_rfl) (by kernel_rfl) (fun _ _ _ h => h) (by rfl) (by assumption) ?_)
      | (refine Ro.take_on (i := 4) (v := ?_) rfl (by kernel_rfl) (by kernel_rfl) (by kernel_rfl) (fun _ _ _ h => h) (by rfl) (by assumption) ?_ ?_; rotate_left; · (intro wS hSw; (try dsimp only at hSw); go_simp; try with_reducible rfl))
    try simp only [Act.put, List.setIfInBounds_toArray, List.set_cons_zero, List.set_cons_succ]
    first
      | (refine Ro.take_off (i := 5) rfl (by kernel_rfl) (by kernel_rfl) (by kernel_rfl) (fun _ _ _ h => h) (by rfl) (by assumption) ?_)
      | (refine Ro.take_on (i := 5) (v := ?_) rfl (by kernel_rfl) (by kernel_rfl) (by kernel_rfl) (fun _ _ _ h => h) (by rfl) (by assumption) ?_ ?_; rotate_left; · (intro wS hSw; (try dsimp only at hSw); go_simp; try with_reducible rfl))
    try simp only [Act.put, List.setIfInBounds_toArray, List.set_cons_zero, List.set_cons_succ]
    first
      | (refine Ro.take_off (i := 6) rfl (by kernel_rfl) (by kernel_rfl) (by kernel_rfl) (fun _ _ _ h => h) (by rfl) (by assumption) ?_)
      | (refine Ro.take_on (i := 6) (v := ?_) rfl (by kernel_rfl) (by kernel_rfl) (by kernel_rfl) (fun _ _ _ h => h) (by rfl) (by assumption) ?_ ?_; rotate_left; · (intro wS hSw; (try dsimp only at hSw); go_simp; try with_reducible rfl))
    try simp only [Act.put, List.setIfInBounds_toArray, List.set_cons_zero, List.set_cons_succ]
    first
      | (refine Ro.take_off (i := 8) rfl (by kernel_rfl) (by kernel_rfl) (by kernel_rfl) (fun _ _ _ h => h) (by rfl) (by assumption) ?_)
      | (refine Ro.take_on (i := 8) (v := ?_) rfl (by kernel_rfl) (by kernel_rfl) (by kernel_rfl) (fun _ _ _ h => h) (by rfl) (by assumption) ?_ ?_; rotate_left; · (intro wS hSw; (try dsimp only at hSw); go_simp; try with_reducible rfl))
    try simp only [Act.put, List.setIfInBounds_toArray, List.set_cons_zero, List.set_cons_succ]
    first
      | (refine Ro.take_off (i := 7) rfl (by kernel_rfl) (by kernel_rfl) (by kernel_rfl) (fun _ _ _ h => h) (by rfl) (by assumption) ?_)
      | (refine Ro.one_on (i := 7) rfl (by kernel_rfl) (by rfl) (fun K hK => ?_); go_simp; go_at_call 13; (with_reducible refine (OR.out _ hHeld.2.2.2.2.2.2.2.2).mono ?_); rintro e w' ⟨rfl, hs9⟩; (first | refine hK.out _ _ ?_ (fun hNew => ?_) | (go_wp2_with fail; refine hK.out _ _ ?_ (fun hNew => ?_))); (· (exact keep8 (g := w.heap.size) (v0 := .int .i64 k) (v1 := .int .i64 wd) (v2 := .int .i64 sl) (v3 := .int .i64 cp) (v4 := .int .u32 sa) (v5 := .slice ia il ic) (v6 := .int .i64 ow) (v7 := .slice ra rl rc) (w := w) hHeld hs9)); clear hK K hHeld; have hHeld := hNew; clear hNew)
    try simp only [Act.put, List.setIfInBounds_toArray, List.set_cons_zero, List.set_cons_succ]
    first
      | (refine Ro.take_off (i := 9) rfl (by kernel_rfl) (by kernel_rfl) (by kernel_rfl) (fun _ _ _ h => h) (by rfl) (by assumption) ?_)
      | (refine Ro.one_on (i := 9) rfl (by kernel_rfl) (by rfl) (fun K hK => ?_); go_simp; go_at_call 14; (with_reducible refine (ROR.out _ hHeld.2.2.2.2.2.2.2.2).mono ?_); rintro e w' ⟨rfl, hs9⟩; (first | refine hK.out _ _ ?_ (fun hNew => ?_) | (go_wp2_with fail; refine hK.out _ _ ?_ (fun hNew => ?_))); (· (exact keep8 (g := w.heap.size) (v0 := .int .i64 k) (v1 := .int .i64 wd) (v2 := .int .i64 sl) (v3 := .int .i64 cp) (v4 := .int .u32 sa) (v5 := .slice ia il ic) (v6 := .int .i64 ow) (v7 := .slice ra rl rc) (w := w) hHeld hs9)); clear hK K hHeld; have hHeld := hNew; clear hNew)
    try simp only [Act.put, List.setIfInBounds_toArray, List.set_cons_zero, List.set_cons_succ]
    first
      | (refine Ro.take_off (i := 10) rfl (by kernel_rfl) (by kernel_rfl) (by kernel_rfl) (fun _ _ _ h => h) (by rfl) (by assumption) ?_)
      | (refine Ro.take_on (i := 10) (v := ?_) rfl (by kernel_rfl) (by kernel_rfl) (by kernel_rfl) (fun _ _ _ h => h) (by rfl) (by assumption) ?_ ?_; rotate_left; · (intro wS hSw; (try dsimp only at hSw); go_simp; try with_reducible rfl))
    try simp only [Act.put, List.setIfInBounds_toArray, List.set_cons_zero, List.set_cons_succ]
    first
      | (refine Ro.take_off (i := 11) rfl (by kernel_rfl) (by kernel_rfl) (by kernel_rfl) (fun _ _ _ h => h) (by rfl) (by assumption) ?_)
      | (refine Ro.take_on (i := 11) (v := ?_) rfl (by kernel_rfl) (by kernel_rfl) (by kernel_rfl) (fun _ _ _ h => h) (by rfl) (by assumption) ?_ ?_; rotate_left; · (intro wS hSw; (try dsimp only at hSw); go_simp; try with_reducible rfl))
    try simp only [Act.put, List.setIfInBounds_toArray, List.set_cons_zero, List.set_cons_succ]
    first
      | (refine Ro.take_off (i := 12) rfl (by kernel_rfl) (by kernel_rfl) (by kernel_rfl) (fun _ _ _ h => h) (by rfl) (by assumption) ?_)
      | (refine Ro.take_on (i := 12) (v := ?_) rfl (by kernel_rfl) (by kernel_rfl) (by kernel_rfl) (fun _ _ _ h => h) (by rfl) (by assumption) ?_ ?_; rotate_left; · (intro wS hSw; (try dsimp only at hSw); go_simp; try with_reducible rfl))
    try simp only [Act.put, List.setIfInBounds_toArray, List.set_cons_zero, List.set_cons_succ]
    first
      | (refine Ro.take_off (i := 13) rfl (by kernel_rfl) (by kernel_rfl) (by kernel_rfl) (fun _ _ _ h => h) (by rfl) (by assumption) ?_)
      | (refine Ro.take_on (i := 13) (v := ?_) rfl (by kernel_rfl) (by kernel_rfl) (by kernel_rfl) (fun _ _ _ h => h) (by rfl) (by assumption) ?_ ?_; rotate_left; · (intro wS hSw; (try dsimp only at hSw); go_simp; try with_reducible rfl))
    try simp only [Act.put, List.setIfInBounds_toArray, List.set_cons_zero, List.set_cons_succ]
    first
      | (refine Ro.take_off (i := 14) rfl (by kernel_rfl) (by kernel_rfl) (by kernel_rfl) (fun _ _ _ h => h) (by rfl) (by assumption) ?_)
      | (refine Ro.take_on (i := 14) (v := ?_) rfl (by kernel_rfl) (by kernel_rfl) (by kernel_rfl) (fun _ _ _ h => h) (by rfl) (by assumption) ?_ ?_; rotate_left; · (intro wS hSw; (try dsimp only at hSw); go_simp; try with_reducible rfl))
    try simp only [Act.put, List.setIfInBounds_toArray, List.set_cons_zero, List.set_cons_succ]
    first
      | (refine Ro.take_off (i := 15) rfl (by kernel_rfl) (by kernel_rfl) (by kernel_rfl) (fun _ _ _ h => h) (by rfl) (by assumption) ?_)
      | (refine Ro.take_on (i := 15) (v := ?_) rfl (by kernel_rfl) (by kernel_rfl) (by kernel_rfl) (fun _ _ _ h => h) (by rfl) (by assumption) ?_ ?_; rotate_left; · (intro wS hSw; (try dsimp only at hSw); go_simp; try with_reducible rfl))
    try simp only [Act.put, List.setIfInBounds_toArray, List.set_cons_zero, List.set_cons_succ]
    first
      | (refine Ro.take_off (i := 16) rfl (by kernel_rfl) (by kernel_rfl) (by kernel_rfl) (fun _ _ _ h => h) (by rfl) (by assumption) ?_)
      | (refine Ro.take_on (i := 16) (v := ?_) rfl (by kernel_rfl) (by kernel_rfl) (by kernel_rfl) (fun _ _ _ h => h) (by rfl) (by assumption) ?_ ?_; rotate_left; · (intro wS hSw; (try dsimp only at hSw); go_simp; try with_reducible rfl))
    try simp only [Act.put, List.setIfInBounds_toArray, List.set_cons_zero, List.set_cons_succ]
    first
      | (refine Ro.take_off (i := 17) rfl (by kernel_rfl) (by kernel_rfl) (by kernel_rfl) (fun _ _ _ h => h) (by rfl) (by assumption) ?_)
      | (refine Ro.take_on (i := 17) (v := ?_) rfl (by kernel_rfl) (by kernel_rfl) (by kernel_rfl) (fun _ _ _ h => h) (by rfl) (by assumption) ?_ ?_; rotate_left; · (intro wS hSw; (try dsimp only at hSw); go_simp; try with_reducible rfl))
    try simp only [Act.put, List.setIfInBounds_toArray, List.set_cons_zero, List.set_cons_succ]
    first
      | (refine Ro.take_off (i := 18) rfl (by kernel_rfl) (by kernel_rfl) (by kernel_rfl) (fun _ _ _ h => h) (by rfl) (by assumption) ?_)
      | (refine Ro.take_on (i := 18) (v := ?_) rfl (by kernel_rfl) (by kernel_rfl) (by kernel_rfl) (fun _ _ _ h => h) (by rfl) (by assumption) ?_ ?_; rotate_left; · (intro wS hSw; (try dsimp only at hSw); go_simp; try with_reducible rfl))
    try simp only [Act.put, List.setIfInBounds_toArray, List.set_cons_zero, List.set_cons_succ]
    first
      | (refine Ro.take_off (i := 19) rfl (by kernel_rfl) (by kernel_rfl) (by kernel_rfl) (fun _ _ _ h => h) (by rfl) (by assumption) ?_)
      | (refine Ro.take_on (i := 19) (v := ?_) rfl (by kernel_rfl) (by kernel_rfl) (by kernel_rfl) (fun _ _ _ h => h) (by rfl) (by assumption) ?_ ?_; rotate_left; · (intro wS hSw; (try dsimp only at hSw); go_simp; try with_reducible rfl))
    try simp only [Act.put, List.setIfInBounds_toArray, List.set_cons_zero, List.set_cons_succ]
    first
      | (refine Ro.take_off (i := 20) rfl (by kernel_rfl) (by kernel_rfl) (by kernel_rfl) (fun _ _ _ h => h) (by rfl) (by assumption) ?_)
      | (refine Ro.take_on (i := 20) (v := ?_) rfl (by kernel_rfl) (by kernel_rfl) (by kernel_rfl) (fun _ _ _ h => h) (by rfl) (by assumption) ?_ ?_; rotate_left; · (intro wS hSw; (try dsimp only at hSw); go_simp; try with_reducible rfl))
    try simp only [Act.put, List.setIfInBounds_toArray, List.set_cons_zero, List.set_cons_succ]
    first
      | (refine Ro.take_off (i := 21) rfl (by kernel_rfl) (by kernel_rfl) (by kernel_rfl) (fun _ _ _ h => h) (by rfl) (by assumption) ?_)
      | (refine Ro.take_on (i := 21) (v := ?_) rfl (by kernel_rfl) (by kernel_rfl) (by kernel_rfl) (fun _ _ _ h => h) (by rfl) (by assumption) ?_ ?_; rotate_left; · (intro wS hSw; (try dsimp only at hSw); go_simp; try with_reducible rfl))
    try simp only [Act.put, List.setIfInBounds_toArray, List.set_cons_zero, List.set_cons_succ]
    first
      | (refine Ro.take_off (i := 22) rfl (by kernel_rfl) (by kernel_rfl) (by kernel_rfl) (fun _ _ _ h => h) (by rfl) (by assumption) ?_)
      | (refine Ro.take_on (i := 22) (v := ?_) rfl (by kernel_rfl) (by kernel_rfl) (by kernel_rfl) (fun _ _ _ h => h) (by rfl) (by assumption) ?_ ?_; rotate_left; · (intro wS hSw; (try dsimp only at hSw); go_simp; try with_reducible rfl))
    try simp only [Act.put, List.setIfInBounds_toArray, List.set_cons_zero, List.set_cons_succ]
    first
      | (refine Ro.take_off (i := 23) rfl (by kernel_rfl) (by kernel_rfl) (by kernel_rfl) (fun _ _ _ h => h) (by rfl) (by assumption) ?_)
      | (refine Ro.take_on (i := 23) (v := ?_) rfl (by kernel_rfl) (by kernel_rfl) (by kernel_rfl) (fun _ _ _ h => h) (by rfl) (by assumption) ?_ ?_; rotate_left; · (intro wS hSw; (try dsimp only at hSw); go_simp; try with_reducible rfl))
    try simp only [Act.put, List.setIfInBounds_toArray, List.set_cons_zero, List.set_cons_succ]
    first
      | (refine Ro.take_off (i := 24) rfl (by kernel_rfl) (by kernel_rfl) (by kernel_rfl) (fun _ _ _ h => h) (by rfl) (by assumption) ?_)
      | (refine Ro.take_on (i := 24) (v := ?_) rfl (by kernel_rfl) (by kernel_rfl) (by kernel_rfl) (fun _ _ _ h => h) (by rfl) (by assumption) ?_ ?_; rotate_left; · (intro wS hSw; (try dsimp only at hSw); go_simp; try with_reducible rfl))
    try simp only [Act.put, List.setIfInBounds_toArray, List.set_cons_zero, List.set_cons_succ]
    first
      | (refine Ro.take_off (i := 25) rfl (by kernel_rfl) (by kernel_rfl) (by kernel_rfl) (fun _ _ _ h => h) (by rfl) (by assumption) ?_)
      | (refine Ro.take_on (i := 25) (v := ?_) rfl (by kernel_rfl) (by kernel_rfl) (by kernel_rfl) (fun _ _ _ h => h) (by rfl) (by assumption) ?_ ?_; rotate_left; · (intro wS hSw; (try dsimp only at hSw); go_simp; try with_reducible rfl))
    try simp only [Act.put, List.setIfInBounds_toArray, List.set_cons_zero, List.set_cons_succ]
    first
      | (refine Ro.take_off (i := 26) rfl (by kernel_rfl) (by kernel_rfl) (by kernel_rfl) (fun _ _ _ h => h) (by rfl) (by assumption) ?_)
      | (refine Ro.take_on (i := 26) (v := ?_) rfl (by kernel_rfl) (by kernel_rfl) (by kernel_rfl) (fun _ _ _ h => h) (by rfl) (by assumption) ?_ ?_; rotate_left; · (intro wS hSw; (try dsimp only at hSw); go_simp; try with_reducible rfl))
    try simp only [Act.put, List.setIfInBounds_toArray, List.set_cons_zero, List.set_cons_succ]
    first
      | (refine Ro.take_off (i := 27) rfl (by kernel_rfl) (by kernel_rfl) (by kernel_rfl) (fun _ _ _ h => h) (by rfl) (by assumption) ?_)
      | (refine Ro.take_on (i := 27) (v := ?_) rfl (by kernel_rfl) (by kernel_rfl) (by kernel_rfl) (fun _ _ _ h => h) (by rfl) (by assumption) ?_ ?_; rotate_left; · (intro wS hSw; (try dsimp only at hSw); go_simp; try with_reducible rfl))
    try simp only [Act.put, List.setIfInBounds_toArray, List.set_cons_zero, List.set_cons_succ]
    first
      | (refine Ro.take_off (i := 28) rfl (by kernel_rfl) (by kernel_rfl) (by kernel_rfl) (fun _ _ _ h => h) (by rfl) (by assumption) ?_)
      | (refine Ro.take_on (i := 28) (v := ?_) rfl (by kernel_rfl) (by kernel_rfl) (by kernel_rfl) (fun _ _ _ h => h) (by rfl) (by assumption) ?_ ?_; rotate_left; · (intro wS hSw; (try dsimp only at hSw); go_simp; try with_reducible rfl))
    try simp only [Act.put, List.setIfInBounds_toArray, List.set_cons_zero, List.set_cons_succ]
    first
      | (refine Ro.take_off (i := 29) rfl (by kernel_rfl) (by kernel_rfl) (by kernel_rfl) (fun _ _ _ h => h) (by rfl) (by assumption) ?_)
      | (refine Ro.take_on (i := 29) (v := ?_) rfl (by kernel_rfl) (by kernel_rfl) (by kernel_rfl) (fun _ _ _ h => h) (by rfl) (by assumption) ?_ ?_; rotate_left; · (intro wS hSw; (try dsimp only at hSw); go_simp; try with_reducible rfl))
    try simp only [Act.put, List.setIfInBounds_toArray, List.set_cons_zero, List.set_cons_succ]
    first
      | (refine Ro.take_off (i := 30) rfl (by kernel_rfl) (by kernel_rfl) (by kernel_rfl) (fun _ _ _ h => h) (by rfl) (by assumption) ?_)
      | (refine Ro.take_on (i := 30) (v := ?_) rfl (by kernel_rfl) (by kernel_rfl) (by kernel_rfl) (fun _ _ _ h => h) (by rfl) (by assumption) ?_ ?_; rotate_left; · (intro wS hSw; (try dsimp only at hSw); go_simp; try with_reducible rfl))
    try simp only [Act.put, List.setIfInBounds_toArray, List.set_cons_zero, List.set_cons_succ]
    first
      | (refine Ro.take_off (i := 31) rfl (by kernel_rfl) (by kernel_rfl) (by kernel_rfl) (fun _ _ _ h => h) (by rfl) (by assumption) ?_)
      | (refine Ro.take_on (i := 31) (v := ?_) rfl (by kernel_rfl) (by kernel_rfl) (by kernel_rfl) (fun _ _ _ h => h) (by rfl) (by assumption) ?_ ?_; rotate_left; · (intro wS hSw; (try dsimp only at hSw); go_simp; try with_reducible rfl))
    try simp only [Act.put, List.setIfInBounds_toArray, List.set_cons_zero, List.set_cons_succ]
    first
      | (refine Ro.take_off (i := 32) rfl (by kernel_rfl) (by kernel_rfl) (by kernel_rfl) (fun _ _ _ h => h) (by rfl) (by assumption) ?_)
      | (refine Ro.take_on (i := 32) (v := ?_) rfl (by kernel_rfl) (by kernel_rfl) (by kernel_rfl) (fun _ _ _ h => h) (by rfl) (by assumption) ?_ ?_; rotate_left; · (intro wS hSw; (try dsimp only at hSw); go_simp; try with_reducible rfl))
    try simp only [Act.put, List.setIfInBounds_toArray, List.set_cons_zero, List.set_cons_succ]
    first
      | (refine Ro.take_off (i := 33) rfl (by kernel_rfl) (by kernel_rfl) (by kernel_rfl) (fun _ _ _ h => h) (by rfl) (by assumption) ?_)
      | (refine Ro.take_on (i := 33) (v := ?_) rfl (by kernel_rfl) (by kernel_rfl) (by kernel_rfl) (fun _ _ _ h => h) (by rfl) (by assumption) ?_ ?_; rotate_left; · (intro wS hSw; (try dsimp only at hSw); go_simp; try with_reducible rfl))
    try simp only [Act.put, List.setIfInBounds_toArray, List.set_cons_zero, List.set_cons_succ]
    refine wpAnyH_done (by kernel_rfl) ?_ _
    have HS5 := Lib.hid hHeld.2.2.2.2.2.2.2.2
    have HSV := Lib.hid hHeld
    clear hHeld
    go_wp2_with fail
    refine wp_region_held_drew (S := fun w' => w'.cell? ⟨w.heap.size, 0, none⟩ = some (.int .i64 k) ∧ w'.cell? ⟨w.heap.size, 1, none⟩ = some (.int .i64 wd) ∧ w'.cell? ⟨w.heap.size, 2, none⟩ = some (.int .i64 sl) ∧ w'.cell? ⟨w.heap.size, 3, none⟩ = some (.int .i64 cp) ∧ w'.cell? ⟨w.heap.size, 4, none⟩ = some (.int .u32 sa) ∧ w'.cell? ⟨w.heap.size, 5, none⟩ = some (.slice ia il ic) ∧ w'.cell? ⟨w.heap.size, 6, none⟩ = some (.int .i64 ow) ∧ w'.cell? ⟨w.heap.size, 7, none⟩ = some (.slice ra rl rc) ∧ Same w w') (by kernel_rfl) ?_ (fun hHeld => ?_)
    · exact keep8 (g := w.heap.size) (v0 := .int .i64 k) (v1 := .int .i64 wd) (v2 := .int .i64 sl) (v3 := .int .i64 cp) (v4 := .int .u32 sa) (v5 := .slice ia il ic) (v6 := .int .i64 ow) (v7 := .slice ra rl rc) (w := w) HSV.out (Same.refl _).drew
    first
      | (refine Ro.take_off (i := 0) rfl (by kernel_rfl) (by kernel_rfl) (by kernel_rfl) (fun _ _ _ h => h) (by rfl) (by assumption) ?_)
      | (refine Ro.take_on (i := 0) (v := ?_) rfl (by kernel_rfl) (by kernel_rfl) (by kernel_rfl) (fun _ _ _ h => h) (by rfl) (by assumption) ?_ ?_; rotate_left; · (intro wS hSw; (try dsimp only at hSw); go_simp; try with_reducible rfl))
    try simp only [Act.put, List.setIfInBounds_toArray, List.set_cons_zero, List.set_cons_succ]
    first
      | (refine Ro.take_off (i := 2) rfl (by kernel_rfl) (by kernel_rfl) (by kernel_rfl) (fun _ _ _ h => h) (by rfl) (by assumption) ?_)
      | (refine Ro.take_on (i := 2) (v := ?_) rfl (by kernel_rfl) (by kernel_rfl) (by kernel_rfl) (fun _ _ _ h => h) (by rfl) (by assumption) ?_ ?_; rotate_left; · (intro wS hSw; (try dsimp only at hSw); go_simp; try with_reducible rfl))
    try simp only [Act.put, List.setIfInBounds_toArray, List.set_cons_zero, List.set_cons_succ]
    first
      | (refine Ro.take_off (i := 1) rfl (by kernel_rfl) (by kernel_rfl) (by kernel_rfl) (fun _ _ _ h => h) (by rfl) (by assumption) ?_)
      | (refine Ro.one_on (i := 1) rfl (by kernel_rfl) (by rfl) (fun K hK => ?_); go_simp; go_at_call 15; (with_reducible refine (SZ.out _ hHeld.2.2.2.2.2.2.2.2).mono ?_); rintro e w' ⟨rfl, hs9⟩; (first | refine hK.out _ _ ?_ (fun hNew => ?_) | (go_wp2_with fail; refine hK.out _ _ ?_ (fun hNew => ?_))); (· (exact keep8 (g := w.heap.size) (v0 := .int .i64 k) (v1 := .int .i64 wd) (v2 := .int .i64 sl) (v3 := .int .i64 cp) (v4 := .int .u32 sa) (v5 := .slice ia il ic) (v6 := .int .i64 ow) (v7 := .slice ra rl rc) (w := w) hHeld hs9)); clear hK K hHeld; have hHeld := hNew; clear hNew)
    try simp only [Act.put, List.setIfInBounds_toArray, List.set_cons_zero, List.set_cons_succ]
    first
      | (refine Ro.take_off (i := 3) rfl (by kernel_rfl) (by kernel_rfl) (by kernel_rfl) (fun _ _ _ h => h) (by rfl) (by assumption) ?_)
      | (refine Ro.one_on (i := 3) rfl (by kernel_rfl) (by rfl) (fun K hK => ?_); go_simp; go_at_call 16; (with_reducible refine (RSZ.out _ hHeld.2.2.2.2.2.2.2.2).mono ?_); rintro e w' ⟨rfl, hs9⟩; (first | refine hK.out _ _ ?_ (fun hNew => ?_) | (go_wp2_with fail; refine hK.out _ _ ?_ (fun hNew => ?_))); (· (exact keep8 (g := w.heap.size) (v0 := .int .i64 k) (v1 := .int .i64 wd) (v2 := .int .i64 sl) (v3 := .int .i64 cp) (v4 := .int .u32 sa) (v5 := .slice ia il ic) (v6 := .int .i64 ow) (v7 := .slice ra rl rc) (w := w) hHeld hs9)); clear hK K hHeld; have hHeld := hNew; clear hNew)
    try simp only [Act.put, List.setIfInBounds_toArray, List.set_cons_zero, List.set_cons_succ]
    first
      | (refine Ro.take_off (i := 4) rfl (by kernel_rfl) (by kernel_rfl) (by kernel_rfl) (fun _ _ _ h => h) (by rfl) (by assumption) ?_)
      | (refine Ro.take_on (i := 4) (v := ?_) rfl (by kernel_rfl) (by kernel_rfl) (by kernel_rfl) (fun _ _ _ h => h) (by rfl) (by assumption) ?_ ?_; rotate_left; · (intro wS hSw; (try dsimp only at hSw); go_simp; try with_reducible rfl))
    try simp only [Act.put, List.setIfInBounds_toArray, List.set_cons_zero, List.set_cons_succ]
    first
      | (refine Ro.take_off (i := 5) rfl (by kernel_rfl) (by kernel_rfl) (by kernel_rfl) (fun _ _ _ h => h) (by rfl) (by assumption) ?_)
      | (refine Ro.take_on (i := 5) (v := ?_) rfl (by kernel_rfl) (by kernel_rfl) (by kernel_rfl) (fun _ _ _ h => h) (by rfl) (by assumption) ?_ ?_; rotate_left; · (intro wS hSw; (try dsimp only at hSw); go_simp; try with_reducible rfl))
    try simp only [Act.put, List.setIfInBounds_toArray, List.set_cons_zero, List.set_cons_succ]
    first
      | (refine Ro.take_off (i := 6) rfl (by kernel_rfl) (by kernel_rfl) (by kernel_rfl) (fun _ _ _ h => h) (by rfl) (by assumption) ?_)
      | (refine Ro.take_on (i := 6) (v := ?_) rfl (by kernel_rfl) (by kernel_rfl) (by kernel_rfl) (fun _ _ _ h => h) (by rfl) (by assumption) ?_ ?_; rotate_left; · (intro wS hSw; (try dsimp only at hSw); go_simp; try with_reducible rfl))
    try simp only [Act.put, List.setIfInBounds_toArray, List.set_cons_zero, List.set_cons_succ]
    first
      | (refine Ro.take_off (i := 8) rfl (by kernel_rfl) (by kernel_rfl) (by kernel_rfl) (fun _ _ _ h => h) (by rfl) (by assumption) ?_)
      | (refine Ro.take_on (i := 8) (v := ?_) rfl (by kernel_rfl) (by kernel_rfl) (by kernel_rfl) (fun _ _ _ h => h) (by rfl) (by assumption) ?_ ?_; rotate_left; · (intro wS hSw; (try dsimp only at hSw); go_simp; try with_reducible rfl))
    try simp only [Act.put, List.setIfInBounds_toArray, List.set_cons_zero, List.set_cons_succ]
    first
      | (refine Ro.take_off (i := 7) rfl (by kernel_rfl) (by kernel_rfl) (by kernel_rfl) (fun _ _ _ h => h) (by rfl) (by assumption) ?_)
      | (refine Ro.one_on (i := 7) rfl (by kernel_rfl) (by rfl) (fun K hK => ?_); go_simp; go_at_call 18; (with_reducible refine (LY.out _ hHeld.2.2.2.2.2.2.2.2).mono ?_); rintro e w' ⟨A1, n1, c1, hn1, rfl, hs9, hr1⟩; have HN1 := Lib.hid hn1; have HRW1 := Lib.hid hr1; clear hn1 hr1; (first | refine hK.out _ _ ?_ (fun hNew => ?_) | (go_wp2_with fail; refine hK.out _ _ ?_ (fun hNew => ?_))); (· (exact keep8 (g := w.heap.size) (v0 := .int .i64 k) (v1 := .int .i64 wd) (v2 := .int .i64 sl) (v3 := .int .i64 cp) (v4 := .int .u32 sa) (v5 := .slice ia il ic) (v6 := .int .i64 ow) (v7 := .slice ra rl rc) (w := w) hHeld hs9)); clear hK K hHeld; have hHeld := hNew; clear hNew)
    try simp only [Act.put, List.setIfInBounds_toArray, List.set_cons_zero, List.set_cons_succ]
    first
      | (refine Ro.take_off (i := 9) rfl (by kernel_rfl) (by kernel_rfl) (by kernel_rfl) (fun _ _ _ h => h) (by rfl) (by assumption) ?_)
      | (refine Ro.one_on (i := 9) rfl (by kernel_rfl) (by rfl) (fun K hK => ?_); go_simp; go_at_call 19; (with_reducible refine (RLY.out _ hHeld.2.2.2.2.2.2.2.2).mono ?_); rintro e w' ⟨A2, n2, c2, hn2, rfl, hs9, hr2⟩; have HN2 := Lib.hid hn2; have HRW2 := Lib.hid hr2; clear hn2 hr2; have hs19 := Lib.hid hs9; (first | refine hK.out _ _ ?_ (fun hNew => ?_) | (go_wp2_with fail; refine hK.out _ _ ?_ (fun hNew => ?_))); (· (exact keep8 (g := w.heap.size) (v0 := .int .i64 k) (v1 := .int .i64 wd) (v2 := .int .i64 sl) (v3 := .int .i64 cp) (v4 := .int .u32 sa) (v5 := .slice ia il ic) (v6 := .int .i64 ow) (v7 := .slice ra rl rc) (w := w) hHeld hs9)); clear hK K hHeld; have hHeld := hNew; clear hNew)
    try simp only [Act.put, List.setIfInBounds_toArray, List.set_cons_zero, List.set_cons_succ]
    first
      | (refine Ro.take_off (i := 10) rfl (by kernel_rfl) (by kernel_rfl) (by kernel_rfl) (fun _ _ _ h => h) (by rfl) (by assumption) ?_)
      | (refine Ro.one_on (i := 10) rfl (by kernel_rfl) (by rfl) (fun K hK => ?_); go_simp; go_at_call 17; (with_reducible refine (swords A1 A2 n1 n2 c1 c2 ws _ HN1.out.symm HN2.out.symm (HRW1.out.same hs19.out) HRW2.out (by have h1 := LSM.out; have h2 := HN1.out; omega) (by have h1 := LSM.out; have h2 := HN2.out; omega)).mono ?_); rintro e w' ⟨rfl, hs9⟩; (first | refine hK.out _ _ ?_ (fun hNew => ?_) | (go_wp2_with fail; refine hK.out _ _ ?_ (fun hNew => ?_))); (· (exact keep8 (g := w.heap.size) (v0 := .int .i64 k) (v1 := .int .i64 wd) (v2 := .int .i64 sl) (v3 := .int .i64 cp) (v4 := .int .u32 sa) (v5 := .slice ia il ic) (v6 := .int .i64 ow) (v7 := .slice ra rl rc) (w := w) hHeld hs9)); clear hK K hHeld; have hHeld := hNew; clear hNew)
    try simp only [Act.put, List.setIfInBounds_toArray, List.set_cons_zero, List.set_cons_succ]
    first
      | (refine Ro.take_off (i := 11) rfl (by kernel_rfl) (by kernel_rfl) (by kernel_rfl) (fun _ _ _ h => h) (by rfl) (by assumption) ?_)
      | (refine Ro.take_on (i := 11) (v := ?_) rfl (by kernel_rfl) (by kernel_rfl) (by kernel_rfl) (fun _ _ _ h => h) (by rfl) (by assumption) ?_ ?_; rotate_left; · (intro wS hSw; (try dsimp only at hSw); go_simp; try with_reducible rfl))
    try simp only [Act.put, List.setIfInBounds_toArray, List.set_cons_zero, List.set_cons_succ]
    first
      | (refine Ro.take_off (i := 12) rfl (by kernel_rfl) (by kernel_rfl) (by kernel_rfl) (fun _ _ _ h => h) (by rfl) (by assumption) ?_)
      | (refine Ro.take_on (i := 12) (v := ?_) rfl (by kernel_rfl) (by kernel_rfl) (by kernel_rfl) (fun _ _ _ h => h) (by rfl) (by assumption) ?_ ?_; rotate_left; · (intro wS hSw; (try dsimp only at hSw); go_simp; try with_reducible rfl))
    try simp only [Act.put, List.setIfInBounds_toArray, List.set_cons_zero, List.set_cons_succ]
    first
      | (refine Ro.take_off (i := 13) rfl (by kernel_rfl) (by kernel_rfl) (by kernel_rfl) (fun _ _ _ h => h) (by rfl) (by assumption) ?_)
      | (refine Ro.take_on (i := 13) (v := ?_) rfl (by kernel_rfl) (by kernel_rfl) (by kernel_rfl) (fun _ _ _ h => h) (by rfl) (by assumption) ?_ ?_; rotate_left; · (intro wS hSw; (try dsimp only at hSw); go_simp; try with_reducible rfl))
    try simp only [Act.put, List.setIfInBounds_toArray, List.set_cons_zero, List.set_cons_succ]
    first
      | (refine Ro.take_off (i := 14) rfl (by kernel_rfl) (by kernel_rfl) (by kernel_rfl) (fun _ _ _ h => h) (by rfl) (by assumption) ?_)
      | (refine Ro.take_on (i := 14) (v := ?_) rfl (by kernel_rfl) (by kernel_rfl) (by kernel_rfl) (fun _ _ _ h => h) (by rfl) (by assumption) ?_ ?_; rotate_left; · (intro wS hSw; (try dsimp only at hSw); go_simp; try with_reducible rfl))
    try simp only [Act.put, List.setIfInBounds_toArray, List.set_cons_zero, List.set_cons_succ]
    first
      | (refine Ro.take_off (i := 16) rfl (by kernel_rfl) (by kernel_rfl) (by kernel_rfl) (fun _ _ _ h => h) (by rfl) (by assumption) ?_)
      | (refine Ro.take_on (i := 16) (v := ?_) rfl (by kernel_rfl) (by kernel_rfl) (by kernel_rfl) (fun _ _ _ h => h) (by rfl) (by assumption) ?_ ?_; rotate_left; · (intro wS hSw; (try dsimp only at hSw); go_simp; try with_reducible rfl))
    try simp only [Act.put, List.setIfInBounds_toArray, List.set_cons_zero, List.set_cons_succ]
    first
      | (refine Ro.take_off (i := 17) rfl (by kernel_rfl) (by kernel_rfl) (by kernel_rfl) (fun _ _ _ h => h) (by rfl) (by assumption) ?_)
      | (refine Ro.take_on (i := 17) (v := ?_) rfl (by kernel_rfl) (by kernel_rfl) (by kernel_rfl) (fun _ _ _ h => h) (by rfl) (by assumption) ?_ ?_; rotate_left; · (intro wS hSw; (try dsimp only at hSw); go_simp; try with_reducible rfl))
    try simp only [Act.put, List.setIfInBounds_toArray, List.set_cons_zero, List.set_cons_succ]
    first
      | (refine Ro.take_off (i := 15) rfl (by kernel_rfl) (by kernel_rfl) (by kernel_rfl) (fun _ _ _ h => h) (by rfl) (by assumption) ?_)
      | (refine Ro.one_on (i := 15) rfl (by kernel_rfl) (by rfl) (fun K hK => ?_); go_simp; go_at_call 20; (with_reducible refine (BD.out _ hHeld.2.2.2.2.2.2.2.2).mono ?_); rintro e w' ⟨rfl, hs9⟩; (first | refine hK.out _ _ ?_ (fun hNew => ?_) | (go_wp2_with fail; refine hK.out _ _ ?_ (fun hNew => ?_))); (· (exact keep8 (g := w.heap.size) (v0 := .int .i64 k) (v1 := .int .i64 wd) (v2 := .int .i64 sl) (v3 := .int .i64 cp) (v4 := .int .u32 sa) (v5 := .slice ia il ic) (v6 := .int .i64 ow) (v7 := .slice ra rl rc) (w := w) hHeld hs9)); clear hK K hHeld; have hHeld := hNew; clear hNew)
    try simp only [Act.put, List.setIfInBounds_toArray, List.set_cons_zero, List.set_cons_succ]
    first
      | (refine Ro.take_off (i := 18) rfl (by kernel_rfl) (by kernel_rfl) (by kernel_rfl) (fun _ _ _ h => h) (by rfl) (by assumption) ?_)
      | (refine Ro.one_on (i := 18) rfl (by kernel_rfl) (by rfl) (fun K hK => ?_); go_simp; go_at_call 21; (with_reducible refine (RBD.out _ hHeld.2.2.2.2.2.2.2.2).mono ?_); rintro e w' ⟨rfl, hs9⟩; (first | refine hK.out _ _ ?_ (fun hNew => ?_) | (go_wp2_with fail; refine hK.out _ _ ?_ (fun hNew => ?_))); (· (exact keep8 (g := w.heap.size) (v0 := .int .i64 k) (v1 := .int .i64 wd) (v2 := .int .i64 sl) (v3 := .int .i64 cp) (v4 := .int .u32 sa) (v5 := .slice ia il ic) (v6 := .int .i64 ow) (v7 := .slice ra rl rc) (w := w) hHeld hs9)); clear hK K hHeld; have hHeld := hNew; clear hNew)
    try simp only [Act.put, List.setIfInBounds_toArray, List.set_cons_zero, List.set_cons_succ]
    first
      | (refine Ro.take_off (i := 19) rfl (by kernel_rfl) (by kernel_rfl) (by kernel_rfl) (fun _ _ _ h => h) (by rfl) (by assumption) ?_)
      | (refine Ro.take_on (i := 19) (v := ?_) rfl (by kernel_rfl) (by kernel_rfl) (by kernel_rfl) (fun _ _ _ h => h) (by rfl) (by assumption) ?_ ?_; rotate_left; · (intro wS hSw; (try dsimp only at hSw); go_simp; try with_reducible rfl))
    try simp only [Act.put, List.setIfInBounds_toArray, List.set_cons_zero, List.set_cons_succ]
    first
      | (refine Ro.take_off (i := 20) rfl (by kernel_rfl) (by kernel_rfl) (by kernel_rfl) (fun _ _ _ h => h) (by rfl) (by assumption) ?_)
      | (refine Ro.take_on (i := 20) (v := ?_) rfl (by kernel_rfl) (by kernel_rfl) (by kernel_rfl) (fun _ _ _ h => h) (by rfl) (by assumption) ?_ ?_; rotate_left; · (intro wS hSw; (try dsimp only at hSw); go_simp; try with_reducible rfl))
    try simp only [Act.put, List.setIfInBounds_toArray, List.set_cons_zero, List.set_cons_succ]
    first
      | (refine Ro.take_off (i := 21) rfl (by kernel_rfl) (by kernel_rfl) (by kernel_rfl) (fun _ _ _ h => h) (by rfl) (by assumption) ?_)
      | (refine Ro.take_on (i := 21) (v := ?_) rfl (by kernel_rfl) (by kernel_rfl) (by kernel_rfl) (fun _ _ _ h => h) (by rfl) (by assumption) ?_ ?_; rotate_left; · (intro wS hSw; (try dsimp only at hSw); go_simp; try with_reducible rfl))
    try simp only [Act.put, List.setIfInBounds_toArray, List.set_cons_zero, List.set_cons_succ]
    first
      | (refine Ro.take_off (i := 22) rfl (by kernel_rfl) (by kernel_rfl) (by kernel_rfl) (fun _ _ _ h => h) (by rfl) (by assumption) ?_)
      | (refine Ro.one_on (i := 22) rfl (by kernel_rfl) (by rfl) (fun K hK => ?_); go_simp; go_at_call 8; (with_reducible refine (AW2.out _ hHeld.2.2.2.2.2.2.2.2).mono ?_); rintro e w' ⟨rfl, hs9⟩; (first | refine hK.out _ _ ?_ (fun hNew => ?_) | (go_wp2_with fail; refine hK.out _ _ ?_ (fun hNew => ?_))); (· (exact keep8 (g := w.heap.size) (v0 := .int .i64 k) (v1 := .int .i64 wd) (v2 := .int .i64 sl) (v3 := .int .i64 cp) (v4 := .int .u32 sa) (v5 := .slice ia il ic) (v6 := .int .i64 ow) (v7 := .slice ra rl rc) (w := w) hHeld hs9)); clear hK K hHeld; have hHeld := hNew; clear hNew)
    try simp only [Act.put, List.setIfInBounds_toArray, List.set_cons_zero, List.set_cons_succ]
    first
      | (refine Ro.take_off (i := 23) rfl (by kernel_rfl) (by kernel_rfl) (by kernel_rfl) (fun _ _ _ h => h) (by rfl) (by assumption) ?_)
      | (refine Ro.take_on (i := 23) (v := ?_) rfl (by kernel_rfl) (by kernel_rfl) (by kernel_rfl) (fun _ _ _ h => h) (by rfl) (by assumption) ?_ ?_; rotate_left; · (intro wS hSw; (try dsimp only at hSw); go_simp; try with_reducible rfl))
    try simp only [Act.put, List.setIfInBounds_toArray, List.set_cons_zero, List.set_cons_succ]
    first
      | (refine Ro.take_off (i := 24) rfl (by kernel_rfl) (by kernel_rfl) (by kernel_rfl) (fun _ _ _ h => h) (by rfl) (by assumption) ?_)
      | (refine Ro.take_on (i := 24) (v := ?_) rfl (by kernel_rfl) (by kernel_rfl) (by kernel_rfl) (fun _ _ _ h => h) (by rfl) (by assumption) ?_ ?_; rotate_left; · (intro wS hSw; (try dsimp only at hSw); go_simp; try with_reducible rfl))
    try simp only [Act.put, List.setIfInBounds_toArray, List.set_cons_zero, List.set_cons_succ]
    refine wpAnyH_done (by kernel_rfl) ?_ _
    go_wp2_with fail
    go_ret
    exact ⟨rfl, hHeld.2.2.2.2.2.2.2.2⟩

end Go.Proofs.YtikjkmomokhanabGreat.Os
