/-

  A walker's step (package paths) is the plain walk's step.
-/
import Derived.Test.YtnlndkpjfgpodaaDoorPthOften
import Derived.Test.YtnlndkpjfgpodaaDoorWlkRun
section
set_option linter.unusedVariables false
set_option linter.unusedSimpArgs false
namespace Go.Proofs.YtnlndkpjfgpodaaDoor.Pt
open Go.ChangeShapes Go.WideShapes Go.ChangeAt Go.RowKit Ws
open Go.Proofs.YtnlndkpjfgpodaaDoor.Fp (Ins at_ Fine at_some lp loopsL hasB lp_mem)
open Go.Proofs.YtnlndkpjfgpodaaDoor.Fw (Prg Spn spanCells spn_of okB okB_fine)
open Go.Proofs.YtnlndkpjfgpodaaDoor.Wd (ret_bool ret_int)
set_option maxRecDepth 100000 in
theorem chosen_no (q : Nat) (a b : Value) (C : Option Addr) (c : Nat) (w : World) (hb : Blk w q 135 #[a, b, .slice C 0 c]) :
    Calls Tryd.prog 112 #[.pointer (some ⟨q, 0, none⟩)] w fun e w' => e = .returned (.bool false) ∧ w' = w := by
  have z2 := hb.cell 2
  simp only [List.getElem?_toArray, List.getElem?_cons_zero, List.getElem?_cons_succ] at z2
  clear hb
  go_enter Tryd.func112, Tryd.ntmps112
  go_wp2_with fail
  go_ret
  exact ⟨rfl, rfl⟩
set_option maxRecDepth 100000 in
theorem chosen_yes (q : Nat) (a b : Value) (cb co : Nat) (n c : Nat) (x : Bool) (w : World) (hb : Blk w q 135 #[a, b, .slice (some ⟨cb, co, none⟩) (n + 1) c]) (hc : n + 1 ≤ c) (hm : c ≤ maxLen) (hx : w.cell? ⟨cb, co, none⟩ = some (.bool x)) :
    Calls Tryd.prog 112 #[.pointer (some ⟨q, 0, none⟩)] w fun e w' => e = .returned (.bool x) ∧ ∃ o' c', w' = w.setCell ⟨q, 2, none⟩ (.slice (some ⟨cb, o', none⟩) n c') ∧ n ≤ c' ∧ c' ≤ maxLen ∧ (0 < n → o' = co + 1) := by
  have z2 := hb.cell 2
  have f2 := hb.thaw 2
  simp only [List.getElem?_toArray, List.getElem?_cons_zero, List.getElem?_cons_succ] at z2
  clear hb
  have hn0 : ¬ ((n : Int) + 1 = 0) := by omega
  have hn1 : (0 : Int) < (n : Int) + 1 := by omega
  have hm' := hm
  unfold maxLen at hm
  go_enter Tryd.func112, Tryd.ntmps112
  go_wp2_with fail
  · go_ret
    exact ⟨rfl, co, 0, rfl, by omega, Nat.zero_le _, fun h => by omega⟩
  · go_ret
    exact ⟨rfl, co + 1, c - 1, rfl, by omega, Nat.le_trans (Nat.sub_le _ _) hm', fun _ => rfl⟩
/-- what a step on a Back leaves: its turns -/
def TurnP (w : World) (tq k : Nat) (tl : List Int) (c : Int) (e : Ending) (w' : World) : Prop :=
  e = .returned (.bool (decide (tl.getD k 0 < c))) ∧ Chg (fun i => i = tq) w w' ∧ Blk w' tq 3 ((tl.set k (if tl.getD k 0 < c then tl.getD k 0 + 1 else 0)).map (Value.int .i64)).toArray
theorem turn_mk {w w1 : World} {tq k : Nat} {tl : List Int} {c v : Int} {b : Bool} (hs : Same w w1) (ht : Blk w1 tq 3 (tl.map (Value.int .i64)).toArray) (hb : b = decide (tl.getD k 0 < c)) (hv : v = if tl.getD k 0 < c then tl.getD k 0 + 1 else 0) :
    TurnP w tq k tl c (.returned (.bool b)) (w1.setCell ⟨tq, k, none⟩ (.int .i64 v)) := by
  refine ⟨by rw [hb], ((hs.chg _).trans ((Chg.refl (fun i => i = tq) w1).set (p := ⟨tq, k, none⟩) (.inl rfl) _)), ?_⟩
  have := ht.put k (.int .i64 v)
  rw [← hv, List.map_set]
  simpa using this
set_option maxRecDepth 100000 in
set_option maxHeartbeats 1000000 in
theorem turned_any (q tq gc : Nat) (A : Option Addr) (m c : Nat) (p : List Ins) (tl : List Int) (x : Value) (k : Nat) (w : World) (hb : Blk w q 135 #[.slice A m c, .slice (some ⟨tq, 0, none⟩) m m, x]) (ht : Blk w tq 3 (tl.map (Value.int .i64)).toArray) (hl : p.length = m) (hp : Prg w A p) (htl : tl.length = m) (hk : k < m) (hm : m ≤ 5000)
    (hbd : 0 ≤ tl.getD k 0 ∧ tl.getD k 0 ≤ 1000) :
    Calls Tryd.prog 113 #[.pointer (some ⟨q, 0, none⟩), .int .i64 (k : Int)] w (TurnP w tq k tl (at_ p k).c) := by
  obtain ⟨zk, zb, zo, rfl, _, _, _, zc, _⟩ := hp.at_ (k := k) (by omega)
  have z0 := hb.cell 0
  have z1 := hb.cell 1
  simp only [List.getElem?_toArray, List.getElem?_cons_zero, List.getElem?_cons_succ] at z0 z1
  have y := ht.cell k
  have fy := ht.thaw k
  have hy : ((tl.map (Value.int .i64)).toArray[k]?) = some (.int .i64 (tl.getD k 0)) := by
    rw [List.getElem?_toArray, List.getElem?_map, List.getD_eq_getElem?_getD, List.getElem?_eq_getElem (by omega)]
    rfl
  rw [hy] at y
  have HT := Lib.hid ht
  have hk0 : (0 : Int) ≤ k := by omega
  have hkm : (k : Int) < m := by omega
  have HTM := Lib.hid (fun w1 (hs : Same w w1) (b : Bool) (v : Int) (hb : b = decide (tl.getD k 0 < (at_ p k).c)) (hv : v = if tl.getD k 0 < (at_ p k).c then tl.getD k 0 + 1 else 0) => turn_mk hs (ht.same hs) hb hv)
  have HFT := Lib.hid (fun w1 (hs : Same w w1) => (ht.same hs).thaw k)
  clear hb ht zk hp hy htl
  generalize hPP : TurnP w tq k tl (at_ p k).c = PP at *
  generalize (at_ p k).c = lc at *
  generalize tl.getD k 0 = t at *
  go_enter Tryd.func113, Tryd.ntmps113
  go_wp2_with fail
  go_quiet (fail)
  have S1 := Lib.hid ((Same.refl w).drewN nq)
  have z0 := S1.out.cell z0
  have z1 := S1.out.cell z1
  have y := S1.out.cell y
  have fy := HFT.out _ S1.out
  generalize w.drewN nq = w1 at *
  have ha : IntKind.i64.wrap (t + 1) = t + 1 := Go.IntWalk.i64_in _ (by omega)
  go_wp2_with fail
  · have hlt : t < lc := by first | assumption | omega | simp_all
    exact HTM.out _ S1.out true (t + 1) (decide_eq_true hlt).symm (by rw [if_pos hlt])
  · have hlt : ¬ t < lc := by first | assumption | omega | simp_all
    exact HTM.out _ S1.out false 0 (decide_eq_false hlt).symm (by rw [if_neg hlt])
/-- a walker: the program, the turns, the choices that are left -/
structure WK (w : World) (q tq gc : Nat) (A : Option Addr) (m c : Nat) (tl : List Int) (bs : List Bool) : Prop where
  b : ∃ C n cc, Blk w q 135 #[.slice A m c, .slice (some ⟨tq, 0, none⟩) m m, .slice C n cc] ∧ Row w C (bs.map Value.bool) ∧ bs.length = n ∧ n ≤ cc ∧ cc ≤ maxLen ∧ (bs ≠ [] → ∀ g o, C = some ⟨g, o, none⟩ → g ≠ q ∧ g ≠ tq ∧ g = gc)
  t : Blk w tq 3 (tl.map (Value.int .i64)).toArray
  ne : q ≠ tq
  len : tl.length = m
theorem WK.same {w w' : World} {q tq gc : Nat} {A : Option Addr} {m c : Nat} {tl : List Int} {bs : List Bool} (h : WK w q tq gc A m c tl bs) (hs : Same w w') : WK w' q tq gc A m c tl bs := by
  obtain ⟨C, n, cc, h1, h2, h3⟩ := h.b
  exact ⟨⟨C, n, cc, h1.same hs, h2.same hs, h3⟩, h.t.same hs, h.ne, h.len⟩
/-- what taking a choice leaves -/
def ChoP (w : World) (q tq gc : Nat) (A : Option Addr) (m c : Nat) (tl : List Int) (bs : List Bool) (e : Ending) (w' : World) : Prop :=
  e = .returned (.bool (bs.headD false)) ∧ Chg (fun i => i = q) w w' ∧ WK w' q tq gc A m c tl bs.tail
theorem chosen_any (q tq gc : Nat) (A : Option Addr) (m c : Nat) (tl : List Int) (bs : List Bool) (w : World) (h : WK w q tq gc A m c tl bs) :
    Calls Tryd.prog 112 #[.pointer (some ⟨q, 0, none⟩)] w (ChoP w q tq gc A m c tl bs) := by
  obtain ⟨C, n, cc, h1, h2, h3, h4, h5, h6⟩ := h.b
  cases bs with
  | nil =>
    obtain rfl : n = 0 := h3.symm
    refine (chosen_no q _ _ C cc w h1).mono ?_
    rintro e w' ⟨rfl, rfl⟩
    exact ⟨rfl, Chg.refl _ _, h⟩
  | cons x bs =>
    obtain ⟨n, rfl⟩ : ∃ n', n = n' + 1 := ⟨bs.length, h3.symm⟩
    obtain ⟨cb, co, rfl, hx⟩ := h2 0 (.bool x) rfl
    refine (chosen_yes q _ _ cb co n cc x w h1 h4 h5 hx).mono ?_
    rintro e w' ⟨rfl, o', c', rfl, hc1, hc2, ho⟩
    have hch := (Chg.refl (fun i => i = q) w).set (p := ⟨q, 2, none⟩) (.inl rfl) (.slice (some ⟨cb, o', none⟩) n c')
    refine ⟨rfl, hch, ⟨_, n, c', h1.put 2 _, ?_, by simpa using h3, hc1, hc2, fun _ g o e => ?_⟩, h.t.chg hch (fun e => h.ne e.symm), h.ne, h.len⟩
    · intro j u hj
      have hj' : (bs.map Value.bool)[j]? = some u := hj
      have hlt : 0 < n := by
        have := (List.getElem?_eq_some_iff.1 hj').1
        simp at this h3
        omega
      obtain ⟨g, o, e, hc⟩ := h2 (j + 1) u (by simpa using hj')
      injection e with e
      injection e with e1 e2
      subst e1
      subst e2
      refine ⟨_, _, rfl, ?_⟩
      rw [ho hlt, World.cell?_setCell_far _ _ _ _ (by simp only []; have := (h6 (by simp) cb co rfl).1; omega), show co + 1 + j = co + (j + 1) by omega]
      exact hc
    · injection e with e
      injection e with e1 e2
      subst e1
      exact h6 (by simp) _ co rfl
/-- where a step leads, and what it leaves -/
def goesI (p : List Ins) (tl : List Int) (bs : List Bool) (k : Nat) : Bool := decide ((at_ p k).op = 14) || (decide ((at_ p k).op = 15) && bs.headD false) || (decide ((at_ p k).op = 16) && decide (tl.getD k 0 < (at_ p k).c))
def nextI (p : List Ins) (tl : List Int) (bs : List Bool) (k : Nat) : Int := if goesI p tl bs k = true then (at_ p k).n else (k : Int) + 1
def nextT (p : List Ins) (tl : List Int) (k : Nat) : List Int := if (at_ p k).op = 16 then tl.set k (if tl.getD k 0 < (at_ p k).c then tl.getD k 0 + 1 else 0) else tl
def nextB (p : List Ins) (bs : List Bool) (k : Nat) : List Bool := if (at_ p k).op = 15 then bs.tail else bs
def NextP (w : World) (q tq gc : Nat) (A : Option Addr) (m c : Nat) (p : List Ins) (tl : List Int) (bs : List Bool) (k : Nat) (e : Ending) (w' : World) : Prop :=
  e = .returned (.int .i64 (nextI p tl bs k)) ∧ Chg (fun i => i = q ∨ i = tq) w w' ∧ WK w' q tq gc A m c (nextT p tl k) (nextB p bs k)
theorem next_mk {w w' : World} {q tq gc : Nat} {A : Option Addr} {m c : Nat} {p : List Ins} {tl tl' : List Int} {bs bs' : List Bool} {k : Nat} {v : Int} (g : Bool) (hg : goesI p tl bs k = g) (hv : v = if g = true then (at_ p k).n else (k : Int) + 1) (hc : Chg (fun i => i = q ∨ i = tq) w w') (ht : nextT p tl k = tl') (hb : nextB p bs k = bs') (hw : WK w' q tq gc A m c tl' bs') : NextP w q tq gc A m c p tl bs k (.returned (.int .i64 v)) w' := by
  subst ht
  subst hb
  refine ⟨by unfold nextI; rw [hg, hv], hc, hw⟩
theorem WK.turn {w w' : World} {q tq gc : Nat} {A : Option Addr} {m c : Nat} {tl tl' : List Int} {bs : List Bool} (h : WK w q tq gc A m c tl bs) (hc : Chg (fun i => i = tq) w w') (ht : Blk w' tq 3 (tl'.map (Value.int .i64)).toArray) (hl : tl'.length = tl.length) : WK w' q tq gc A m c tl' bs := by
  obtain ⟨C, n, cc, h1, h2, h3, h4, h5, h6⟩ := h.b
  exact ⟨⟨C, n, cc, h1.chg hc h.ne, h2.chg hc (fun b o e h hb => (h6 (fun e' => h (by rw [e']; rfl)) b o e).2.1 hb), h3, h4, h5, h6⟩, ht, h.ne, by rw [hl]; exact h.len⟩
set_option maxRecDepth 100000 in
set_option maxHeartbeats 2000000 in
theorem next_any (q tq gc : Nat) (A : Option Addr) (m c : Nat) (p : List Ins) (tl : List Int) (bs : List Bool) (k : Nat) (w : World) (h : WK w q tq gc A m c tl bs) (hl : p.length = m) (hp : Prg w A p) (hk : k < m) (hm : m ≤ 5000) (hbd : (at_ p k).op = 16 → 0 ≤ tl.getD k 0 ∧ tl.getD k 0 ≤ 1000) (hpq : ∀ g o, A = some ⟨g, o, none⟩ → g ≠ q ∧ g ≠ tq) :
    Calls Tryd.prog 89 #[.pointer (some ⟨q, 0, none⟩), .int .i64 (k : Int)] w (NextP w q tq gc A m c p tl bs k) := by
  obtain ⟨C, n, cc, h1, _⟩ := h.b
  have HW := Lib.hid h
  have CH := Lib.hid (fun W (hs : Same w W) => chosen_any q tq gc A m c tl bs W (h.same hs))
  have TU := Lib.hid (fun W (hs : Same w W) (h16 : (at_ p k).op = 16) => turned_any q tq gc A m c p tl (.slice C n cc) k W (h1.same hs) (h.t.same hs) hl (hp.same hs) h.len hk hm (hbd h16))
  obtain ⟨zk, zb, zo, rfl, za, zbb, zop, zc, zn⟩ := hp.at_ (k := k) (by omega)
  have hzk := zk
  obtain ⟨hn0, hn1⟩ : 0 ≤ (at_ p k).n ∧ (at_ p k).n < 4294967296 := hzk
  have HMK := Lib.hid (fun (w' : World) (v : Int) (tl' : List Int) (bs' : List Bool) (g : Bool) (hg : goesI p tl bs k = g) (hv : v = if g = true then (at_ p k).n else (k : Int) + 1) (hc : Chg (fun i => i = q ∨ i = tq) w w') (ht : nextT p tl k = tl') (hb : nextB p bs k = bs') (hw : WK w' q tq gc (some ⟨zb, zo, none⟩) m c tl' bs') => next_mk g hg hv hc ht hb hw)
  have hG : goesI p tl bs k = (decide ((at_ p k).op = 14) || (decide ((at_ p k).op = 15) && bs.headD false) || (decide ((at_ p k).op = 16) && decide (tl.getD k 0 < (at_ p k).c))) := rfl
  have hT : nextT p tl k = if (at_ p k).op = 16 then tl.set k (if tl.getD k 0 < (at_ p k).c then tl.getD k 0 + 1 else 0) else tl := rfl
  have hB : nextB p bs k = if (at_ p k).op = 15 then bs.tail else bs := rfl
  have z0 := h1.cell 0
  simp only [List.getElem?_toArray, List.getElem?_cons_zero, List.getElem?_cons_succ] at z0
  have HQ := Lib.hid (show q < w.heap.size ∧ tq < w.heap.size from ⟨h1.lt, h.t.lt⟩)
  generalize hPP : NextP w q tq gc (some ⟨zb, zo, none⟩) m c p tl bs k = PP at *
  have hkb : (k : Int) + 1 ≤ 9223372036854775807 := by omega
  have hkm : (k : Int) < m := by omega
  have hk0 : (0 : Int) ≤ k := by omega
  generalize goesI p tl bs k = G0 at *
  generalize nextT p tl k = T0 at *
  generalize nextB p bs k = B0 at *
  generalize (at_ p k).op = op at *
  generalize (at_ p k).a = xa at *
  generalize (at_ p k).b = xb at *
  generalize (at_ p k).c = lc at *
  generalize (at_ p k).n = xn at *
  have S4 := Lib.hid ((Same.refl w).alloc (.cells #[.int .i64 op, .int .i64 xa, .int .i64 xb, .int .i64 lc, .int .u32 xn] 67))
  have B4 := Lib.hid (Blk.new w 67 #[.int .i64 op, .int .i64 xa, .int .i64 xb, .int .i64 lc, .int .u32 xn])
  have HH := Lib.hid h
  have HGG := Lib.hid hG
  have HTT := Lib.hid hT
  have HBB := Lib.hid hB
  clear h h1 hp hG hT hB hPP hpq hbd
  go_enter Tryd.func89, Tryd.ntmps89
  go_upto_region 2 with fail
  generalize w.alloc (.cells #[.int .i64 op, .int .i64 xa, .int .i64 xb, .int .i64 lc, .int .u32 xn] 67) = w1 at *
  generalize w.heap.size = q1 at *
  have y0 := B4.out.cell 0
  have y4 := B4.out.cell 4
  simp only [List.getElem?_toArray, List.getElem?_cons_zero, List.getElem?_cons_succ] at y0 y4
  clear z0 za zbb zop zc zn
  have hcv : IntKind.i64.wrap xn = xn := Go.IntWalk.i64_in _ (by omega)
  have W1 := Lib.hid (HH.out.same S4.out)
  by_cases e14 : op = 14
  · subst e14
    go_wp2_with fail
    exact HMK.out _ _ tl bs true (by rw [HGG.out]; rfl) rfl (S4.out.chg _) (by rw [HTT.out]; rfl) (by rw [HBB.out]; rfl) W1.out
  · by_cases e15 : op = 15
    · subst e15
      go_wp2_with fail
      refine (CH.out _ S4.out).mono ?_
      rintro e w2 ⟨rfl, hc2, hw2⟩
      have B5 := B4.out.chg hc2 (fun e => by have := HQ.out; omega)
      have y0 := B5.cell 0
      have y4 := B5.cell 4
      simp only [List.getElem?_toArray, List.getElem?_cons_zero, List.getElem?_cons_succ] at y0 y4
      have HC := Lib.hid ((S4.out.chg (fun i => i = q ∨ i = tq)).trans (hc2.weak fun g _ hg => .inl hg))
      have HW2 := Lib.hid hw2
      clear B5 hc2 hw2
      cases hh : bs.headD false with
      | false =>
        go_wp2_with fail
        exact HMK.out _ _ tl bs.tail false (by rw [HGG.out, hh]; rfl) rfl HC.out (by rw [HTT.out]; rfl) (by rw [HBB.out]; rfl) HW2.out
      | true =>
        go_wp2_with fail
        exact HMK.out _ _ tl bs.tail true (by rw [HGG.out, hh]; rfl) rfl HC.out (by rw [HTT.out]; rfl) (by rw [HBB.out]; rfl) HW2.out
    · have f14 : (op == 14) = false := by simpa using e14
      have f15 : (op == 15) = false := by simpa using e15
      have d14 : decide (op = 14) = false := decide_eq_false e14
      have d15 : decide (op = 15) = false := decide_eq_false e15
      by_cases e16 : op = 16
      · subst e16
        clear f14 f15 d14 d15 e14 e15
        go_wp2_with fail
        refine (TU.out _ S4.out (by first | trivial | rfl)).mono ?_
        rintro e w2 ⟨rfl, hc2, hb2⟩
        have hw2 := W1.out.turn hc2 hb2 (by rw [List.length_set])
        have B5 := B4.out.chg hc2 (fun e => by have := HQ.out; omega)
        have y0 := B5.cell 0
        have y4 := B5.cell 4
        simp only [List.getElem?_toArray, List.getElem?_cons_zero, List.getElem?_cons_succ] at y0 y4
        have HC := Lib.hid ((S4.out.chg (fun i => i = q ∨ i = tq)).trans (hc2.weak fun g _ hg => .inr hg))
        have HW2 := Lib.hid hw2
        clear B5 hc2 hw2 hb2
        cases hh : decide (tl.getD k 0 < lc) with
        | false =>
          go_wp2_with fail
          exact HMK.out _ _ _ bs false (by rw [HGG.out, hh]; rfl) rfl HC.out (by rw [HTT.out]; first | exact if_pos trivial | exact if_pos rfl) (by rw [HBB.out]; rfl) HW2.out
        | true =>
          go_wp2_with fail
          exact HMK.out _ _ _ bs true (by rw [HGG.out, hh]; rfl) rfl HC.out (by rw [HTT.out]; first | exact if_pos trivial | exact if_pos rfl) (by rw [HBB.out]; rfl) HW2.out
      · have f16 : (op == 16) = false := by simpa using e16
        have d16 : decide (op = 16) = false := decide_eq_false e16
        have hg := HGG.out
        have ht := HTT.out
        have hb := HBB.out
        rw [d14, d15, d16] at hg
        rw [if_neg e16] at ht
        rw [if_neg e15] at hb
        have HG3 := Lib.hid hg
        have HT3 := Lib.hid ht
        have HB3 := Lib.hid hb
        clear hg ht hb d14 d15 d16 HGG HTT HBB
        go_wp2_with fail
        exact HMK.out _ _ tl bs false HG3.out rfl (S4.out.chg _) HT3.out HB3.out W1.out
end Go.Proofs.YtnlndkpjfgpodaaDoor.Pt
end
section
set_option linter.unusedSimpArgs false
set_option linter.unusedVariables false
namespace Go.Proofs.YtnlndkpjfgpodaaDoor.Pt
open Go.Proofs.YtnlndkpjfgpodaaDoor.Fp (Ins at_)
open Wk (Sp nx up wkN wk Sp0 up_at up_off)
theorem head_drop (ch : List Bool) (j : Nat) : (ch.drop j).headD false = ch.getD j false := by
  rw [List.getD_eq_getElem?_getD]
  cases h : ch.drop j with
  | nil =>
    have : ch.length ≤ j := by simpa using h
    rw [List.getElem?_eq_none this]
    rfl
  | cons x l =>
    have h0 : (ch.drop j)[0]? = some x := by rw [h]; rfl
    rw [List.getElem?_drop, Nat.add_zero] at h0
    rw [h0]
    rfl
/-- a walker stands where the plain walk is -/
structure Rel (m : Nat) (ch : List Bool) (s : Sp) (j : Nat) (k : Nat) (tl : List Int) (bs : List Bool) : Prop where
  pc : s.pc = k
  tn : ∀ u, u < m → tl.getD u 0 = s.tn u
  len : tl.length = m
  cs : bs = ch.drop j
theorem rel_start (m : Nat) (ch : List Bool) : Rel m ch Sp0 0 0 (List.replicate m 0) ch := by
  refine ⟨rfl, fun u hu => ?_, List.length_replicate .., rfl⟩
  rw [List.getD_eq_getElem?_getD, List.getElem?_replicate]
  split <;> rfl
theorem rel_step {p : List Ins} {m : Nat} {ch : List Bool} {s : Sp} {j k : Nat} {tl : List Int} {bs : List Bool} (h : Rel m ch s j k tl bs) (hk : k < m) (hn : 0 ≤ (at_ p k).n) :
    nextI p tl bs k = ((wkN p ch (s, j)).1.pc : Int) ∧ Rel m ch (wkN p ch (s, j)).1 (wkN p ch (s, j)).2 (wkN p ch (s, j)).1.pc (nextT p tl k) (nextB p bs k) := by
  obtain ⟨rfl, h2, h3, rfl⟩ := h
  have ht := h2 s.pc hk
  by_cases e15 : (at_ p s.pc).op = 15
  · have e16 : ¬ (at_ p s.pc).op = 16 := by omega
    have e14 : ¬ (at_ p s.pc).op = 14 := by omega
    have ew : wkN p ch (s, j) = (nx p s (ch.getD j false), j + 1) := if_pos e15
    have eg : goesI p tl (ch.drop j) s.pc = ch.getD j false := by
      unfold goesI
      rw [decide_eq_false e14, decide_eq_true e15, decide_eq_false e16, head_drop]
      simp
    have en : nx p s (ch.getD j false) = if ch.getD j false = true then ⟨(at_ p s.pc).n.toNat, s.tn⟩ else ⟨s.pc + 1, s.tn⟩ := by
      unfold nx
      rw [if_neg e16]
      cases ch.getD j false with
      | false => rw [if_neg (by simp [e14]), if_neg Bool.false_ne_true]
      | true => rw [if_pos (.inr ⟨e15, rfl⟩), if_pos rfl]
    have eT : nextT p tl s.pc = tl := if_neg e16
    have eB : nextB p (ch.drop j) s.pc = ch.drop (j + 1) := by unfold nextB; rw [if_pos e15, List.tail_drop]
    rw [ew, eT, eB]
    unfold nextI
    rw [eg]
    show _ = (((nx p s (ch.getD j false)).pc : Nat) : Int) ∧ Rel m ch (nx p s (ch.getD j false)) (j + 1) (nx p s (ch.getD j false)).pc tl (ch.drop (j + 1))
    rw [en]
    cases ch.getD j false with
    | false => exact ⟨by rw [if_neg Bool.false_ne_true, if_neg Bool.false_ne_true]; push_cast; rfl, ⟨rfl, fun u hu => by rw [if_neg Bool.false_ne_true]; exact h2 u hu, h3, rfl⟩⟩
    | true => exact ⟨by rw [if_pos rfl, if_pos rfl]; show _ = (((at_ p s.pc).n.toNat : Nat) : Int); omega, ⟨rfl, fun u hu => by rw [if_pos rfl]; exact h2 u hu, h3, rfl⟩⟩
  · have ew : wkN p ch (s, j) = (nx p s false, j) := if_neg e15
    have eB : nextB p (ch.drop j) s.pc = ch.drop j := if_neg e15
    rw [ew, eB]
    by_cases e16 : (at_ p s.pc).op = 16
    · have e14 : ¬ (at_ p s.pc).op = 14 := by omega
      have eT : nextT p tl s.pc = tl.set s.pc (if s.tn s.pc < (at_ p s.pc).c then s.tn s.pc + 1 else 0) := by unfold nextT; rw [if_pos e16, ht]
      have eg : goesI p tl (ch.drop j) s.pc = decide (s.tn s.pc < (at_ p s.pc).c) := by
        unfold goesI
        rw [decide_eq_false e14, decide_eq_false e15, decide_eq_true e16, ht]
        simp
      have en : nx p s false = if s.tn s.pc < (at_ p s.pc).c then ⟨(at_ p s.pc).n.toNat, up s.tn s.pc (s.tn s.pc + 1)⟩ else ⟨s.pc + 1, up s.tn s.pc 0⟩ := by
        unfold nx
        rw [if_pos e16]
      have hs : ∀ v u, u < m → (tl.set s.pc v).getD u 0 = up s.tn s.pc v u := fun v u hu => by
        rw [List.getD_eq_getElem?_getD, List.getElem?_set]
        by_cases e : s.pc = u
        · subst e
          rw [if_pos rfl, if_pos (by omega), up_at]
          rfl
        · rw [if_neg e, up_off _ _ (fun h => e h.symm), ← h2 u hu, List.getD_eq_getElem?_getD]
      unfold nextI
      rw [eg, eT]
      show _ = (((nx p s false).pc : Nat) : Int) ∧ Rel m ch (nx p s false) j (nx p s false).pc _ (ch.drop j)
      rw [en]
      by_cases hlt : s.tn s.pc < (at_ p s.pc).c
      · rw [decide_eq_true hlt, if_pos rfl, if_pos hlt, if_pos hlt]
        exact ⟨by show _ = (((at_ p s.pc).n.toNat : Nat) : Int); omega, ⟨rfl, hs _, by rw [List.length_set]; exact h3, rfl⟩⟩
      · rw [decide_eq_false hlt, if_neg Bool.false_ne_true, if_neg hlt, if_neg hlt]
        exact ⟨by show _ = (((s.pc + 1 : Nat)) : Int); omega, ⟨rfl, hs _, by rw [List.length_set]; exact h3, rfl⟩⟩
    · have eT : nextT p tl s.pc = tl := if_neg e16
      have eg : goesI p tl (ch.drop j) s.pc = decide ((at_ p s.pc).op = 14) := by
        unfold goesI
        rw [decide_eq_false e15, decide_eq_false e16]
        simp
      have en : nx p s false = if (at_ p s.pc).op = 14 then ⟨(at_ p s.pc).n.toNat, s.tn⟩ else ⟨s.pc + 1, s.tn⟩ := by
        unfold nx
        rw [if_neg e16]
        by_cases e : (at_ p s.pc).op = 14
        · rw [if_pos (.inl e), if_pos e]
        · rw [if_neg (by simp [e]), if_neg e]
      unfold nextI
      rw [eg, eT]
      show _ = (((nx p s false).pc : Nat) : Int) ∧ Rel m ch (nx p s false) j (nx p s false).pc tl (ch.drop j)
      rw [en]
      by_cases e : (at_ p s.pc).op = 14
      · rw [decide_eq_true e, if_pos rfl, if_pos e]
        exact ⟨by show _ = (((at_ p s.pc).n.toNat : Nat) : Int); omega, ⟨rfl, h2, h3, rfl⟩⟩
      · rw [decide_eq_false e, if_neg Bool.false_ne_true, if_neg e]
        exact ⟨by show _ = (((s.pc + 1 : Nat)) : Int); omega, ⟨rfl, h2, h3, rfl⟩⟩
end Go.Proofs.YtnlndkpjfgpodaaDoor.Pt
end
