/-
  The document's own operation on a counter and one record: each row.
-/
import Derived.Test.YtniglkbfkehfmaaRefWordW
import Derived.Test.YtniglkbfkehfmaaSeqLay
import Derived.Test.YtniglkbfkehfmaaOpSeq
set_option linter.unusedVariables false
namespace Go.Proofs.Ytniglkbfkehfmaa.Rf
open Go.ChangeShapes Go.WideShapes Go.ChangeAt Go.RowKit Ws Mm Pa
open Go.Proofs.Ytniglkbfkehfmaa.Op (St Im gd get put more)

section
variable {N : Nat → Prop} {gl : Nat} {g : Nat} {x : Ox} {op rd : Int} {s : St} {A : Option Addr} {c : Nat} {l : List Int} {Bl cl : Nat} {o : Im}

theorem rto_lit (w : World) (h : RB N gl w g x o.at_ op rd s A c) (i : Int) (r : Nat) (hi : i = (r : Int)) :
    Calls Try.prog 102 #[.pointer (some ⟨g, 0, none⟩), .int .i64 i] w fun e w' => e = .returned (.tuple #[]) ∧ RB N gl w' g x o.at_ op rd (s.to r) A c ∧ Chg (fun i => i = g) w w' := by
  subst hi
  exact rto_any w h r
theorem word_ab (o : Im) (s : St) (l : List Int) (k : Nat) (nx : Option Nat) : (Op.word o s l k nx).1.a = s.a ∧ (Op.word o s l k nx).1.b = s.b := by
  unfold Op.word
  cases o.wr
  all_goals
    simp only [Bool.false_eq_true, if_true, if_false]
    split
    · exact ⟨rfl, rfl⟩
    · cases nx <;> exact ⟨rfl, rfl⟩
theorem ab_of {w' : World} {k : Nat} {nx : Option Nat} {A' : Option Addr} {c' : Nat} (h : RB N gl w' g x o.at_ op rd (Op.word o s l k nx).1 A' c') :
    w'.cell? ⟨g, 16, none⟩ = some (.int .u32 s.a) ∧ w'.cell? ⟨g, 17, none⟩ = some (.int .u32 s.b) := by
  obtain ⟨_, _, _, _, _, _, _, _, h1, h2⟩ := h.mid
  rw [(word_ab o s l k nx).1] at h1
  rw [(word_ab o s l k nx).2] at h2
  exact ⟨h1, h2⟩

theorem rfail_any (w : World) (h : RB N gl w g x o.at_ op rd s A c) (hcp : x.cp = o.cap) (ht : s.tries < o.cap) (hc : o.cap ≤ 16) :
    Calls Try.prog 107 #[.pointer (some ⟨g, 0, none⟩)] w fun e w' => e = .returned (.bool (decide (o.cap ≤ s.tries + 1))) ∧ RB N gl w' g x o.at_ op rd { s with tries := s.tries + 1, rc := [], row := 0, i := 0 } none 0 ∧ Chg (fun i => i = g) w w' := by
  obtain ⟨_, _, _, c3, _⟩ := h.obj
  rw [hcp] at c3
  obtain ⟨_, _, _, _, _, c13, _⟩ := h.mid
  obtain ⟨c38, _⟩ := h.tail
  have f13 := h.thaw 13
  have f38 := h.thaw 38
  have e1 : ((s.tries : Int) + 1) = ((s.tries + 1 : Nat) : Int) := by omega
  have h1 := h.set_tries (s.tries + 1)
  have hc1 := (Chg.refl (fun i => i = g) w).set (p := ⟨g, 13, none⟩) (.inl rfl) (.int .i64 ((s.tries + 1 : Nat) : Int))
  have h2 := h1.set_rec none 0 [] (own_nil _ _) (fun b hb => by cases hb)
  have hc2 := hc1.set (p := ⟨g, 38, none⟩) (.inl rfl) (.slice none ([] : List Int).length 0)
  rw [← e1] at h1 h2 hc1 hc2
  have H2 := Lib.hid h2
  have HC2 := Lib.hid hc2
  have H0 := Lib.hid h
  have E1 := Lib.hid e1
  clear h h1 h2 hc1 hc2 e1
  go_enter Try.func107, Try.ntmps107
  go_wp2_with fail
  refine (rto_lit _ H2.out 0 0 rfl).mono ?_
  rintro e w6 ⟨rfl, R6, c6⟩
  have HR6 := Lib.hid R6
  have HC6 := Lib.hid (HC2.out.trans c6)
  obtain ⟨_, _, _, k3, _⟩ := R6.obj
  obtain ⟨_, _, _, _, _, k13, _⟩ := R6.mid
  rw [hcp] at k3
  have k13 : w6.cell? ⟨g, 13, none⟩ = some (.int .i64 ((s.tries + 1 : Nat) : Int)) := k13
  clear R6 c6 H2 HC2 H0
  go_wp2_with fail
  go_quiet (fail)
  go_wp2
  go_ret
  exact ⟨rfl, HR6.out.same ((Same.refl _).drewN _), HC6.out.trans ((Chg.refl _ _).drewN _)⟩

set_option maxHeartbeats 1000000 in
theorem rsw0 (w : World) (h : RB N gl w g x o.at_ op rd s A c) (hl : Own w Bl 22 (some ⟨gl, 0, none⟩) cl (l.map (Value.int .u32))) (hgl : g ≠ gl) (hN : ∀ i, N i → i < w.heap.size) (hNl : ¬ N gl)
    (n cc : Nat) (hsz : 1 + o.width ≤ n) (hn : n ≤ 5000) (hcc : n ≤ cc) (hln : o.at_ + n ≤ l.length) (hwl : Op.Wd l) (ok : Op.seqOk o s) (hov : s.over = false) (hop : op = 2) (hwr : o.wr = true) (hrow : s.row = 0) (hx : x.k = 3 ∧ x.wd = o.width ∧ x.cp = o.cap) (hW : Op.seqAl o) (hsa : 0 ≤ x.sa ∧ x.sa < 4294967296) :
    Calls Try.prog 60 #[.pointer (some ⟨g, 0, none⟩), .slice (some ⟨gl, o.at_, none⟩) n cc] w (Leaves N gl g x o.at_ op rd Bl cl (Op.seqW o s l) w) := by
  obtain ⟨⟨a1, a2⟩, hb0, hu20, ok⟩ := ok
  have c11 := h.mid.2.2.2.1
  rw [hrow] at c11
  have c16 := h.mid.2.2.2.2.2.2.2.2.1
  have c17 := h.mid.2.2.2.2.2.2.2.2.2
  have f16 := h.thaw 16
  have f17 := h.thaw 17
  have hgm := h.mine
  have hy := hwl.get o 0
  rw [Op.get_gd] at hy
  have e0 : o.at_ + 0 = o.at_ := rfl
  rw [e0] at hy
  obtain ⟨y, ey⟩ : ∃ y, y = gd l (o.at_) := ⟨_, rfl⟩
  have lc := (own_cell hl (o.at_) (by omega)).1
  rw [← ey] at lc hy
  have hn1 : (0 : Int) < n := by omega
  have e4 : Op.seqW o s l = ({ s.to 1 with a := y }, l) := by simp [Op.seqW, hrow, ey, Op.get_gd]
  clear ey
  have E4 := Lib.hid e4
  have HB := Lib.hid h
  have HL := Lib.hid hl
  have HROW := Lib.hid hrow
  clear e4 h hl hN ok hrow
  go_enter Try.func60, Try.ntmps60
  go_wp2_with fail
  have R1 := Lib.hid (HB.out.set_a (y))
  have hc1 := Lib.hid ((Chg.refl (fun i => i = g) w).set (p := ⟨g, 16, none⟩) (.inl rfl) (.int .u32 (y)))
  refine (rto_lit _ R1.out 1 1 rfl).mono ?_
  rintro e w6 ⟨rfl, R6, c6⟩
  have HR6 := Lib.hid R6
  have HC6 := Lib.hid (hc1.out.trans c6)
  clear R6 c6 hc1 R1
  go_wp2
  go_end0
  rw [E4.out]
  exact ⟨rfl, ⟨_, _, HR6.out⟩, HL.out.chg HC6.out (fun b' hb he => hgl (by injection hb with hb; injection hb with hb; rw [hb]; exact he.symm)), HC6.out.weak fun i _ hi => hi ▸ hgm⟩

set_option maxHeartbeats 1000000 in
theorem rsw1 (w : World) (h : RB N gl w g x o.at_ op rd s A c) (hl : Own w Bl 22 (some ⟨gl, 0, none⟩) cl (l.map (Value.int .u32))) (hgl : g ≠ gl) (hN : ∀ i, N i → i < w.heap.size) (hNl : ¬ N gl)
    (n cc : Nat) (hsz : 1 + o.width ≤ n) (hn : n ≤ 5000) (hcc : n ≤ cc) (hln : o.at_ + n ≤ l.length) (hwl : Op.Wd l) (ok : Op.seqOk o s) (hov : s.over = false) (hop : op = 2) (hwr : o.wr = true) (hrow : s.row = 1) (hx : x.k = 3 ∧ x.wd = o.width ∧ x.cp = o.cap) (hW : Op.seqAl o) (hsa : 0 ≤ x.sa ∧ x.sa < 4294967296) :
    Calls Try.prog 60 #[.pointer (some ⟨g, 0, none⟩), .slice (some ⟨gl, o.at_, none⟩) n cc] w (Leaves N gl g x o.at_ op rd Bl cl (Op.seqW o s l) w) := by
  obtain ⟨⟨a1, a2⟩, hb0, hu20, ok⟩ := ok
  have c11 := h.mid.2.2.2.1
  rw [hrow] at c11
  have c16 := h.mid.2.2.2.2.2.2.2.2.1
  have c17 := h.mid.2.2.2.2.2.2.2.2.2
  have f16 := h.thaw 16
  have f17 := h.thaw 17
  have hgm := h.mine
  have fu : IntKind.u32.wrap (s.a + 1) = Op.up (s.a + 1) := by rw [IntKind.wrap_u32']; rfl
  have e4 : Op.seqW o s l = (s.to 2, put o l 0 (Op.up (s.a + 1))) := by simp [Op.seqW, hrow]
  have lc := own_cell hl (o.at_) (by omega)
  obtain ⟨lc, lf⟩ := lc
  have hn1 : (0 : Int) < n := by omega
  generalize Op.up (s.a + 1) = u at *
  have E4 := Lib.hid e4
  have HB := Lib.hid h
  have HL := Lib.hid hl
  have HROW := Lib.hid hrow
  clear e4 h hl hN ok hrow
  go_enter Try.func60, Try.ntmps60
  go_wp2_with fail
  have C3 : Chg (fun i => i = gl) w (w.setCell ⟨gl, o.at_, none⟩ (.int .u32 u)) := ((Chg.refl (fun i => i = gl) w).set (p := ⟨gl, o.at_, none⟩) (.inl rfl) _)
  have HB3 := Lib.hid (HB.out.chg C3 (fun i hi => .inr hi) hgl)
  have L3 : Own (w.setCell ⟨gl, o.at_, none⟩ (.int .u32 u)) Bl 22 (some ⟨gl, 0, none⟩) cl ((put o l 0 u).map (Value.int .u32)) := by
    have := HL.out.put (o.at_) (.int .u32 u)
    rw [← List.map_set] at this
    exact this
  have HL3 := Lib.hid L3
  have HC3 : Hid (Chg (fun i => ¬ N i) w (w.setCell ⟨gl, o.at_, none⟩ (.int .u32 u))) := Lib.hid (C3.weak fun i _ hi => hi ▸ hNl)
  clear C3 L3 lc lf
  generalize w.setCell ⟨gl, o.at_, none⟩ (.int .u32 u) = w3 at *
  refine (rto_lit _ HB3.out 2 2 rfl).mono ?_
  rintro e w6 ⟨rfl, R6, c6⟩
  have HR6 := Lib.hid R6
  have HC6 := Lib.hid c6
  clear R6 c6
  go_wp2
  go_end0
  rw [E4.out]
  exact ⟨rfl, ⟨_, _, HR6.out⟩, HL3.out.chg HC6.out (fun b' hb he => hgl (by injection hb with hb; injection hb with hb; rw [hb]; exact he.symm)), HC3.out.trans (HC6.out.weak fun i _ hi => hi ▸ hgm)⟩

set_option maxHeartbeats 1000000 in
theorem rsw2 (w : World) (h : RB N gl w g x o.at_ op rd s A c) (hl : Own w Bl 22 (some ⟨gl, 0, none⟩) cl (l.map (Value.int .u32))) (hgl : g ≠ gl) (hN : ∀ i, N i → i < w.heap.size) (hNl : ¬ N gl)
    (n cc : Nat) (hsz : 1 + o.width ≤ n) (hn : n ≤ 5000) (hcc : n ≤ cc) (hln : o.at_ + n ≤ l.length) (hwl : Op.Wd l) (ok : Op.seqOk o s) (hov : s.over = false) (hop : op = 2) (hwr : o.wr = true) (hrow : s.row = 2) (hx : x.k = 3 ∧ x.wd = o.width ∧ x.cp = o.cap) (hW : Op.seqAl o) (hsa : 0 ≤ x.sa ∧ x.sa < 4294967296) :
    Calls Try.prog 60 #[.pointer (some ⟨g, 0, none⟩), .slice (some ⟨gl, o.at_, none⟩) n cc] w (Leaves N gl g x o.at_ op rd Bl cl (Op.seqW o s l) w) := by
  obtain ⟨⟨a1, a2⟩, hb0, hu20, ok⟩ := ok
  have c11 := h.mid.2.2.2.1
  rw [hrow] at c11
  have c16 := h.mid.2.2.2.2.2.2.2.2.1
  have c17 := h.mid.2.2.2.2.2.2.2.2.2
  have f16 := h.thaw 16
  have f17 := h.thaw 17
  have hgm := h.mine
  obtain ⟨_, _, o2, _, o4⟩ := (ok hov).2.2.1 hwr
  have hi := o4 hrow
  have hW8 := hW.1
  have HH : ∀ w', Calls Try.prog 100 #[.agg #[.int .i64 x.k, .int .i64 x.wd, .int .i64 x.sl, .int .i64 x.cp, .int .u32 x.sa, .slice x.ia x.il x.ic, .int .i64 x.ow, .slice x.ra x.rl x.rc]] w' fun e w'' => e = .returned (.int .i64 ((1 : Nat) : Int)) ∧ Same w' w'' := by
    intro w'
    rw [hx.1]
    exact Sq.rhead_any x.wd x.sl x.cp x.sa x.ow x.ia x.ra x.il x.ic x.rl x.rc w' hsa
  have HW := fun w' => Ob.rwrites_reg x.k (by rw [hx.1]; decide) w'
  have e4 : Op.seqW o s l = Op.word o s l (1 + 0 * o.width) (some 3) := by simp [Op.seqW, hrow]
  have hidx : 1 + 0 * o.width + s.i < n := by omega
  by_cases hlt : s.i + 1 < o.width
  · have PR := rword_wr_on w h hl hgl hN hNl o.width 1 0 n cc (1 + 0 * o.width + s.i) (3) (some 3) 2 HH HW (by rw [hop]; rfl) hwr hx.2.1 rfl hW8.2 (by omega) (by omega) rfl hidx hn hcc hln hi o2 hlt
    have HP := Lib.hid PR
    have E4 := Lib.hid e4
    have HROW := Lib.hid hrow
    have HBB := h
    clear PR e4 hrow hN ok hidx o2 o4
    go_enter Try.func60, Try.ntmps60
    go_wp2_with fail
    refine HP.out.mono ?_
    rintro e w6 ⟨rfl, ⟨A6, c6, R6⟩, L6, C6⟩
    have HR6 := Lib.hid R6
    have HL6 := Lib.hid L6
    have HC6 := Lib.hid C6
    clear R6 L6 C6
    go_wp2
    go_end0
    rw [E4.out]
    exact ⟨rfl, ⟨_, _, HR6.out⟩, HL6.out, HC6.out⟩
  · have PR := rword_wr_to w h hl hgl hN hNl o.width 1 0 n cc (1 + 0 * o.width + s.i) (3) 3 2 HH HW (by rw [hop]; rfl) hwr hx.2.1 rfl hW8.2 (by omega) (by omega) rfl hidx hn hcc hln hi o2 hlt rfl
    have HP := Lib.hid PR
    have E4 := Lib.hid e4
    have HROW := Lib.hid hrow
    have HBB := h
    clear PR e4 hrow hN ok hidx o2 o4
    go_enter Try.func60, Try.ntmps60
    go_wp2_with fail
    refine HP.out.mono ?_
    rintro e w6 ⟨rfl, ⟨A6, c6, R6⟩, L6, C6⟩
    have HR6 := Lib.hid R6
    have HL6 := Lib.hid L6
    have HC6 := Lib.hid C6
    clear R6 L6 C6
    go_wp2
    go_end0
    rw [E4.out]
    exact ⟨rfl, ⟨_, _, HR6.out⟩, HL6.out, HC6.out⟩

set_option maxHeartbeats 1000000 in
theorem rsw3 (w : World) (h : RB N gl w g x o.at_ op rd s A c) (hl : Own w Bl 22 (some ⟨gl, 0, none⟩) cl (l.map (Value.int .u32))) (hgl : g ≠ gl) (hN : ∀ i, N i → i < w.heap.size) (hNl : ¬ N gl)
    (n cc : Nat) (hsz : 1 + o.width ≤ n) (hn : n ≤ 5000) (hcc : n ≤ cc) (hln : o.at_ + n ≤ l.length) (hwl : Op.Wd l) (ok : Op.seqOk o s) (hov : s.over = false) (hop : op = 2) (hwr : o.wr = true) (hrow : s.row = 3) (hx : x.k = 3 ∧ x.wd = o.width ∧ x.cp = o.cap) (hW : Op.seqAl o) (hsa : 0 ≤ x.sa ∧ x.sa < 4294967296) :
    Calls Try.prog 60 #[.pointer (some ⟨g, 0, none⟩), .slice (some ⟨gl, o.at_, none⟩) n cc] w (Leaves N gl g x o.at_ op rd Bl cl (Op.seqW o s l) w) := by
  obtain ⟨⟨a1, a2⟩, hb0, hu20, ok⟩ := ok
  have c11 := h.mid.2.2.2.1
  rw [hrow] at c11
  have c16 := h.mid.2.2.2.2.2.2.2.2.1
  have c17 := h.mid.2.2.2.2.2.2.2.2.2
  have f16 := h.thaw 16
  have f17 := h.thaw 17
  have hgm := h.mine
  have fu : IntKind.u32.wrap (s.a + 2) = Op.up (s.a + 2) := by rw [IntKind.wrap_u32']; rfl
  have e4 : Op.seqW o s l = (s.fin true 0, put o l 0 (Op.up (s.a + 2))) := by simp [Op.seqW, hrow]
  have lc := own_cell hl (o.at_) (by omega)
  obtain ⟨lc, lf⟩ := lc
  have hn1 : (0 : Int) < n := by omega
  generalize Op.up (s.a + 2) = u at *
  have E4 := Lib.hid e4
  have HB := Lib.hid h
  have HL := Lib.hid hl
  have HROW := Lib.hid hrow
  clear e4 h hl hN ok hrow
  go_enter Try.func60, Try.ntmps60
  go_wp2_with fail
  have C3 : Chg (fun i => i = gl) w (w.setCell ⟨gl, o.at_, none⟩ (.int .u32 u)) := ((Chg.refl (fun i => i = gl) w).set (p := ⟨gl, o.at_, none⟩) (.inl rfl) _)
  have HB3 := Lib.hid (HB.out.chg C3 (fun i hi => .inr hi) hgl)
  have L3 : Own (w.setCell ⟨gl, o.at_, none⟩ (.int .u32 u)) Bl 22 (some ⟨gl, 0, none⟩) cl ((put o l 0 u).map (Value.int .u32)) := by
    have := HL.out.put (o.at_) (.int .u32 u)
    rw [← List.map_set] at this
    exact this
  have HL3 := Lib.hid L3
  have HC3 : Hid (Chg (fun i => ¬ N i) w (w.setCell ⟨gl, o.at_, none⟩ (.int .u32 u))) := Lib.hid (C3.weak fun i _ hi => hi ▸ hNl)
  clear C3 L3 lc lf
  generalize w.setCell ⟨gl, o.at_, none⟩ (.int .u32 u) = w3 at *
  refine (rend_any _ HB3.out (by rw [hx.1]; decide) o.wr (by rw [hwr, hop]; rfl) 0).mono ?_
  rintro e w6 ⟨rfl, R6, c6⟩
  have HR6 := Lib.hid R6
  have HC6 := Lib.hid c6
  clear R6 c6
  go_wp2
  go_end0
  rw [E4.out, ← hwr]
  exact ⟨rfl, HR6.out, HL3.out.chg HC6.out (fun b' hb he => hgl (by injection hb with hb; injection hb with hb; rw [hb]; exact he.symm)), HC3.out.trans (HC6.out.weak fun i _ hi => hi ▸ hgm)⟩

set_option maxHeartbeats 1000000 in
theorem rsr0 (w : World) (h : RB N gl w g x o.at_ op rd s A c) (hl : Own w Bl 22 (some ⟨gl, 0, none⟩) cl (l.map (Value.int .u32))) (hgl : g ≠ gl) (hN : ∀ i, N i → i < w.heap.size) (hNl : ¬ N gl)
    (n cc : Nat) (hsz : 1 + o.width ≤ n) (hn : n ≤ 5000) (hcc : n ≤ cc) (hln : o.at_ + n ≤ l.length) (hwl : Op.Wd l) (ok : Op.seqOk o s) (hov : s.over = false) (hop : op = 1) (hwr : o.wr = false) (hrow : s.row = 0) (hx : x.k = 3 ∧ x.wd = o.width ∧ x.cp = o.cap) (hW : Op.seqAl o) (hsa : 0 ≤ x.sa ∧ x.sa < 4294967296) :
    Calls Try.prog 61 #[.pointer (some ⟨g, 0, none⟩), .slice (some ⟨gl, o.at_, none⟩) n cc] w (Leaves N gl g x o.at_ op rd Bl cl (Op.seqR o s l) w) := by
  obtain ⟨⟨a1, a2⟩, hb0, hu20, ok⟩ := ok
  have c11 := h.mid.2.2.2.1
  rw [hrow] at c11
  have c16 := h.mid.2.2.2.2.2.2.2.2.1
  have c17 := h.mid.2.2.2.2.2.2.2.2.2
  have f16 := h.thaw 16
  have f17 := h.thaw 17
  have hgm := h.mine
  have hy := hwl.get o 0
  rw [Op.get_gd] at hy
  obtain ⟨y, ey⟩ : ∃ y, y = gd l (o.at_) := ⟨_, rfl⟩
  have lc := (own_cell hl (o.at_) (by omega)).1
  have e0 : o.at_ + 0 = o.at_ := rfl
  rw [e0] at hy
  rw [← ey] at lc hy
  have hn1 : (0 : Int) < n := by omega
  have htr := (ok hov).2.1
  by_cases hodd : y % 2 = 1
  · have b1 : (y % 2 == 1) = true := by simpa using hodd
    have e4 : Op.seqR o s l = (Op.failS o { s with a := y }, l) := by simp [Op.seqR, hrow, Op.get_gd, ← ey, hodd]
    clear ey
    have E4 := Lib.hid e4
    have HB := Lib.hid h
    have HL := Lib.hid hl
    have HROW := Lib.hid hrow
    clear e4 h hl hN ok hrow
    go_enter Try.func61, Try.ntmps61
    go_wp2_with fail
    have HB3 := Lib.hid (HB.out.set_a y)
    have HC1 := Lib.hid ((Chg.refl (fun i => i = g) w).set (p := ⟨g, 16, none⟩) (.inl rfl) (.int .u32 y))
    refine (rfail_any _ HB3.out hx.2.2 htr hW.2.2).mono ?_
    rintro e w5 ⟨rfl, R5, c5⟩
    have HR5 := Lib.hid R5
    have HC5 := Lib.hid (HC1.out.trans c5)
    clear R5 c5
    by_cases hcap : o.cap ≤ s.tries + 1
    · rw [decide_eq_true hcap]
      go_wp2_with fail
      refine (rend_any _ HR5.out (by rw [hx.1]; decide) o.wr (by rw [hwr, hop]; rfl) 1).mono ?_
      rintro e w6 ⟨rfl, R6, c6⟩
      have HR6 := Lib.hid R6
      have HC6 := Lib.hid (HC5.out.trans c6)
      clear R6 c6
      go_wp2
      go_end0
      rw [E4.out]
      unfold Op.failS
      simp only [hcap, ↓reduceIte]
      exact ⟨rfl, HR6.out, HL.out.chg HC6.out (fun b' hb he => hgl (by injection hb with hb; injection hb with hb; rw [hb]; exact he.symm)), HC6.out.weak fun i _ hi => hi ▸ hgm⟩
    · rw [decide_eq_false hcap]
      go_wp2
      go_end0
      rw [E4.out]
      unfold Op.failS
      simp only [hcap, ↓reduceIte]
      exact ⟨rfl, ⟨_, _, HR5.out⟩, HL.out.chg HC5.out (fun b' hb he => hgl (by injection hb with hb; injection hb with hb; rw [hb]; exact he.symm)), HC5.out.weak fun i _ hi => hi ▸ hgm⟩
  · have b1 : (y % 2 == 1) = false := by simpa using hodd
    have e4 : Op.seqR o s l = ({ s.to 1 with a := y }, l) := by simp [Op.seqR, hrow, Op.get_gd, ← ey, hodd]
    clear ey
    have E4 := Lib.hid e4
    have HB := Lib.hid h
    have HL := Lib.hid hl
    have HROW := Lib.hid hrow
    clear e4 h hl hN ok hrow
    go_enter Try.func61, Try.ntmps61
    go_wp2_with fail
    have R1 := Lib.hid (HB.out.set_a (y))
    have hc1 := Lib.hid ((Chg.refl (fun i => i = g) w).set (p := ⟨g, 16, none⟩) (.inl rfl) (.int .u32 (y)))
    refine (rto_lit _ R1.out 1 1 rfl).mono ?_
    rintro e w6 ⟨rfl, R6, c6⟩
    have HR6 := Lib.hid R6
    have HC6 := Lib.hid (hc1.out.trans c6)
    clear R6 c6 hc1 R1
    go_wp2
    go_end0
    rw [E4.out]
    exact ⟨rfl, ⟨_, _, HR6.out⟩, HL.out.chg HC6.out (fun b' hb he => hgl (by injection hb with hb; injection hb with hb; rw [hb]; exact he.symm)), HC6.out.weak fun i _ hi => hi ▸ hgm⟩

set_option maxHeartbeats 1000000 in
theorem rsr1 (w : World) (h : RB N gl w g x o.at_ op rd s A c) (hl : Own w Bl 22 (some ⟨gl, 0, none⟩) cl (l.map (Value.int .u32))) (hgl : g ≠ gl) (hN : ∀ i, N i → i < w.heap.size) (hNl : ¬ N gl)
    (n cc : Nat) (hsz : 1 + o.width ≤ n) (hn : n ≤ 5000) (hcc : n ≤ cc) (hln : o.at_ + n ≤ l.length) (hwl : Op.Wd l) (ok : Op.seqOk o s) (hov : s.over = false) (hop : op = 1) (hwr : o.wr = false) (hrow : s.row = 1) (hx : x.k = 3 ∧ x.wd = o.width ∧ x.cp = o.cap) (hW : Op.seqAl o) (hsa : 0 ≤ x.sa ∧ x.sa < 4294967296) :
    Calls Try.prog 61 #[.pointer (some ⟨g, 0, none⟩), .slice (some ⟨gl, o.at_, none⟩) n cc] w (Leaves N gl g x o.at_ op rd Bl cl (Op.seqR o s l) w) := by
  obtain ⟨⟨a1, a2⟩, hb0, hu20, ok⟩ := ok
  have c11 := h.mid.2.2.2.1
  rw [hrow] at c11
  have c16 := h.mid.2.2.2.2.2.2.2.2.1
  have c17 := h.mid.2.2.2.2.2.2.2.2.2
  have f16 := h.thaw 16
  have f17 := h.thaw 17
  have hgm := h.mine
  obtain ⟨_, _, o2, _, _, o4⟩ := (ok hov).2.2.2 hwr
  have o2 := o2 hrow
  have hi := o4 hrow
  have hW8 := hW.1
  have HH : ∀ w', Calls Try.prog 100 #[.agg #[.int .i64 x.k, .int .i64 x.wd, .int .i64 x.sl, .int .i64 x.cp, .int .u32 x.sa, .slice x.ia x.il x.ic, .int .i64 x.ow, .slice x.ra x.rl x.rc]] w' fun e w'' => e = .returned (.int .i64 ((1 : Nat) : Int)) ∧ Same w' w'' := by
    intro w'
    rw [hx.1]
    exact Sq.rhead_any x.wd x.sl x.cp x.sa x.ow x.ia x.ra x.il x.ic x.rl x.rc w' hsa
  have HW := fun w' => Ob.rwrites_reg x.k (by rw [hx.1]; decide) w'
  have e4 : Op.seqR o s l = Op.word o s l (1 + 0 * o.width) (some 2) := by simp [Op.seqR, hrow]
  have hidx : 1 + 0 * o.width + s.i < n := by omega
  by_cases hlt : s.i + 1 < o.width
  · have PR := rword_rd_on w h hl hgl hN hNl o.width 1 0 n cc (1 + 0 * o.width + s.i) (2) (some 2) 2 HH HW (by rw [hop]; rfl) hwr hx.2.1 rfl hW8.2 (by omega) (by omega) rfl hidx hn hcc hln hi o2 hlt
    have HP := Lib.hid PR
    have E4 := Lib.hid e4
    have HROW := Lib.hid hrow
    have HBB := h
    clear PR e4 hrow hN ok hidx o2 o4
    go_enter Try.func61, Try.ntmps61
    go_wp2_with fail
    refine HP.out.mono ?_
    rintro e w6 ⟨rfl, ⟨A6, c6, R6⟩, L6, C6⟩
    have HR6 := Lib.hid R6
    have HL6 := Lib.hid L6
    have HC6 := Lib.hid C6
    clear R6 L6 C6
    go_wp2
    go_end0
    rw [E4.out]
    exact ⟨rfl, ⟨_, _, HR6.out⟩, HL6.out, HC6.out⟩
  · have PR := rword_rd_to w h hl hgl hN hNl o.width 1 0 n cc (1 + 0 * o.width + s.i) (2) 2 2 HH HW (by rw [hop]; rfl) hwr hx.2.1 rfl hW8.2 (by omega) (by omega) rfl hidx hn hcc hln hi o2 hlt rfl
    have HP := Lib.hid PR
    have E4 := Lib.hid e4
    have HROW := Lib.hid hrow
    have HBB := h
    clear PR e4 hrow hN ok hidx o2 o4
    go_enter Try.func61, Try.ntmps61
    go_wp2_with fail
    refine HP.out.mono ?_
    rintro e w6 ⟨rfl, ⟨A6, c6, R6⟩, L6, C6⟩
    have HR6 := Lib.hid R6
    have HL6 := Lib.hid L6
    have HC6 := Lib.hid C6
    clear R6 L6 C6
    go_wp2
    go_end0
    rw [E4.out]
    exact ⟨rfl, ⟨_, _, HR6.out⟩, HL6.out, HC6.out⟩

set_option maxHeartbeats 1000000 in
theorem rsr2 (w : World) (h : RB N gl w g x o.at_ op rd s A c) (hl : Own w Bl 22 (some ⟨gl, 0, none⟩) cl (l.map (Value.int .u32))) (hgl : g ≠ gl) (hN : ∀ i, N i → i < w.heap.size) (hNl : ¬ N gl)
    (n cc : Nat) (hsz : 1 + o.width ≤ n) (hn : n ≤ 5000) (hcc : n ≤ cc) (hln : o.at_ + n ≤ l.length) (hwl : Op.Wd l) (ok : Op.seqOk o s) (hov : s.over = false) (hop : op = 1) (hwr : o.wr = false) (hrow : s.row = 2) (hx : x.k = 3 ∧ x.wd = o.width ∧ x.cp = o.cap) (hW : Op.seqAl o) (hsa : 0 ≤ x.sa ∧ x.sa < 4294967296) :
    Calls Try.prog 61 #[.pointer (some ⟨g, 0, none⟩), .slice (some ⟨gl, o.at_, none⟩) n cc] w (Leaves N gl g x o.at_ op rd Bl cl (Op.seqR o s l) w) := by
  obtain ⟨⟨a1, a2⟩, hb0, hu20, ok⟩ := ok
  have c11 := h.mid.2.2.2.1
  rw [hrow] at c11
  have c16 := h.mid.2.2.2.2.2.2.2.2.1
  have c17 := h.mid.2.2.2.2.2.2.2.2.2
  have f16 := h.thaw 16
  have f17 := h.thaw 17
  have hgm := h.mine
  have hy := hwl.get o 0
  rw [Op.get_gd] at hy
  obtain ⟨y, ey⟩ : ∃ y, y = gd l (o.at_) := ⟨_, rfl⟩
  have lc := (own_cell hl (o.at_) (by omega)).1
  have e0 : o.at_ + 0 = o.at_ := rfl
  rw [e0] at hy
  rw [← ey] at lc hy
  have hn1 : (0 : Int) < n := by omega
  have htr := (ok hov).2.1
  by_cases heq : y = s.a
  · have b1 : (y != s.a) = false := by simpa using heq
    have e4 : Op.seqR o s l = (s.fin false 0, l) := by simp [Op.seqR, hrow, Op.get_gd, ← ey, heq]
    clear ey
    have E4 := Lib.hid e4
    have HB := Lib.hid h
    have HL := Lib.hid hl
    have HROW := Lib.hid hrow
    clear e4 h hl hN ok hrow
    go_enter Try.func61, Try.ntmps61
    go_wp2_with fail
    go_quiet (fail)
    have HC1 := Lib.hid ((Chg.refl (fun i => i = g) w).drewN nq)
    have HL3 := Lib.hid (HL.out.same ((Same.refl w).drewN nq))
    have HB3 := Lib.hid (HB.out.same ((Same.refl w).drewN nq))
    generalize w.drewN nq = w3 at *
    go_wp2_with fail
    refine (rend_any _ HB3.out (by rw [hx.1]; decide) o.wr (by rw [hwr, hop]; rfl) 0).mono ?_
    rintro e w6 ⟨rfl, R6, c6⟩
    have HR6 := Lib.hid R6
    have HC6 := Lib.hid (HC1.out.trans c6)
    clear R6 c6
    go_wp2
    go_end0
    rw [E4.out, ← hwr]
    exact ⟨rfl, HR6.out, HL.out.chg HC6.out (fun b' hb he => hgl (by injection hb with hb; injection hb with hb; rw [hb]; exact he.symm)), HC6.out.weak fun i _ hi => hi ▸ hgm⟩
  · have b1 : (y != s.a) = true := by simpa using heq
    have e4 : Op.seqR o s l = (Op.failS o s, l) := by simp [Op.seqR, hrow, Op.get_gd, ← ey, heq]
    clear ey
    have E4 := Lib.hid e4
    have HB := Lib.hid h
    have HL := Lib.hid hl
    have HROW := Lib.hid hrow
    clear e4 h hl hN ok hrow
    go_enter Try.func61, Try.ntmps61
    go_wp2_with fail
    go_quiet (fail)
    have HC1 := Lib.hid ((Chg.refl (fun i => i = g) w).drewN nq)
    have HL3 := Lib.hid (HL.out.same ((Same.refl w).drewN nq))
    have HB3 := Lib.hid (HB.out.same ((Same.refl w).drewN nq))
    generalize w.drewN nq = w3 at *
    go_wp2_with fail
    refine (rfail_any _ HB3.out hx.2.2 htr hW.2.2).mono ?_
    rintro e w5 ⟨rfl, R5, c5⟩
    have HR5 := Lib.hid R5
    have HC5 := Lib.hid (HC1.out.trans c5)
    clear R5 c5
    by_cases hcap : o.cap ≤ s.tries + 1
    · rw [decide_eq_true hcap]
      go_wp2_with fail
      refine (rend_any _ HR5.out (by rw [hx.1]; decide) o.wr (by rw [hwr, hop]; rfl) 1).mono ?_
      rintro e w6 ⟨rfl, R6, c6⟩
      have HR6 := Lib.hid R6
      have HC6 := Lib.hid (HC5.out.trans c6)
      clear R6 c6
      go_wp2
      go_end0
      rw [E4.out]
      unfold Op.failS
      simp only [hcap, ↓reduceIte]
      exact ⟨rfl, HR6.out, HL.out.chg HC6.out (fun b' hb he => hgl (by injection hb with hb; injection hb with hb; rw [hb]; exact he.symm)), HC6.out.weak fun i _ hi => hi ▸ hgm⟩
    · rw [decide_eq_false hcap]
      go_wp2
      go_end0
      rw [E4.out]
      unfold Op.failS
      simp only [hcap, ↓reduceIte]
      exact ⟨rfl, ⟨_, _, HR5.out⟩, HL.out.chg HC5.out (fun b' hb he => hgl (by injection hb with hb; injection hb with hb; rw [hb]; exact he.symm)), HC5.out.weak fun i _ hi => hi ▸ hgm⟩

end

end Go.Proofs.Ytniglkbfkehfmaa.Rf
