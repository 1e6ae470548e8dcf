/-
  The document's own operation on four slots: each row, and a step as a whole.
-/
import Derived.Test.YtniglkbfkehfmaaRefWordW
import Derived.Test.YtniglkbfkehfmaaFourLay
set_option linter.unusedVariables false
namespace Go.Proofs.Ytniglkbfkehfmaa.Rf
open Go.ChangeShapes Go.WideShapes Go.ChangeAt Go.RowKit Ws Mm Pa
open Go.Proofs.Ytniglkbfkehfmaa.Op (St Im gd get put more)

section
variable {N : Nat → Prop} {gl : Nat} {g : Nat} {x : Ox} {op rd : Int} {s : St} {A : Option Addr} {c : Nat} {l : List Int} {Bl cl : Nat} {o : Im}

theorem rto_lit (w : World) (h : RB N gl w g x o.at_ op rd s A c) (i : Int) (r : Nat) (hi : i = (r : Int)) :
    Calls Try.prog 102 #[.pointer (some ⟨g, 0, none⟩), .int .i64 i] w fun e w' => e = .returned (.tuple #[]) ∧ RB N gl w' g x o.at_ op rd (s.to r) A c ∧ Chg (fun i => i = g) w w' := by
  subst hi
  exact rto_any w h r
theorem word_ab (o : Im) (s : St) (l : List Int) (k : Nat) (nx : Option Nat) : (Op.word o s l k nx).1.a = s.a ∧ (Op.word o s l k nx).1.b = s.b := by
  unfold Op.word
  cases o.wr
  all_goals
    simp only [Bool.false_eq_true, if_true, if_false]
    split
    · exact ⟨rfl, rfl⟩
    · cases nx <;> exact ⟨rfl, rfl⟩
theorem ab_of {w' : World} {k : Nat} {nx : Option Nat} {A' : Option Addr} {c' : Nat} (h : RB N gl w' g x o.at_ op rd (Op.word o s l k nx).1 A' c') :
    w'.cell? ⟨g, 16, none⟩ = some (.int .u32 s.a) ∧ w'.cell? ⟨g, 17, none⟩ = some (.int .u32 s.b) := by
  obtain ⟨_, _, _, _, _, _, _, _, h1, h2⟩ := h.mid
  rw [(word_ab o s l k nx).1] at h1
  rw [(word_ab o s l k nx).2] at h2
  exact ⟨h1, h2⟩

set_option maxHeartbeats 1000000 in
theorem rfw0 (w : World) (h : RB N gl w g x o.at_ op rd s A c) (hl : Own w Bl 22 (some ⟨gl, 0, none⟩) cl (l.map (Value.int .u32))) (hgl : g ≠ gl) (hN : ∀ i, N i → i < w.heap.size) (hNl : ¬ N gl)
    (n cc : Nat) (hsz : 4 + 4 * o.width ≤ n) (hn : n ≤ 5000) (hcc : n ≤ cc) (hln : o.at_ + n ≤ l.length) (hwl : Op.Wd l) (ok : Op.fourOk o s) (hov : s.over = false) (hop : op = 2) (hwr : o.wr = true) (hrow : s.row = 0) (hx : x.k = 1 ∧ x.wd = o.width) (hW : 0 < o.width ∧ o.width ≤ 8) :
    Calls Try.prog 56 #[.pointer (some ⟨g, 0, none⟩), .slice (some ⟨gl, o.at_, none⟩) n cc] w (Leaves N gl g x o.at_ op rd Bl cl (Op.fourW o s l) w) := by
  obtain ⟨⟨a1, a2⟩, ⟨b1, b2⟩, _, _, ok⟩ := ok
  have c11 := h.mid.2.2.2.1
  rw [hrow] at c11
  have c16 := h.mid.2.2.2.2.2.2.2.2.1
  have c17 := h.mid.2.2.2.2.2.2.2.2.2
  have f16 := h.thaw 16
  have f17 := h.thaw 17
  have hgm := h.mine
  have hy := hwl.get o 1
  rw [Op.get_gd] at hy
  have e0 : o.at_ + 1 = o.at_ + 1 := rfl
  rw [e0] at hy
  obtain ⟨y, ey⟩ : ∃ y, y = gd l (o.at_ + 1) := ⟨_, rfl⟩
  have lc := (own_cell hl (o.at_ + 1) (by omega)).1
  rw [← ey] at lc hy
  have hn1 : (1 : Int) < n := by omega
  have hn0 : 1 < n := by omega
  have hq1 : IntKind.u32.wrap 1 = 1 := by decide
  have hq2 : ¬ (n : Int) ≤ 1 := by omega
  have hq3 : ¬ n ≤ 1 := by omega
  have hq4 : decide ((1 : Int) < n) = true := by simpa using hn1
  have hq5 : IntKind.i64.wrap 1 = 1 := by decide
  have e4 : Op.fourW o s l = ({ s.to 1 with a := (y + 1) % 2 }, l) := by simp [Op.fourW, hrow, ey, Op.get_gd]
  clear ey
  have E4 := Lib.hid e4
  have HB := Lib.hid h
  have HL := Lib.hid hl
  have HROW := Lib.hid hrow
  clear e4 h hl hN ok hrow
  go_enter Try.func56, Try.ntmps56
  go_wp2_with fail
  have R1 := Lib.hid (HB.out.set_a ((y + 1) % 2))
  have hc1 := Lib.hid ((Chg.refl (fun i => i = g) w).set (p := ⟨g, 16, none⟩) (.inl rfl) (.int .u32 ((y + 1) % 2)))
  refine (rto_lit _ R1.out 1 1 rfl).mono ?_
  rintro e w6 ⟨rfl, R6, c6⟩
  have HR6 := Lib.hid R6
  have HC6 := Lib.hid (hc1.out.trans c6)
  clear R6 c6 hc1 R1
  go_wp2
  go_end0
  rw [E4.out]
  exact ⟨rfl, ⟨_, _, HR6.out⟩, HL.out.chg HC6.out (fun b' hb he => hgl (by injection hb with hb; injection hb with hb; rw [hb]; exact he.symm)), HC6.out.weak fun i _ hi => hi ▸ hgm⟩

set_option maxHeartbeats 1000000 in
theorem rfw1 (w : World) (h : RB N gl w g x o.at_ op rd s A c) (hl : Own w Bl 22 (some ⟨gl, 0, none⟩) cl (l.map (Value.int .u32))) (hgl : g ≠ gl) (hN : ∀ i, N i → i < w.heap.size) (hNl : ¬ N gl)
    (n cc : Nat) (hsz : 4 + 4 * o.width ≤ n) (hn : n ≤ 5000) (hcc : n ≤ cc) (hln : o.at_ + n ≤ l.length) (hwl : Op.Wd l) (ok : Op.fourOk o s) (hov : s.over = false) (hop : op = 2) (hwr : o.wr = true) (hrow : s.row = 1) (hx : x.k = 1 ∧ x.wd = o.width) (hW : 0 < o.width ∧ o.width ≤ 8) :
    Calls Try.prog 56 #[.pointer (some ⟨g, 0, none⟩), .slice (some ⟨gl, o.at_, none⟩) n cc] w (Leaves N gl g x o.at_ op rd Bl cl (Op.fourW o s l) w) := by
  obtain ⟨⟨a1, a2⟩, ⟨b1, b2⟩, _, _, ok⟩ := ok
  have c11 := h.mid.2.2.2.1
  rw [hrow] at c11
  have c16 := h.mid.2.2.2.2.2.2.2.2.1
  have c17 := h.mid.2.2.2.2.2.2.2.2.2
  have f16 := h.thaw 16
  have f17 := h.thaw 17
  have hgm := h.mine
  have h01 : s.a = 0 ∨ s.a = 1 := by omega
  rcases h01 with ha | ha
  · rw [ha] at c16
    have hy := hwl.get o 2
    rw [Op.get_gd] at hy
    obtain ⟨y, ey⟩ : ∃ y, y = gd l (o.at_ + 2) := ⟨_, rfl⟩
    have lc := (own_cell hl (o.at_ + 2) (by omega)).1
    rw [← ey] at lc hy
    have hn1 : (2 : Int) < n := by omega
    have hn0 : 2 < n := by omega
    have hq1 : IntKind.u32.wrap 2 = 2 := by decide
    have hq2 : ¬ (n : Int) ≤ 2 := by omega
    have hq3 : ¬ n ≤ 2 := by omega
    have hq4 : decide ((2 : Int) < n) = true := by simpa using hn1
    have hq5 : IntKind.i64.wrap 2 = 2 := by decide
    have e4 : Op.fourW o s l = ({ s.to 2 with b := (y + 1) % 2 }, l) := by simp [Op.fourW, hrow, ey, Op.get_gd, ha]
    have HA := Lib.hid ha
    clear ey ha
    have E4 := Lib.hid e4
    have HB := Lib.hid h
    have HL := Lib.hid hl
    have HROW := Lib.hid hrow
    clear e4 h hl hN ok hrow
    go_enter Try.func56, Try.ntmps56
    go_wp2_with fail
    have R1 := Lib.hid (HB.out.set_b ((y + 1) % 2))
    have hc1 := Lib.hid ((Chg.refl (fun i => i = g) w).set (p := ⟨g, 17, none⟩) (.inl rfl) (.int .u32 ((y + 1) % 2)))
    refine (rto_lit _ R1.out 2 2 rfl).mono ?_
    rintro e w6 ⟨rfl, R6, c6⟩
    have HR6 := Lib.hid R6
    have HC6 := Lib.hid (hc1.out.trans c6)
    clear R6 c6 hc1 R1
    go_wp2
    go_end0
    rw [E4.out]
    exact ⟨rfl, ⟨_, _, HR6.out⟩, HL.out.chg HC6.out (fun b' hb he => hgl (by injection hb with hb; injection hb with hb; rw [hb]; exact he.symm)), HC6.out.weak fun i _ hi => hi ▸ hgm⟩
  · rw [ha] at c16
    have hy := hwl.get o 3
    rw [Op.get_gd] at hy
    obtain ⟨y, ey⟩ : ∃ y, y = gd l (o.at_ + 3) := ⟨_, rfl⟩
    have lc := (own_cell hl (o.at_ + 3) (by omega)).1
    rw [← ey] at lc hy
    have hn1 : (3 : Int) < n := by omega
    have hn0 : 3 < n := by omega
    have hq1 : IntKind.u32.wrap 3 = 3 := by decide
    have hq2 : ¬ (n : Int) ≤ 3 := by omega
    have hq3 : ¬ n ≤ 3 := by omega
    have hq4 : decide ((3 : Int) < n) = true := by simpa using hn1
    have hq5 : IntKind.i64.wrap 3 = 3 := by decide
    have e4 : Op.fourW o s l = ({ s.to 2 with b := (y + 1) % 2 }, l) := by simp [Op.fourW, hrow, ey, Op.get_gd, ha]
    have HA := Lib.hid ha
    clear ey ha
    have E4 := Lib.hid e4
    have HB := Lib.hid h
    have HL := Lib.hid hl
    have HROW := Lib.hid hrow
    clear e4 h hl hN ok hrow
    go_enter Try.func56, Try.ntmps56
    go_wp2_with fail
    have R1 := Lib.hid (HB.out.set_b ((y + 1) % 2))
    have hc1 := Lib.hid ((Chg.refl (fun i => i = g) w).set (p := ⟨g, 17, none⟩) (.inl rfl) (.int .u32 ((y + 1) % 2)))
    refine (rto_lit _ R1.out 2 2 rfl).mono ?_
    rintro e w6 ⟨rfl, R6, c6⟩
    have HR6 := Lib.hid R6
    have HC6 := Lib.hid (hc1.out.trans c6)
    clear R6 c6 hc1 R1
    go_wp2
    go_end0
    rw [E4.out]
    exact ⟨rfl, ⟨_, _, HR6.out⟩, HL.out.chg HC6.out (fun b' hb he => hgl (by injection hb with hb; injection hb with hb; rw [hb]; exact he.symm)), HC6.out.weak fun i _ hi => hi ▸ hgm⟩

set_option maxHeartbeats 1000000 in
theorem rfw2 (w : World) (h : RB N gl w g x o.at_ op rd s A c) (hl : Own w Bl 22 (some ⟨gl, 0, none⟩) cl (l.map (Value.int .u32))) (hgl : g ≠ gl) (hN : ∀ i, N i → i < w.heap.size) (hNl : ¬ N gl)
    (n cc : Nat) (hsz : 4 + 4 * o.width ≤ n) (hn : n ≤ 5000) (hcc : n ≤ cc) (hln : o.at_ + n ≤ l.length) (hwl : Op.Wd l) (ok : Op.fourOk o s) (hov : s.over = false) (hop : op = 2) (hwr : o.wr = true) (hrow : s.row = 2) (hx : x.k = 1 ∧ x.wd = o.width) (hW : 0 < o.width ∧ o.width ≤ 8) :
    Calls Try.prog 56 #[.pointer (some ⟨g, 0, none⟩), .slice (some ⟨gl, o.at_, none⟩) n cc] w (Leaves N gl g x o.at_ op rd Bl cl (Op.fourW o s l) w) := by
  obtain ⟨⟨a1, a2⟩, ⟨b1, b2⟩, _, _, ok⟩ := ok
  have c11 := h.mid.2.2.2.1
  rw [hrow] at c11
  have c16 := h.mid.2.2.2.2.2.2.2.2.1
  have c17 := h.mid.2.2.2.2.2.2.2.2.2
  have f16 := h.thaw 16
  have f17 := h.thaw 17
  have hgm := h.mine
  obtain ⟨_, o2, _, o4⟩ := (ok hov).2.1 hwr
  have hi := o4 hrow
  obtain ⟨q, hq⟩ : ∃ q : Nat, q = (2 * s.a + s.b).toNat := ⟨_, rfl⟩
  have f1 : IntKind.u32.wrap (2 * s.a) = 2 * s.a := by rw [IntKind.wrap_u32']; omega
  have f2 : IntKind.u32.wrap (2 * s.a + s.b) = (q : Int) := by rw [IntKind.wrap_u32']; omega
  have HH : ∀ w', Calls Try.prog 100 #[.agg #[.int .i64 x.k, .int .i64 x.wd, .int .i64 x.sl, .int .i64 x.cp, .int .u32 x.sa, .slice x.ia x.il x.ic, .int .i64 x.ow, .slice x.ra x.rl x.rc]] w' fun e w'' => e = .returned (.int .i64 ((4 : Nat) : Int)) ∧ Same w' w'' := by
    intro w'
    rw [hx.1]
    exact Fo.rhead_any x.wd x.sl x.cp x.sa x.ow x.ia x.ra x.il x.ic x.rl x.rc w'
  have HW := fun w' => Ob.rwrites_reg x.k (by rw [hx.1]; decide) w'
  have hq3 : q ≤ 3 := by omega
  have hqm : q * o.width ≤ 3 * o.width := Nat.mul_le_mul_right _ hq3
  have e4 : Op.fourW o s l = Op.word o s l (4 + q * o.width) (some 3) := by simp [Op.fourW, hrow, Op.fourK, hq]
  have hidx : 4 + q * o.width + s.i < n := by omega
  by_cases hlt : s.i + 1 < o.width
  · have HB := Lib.hid h
    have HL := Lib.hid hl
    clear h hl
    have HNN : Hid (∀ i, N i → i < w.drew.heap.size) := Lib.hid hN
    have PR := rword_wr_on _ HB.out.drew (HL.out.same (Same.refl w).drew) hgl HNN.out hNl o.width 4 q n cc (4 + q * o.width + s.i) (3) (some 3) 2 HH HW (by rw [hop]; rfl) hwr hx.2 rfl hW.2 (by omega) (by omega) rfl hidx hn hcc hln hi o2 hlt
    have HP := Lib.hid PR
    have E4 := Lib.hid e4
    have HQ := Lib.hid hq
    have HROW := Lib.hid hrow
    have HBB := HB
    clear PR e4 hq hrow hN ok hidx hqm o2 o4
    go_enter Try.func56, Try.ntmps56
    go_wp2_with fail
    go_region_held3 (fun w' => w'.cell? ⟨g, 16, none⟩ = some (.int .u32 s.a) ∧ w'.cell? ⟨g, 17, none⟩ = some (.int .u32 s.b))
      (first | assumption | exact ⟨c16, c17⟩ | exact ab_of HR6.out)
      (first | (go_at_call 103; ((with_reducible refine HP.out.mono ?_); rintro e w6 ⟨rfl, ⟨A6, c6, R6⟩, L6, C6⟩; have HR6 := Lib.hid R6; have HL6 := Lib.hid L6; have HC6 := Lib.hid C6; clear R6 L6 C6)))
    go_wp2
    go_end0
    rw [E4.out]
    exact ⟨rfl, ⟨_, _, HR6.out⟩, HL6.out, ((Chg.refl _ w).drew).trans HC6.out⟩
  · have HB := Lib.hid h
    have HL := Lib.hid hl
    clear h hl
    have HNN : Hid (∀ i, N i → i < w.drew.heap.size) := Lib.hid hN
    have PR := rword_wr_to _ HB.out.drew (HL.out.same (Same.refl w).drew) hgl HNN.out hNl o.width 4 q n cc (4 + q * o.width + s.i) (3) 3 2 HH HW (by rw [hop]; rfl) hwr hx.2 rfl hW.2 (by omega) (by omega) rfl hidx hn hcc hln hi o2 hlt rfl
    have HP := Lib.hid PR
    have E4 := Lib.hid e4
    have HQ := Lib.hid hq
    have HROW := Lib.hid hrow
    have HBB := HB
    clear PR e4 hq hrow hN ok hidx hqm o2 o4
    go_enter Try.func56, Try.ntmps56
    go_wp2_with fail
    go_region_held3 (fun w' => w'.cell? ⟨g, 16, none⟩ = some (.int .u32 s.a) ∧ w'.cell? ⟨g, 17, none⟩ = some (.int .u32 s.b))
      (first | assumption | exact ⟨c16, c17⟩ | exact ab_of HR6.out)
      (first | (go_at_call 103; ((with_reducible refine HP.out.mono ?_); rintro e w6 ⟨rfl, ⟨A6, c6, R6⟩, L6, C6⟩; have HR6 := Lib.hid R6; have HL6 := Lib.hid L6; have HC6 := Lib.hid C6; clear R6 L6 C6)))
    go_wp2
    go_end0
    rw [E4.out]
    exact ⟨rfl, ⟨_, _, HR6.out⟩, HL6.out, ((Chg.refl _ w).drew).trans HC6.out⟩

set_option maxHeartbeats 1000000 in
theorem rfw3 (w : World) (h : RB N gl w g x o.at_ op rd s A c) (hl : Own w Bl 22 (some ⟨gl, 0, none⟩) cl (l.map (Value.int .u32))) (hgl : g ≠ gl) (hN : ∀ i, N i → i < w.heap.size) (hNl : ¬ N gl)
    (n cc : Nat) (hsz : 4 + 4 * o.width ≤ n) (hn : n ≤ 5000) (hcc : n ≤ cc) (hln : o.at_ + n ≤ l.length) (hwl : Op.Wd l) (ok : Op.fourOk o s) (hov : s.over = false) (hop : op = 2) (hwr : o.wr = true) (hrow : s.row = 3) (hx : x.k = 1 ∧ x.wd = o.width) (hW : 0 < o.width ∧ o.width ≤ 8) :
    Calls Try.prog 56 #[.pointer (some ⟨g, 0, none⟩), .slice (some ⟨gl, o.at_, none⟩) n cc] w (Leaves N gl g x o.at_ op rd Bl cl (Op.fourW o s l) w) := by
  obtain ⟨⟨a1, a2⟩, ⟨b1, b2⟩, _, _, ok⟩ := ok
  have c11 := h.mid.2.2.2.1
  rw [hrow] at c11
  have c16 := h.mid.2.2.2.2.2.2.2.2.1
  have c17 := h.mid.2.2.2.2.2.2.2.2.2
  have f16 := h.thaw 16
  have f17 := h.thaw 17
  have hgm := h.mine
  have h01 : s.a = 0 ∨ s.a = 1 := by omega
  rcases h01 with ha | ha
  · rw [ha] at c16
    have lc := own_cell hl (o.at_ + 2) (by omega)
    obtain ⟨lc, lf⟩ := lc
    have hn1 : (2 : Int) < n := by omega
    have hn0 : 2 < n := by omega
    have hq1 : IntKind.u32.wrap 2 = 2 := by decide
    have hq2 : ¬ (n : Int) ≤ 2 := by omega
    have hq3 : ¬ n ≤ 2 := by omega
    have hq4 : decide ((2 : Int) < n) = true := by simpa using hn1
    have hq5 : IntKind.i64.wrap 2 = 2 := by decide
    have e4 : Op.fourW o s l = (s.to 4, put o l 2 s.b) := by simp [Op.fourW, hrow, ha]
    have HA := Lib.hid ha
    clear ha
    have E4 := Lib.hid e4
    have HB := Lib.hid h
    have HL := Lib.hid hl
    have HROW := Lib.hid hrow
    clear e4 h hl hN ok hrow
    go_enter Try.func56, Try.ntmps56
    go_wp2_with fail
    go_region_held3 (fun w' => w'.cell? ⟨g, 16, none⟩ = some (.int .u32 (0)) ∧ w'.cell? ⟨g, 17, none⟩ = some (.int .u32 (s.b)))
      (first | assumption | exact ⟨c16, c17⟩ | exact ⟨cell_far hgl c16, cell_far hgl c17⟩)
      (fail)
    have C3 : Chg (fun i => i = gl) w ((w.setCell ⟨gl, o.at_ + 2, none⟩ (.int .u32 s.b)).drew) := ((Chg.refl (fun i => i = gl) w).set (p := ⟨gl, o.at_ + 2, none⟩) (.inl rfl) _).drew
    have HB3 := Lib.hid (HB.out.chg C3 (fun i hi => .inr hi) hgl)
    have L3 : Own ((w.setCell ⟨gl, o.at_ + 2, none⟩ (.int .u32 s.b)).drew) Bl 22 (some ⟨gl, 0, none⟩) cl ((put o l 2 s.b).map (Value.int .u32)) := by
      have := HL.out.put (o.at_ + 2) (.int .u32 s.b)
      rw [← List.map_set] at this
      exact this.same (Same.refl _).drew
    have HL3 := Lib.hid L3
    have HC3 : Hid (Chg (fun i => ¬ N i) w ((w.setCell ⟨gl, o.at_ + 2, none⟩ (.int .u32 s.b)).drew)) := Lib.hid (C3.weak fun i _ hi => hi ▸ hNl)
    clear C3 L3 lc lf
    go_wp2_with fail
    generalize (w.setCell ⟨gl, o.at_ + 2, none⟩ (.int .u32 s.b)).drew = w3 at *
    refine (rto_lit _ HB3.out 4 4 rfl).mono ?_
    rintro e w6 ⟨rfl, R6, c6⟩
    have HR6 := Lib.hid R6
    have HC6 := Lib.hid c6
    clear R6 c6
    go_wp2
    go_end0
    rw [E4.out]
    exact ⟨rfl, ⟨_, _, HR6.out⟩, HL3.out.chg HC6.out (fun b' hb he => hgl (by injection hb with hb; injection hb with hb; rw [hb]; exact he.symm)), HC3.out.trans (HC6.out.weak fun i _ hi => hi ▸ hgm)⟩
  · rw [ha] at c16
    have lc := own_cell hl (o.at_ + 3) (by omega)
    obtain ⟨lc, lf⟩ := lc
    have hn1 : (3 : Int) < n := by omega
    have hn0 : 3 < n := by omega
    have hq1 : IntKind.u32.wrap 3 = 3 := by decide
    have hq2 : ¬ (n : Int) ≤ 3 := by omega
    have hq3 : ¬ n ≤ 3 := by omega
    have hq4 : decide ((3 : Int) < n) = true := by simpa using hn1
    have hq5 : IntKind.i64.wrap 3 = 3 := by decide
    have e4 : Op.fourW o s l = (s.to 4, put o l 3 s.b) := by simp [Op.fourW, hrow, ha]
    have HA := Lib.hid ha
    clear ha
    have E4 := Lib.hid e4
    have HB := Lib.hid h
    have HL := Lib.hid hl
    have HROW := Lib.hid hrow
    clear e4 h hl hN ok hrow
    go_enter Try.func56, Try.ntmps56
    go_wp2_with fail
    go_region_held3 (fun w' => w'.cell? ⟨g, 16, none⟩ = some (.int .u32 (1)) ∧ w'.cell? ⟨g, 17, none⟩ = some (.int .u32 (s.b)))
      (first | assumption | exact ⟨c16, c17⟩ | exact ⟨cell_far hgl c16, cell_far hgl c17⟩)
      (fail)
    have C3 : Chg (fun i => i = gl) w ((w.setCell ⟨gl, o.at_ + 3, none⟩ (.int .u32 s.b)).drew) := ((Chg.refl (fun i => i = gl) w).set (p := ⟨gl, o.at_ + 3, none⟩) (.inl rfl) _).drew
    have HB3 := Lib.hid (HB.out.chg C3 (fun i hi => .inr hi) hgl)
    have L3 : Own ((w.setCell ⟨gl, o.at_ + 3, none⟩ (.int .u32 s.b)).drew) Bl 22 (some ⟨gl, 0, none⟩) cl ((put o l 3 s.b).map (Value.int .u32)) := by
      have := HL.out.put (o.at_ + 3) (.int .u32 s.b)
      rw [← List.map_set] at this
      exact this.same (Same.refl _).drew
    have HL3 := Lib.hid L3
    have HC3 : Hid (Chg (fun i => ¬ N i) w ((w.setCell ⟨gl, o.at_ + 3, none⟩ (.int .u32 s.b)).drew)) := Lib.hid (C3.weak fun i _ hi => hi ▸ hNl)
    clear C3 L3 lc lf
    go_wp2_with fail
    generalize (w.setCell ⟨gl, o.at_ + 3, none⟩ (.int .u32 s.b)).drew = w3 at *
    refine (rto_lit _ HB3.out 4 4 rfl).mono ?_
    rintro e w6 ⟨rfl, R6, c6⟩
    have HR6 := Lib.hid R6
    have HC6 := Lib.hid c6
    clear R6 c6
    go_wp2
    go_end0
    rw [E4.out]
    exact ⟨rfl, ⟨_, _, HR6.out⟩, HL3.out.chg HC6.out (fun b' hb he => hgl (by injection hb with hb; injection hb with hb; rw [hb]; exact he.symm)), HC3.out.trans (HC6.out.weak fun i _ hi => hi ▸ hgm)⟩

set_option maxHeartbeats 1000000 in
theorem rfw4 (w : World) (h : RB N gl w g x o.at_ op rd s A c) (hl : Own w Bl 22 (some ⟨gl, 0, none⟩) cl (l.map (Value.int .u32))) (hgl : g ≠ gl) (hN : ∀ i, N i → i < w.heap.size) (hNl : ¬ N gl)
    (n cc : Nat) (hsz : 4 + 4 * o.width ≤ n) (hn : n ≤ 5000) (hcc : n ≤ cc) (hln : o.at_ + n ≤ l.length) (hwl : Op.Wd l) (ok : Op.fourOk o s) (hov : s.over = false) (hop : op = 2) (hwr : o.wr = true) (hrow : s.row = 4) (hx : x.k = 1 ∧ x.wd = o.width) (hW : 0 < o.width ∧ o.width ≤ 8) :
    Calls Try.prog 56 #[.pointer (some ⟨g, 0, none⟩), .slice (some ⟨gl, o.at_, none⟩) n cc] w (Leaves N gl g x o.at_ op rd Bl cl (Op.fourW o s l) w) := by
  obtain ⟨⟨a1, a2⟩, ⟨b1, b2⟩, _, _, ok⟩ := ok
  have c11 := h.mid.2.2.2.1
  rw [hrow] at c11
  have c16 := h.mid.2.2.2.2.2.2.2.2.1
  have c17 := h.mid.2.2.2.2.2.2.2.2.2
  have f16 := h.thaw 16
  have f17 := h.thaw 17
  have hgm := h.mine
  have lc := own_cell hl (o.at_) (by omega)
  obtain ⟨lc, lf⟩ := lc
  have hn1 : (0 : Int) < n := by omega
  have hn0 : 0 < n := by omega
  have hq1 : IntKind.u32.wrap 0 = 0 := by decide
  have hq2 : ¬ (n : Int) ≤ 0 := by omega
  have hq3 : ¬ n ≤ 0 := by omega
  have hq4 : decide ((0 : Int) < n) = true := by simpa using hn1
  have hq5 : IntKind.i64.wrap 0 = 0 := by decide
  have e4 : Op.fourW o s l = (s.fin true 0, put o l 0 s.a) := by simp [Op.fourW, hrow]
  have E4 := Lib.hid e4
  have HB := Lib.hid h
  have HL := Lib.hid hl
  have HROW := Lib.hid hrow
  clear e4 h hl hN ok hrow
  go_enter Try.func56, Try.ntmps56
  go_wp2_with fail
  have C3 : Chg (fun i => i = gl) w (w.setCell ⟨gl, o.at_, none⟩ (.int .u32 s.a)) := ((Chg.refl (fun i => i = gl) w).set (p := ⟨gl, o.at_, none⟩) (.inl rfl) _)
  have HB3 := Lib.hid (HB.out.chg C3 (fun i hi => .inr hi) hgl)
  have L3 : Own (w.setCell ⟨gl, o.at_, none⟩ (.int .u32 s.a)) Bl 22 (some ⟨gl, 0, none⟩) cl ((put o l 0 s.a).map (Value.int .u32)) := by
    have := HL.out.put (o.at_) (.int .u32 s.a)
    rw [← List.map_set] at this
    exact this
  have HL3 := Lib.hid L3
  have HC3 : Hid (Chg (fun i => ¬ N i) w (w.setCell ⟨gl, o.at_, none⟩ (.int .u32 s.a))) := Lib.hid (C3.weak fun i _ hi => hi ▸ hNl)
  clear C3 L3 lc lf
  go_wp2_with fail
  generalize w.setCell ⟨gl, o.at_, none⟩ (.int .u32 s.a) = w3 at *
  refine (rend_any _ HB3.out (by rw [hx.1]; decide) o.wr (by rw [hwr, hop]; rfl) 0).mono ?_
  rintro e w6 ⟨rfl, R6, c6⟩
  have HR6 := Lib.hid R6
  have HC6 := Lib.hid c6
  clear R6 c6
  go_wp2
  go_end0
  rw [E4.out, ← hwr]
  exact ⟨rfl, HR6.out, HL3.out.chg HC6.out (fun b' hb he => hgl (by injection hb with hb; injection hb with hb; rw [hb]; exact he.symm)), HC3.out.trans (HC6.out.weak fun i _ hi => hi ▸ hgm)⟩

set_option maxHeartbeats 1000000 in
theorem rfr0 (w : World) (h : RB N gl w g x o.at_ op rd s A c) (hl : Own w Bl 22 (some ⟨gl, 0, none⟩) cl (l.map (Value.int .u32))) (hgl : g ≠ gl) (hN : ∀ i, N i → i < w.heap.size) (hNl : ¬ N gl)
    (n cc : Nat) (hsz : 4 + 4 * o.width ≤ n) (hn : n ≤ 5000) (hcc : n ≤ cc) (hln : o.at_ + n ≤ l.length) (hwl : Op.Wd l) (ok : Op.fourOk o s) (hov : s.over = false) (hop : op = 1) (hwr : o.wr = false) (hrow : s.row = 0) (hx : x.k = 1 ∧ x.wd = o.width) (hW : 0 < o.width ∧ o.width ≤ 8) :
    Calls Try.prog 57 #[.pointer (some ⟨g, 0, none⟩), .slice (some ⟨gl, o.at_, none⟩) n cc] w (Leaves N gl g x o.at_ op rd Bl cl (Op.fourR o s l) w) := by
  obtain ⟨⟨a1, a2⟩, ⟨b1, b2⟩, _, _, ok⟩ := ok
  have c11 := h.mid.2.2.2.1
  rw [hrow] at c11
  have c16 := h.mid.2.2.2.2.2.2.2.2.1
  have c17 := h.mid.2.2.2.2.2.2.2.2.2
  have f16 := h.thaw 16
  have f17 := h.thaw 17
  have hgm := h.mine
  have hy := hwl.get o 0
  rw [Op.get_gd] at hy
  have e0 : o.at_ + 0 = o.at_ := rfl
  rw [e0] at hy
  obtain ⟨y, ey⟩ : ∃ y, y = gd l (o.at_) := ⟨_, rfl⟩
  have lc := (own_cell hl (o.at_) (by omega)).1
  rw [← ey] at lc hy
  have hn1 : (0 : Int) < n := by omega
  have hn0 : 0 < n := by omega
  have hq1 : IntKind.u32.wrap 0 = 0 := by decide
  have hq2 : ¬ (n : Int) ≤ 0 := by omega
  have hq3 : ¬ n ≤ 0 := by omega
  have hq4 : decide ((0 : Int) < n) = true := by simpa using hn1
  have hq5 : IntKind.i64.wrap 0 = 0 := by decide
  have e4 : Op.fourR o s l = ({ s.to 1 with a := y % 2 }, l) := by simp [Op.fourR, hrow, ey, Op.get_gd]
  clear ey
  have E4 := Lib.hid e4
  have HB := Lib.hid h
  have HL := Lib.hid hl
  have HROW := Lib.hid hrow
  clear e4 h hl hN ok hrow
  go_enter Try.func57, Try.ntmps57
  go_wp2_with fail
  have R1 := Lib.hid (HB.out.set_a (y % 2))
  have hc1 := Lib.hid ((Chg.refl (fun i => i = g) w).set (p := ⟨g, 16, none⟩) (.inl rfl) (.int .u32 (y % 2)))
  refine (rto_lit _ R1.out 1 1 rfl).mono ?_
  rintro e w6 ⟨rfl, R6, c6⟩
  have HR6 := Lib.hid R6
  have HC6 := Lib.hid (hc1.out.trans c6)
  clear R6 c6 hc1 R1
  go_wp2
  go_end0
  rw [E4.out]
  exact ⟨rfl, ⟨_, _, HR6.out⟩, HL.out.chg HC6.out (fun b' hb he => hgl (by injection hb with hb; injection hb with hb; rw [hb]; exact he.symm)), HC6.out.weak fun i _ hi => hi ▸ hgm⟩

set_option maxHeartbeats 1000000 in
theorem rfr1 (w : World) (h : RB N gl w g x o.at_ op rd s A c) (hl : Own w Bl 22 (some ⟨gl, 0, none⟩) cl (l.map (Value.int .u32))) (hgl : g ≠ gl) (hN : ∀ i, N i → i < w.heap.size) (hNl : ¬ N gl)
    (n cc : Nat) (hsz : 4 + 4 * o.width ≤ n) (hn : n ≤ 5000) (hcc : n ≤ cc) (hln : o.at_ + n ≤ l.length) (hwl : Op.Wd l) (ok : Op.fourOk o s) (hov : s.over = false) (hop : op = 1) (hwr : o.wr = false) (hrow : s.row = 1) (hx : x.k = 1 ∧ x.wd = o.width) (hW : 0 < o.width ∧ o.width ≤ 8) :
    Calls Try.prog 57 #[.pointer (some ⟨g, 0, none⟩), .slice (some ⟨gl, o.at_, none⟩) n cc] w (Leaves N gl g x o.at_ op rd Bl cl (Op.fourR o s l) w) := by
  obtain ⟨⟨a1, a2⟩, ⟨b1, b2⟩, _, _, ok⟩ := ok
  have c11 := h.mid.2.2.2.1
  rw [hrow] at c11
  have c16 := h.mid.2.2.2.2.2.2.2.2.1
  have c17 := h.mid.2.2.2.2.2.2.2.2.2
  have f16 := h.thaw 16
  have f17 := h.thaw 17
  have hgm := h.mine
  have lc := own_cell hl (o.at_ + 1) (by omega)
  obtain ⟨lc, lf⟩ := lc
  have hn1 : (1 : Int) < n := by omega
  have hn0 : 1 < n := by omega
  have hq1 : IntKind.u32.wrap 1 = 1 := by decide
  have hq2 : ¬ (n : Int) ≤ 1 := by omega
  have hq3 : ¬ n ≤ 1 := by omega
  have hq4 : decide ((1 : Int) < n) = true := by simpa using hn1
  have hq5 : IntKind.i64.wrap 1 = 1 := by decide
  have e4 : Op.fourR o s l = (s.to 2, put o l 1 s.a) := by simp [Op.fourR, hrow]
  have E4 := Lib.hid e4
  have HB := Lib.hid h
  have HL := Lib.hid hl
  have HROW := Lib.hid hrow
  clear e4 h hl hN ok hrow
  go_enter Try.func57, Try.ntmps57
  go_wp2_with fail
  have C3 : Chg (fun i => i = gl) w (w.setCell ⟨gl, o.at_ + 1, none⟩ (.int .u32 s.a)) := ((Chg.refl (fun i => i = gl) w).set (p := ⟨gl, o.at_ + 1, none⟩) (.inl rfl) _)
  have HB3 := Lib.hid (HB.out.chg C3 (fun i hi => .inr hi) hgl)
  have L3 : Own (w.setCell ⟨gl, o.at_ + 1, none⟩ (.int .u32 s.a)) Bl 22 (some ⟨gl, 0, none⟩) cl ((put o l 1 s.a).map (Value.int .u32)) := by
    have := HL.out.put (o.at_ + 1) (.int .u32 s.a)
    rw [← List.map_set] at this
    exact this
  have HL3 := Lib.hid L3
  have HC3 : Hid (Chg (fun i => ¬ N i) w (w.setCell ⟨gl, o.at_ + 1, none⟩ (.int .u32 s.a))) := Lib.hid (C3.weak fun i _ hi => hi ▸ hNl)
  clear C3 L3 lc lf
  go_wp2_with fail
  generalize w.setCell ⟨gl, o.at_ + 1, none⟩ (.int .u32 s.a) = w3 at *
  refine (rto_lit _ HB3.out 2 2 rfl).mono ?_
  rintro e w6 ⟨rfl, R6, c6⟩
  have HR6 := Lib.hid R6
  have HC6 := Lib.hid c6
  clear R6 c6
  go_wp2
  go_end0
  rw [E4.out]
  exact ⟨rfl, ⟨_, _, HR6.out⟩, HL3.out.chg HC6.out (fun b' hb he => hgl (by injection hb with hb; injection hb with hb; rw [hb]; exact he.symm)), HC3.out.trans (HC6.out.weak fun i _ hi => hi ▸ hgm)⟩

set_option maxHeartbeats 1000000 in
theorem rfr2 (w : World) (h : RB N gl w g x o.at_ op rd s A c) (hl : Own w Bl 22 (some ⟨gl, 0, none⟩) cl (l.map (Value.int .u32))) (hgl : g ≠ gl) (hN : ∀ i, N i → i < w.heap.size) (hNl : ¬ N gl)
    (n cc : Nat) (hsz : 4 + 4 * o.width ≤ n) (hn : n ≤ 5000) (hcc : n ≤ cc) (hln : o.at_ + n ≤ l.length) (hwl : Op.Wd l) (ok : Op.fourOk o s) (hov : s.over = false) (hop : op = 1) (hwr : o.wr = false) (hrow : s.row = 2) (hx : x.k = 1 ∧ x.wd = o.width) (hW : 0 < o.width ∧ o.width ≤ 8) :
    Calls Try.prog 57 #[.pointer (some ⟨g, 0, none⟩), .slice (some ⟨gl, o.at_, none⟩) n cc] w (Leaves N gl g x o.at_ op rd Bl cl (Op.fourR o s l) w) := by
  obtain ⟨⟨a1, a2⟩, ⟨b1, b2⟩, _, _, ok⟩ := ok
  have c11 := h.mid.2.2.2.1
  rw [hrow] at c11
  have c16 := h.mid.2.2.2.2.2.2.2.2.1
  have c17 := h.mid.2.2.2.2.2.2.2.2.2
  have f16 := h.thaw 16
  have f17 := h.thaw 17
  have hgm := h.mine
  have h01 : s.a = 0 ∨ s.a = 1 := by omega
  rcases h01 with ha | ha
  · rw [ha] at c16
    have hy := hwl.get o 2
    rw [Op.get_gd] at hy
    obtain ⟨y, ey⟩ : ∃ y, y = gd l (o.at_ + 2) := ⟨_, rfl⟩
    have lc := (own_cell hl (o.at_ + 2) (by omega)).1
    rw [← ey] at lc hy
    have hn1 : (2 : Int) < n := by omega
    have hn0 : 2 < n := by omega
    have hq1 : IntKind.u32.wrap 2 = 2 := by decide
    have hq2 : ¬ (n : Int) ≤ 2 := by omega
    have hq3 : ¬ n ≤ 2 := by omega
    have hq4 : decide ((2 : Int) < n) = true := by simpa using hn1
    have hq5 : IntKind.i64.wrap 2 = 2 := by decide
    have e4 : Op.fourR o s l = ({ s.to 3 with b := y % 2 }, l) := by simp [Op.fourR, hrow, ey, Op.get_gd, ha]
    have HA := Lib.hid ha
    clear ey ha
    have E4 := Lib.hid e4
    have HB := Lib.hid h
    have HL := Lib.hid hl
    have HROW := Lib.hid hrow
    clear e4 h hl hN ok hrow
    go_enter Try.func57, Try.ntmps57
    go_wp2_with fail
    have R1 := Lib.hid (HB.out.set_b (y % 2))
    have hc1 := Lib.hid ((Chg.refl (fun i => i = g) w).set (p := ⟨g, 17, none⟩) (.inl rfl) (.int .u32 (y % 2)))
    refine (rto_lit _ R1.out 3 3 rfl).mono ?_
    rintro e w6 ⟨rfl, R6, c6⟩
    have HR6 := Lib.hid R6
    have HC6 := Lib.hid (hc1.out.trans c6)
    clear R6 c6 hc1 R1
    go_wp2
    go_end0
    rw [E4.out]
    exact ⟨rfl, ⟨_, _, HR6.out⟩, HL.out.chg HC6.out (fun b' hb he => hgl (by injection hb with hb; injection hb with hb; rw [hb]; exact he.symm)), HC6.out.weak fun i _ hi => hi ▸ hgm⟩
  · rw [ha] at c16
    have hy := hwl.get o 3
    rw [Op.get_gd] at hy
    obtain ⟨y, ey⟩ : ∃ y, y = gd l (o.at_ + 3) := ⟨_, rfl⟩
    have lc := (own_cell hl (o.at_ + 3) (by omega)).1
    rw [← ey] at lc hy
    have hn1 : (3 : Int) < n := by omega
    have hn0 : 3 < n := by omega
    have hq1 : IntKind.u32.wrap 3 = 3 := by decide
    have hq2 : ¬ (n : Int) ≤ 3 := by omega
    have hq3 : ¬ n ≤ 3 := by omega
    have hq4 : decide ((3 : Int) < n) = true := by simpa using hn1
    have hq5 : IntKind.i64.wrap 3 = 3 := by decide
    have e4 : Op.fourR o s l = ({ s.to 3 with b := y % 2 }, l) := by simp [Op.fourR, hrow, ey, Op.get_gd, ha]
    have HA := Lib.hid ha
    clear ey ha
    have E4 := Lib.hid e4
    have HB := Lib.hid h
    have HL := Lib.hid hl
    have HROW := Lib.hid hrow
    clear e4 h hl hN ok hrow
    go_enter Try.func57, Try.ntmps57
    go_wp2_with fail
    have R1 := Lib.hid (HB.out.set_b (y % 2))
    have hc1 := Lib.hid ((Chg.refl (fun i => i = g) w).set (p := ⟨g, 17, none⟩) (.inl rfl) (.int .u32 (y % 2)))
    refine (rto_lit _ R1.out 3 3 rfl).mono ?_
    rintro e w6 ⟨rfl, R6, c6⟩
    have HR6 := Lib.hid R6
    have HC6 := Lib.hid (hc1.out.trans c6)
    clear R6 c6 hc1 R1
    go_wp2
    go_end0
    rw [E4.out]
    exact ⟨rfl, ⟨_, _, HR6.out⟩, HL.out.chg HC6.out (fun b' hb he => hgl (by injection hb with hb; injection hb with hb; rw [hb]; exact he.symm)), HC6.out.weak fun i _ hi => hi ▸ hgm⟩

set_option maxHeartbeats 1000000 in
theorem rfr3 (w : World) (h : RB N gl w g x o.at_ op rd s A c) (hl : Own w Bl 22 (some ⟨gl, 0, none⟩) cl (l.map (Value.int .u32))) (hgl : g ≠ gl) (hN : ∀ i, N i → i < w.heap.size) (hNl : ¬ N gl)
    (n cc : Nat) (hsz : 4 + 4 * o.width ≤ n) (hn : n ≤ 5000) (hcc : n ≤ cc) (hln : o.at_ + n ≤ l.length) (hwl : Op.Wd l) (ok : Op.fourOk o s) (hov : s.over = false) (hop : op = 1) (hwr : o.wr = false) (hrow : s.row = 3) (hx : x.k = 1 ∧ x.wd = o.width) (hW : 0 < o.width ∧ o.width ≤ 8) :
    Calls Try.prog 57 #[.pointer (some ⟨g, 0, none⟩), .slice (some ⟨gl, o.at_, none⟩) n cc] w (Leaves N gl g x o.at_ op rd Bl cl (Op.fourR o s l) w) := by
  obtain ⟨⟨a1, a2⟩, ⟨b1, b2⟩, _, _, ok⟩ := ok
  have c11 := h.mid.2.2.2.1
  rw [hrow] at c11
  have c16 := h.mid.2.2.2.2.2.2.2.2.1
  have c17 := h.mid.2.2.2.2.2.2.2.2.2
  have f16 := h.thaw 16
  have f17 := h.thaw 17
  have hgm := h.mine
  obtain ⟨_, o2, _, o4⟩ := (ok hov).2.2 hwr
  have hi := o4 hrow
  obtain ⟨q, hq⟩ : ∃ q : Nat, q = (2 * s.a + s.b).toNat := ⟨_, rfl⟩
  have f1 : IntKind.u32.wrap (2 * s.a) = 2 * s.a := by rw [IntKind.wrap_u32']; omega
  have f2 : IntKind.u32.wrap (2 * s.a + s.b) = (q : Int) := by rw [IntKind.wrap_u32']; omega
  have HH : ∀ w', Calls Try.prog 100 #[.agg #[.int .i64 x.k, .int .i64 x.wd, .int .i64 x.sl, .int .i64 x.cp, .int .u32 x.sa, .slice x.ia x.il x.ic, .int .i64 x.ow, .slice x.ra x.rl x.rc]] w' fun e w'' => e = .returned (.int .i64 ((4 : Nat) : Int)) ∧ Same w' w'' := by
    intro w'
    rw [hx.1]
    exact Fo.rhead_any x.wd x.sl x.cp x.sa x.ow x.ia x.ra x.il x.ic x.rl x.rc w'
  have HW := fun w' => Ob.rwrites_reg x.k (by rw [hx.1]; decide) w'
  have hq3 : q ≤ 3 := by omega
  have hqm : q * o.width ≤ 3 * o.width := Nat.mul_le_mul_right _ hq3
  have e4 : Op.fourR o s l = Op.word o s l (4 + q * o.width) none := by simp [Op.fourR, hrow, Op.fourK, hq]
  have hidx : 4 + q * o.width + s.i < n := by omega
  by_cases hlt : s.i + 1 < o.width
  · have HB := Lib.hid h
    have HL := Lib.hid hl
    clear h hl
    have HNN : Hid (∀ i, N i → i < w.drew.heap.size) := Lib.hid hN
    have PR := rword_rd_on _ HB.out.drew (HL.out.same (Same.refl w).drew) hgl HNN.out hNl o.width 4 q n cc (4 + q * o.width + s.i) (-1) none 2 HH HW (by rw [hop]; rfl) hwr hx.2 rfl hW.2 (by omega) (by omega) rfl hidx hn hcc hln hi o2 hlt
    have HP := Lib.hid PR
    have E4 := Lib.hid e4
    have HQ := Lib.hid hq
    have HROW := Lib.hid hrow
    have HBB := HB
    clear PR e4 hq hrow hN ok hidx hqm o2 o4
    go_enter Try.func57, Try.ntmps57
    go_wp2_with fail
    go_region_held3 (fun w' => w'.cell? ⟨g, 16, none⟩ = some (.int .u32 s.a) ∧ w'.cell? ⟨g, 17, none⟩ = some (.int .u32 s.b))
      (first | assumption | exact ⟨c16, c17⟩ | exact ab_of HR6.out)
      (first | (go_at_call 103; ((with_reducible refine HP.out.mono ?_); rintro e w6 ⟨rfl, ⟨A6, c6, R6⟩, L6, C6⟩; have HR6 := Lib.hid R6; have HL6 := Lib.hid L6; have HC6 := Lib.hid C6; clear R6 L6 C6)))
    go_wp2
    go_end0
    rw [E4.out]
    exact ⟨rfl, ⟨_, _, HR6.out⟩, HL6.out, ((Chg.refl _ w).drew).trans HC6.out⟩
  · have HB := Lib.hid h
    have HL := Lib.hid hl
    clear h hl
    have HNN : Hid (∀ i, N i → i < w.drew.heap.size) := Lib.hid hN
    have PR := rword_rd_end _ HB.out.drew (HL.out.same (Same.refl w).drew) hgl HNN.out hNl o.width 4 q n cc (4 + q * o.width + s.i) (-1) 2 HH HW (by rw [hop]; rfl) hwr hx.2 rfl hW.2 (by omega) (by omega) rfl hidx hn hcc hln hi o2 hlt (by decide) (by rw [hx.1]; decide) (by rw [hwr, hop]; rfl)
    have HP := Lib.hid PR
    have E4 := Lib.hid e4
    have HQ := Lib.hid hq
    have HROW := Lib.hid hrow
    have HBB := HB
    clear PR e4 hq hrow hN ok hidx hqm o2 o4
    go_enter Try.func57, Try.ntmps57
    go_wp2_with fail
    go_region_held3 (fun w' => w'.cell? ⟨g, 16, none⟩ = some (.int .u32 s.a) ∧ w'.cell? ⟨g, 17, none⟩ = some (.int .u32 s.b))
      (first | assumption | exact ⟨c16, c17⟩ | exact ab_of HR6.out)
      (first | (go_at_call 103; ((with_reducible refine HP.out.mono ?_); rintro e w6 ⟨rfl, ⟨A6, c6, R6⟩, L6, C6⟩; have HR6 := Lib.hid R6; have HL6 := Lib.hid L6; have HC6 := Lib.hid C6; clear R6 L6 C6)))
    go_wp2
    go_end0
    rw [E4.out]
    exact ⟨rfl, ⟨_, _, HR6.out⟩, HL6.out, ((Chg.refl _ w).drew).trans HC6.out⟩

end

end Go.Proofs.Ytniglkbfkehfmaa.Rf
