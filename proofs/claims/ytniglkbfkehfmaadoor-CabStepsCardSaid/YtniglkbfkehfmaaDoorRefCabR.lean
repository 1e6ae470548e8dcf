/-
  The document's own operation on a marked buffer: the rows that are left.
-/
import Derived.Test.YtniglkbfkehfmaaDoorRefCab
set_option linter.unusedVariables false
namespace Go.Proofs.YtniglkbfkehfmaaDoor.Rf
open Go.ChangeShapes Go.WideShapes Go.ChangeAt Go.RowKit Ws Mm Pa
open Go.Proofs.YtniglkbfkehfmaaDoor.Op (St Im gd get put more)

section
variable {N : Nat → Prop} {gl : Nat} {g : Nat} {x : Ox} {op rd : Int} {s : St} {A : Option Addr} {c : Nat} {l : List Int} {Bl cl : Nat} {o : Im}

set_option maxHeartbeats 1000000 in
theorem rcw2 (w : World) (h : RB N gl w g x o.at_ op rd (dc o s) A c) (hl : Own w Bl 22 (some ⟨gl, 0, none⟩) cl (l.map (Value.int .u32))) (hgl : g ≠ gl) (hN : ∀ i, N i → i < w.heap.size) (hNl : ¬ N gl)
    (n cc : Nat) (hsz : 1 + o.n + o.slots * o.width ≤ n) (hn : n ≤ 5000) (hcc : n ≤ cc) (hln : o.at_ + n ≤ l.length) (hwl : Op.Wd l) (ok : Op.cabOk o s) (hov : s.over = false) (hop : op = 2) (hrdr : rd = o.reader) (hwr : o.wr = true) (hrow : s.row = 2) (hx : x.k = 5 ∧ x.wd = o.width ∧ x.cp = o.cap ∧ x.sl = o.slots ∧ x.rl = o.n) (hW : Op.cabAl o) :
    Calls Tryd.prog 70 #[.pointer (some ⟨g, 0, none⟩), .slice (some ⟨gl, o.at_, none⟩) n cc] w (Leaves N gl g x o.at_ op rd Bl cl (dc o (Op.cabW o s l).1, (Op.cabW o s l).2) w) := by
  subst hrdr
  subst hop
  obtain ⟨hu20, hab, hbb, hrd, ok⟩ := ok
  obtain ⟨⟨w1, w8⟩, ⟨cap1, cap16⟩, ⟨n1, n4, ns, sl16⟩, rdn⟩ := hW
  have hpos : 0 < o.slots * o.width := Nat.mul_pos (by omega) w1
  have dr : dc o s = { s with a := 0 } := dc_wr hwr s
  rw [dr] at h
  have c11 : w.cell? ⟨g, 11, none⟩ = some (.int .i64 s.row) := h.mid.2.2.2.1
  rw [hrow] at c11
  have c12 : w.cell? ⟨g, 12, none⟩ = some (.int .i64 s.i) := h.mid.2.2.2.2.1
  have c10 : w.cell? ⟨g, 10, none⟩ = some (.int .i64 o.reader) := h.mid.2.2.1
  have c2 := h.obj.2.2.1
  rw [hx.2.2.2.1] at c2
  have f16 := h.thaw 16
  have f17 := h.thaw 17
  have f12 := h.thaw 12
  have hgm := h.mine
  have u1 := Cb.u32_in (o.slots : Int) (by omega)
  have s0 : ¬ (o.slots : Int) = 0 := by omega
  have s1 : (0 : Int) < (o.slots : Int) := by omega
  have s2 : ((o.slots : Int) == 0) = false := by simp; omega
  obtain ⟨_, _, o2, _, _, q2, _, _⟩ := (ok hov).2.1 hwr
  have hi := q2 hrow
  obtain ⟨q, hq⟩ : ∃ q : Nat, s.b = (q : Int) := Int.eq_ofNat_of_zero_le (by omega)
  have cq : w.cell? ⟨g, 17, none⟩ = some (.int .u32 s.b) := h.mid.2.2.2.2.2.2.2.2.2
  rw [hq] at cq
  have hqm := Nat.mul_le_mul_right o.width (show q + 1 ≤ o.slots by omega)
  rw [Nat.add_mul] at hqm
  have HH : ∀ w', Calls Tryd.prog 47 #[.agg #[.int .i64 x.k, .int .i64 x.wd, .int .i64 x.sl, .int .i64 x.cp, .int .u32 x.sa, .slice x.ia x.il x.ic, .int .i64 x.ow, .slice x.ra x.rl x.rc]] w' fun e w'' => e = .returned (.int .i64 ((1 + o.n : Nat) : Int)) ∧ Same w' w'' := by
    intro w'
    have := Cb.rhead_any x.wd x.sl x.cp x.sa x.ow x.ia x.ra x.il x.ic x.rl x.rc w' (by have := hx.2.2.2.2; omega)
    rw [show (1 : Int) + (x.rl : Int) = ((1 + o.n : Nat) : Int) by have := hx.2.2.2.2; omega] at this
    rw [hx.1]
    exact this
  have HW := fun w' => Ob.rwrites_reg x.k (by rw [hx.1]; decide) w'
  have e4 : Op.cabW o s l = Op.word o s l (1 + o.n + q * o.width) (some 3) := by simp [Op.cabW, hrow, Op.cabK, hq]
  have hidx : 1 + o.n + q * o.width + s.i < n := by omega
  by_cases hlt : s.i + 1 < o.width
  · have PR := rword_wr_on w h hl hgl hN hNl o.width (1 + o.n) q n cc (1 + o.n + q * o.width + s.i) (3) (some 3) 2 HH HW rfl hwr hx.2.1 rfl w8 (by omega) (by omega) rfl hidx hn hcc hln hi o2 hlt
    rw [← dr, word_dc o hwr] at PR
    have HP := Lib.hid PR
    have E4 := Lib.hid e4
    have HROW := Lib.hid hrow
    have HB := Lib.hid h
    have HL := Lib.hid hl
    clear PR e4 hrow hN ok hidx o2 h hl hqm hq q2
    go_enter Tryd.func70, Tryd.ntmps70
    go_wp2_with fail
    refine HP.out.mono ?_
    rintro e w6 ⟨rfl, ⟨A6, c6, R6⟩, L6, C6⟩
    have HR6 := Lib.hid R6
    have HL6 := Lib.hid L6
    have HC6 := Lib.hid C6
    clear R6 L6 C6
    go_wp2
    go_end0
    rw [E4.out]
    exact ⟨rfl, ⟨_, _, HR6.out⟩, HL6.out, HC6.out⟩
  · have PR := rword_wr_to w h hl hgl hN hNl o.width (1 + o.n) q n cc (1 + o.n + q * o.width + s.i) (3) 3 2 HH HW rfl hwr hx.2.1 rfl w8 (by omega) (by omega) rfl hidx hn hcc hln hi o2 hlt rfl
    rw [← dr, word_dc o hwr] at PR
    have HP := Lib.hid PR
    have E4 := Lib.hid e4
    have HROW := Lib.hid hrow
    have HB := Lib.hid h
    have HL := Lib.hid hl
    clear PR e4 hrow hN ok hidx o2 h hl hqm hq q2
    go_enter Tryd.func70, Tryd.ntmps70
    go_wp2_with fail
    refine HP.out.mono ?_
    rintro e w6 ⟨rfl, ⟨A6, c6, R6⟩, L6, C6⟩
    have HR6 := Lib.hid R6
    have HL6 := Lib.hid L6
    have HC6 := Lib.hid C6
    clear R6 L6 C6
    go_wp2
    go_end0
    rw [E4.out]
    exact ⟨rfl, ⟨_, _, HR6.out⟩, HL6.out, HC6.out⟩

set_option maxHeartbeats 1000000 in
theorem rcw3 (w : World) (h : RB N gl w g x o.at_ op rd (dc o s) A c) (hl : Own w Bl 22 (some ⟨gl, 0, none⟩) cl (l.map (Value.int .u32))) (hgl : g ≠ gl) (hN : ∀ i, N i → i < w.heap.size) (hNl : ¬ N gl)
    (n cc : Nat) (hsz : 1 + o.n + o.slots * o.width ≤ n) (hn : n ≤ 5000) (hcc : n ≤ cc) (hln : o.at_ + n ≤ l.length) (hwl : Op.Wd l) (ok : Op.cabOk o s) (hov : s.over = false) (hop : op = 2) (hrdr : rd = o.reader) (hwr : o.wr = true) (hrow : s.row = 3) (hx : x.k = 5 ∧ x.wd = o.width ∧ x.cp = o.cap ∧ x.sl = o.slots ∧ x.rl = o.n) (hW : Op.cabAl o) :
    Calls Tryd.prog 70 #[.pointer (some ⟨g, 0, none⟩), .slice (some ⟨gl, o.at_, none⟩) n cc] w (Leaves N gl g x o.at_ op rd Bl cl (dc o (Op.cabW o s l).1, (Op.cabW o s l).2) w) := by
  subst hrdr
  subst hop
  obtain ⟨hu20, hab, hbb, hrd, ok⟩ := ok
  obtain ⟨⟨w1, w8⟩, ⟨cap1, cap16⟩, ⟨n1, n4, ns, sl16⟩, rdn⟩ := hW
  have hpos : 0 < o.slots * o.width := Nat.mul_pos (by omega) w1
  have dr : dc o s = { s with a := 0 } := dc_wr hwr s
  rw [dr] at h
  have c11 : w.cell? ⟨g, 11, none⟩ = some (.int .i64 s.row) := h.mid.2.2.2.1
  rw [hrow] at c11
  have c12 : w.cell? ⟨g, 12, none⟩ = some (.int .i64 s.i) := h.mid.2.2.2.2.1
  have c10 : w.cell? ⟨g, 10, none⟩ = some (.int .i64 o.reader) := h.mid.2.2.1
  have c2 := h.obj.2.2.1
  rw [hx.2.2.2.1] at c2
  have f16 := h.thaw 16
  have f17 := h.thaw 17
  have f12 := h.thaw 12
  have hgm := h.mine
  have u1 := Cb.u32_in (o.slots : Int) (by omega)
  have s0 : ¬ (o.slots : Int) = 0 := by omega
  have s1 : (0 : Int) < (o.slots : Int) := by omega
  have s2 : ((o.slots : Int) == 0) = false := by simp; omega
  have lc := own_cell hl (o.at_) (by omega)
  obtain ⟨lc, lf⟩ := lc
  have hn1 : (0 : Int) < n := by omega
  have c17 : w.cell? ⟨g, 17, none⟩ = some (.int .u32 s.b) := h.mid.2.2.2.2.2.2.2.2.2
  have e4 : Op.cabW o s l = (s.fin true 0, put o l 0 s.b) := by simp [Op.cabW, hrow]
  have E4 := Lib.hid e4
  have HB := Lib.hid h
  have HL := Lib.hid hl
  have HROW := Lib.hid hrow
  clear e4 h hl hN ok hrow
  generalize (o.slots : Int) = sln at *
  go_enter Tryd.func70, Tryd.ntmps70
  go_wp2_with fail
  have C3 : Chg (fun i => i = gl) w (w.setCell ⟨gl, o.at_, none⟩ (.int .u32 s.b)) := ((Chg.refl (fun i => i = gl) w).set (p := ⟨gl, o.at_, none⟩) (.inl rfl) _)
  have HB3 := Lib.hid (HB.out.chg C3 (fun i hi => .inr hi) hgl)
  have L3 : Own (w.setCell ⟨gl, o.at_, none⟩ (.int .u32 s.b)) Bl 22 (some ⟨gl, 0, none⟩) cl ((put o l 0 s.b).map (Value.int .u32)) := by
    have := HL.out.put (o.at_) (.int .u32 s.b)
    rw [← List.map_set] at this
    exact this
  have HL3 := Lib.hid L3
  have HC3 : Hid (Chg (fun i => ¬ N i) w (w.setCell ⟨gl, o.at_, none⟩ (.int .u32 s.b))) := Lib.hid (C3.weak fun i _ hi => hi ▸ hNl)
  clear C3 L3 lc lf
  generalize w.setCell ⟨gl, o.at_, none⟩ (.int .u32 s.b) = w3 at *
  refine (rend_any _ HB3.out (by rw [hx.1]; decide) o.wr (by rw [hwr]; rfl) 0).mono ?_
  rintro e w6 ⟨rfl, R6, c6⟩
  have HR6 := Lib.hid R6
  have HC6 := Lib.hid c6
  clear R6 c6
  go_wp2
  go_end0
  rw [E4.out, ← hwr, dc_wr hwr]
  exact ⟨rfl, HR6.out, HL3.out.chg HC6.out (fun b' hb he => hgl (by injection hb with hb; injection hb with hb; rw [hb]; exact he.symm)), HC3.out.trans (HC6.out.weak fun i _ hi => hi ▸ hgm)⟩

set_option maxHeartbeats 1000000 in
theorem rcr0 (w : World) (h : RB N gl w g x o.at_ op rd (dc o s) A c) (hl : Own w Bl 22 (some ⟨gl, 0, none⟩) cl (l.map (Value.int .u32))) (hgl : g ≠ gl) (hN : ∀ i, N i → i < w.heap.size) (hNl : ¬ N gl)
    (n cc : Nat) (hsz : 1 + o.n + o.slots * o.width ≤ n) (hn : n ≤ 5000) (hcc : n ≤ cc) (hln : o.at_ + n ≤ l.length) (hwl : Op.Wd l) (ok : Op.cabOk o s) (hov : s.over = false) (hop : op = 1) (hrdr : rd = o.reader) (hwr : o.wr = false) (hrow : s.row = 0) (hx : x.k = 5 ∧ x.wd = o.width ∧ x.cp = o.cap ∧ x.sl = o.slots ∧ x.rl = o.n) (hW : Op.cabAl o) :
    Calls Tryd.prog 71 #[.pointer (some ⟨g, 0, none⟩), .slice (some ⟨gl, o.at_, none⟩) n cc] w (Leaves N gl g x o.at_ op rd Bl cl (dc o (Op.cabR o s l).1, (Op.cabR o s l).2) w) := by
  subst hrdr
  subst hop
  obtain ⟨hu20, hab, hbb, hrd, ok⟩ := ok
  obtain ⟨⟨w1, w8⟩, ⟨cap1, cap16⟩, ⟨n1, n4, ns, sl16⟩, rdn⟩ := hW
  have hpos : 0 < o.slots * o.width := Nat.mul_pos (by omega) w1
  have dr : dc o s = s := dc_rd hwr s
  rw [dr] at h
  have c11 : w.cell? ⟨g, 11, none⟩ = some (.int .i64 s.row) := h.mid.2.2.2.1
  rw [hrow] at c11
  have c12 : w.cell? ⟨g, 12, none⟩ = some (.int .i64 s.i) := h.mid.2.2.2.2.1
  have c10 : w.cell? ⟨g, 10, none⟩ = some (.int .i64 o.reader) := h.mid.2.2.1
  have c2 := h.obj.2.2.1
  rw [hx.2.2.2.1] at c2
  have f16 := h.thaw 16
  have f17 := h.thaw 17
  have f12 := h.thaw 12
  have hgm := h.mine
  have u1 := Cb.u32_in (o.slots : Int) (by omega)
  have s0 : ¬ (o.slots : Int) = 0 := by omega
  have s1 : (0 : Int) < (o.slots : Int) := by omega
  have s2 : ((o.slots : Int) == 0) = false := by simp; omega
  have hy := hwl.get o 0
  rw [Op.get_gd] at hy
  obtain ⟨y, ey⟩ : ∃ y, y = gd l (o.at_) := ⟨_, rfl⟩
  have lc := (own_cell hl (o.at_) (by omega)).1
  have e0 : o.at_ + 0 = o.at_ := rfl
  rw [e0] at hy
  rw [← ey] at lc hy
  have hn1 : (0 : Int) < n := by omega
  have hn0 : 0 < n := by omega
  have f7 : y.tmod (o.slots : Int) = y % (o.slots : Int) := Int.tmod_eq_emod_of_nonneg (by omega)
  have r0 := Int.emod_nonneg y s0
  have r1 := Int.emod_lt_of_pos y s1
  have f9 := Cb.u32_in (y % (o.slots : Int)) (by omega)
  have c16 : w.cell? ⟨g, 16, none⟩ = some (.int .u32 s.a) := h.mid.2.2.2.2.2.2.2.2.1
  have fm : IntKind.i64.wrap (1 + (o.reader : Int)) = 1 + o.reader := Go.IntWalk.i64_in _ (by omega)
  have fm2 : (1 + (o.reader : Int)).toNat = 1 + o.reader := by omega
  have fm3 : (0 : Int) ≤ 1 + o.reader := by omega
  have fm4 : 1 + (o.reader : Int) < n := by omega
  have lm := own_cell hl (o.at_ + (1 + o.reader)) (by omega)
  obtain ⟨lm, lmf⟩ := lm
  have e4 : Op.cabR o s l = ({ s.to 1 with a := y % (o.slots : Int) }, l) := by simp [Op.cabR, hrow, Op.get_gd, ← ey]
  clear ey
  have E4 := Lib.hid e4
  have HL0 := Lib.hid hl
  have HB := Lib.hid h
  have HL := Lib.hid hl
  have HROW := Lib.hid hrow
  clear e4 h hl hN ok hrow
  generalize (o.slots : Int) = sln at *
  go_enter Tryd.func71, Tryd.ntmps71
  go_wp2_with fail
  go_quiet (fail)
  have HBQ := Lib.hid (HB.out.same ((Same.refl w).drewN nq))
  have HLQ := Lib.hid (HL.out.same ((Same.refl w).drewN nq))
  have HCQ := Lib.hid ((Chg.refl (fun i => i = g) w).drewN nq)
  have q10 := HBQ.out.mid.2.2.1
  have q11 := HBQ.out.mid.2.2.2.1
  have q16 := HBQ.out.mid.2.2.2.2.2.2.2.2.1
  have t16 := HBQ.out.thaw 16
  rw [HROW.out] at q11
  obtain ⟨lq, lqf⟩ := own_cell HLQ.out (o.at_ + (1 + o.reader)) (by omega)
  clear c2 c10 c11 c12 c16 lm lmf lc f16 f17 f12 HB HL
  generalize w.drewN nq = wq at *
  go_wp2_with fail
  have HR5 := Lib.hid (HBQ.out.set_a (y % sln))
  have HCC := Lib.hid (HCQ.out.set (p := ⟨g, 16, none⟩) (.inl rfl) (.int .u32 (y % sln)))
  refine (rto_lit _ HR5.out 1 1 rfl).mono ?_
  have HLQ0 := HL0
  rintro e w9 ⟨rfl, R9, c9⟩
  have HR9 := Lib.hid R9
  have HC9 := Lib.hid (HCC.out.trans c9)
  clear R9 c9
  go_wp2
  go_end0
  rw [E4.out, dc_rd hwr]
  exact ⟨rfl, ⟨_, _, HR9.out⟩, HLQ0.out.chg HC9.out (fun b' hb he => hgl (by injection hb with hb; injection hb with hb; rw [hb]; exact he.symm)), HC9.out.weak fun i _ hi => hi ▸ hgm⟩

set_option maxHeartbeats 1000000 in
theorem rcr1 (w : World) (h : RB N gl w g x o.at_ op rd (dc o s) A c) (hl : Own w Bl 22 (some ⟨gl, 0, none⟩) cl (l.map (Value.int .u32))) (hgl : g ≠ gl) (hN : ∀ i, N i → i < w.heap.size) (hNl : ¬ N gl)
    (n cc : Nat) (hsz : 1 + o.n + o.slots * o.width ≤ n) (hn : n ≤ 5000) (hcc : n ≤ cc) (hln : o.at_ + n ≤ l.length) (hwl : Op.Wd l) (ok : Op.cabOk o s) (hov : s.over = false) (hop : op = 1) (hrdr : rd = o.reader) (hwr : o.wr = false) (hrow : s.row = 1) (hx : x.k = 5 ∧ x.wd = o.width ∧ x.cp = o.cap ∧ x.sl = o.slots ∧ x.rl = o.n) (hW : Op.cabAl o) :
    Calls Tryd.prog 71 #[.pointer (some ⟨g, 0, none⟩), .slice (some ⟨gl, o.at_, none⟩) n cc] w (Leaves N gl g x o.at_ op rd Bl cl (dc o (Op.cabR o s l).1, (Op.cabR o s l).2) w) := by
  subst hrdr
  subst hop
  obtain ⟨hu20, hab, hbb, hrd, ok⟩ := ok
  obtain ⟨⟨w1, w8⟩, ⟨cap1, cap16⟩, ⟨n1, n4, ns, sl16⟩, rdn⟩ := hW
  have hpos : 0 < o.slots * o.width := Nat.mul_pos (by omega) w1
  have dr : dc o s = s := dc_rd hwr s
  rw [dr] at h
  have c11 : w.cell? ⟨g, 11, none⟩ = some (.int .i64 s.row) := h.mid.2.2.2.1
  rw [hrow] at c11
  have c12 : w.cell? ⟨g, 12, none⟩ = some (.int .i64 s.i) := h.mid.2.2.2.2.1
  have c10 : w.cell? ⟨g, 10, none⟩ = some (.int .i64 o.reader) := h.mid.2.2.1
  have c2 := h.obj.2.2.1
  rw [hx.2.2.2.1] at c2
  have f16 := h.thaw 16
  have f17 := h.thaw 17
  have f12 := h.thaw 12
  have hgm := h.mine
  have u1 := Cb.u32_in (o.slots : Int) (by omega)
  have s0 : ¬ (o.slots : Int) = 0 := by omega
  have s1 : (0 : Int) < (o.slots : Int) := by omega
  have s2 : ((o.slots : Int) == 0) = false := by simp; omega
  have hy := hwl.get o 0
  rw [Op.get_gd] at hy
  obtain ⟨y, ey⟩ : ∃ y, y = gd l (o.at_) := ⟨_, rfl⟩
  have lc := (own_cell hl (o.at_) (by omega)).1
  have e0 : o.at_ + 0 = o.at_ := rfl
  rw [e0] at hy
  rw [← ey] at lc hy
  have hn1 : (0 : Int) < n := by omega
  have hn0 : 0 < n := by omega
  have f7 : y.tmod (o.slots : Int) = y % (o.slots : Int) := Int.tmod_eq_emod_of_nonneg (by omega)
  have r0 := Int.emod_nonneg y s0
  have r1 := Int.emod_lt_of_pos y s1
  have f9 := Cb.u32_in (y % (o.slots : Int)) (by omega)
  have c16 : w.cell? ⟨g, 16, none⟩ = some (.int .u32 s.a) := h.mid.2.2.2.2.2.2.2.2.1
  have fm : IntKind.i64.wrap (1 + (o.reader : Int)) = 1 + o.reader := Go.IntWalk.i64_in _ (by omega)
  have fm2 : (1 + (o.reader : Int)).toNat = 1 + o.reader := by omega
  have fm3 : (0 : Int) ≤ 1 + o.reader := by omega
  have fm4 : 1 + (o.reader : Int) < n := by omega
  have lm := own_cell hl (o.at_ + (1 + o.reader)) (by omega)
  obtain ⟨lm, lmf⟩ := lm
  have hra := (hrd hwr).1
  have fa : IntKind.u32.wrap (s.a + 1) = s.a + 1 := Cb.u32_in _ (by omega)
  have e4 : Op.cabR o s l = (s.to 2, put o l (1 + o.reader) (s.a + 1)) := by simp [Op.cabR, hrow]
  clear ey
  have E4 := Lib.hid e4
  have HL0 := Lib.hid hl
  have HB := Lib.hid h
  have HL := Lib.hid hl
  have HROW := Lib.hid hrow
  clear e4 h hl hN ok hrow
  generalize (o.slots : Int) = sln at *
  go_enter Tryd.func71, Tryd.ntmps71
  go_wp2_with fail
  go_quiet (fail)
  have HBQ := Lib.hid (HB.out.same ((Same.refl w).drewN nq))
  have HLQ := Lib.hid (HL.out.same ((Same.refl w).drewN nq))
  have HCQ := Lib.hid ((Chg.refl (fun i => i = g) w).drewN nq)
  have q10 := HBQ.out.mid.2.2.1
  have q11 := HBQ.out.mid.2.2.2.1
  have q16 := HBQ.out.mid.2.2.2.2.2.2.2.2.1
  have t16 := HBQ.out.thaw 16
  rw [HROW.out] at q11
  obtain ⟨lq, lqf⟩ := own_cell HLQ.out (o.at_ + (1 + o.reader)) (by omega)
  clear c2 c10 c11 c12 c16 lm lmf lc f16 f17 f12 HB HL
  generalize w.drewN nq = wq at *
  go_wp2_with fail
  have C3 : Chg (fun i => i = gl) wq (wq.setCell ⟨gl, o.at_ + (1 + o.reader), none⟩ (.int .u32 (s.a + 1))) := ((Chg.refl (fun i => i = gl) wq).set (p := ⟨gl, o.at_ + (1 + o.reader), none⟩) (.inl rfl) _)
  have HB3 := Lib.hid (HBQ.out.chg C3 (fun i hi => .inr hi) hgl)
  have L3 : Own (wq.setCell ⟨gl, o.at_ + (1 + o.reader), none⟩ (.int .u32 (s.a + 1))) Bl 22 (some ⟨gl, 0, none⟩) cl ((put o l (1 + o.reader) (s.a + 1)).map (Value.int .u32)) := by
    have := HLQ.out.put (o.at_ + (1 + o.reader)) (.int .u32 (s.a + 1))
    rw [← List.map_set] at this
    exact this
  have HL3 := Lib.hid L3
  have HC3 : Hid (Chg (fun i => ¬ N i) w (wq.setCell ⟨gl, o.at_ + (1 + o.reader), none⟩ (.int .u32 (s.a + 1)))) := Lib.hid ((HCQ.out.weak fun i _ hi => hi ▸ hgm).trans (C3.weak fun i _ hi => hi ▸ hNl))
  clear C3 L3 lq lqf
  generalize wq.setCell ⟨gl, o.at_ + (1 + o.reader), none⟩ (.int .u32 (s.a + 1)) = w3 at *
  refine (rto_lit _ HB3.out 2 2 rfl).mono ?_
  rintro e w6 ⟨rfl, R6, c6⟩
  have HR6 := Lib.hid R6
  have HC6 := Lib.hid c6
  clear R6 c6
  go_wp2
  go_end0
  rw [E4.out, dc_rd hwr]
  exact ⟨rfl, ⟨_, _, HR6.out⟩, HL3.out.chg HC6.out (fun b' hb he => hgl (by injection hb with hb; injection hb with hb; rw [hb]; exact he.symm)), HC3.out.trans (HC6.out.weak fun i _ hi => hi ▸ hgm)⟩

set_option maxHeartbeats 1000000 in
theorem rcr2 (w : World) (h : RB N gl w g x o.at_ op rd (dc o s) A c) (hl : Own w Bl 22 (some ⟨gl, 0, none⟩) cl (l.map (Value.int .u32))) (hgl : g ≠ gl) (hN : ∀ i, N i → i < w.heap.size) (hNl : ¬ N gl)
    (n cc : Nat) (hsz : 1 + o.n + o.slots * o.width ≤ n) (hn : n ≤ 5000) (hcc : n ≤ cc) (hln : o.at_ + n ≤ l.length) (hwl : Op.Wd l) (ok : Op.cabOk o s) (hov : s.over = false) (hop : op = 1) (hrdr : rd = o.reader) (hwr : o.wr = false) (hrow : s.row = 2) (hx : x.k = 5 ∧ x.wd = o.width ∧ x.cp = o.cap ∧ x.sl = o.slots ∧ x.rl = o.n) (hW : Op.cabAl o)  (hsame : gd l o.at_ % (o.slots : Int) = s.a):
    Calls Tryd.prog 71 #[.pointer (some ⟨g, 0, none⟩), .slice (some ⟨gl, o.at_, none⟩) n cc] w (Leaves N gl g x o.at_ op rd Bl cl (dc o (Op.cabR o s l).1, (Op.cabR o s l).2) w) := by
  subst hrdr
  subst hop
  obtain ⟨hu20, hab, hbb, hrd, ok⟩ := ok
  obtain ⟨⟨w1, w8⟩, ⟨cap1, cap16⟩, ⟨n1, n4, ns, sl16⟩, rdn⟩ := hW
  have hpos : 0 < o.slots * o.width := Nat.mul_pos (by omega) w1
  have dr : dc o s = s := dc_rd hwr s
  rw [dr] at h
  have c11 : w.cell? ⟨g, 11, none⟩ = some (.int .i64 s.row) := h.mid.2.2.2.1
  rw [hrow] at c11
  have c12 : w.cell? ⟨g, 12, none⟩ = some (.int .i64 s.i) := h.mid.2.2.2.2.1
  have c10 : w.cell? ⟨g, 10, none⟩ = some (.int .i64 o.reader) := h.mid.2.2.1
  have c2 := h.obj.2.2.1
  rw [hx.2.2.2.1] at c2
  have f16 := h.thaw 16
  have f17 := h.thaw 17
  have f12 := h.thaw 12
  have hgm := h.mine
  have u1 := Cb.u32_in (o.slots : Int) (by omega)
  have s0 : ¬ (o.slots : Int) = 0 := by omega
  have s1 : (0 : Int) < (o.slots : Int) := by omega
  have s2 : ((o.slots : Int) == 0) = false := by simp; omega
  have hy := hwl.get o 0
  rw [Op.get_gd] at hy
  obtain ⟨y, ey⟩ : ∃ y, y = gd l (o.at_) := ⟨_, rfl⟩
  have lc := (own_cell hl (o.at_) (by omega)).1
  have e0 : o.at_ + 0 = o.at_ := rfl
  rw [e0] at hy
  rw [← ey] at lc hy
  have hn1 : (0 : Int) < n := by omega
  have hn0 : 0 < n := by omega
  have f7 : y.tmod (o.slots : Int) = y % (o.slots : Int) := Int.tmod_eq_emod_of_nonneg (by omega)
  have r0 := Int.emod_nonneg y s0
  have r1 := Int.emod_lt_of_pos y s1
  have f9 := Cb.u32_in (y % (o.slots : Int)) (by omega)
  have c16 : w.cell? ⟨g, 16, none⟩ = some (.int .u32 s.a) := h.mid.2.2.2.2.2.2.2.2.1
  have fm : IntKind.i64.wrap (1 + (o.reader : Int)) = 1 + o.reader := Go.IntWalk.i64_in _ (by omega)
  have fm2 : (1 + (o.reader : Int)).toNat = 1 + o.reader := by omega
  have fm3 : (0 : Int) ≤ 1 + o.reader := by omega
  have fm4 : 1 + (o.reader : Int) < n := by omega
  have lm := own_cell hl (o.at_ + (1 + o.reader)) (by omega)
  obtain ⟨lm, lmf⟩ := lm
  rw [← ey] at hsame
  obtain ⟨_, _, q6, _, _, _, _, _⟩ := (ok hov).2.2 hwr
  have htr := q6 (by omega)
  have b1 : (y % (o.slots : Int) == s.a) = true := by simpa using hsame
  have hgy : Op.get o l 0 % (o.slots : Int) = s.a := by rw [Op.get_gd]; show gd l o.at_ % _ = _; rw [← ey]; exact hsame
  have e4 : Op.cabR o s l = (s.to 3, l) := by simp [Op.cabR, hrow, hgy]
  clear ey hgy hsame q6
  have E4 := Lib.hid e4
  have HL0 := Lib.hid hl
  have HB := Lib.hid h
  have HL := Lib.hid hl
  have HROW := Lib.hid hrow
  clear e4 h hl hN ok hrow
  generalize (o.slots : Int) = sln at *
  go_enter Tryd.func71, Tryd.ntmps71
  go_wp2_with fail
  go_quiet (fail)
  have HBQ := Lib.hid (HB.out.same ((Same.refl w).drewN nq))
  have HLQ := Lib.hid (HL.out.same ((Same.refl w).drewN nq))
  have HCQ := Lib.hid ((Chg.refl (fun i => i = g) w).drewN nq)
  have q10 := HBQ.out.mid.2.2.1
  have q11 := HBQ.out.mid.2.2.2.1
  have q16 := HBQ.out.mid.2.2.2.2.2.2.2.2.1
  have t16 := HBQ.out.thaw 16
  rw [HROW.out] at q11
  obtain ⟨lq, lqf⟩ := own_cell HLQ.out (o.at_ + (1 + o.reader)) (by omega)
  clear c2 c10 c11 c12 c16 lm lmf lc f16 f17 f12 HB HL
  generalize w.drewN nq = wq at *
  go_wp2_with fail
  have HCC := HCQ
  refine (rto_lit _ HBQ.out 3 3 rfl).mono ?_
  have HLW := HL0
  rintro e w9 ⟨rfl, R9, c9⟩
  have HR9 := Lib.hid R9
  have HC9 := Lib.hid (HCC.out.trans c9)
  clear R9 c9
  go_wp2
  go_end0
  rw [E4.out, dc_rd hwr]
  exact ⟨rfl, ⟨_, _, HR9.out⟩, HLW.out.chg HC9.out (fun b' hb he => hgl (by injection hb with hb; injection hb with hb; rw [hb]; exact he.symm)), HC9.out.weak fun i _ hi => hi ▸ hgm⟩

set_option maxHeartbeats 1000000 in
theorem rcr2f (w : World) (h : RB N gl w g x o.at_ op rd (dc o s) A c) (hl : Own w Bl 22 (some ⟨gl, 0, none⟩) cl (l.map (Value.int .u32))) (hgl : g ≠ gl) (hN : ∀ i, N i → i < w.heap.size) (hNl : ¬ N gl)
    (n cc : Nat) (hsz : 1 + o.n + o.slots * o.width ≤ n) (hn : n ≤ 5000) (hcc : n ≤ cc) (hln : o.at_ + n ≤ l.length) (hwl : Op.Wd l) (ok : Op.cabOk o s) (hov : s.over = false) (hop : op = 1) (hrdr : rd = o.reader) (hwr : o.wr = false) (hrow : s.row = 2) (hx : x.k = 5 ∧ x.wd = o.width ∧ x.cp = o.cap ∧ x.sl = o.slots ∧ x.rl = o.n) (hW : Op.cabAl o)  (hsame : ¬ gd l o.at_ % (o.slots : Int) = s.a):
    Calls Tryd.prog 71 #[.pointer (some ⟨g, 0, none⟩), .slice (some ⟨gl, o.at_, none⟩) n cc] w (Leaves N gl g x o.at_ op rd Bl cl (dc o (Op.cabR o s l).1, (Op.cabR o s l).2) w) := by
  subst hrdr
  subst hop
  obtain ⟨hu20, hab, hbb, hrd, ok⟩ := ok
  obtain ⟨⟨w1, w8⟩, ⟨cap1, cap16⟩, ⟨n1, n4, ns, sl16⟩, rdn⟩ := hW
  have hpos : 0 < o.slots * o.width := Nat.mul_pos (by omega) w1
  have dr : dc o s = s := dc_rd hwr s
  rw [dr] at h
  have c11 : w.cell? ⟨g, 11, none⟩ = some (.int .i64 s.row) := h.mid.2.2.2.1
  rw [hrow] at c11
  have c12 : w.cell? ⟨g, 12, none⟩ = some (.int .i64 s.i) := h.mid.2.2.2.2.1
  have c10 : w.cell? ⟨g, 10, none⟩ = some (.int .i64 o.reader) := h.mid.2.2.1
  have c2 := h.obj.2.2.1
  rw [hx.2.2.2.1] at c2
  have f16 := h.thaw 16
  have f17 := h.thaw 17
  have f12 := h.thaw 12
  have hgm := h.mine
  have u1 := Cb.u32_in (o.slots : Int) (by omega)
  have s0 : ¬ (o.slots : Int) = 0 := by omega
  have s1 : (0 : Int) < (o.slots : Int) := by omega
  have s2 : ((o.slots : Int) == 0) = false := by simp; omega
  have hy := hwl.get o 0
  rw [Op.get_gd] at hy
  obtain ⟨y, ey⟩ : ∃ y, y = gd l (o.at_) := ⟨_, rfl⟩
  have lc := (own_cell hl (o.at_) (by omega)).1
  have e0 : o.at_ + 0 = o.at_ := rfl
  rw [e0] at hy
  rw [← ey] at lc hy
  have hn1 : (0 : Int) < n := by omega
  have hn0 : 0 < n := by omega
  have f7 : y.tmod (o.slots : Int) = y % (o.slots : Int) := Int.tmod_eq_emod_of_nonneg (by omega)
  have r0 := Int.emod_nonneg y s0
  have r1 := Int.emod_lt_of_pos y s1
  have f9 := Cb.u32_in (y % (o.slots : Int)) (by omega)
  have c16 : w.cell? ⟨g, 16, none⟩ = some (.int .u32 s.a) := h.mid.2.2.2.2.2.2.2.2.1
  have fm : IntKind.i64.wrap (1 + (o.reader : Int)) = 1 + o.reader := Go.IntWalk.i64_in _ (by omega)
  have fm2 : (1 + (o.reader : Int)).toNat = 1 + o.reader := by omega
  have fm3 : (0 : Int) ≤ 1 + o.reader := by omega
  have fm4 : 1 + (o.reader : Int) < n := by omega
  have lm := own_cell hl (o.at_ + (1 + o.reader)) (by omega)
  obtain ⟨lm, lmf⟩ := lm
  rw [← ey] at hsame
  obtain ⟨_, _, q6, _, _, _, _, _⟩ := (ok hov).2.2 hwr
  have htr := q6 (by omega)
  have b1 : (y % (o.slots : Int) == s.a) = false := by simpa using hsame
  have hgy : ¬ Op.get o l 0 % (o.slots : Int) = s.a := by rw [Op.get_gd]; show ¬ gd l o.at_ % _ = _; rw [← ey]; exact hsame
  have e4 : Op.cabR o s l = (Op.failC o s, l) := by simp [Op.cabR, hrow, hgy]
  clear ey hgy hsame q6
  have E4 := Lib.hid e4
  have HL0 := Lib.hid hl
  have HB := Lib.hid h
  have HL := Lib.hid hl
  have HROW := Lib.hid hrow
  clear e4 h hl hN ok hrow
  generalize (o.slots : Int) = sln at *
  go_enter Tryd.func71, Tryd.ntmps71
  go_wp2_with fail
  go_quiet (fail)
  have HBQ := Lib.hid (HB.out.same ((Same.refl w).drewN nq))
  have HLQ := Lib.hid (HL.out.same ((Same.refl w).drewN nq))
  have HCQ := Lib.hid ((Chg.refl (fun i => i = g) w).drewN nq)
  have q10 := HBQ.out.mid.2.2.1
  have q11 := HBQ.out.mid.2.2.2.1
  have q16 := HBQ.out.mid.2.2.2.2.2.2.2.2.1
  have t16 := HBQ.out.thaw 16
  rw [HROW.out] at q11
  obtain ⟨lq, lqf⟩ := own_cell HLQ.out (o.at_ + (1 + o.reader)) (by omega)
  clear c2 c10 c11 c12 c16 lm lmf lc f16 f17 f12 HB HL
  generalize w.drewN nq = wq at *
  go_wp2_with fail
  refine (rfail_any _ HBQ.out hx.2.2.1 htr cap16).mono ?_
  rintro e w5 ⟨rfl, R5, c5⟩
  have HR5 := Lib.hid R5
  have HC5 := Lib.hid (HCQ.out.trans c5)
  clear R5 c5
  by_cases hcap : o.cap ≤ s.tries + 1
  · rw [decide_eq_true hcap]
    go_wp2_with fail
    refine (rto_lit _ HR5.out 5 5 rfl).mono ?_
    rintro e w6 ⟨rfl, R6, c6⟩
    have HR6 := Lib.hid R6
    have HC6 := Lib.hid (HC5.out.trans c6)
    clear R6 c6
    go_wp2
    go_end0
    rw [E4.out, dc_rd hwr]
    unfold Op.failC
    simp only [hcap, ↓reduceIte]
    exact ⟨rfl, ⟨_, _, HR6.out⟩, HL0.out.chg HC6.out (fun b' hb he => hgl (by injection hb with hb; injection hb with hb; rw [hb]; exact he.symm)), HC6.out.weak fun i _ hi => hi ▸ hgm⟩
  · rw [decide_eq_false hcap]
    go_wp2
    go_end0
    rw [E4.out, dc_rd hwr]
    unfold Op.failC
    simp only [hcap, ↓reduceIte]
    exact ⟨rfl, ⟨_, _, HR5.out⟩, HL0.out.chg HC5.out (fun b' hb he => hgl (by injection hb with hb; injection hb with hb; rw [hb]; exact he.symm)), HC5.out.weak fun i _ hi => hi ▸ hgm⟩

set_option maxHeartbeats 1000000 in
theorem rcr3 (w : World) (h : RB N gl w g x o.at_ op rd (dc o s) A c) (hl : Own w Bl 22 (some ⟨gl, 0, none⟩) cl (l.map (Value.int .u32))) (hgl : g ≠ gl) (hN : ∀ i, N i → i < w.heap.size) (hNl : ¬ N gl)
    (n cc : Nat) (hsz : 1 + o.n + o.slots * o.width ≤ n) (hn : n ≤ 5000) (hcc : n ≤ cc) (hln : o.at_ + n ≤ l.length) (hwl : Op.Wd l) (ok : Op.cabOk o s) (hov : s.over = false) (hop : op = 1) (hrdr : rd = o.reader) (hwr : o.wr = false) (hrow : s.row = 3) (hx : x.k = 5 ∧ x.wd = o.width ∧ x.cp = o.cap ∧ x.sl = o.slots ∧ x.rl = o.n) (hW : Op.cabAl o) :
    Calls Tryd.prog 71 #[.pointer (some ⟨g, 0, none⟩), .slice (some ⟨gl, o.at_, none⟩) n cc] w (Leaves N gl g x o.at_ op rd Bl cl (dc o (Op.cabR o s l).1, (Op.cabR o s l).2) w) := by
  subst hrdr
  subst hop
  obtain ⟨hu20, hab, hbb, hrd, ok⟩ := ok
  obtain ⟨⟨w1, w8⟩, ⟨cap1, cap16⟩, ⟨n1, n4, ns, sl16⟩, rdn⟩ := hW
  have hpos : 0 < o.slots * o.width := Nat.mul_pos (by omega) w1
  have dr : dc o s = s := dc_rd hwr s
  rw [dr] at h
  have c11 : w.cell? ⟨g, 11, none⟩ = some (.int .i64 s.row) := h.mid.2.2.2.1
  rw [hrow] at c11
  have c12 : w.cell? ⟨g, 12, none⟩ = some (.int .i64 s.i) := h.mid.2.2.2.2.1
  have c10 : w.cell? ⟨g, 10, none⟩ = some (.int .i64 o.reader) := h.mid.2.2.1
  have c2 := h.obj.2.2.1
  rw [hx.2.2.2.1] at c2
  have f16 := h.thaw 16
  have f17 := h.thaw 17
  have f12 := h.thaw 12
  have hgm := h.mine
  have u1 := Cb.u32_in (o.slots : Int) (by omega)
  have s0 : ¬ (o.slots : Int) = 0 := by omega
  have s1 : (0 : Int) < (o.slots : Int) := by omega
  have s2 : ((o.slots : Int) == 0) = false := by simp; omega
  obtain ⟨_, _, _, _, q3, _, _, q8⟩ := (ok hov).2.2 hwr
  have hi := q8 hrow
  have o2 := q3 hrow
  have hra := (hrd hwr).1
  obtain ⟨q, hq⟩ : ∃ q : Nat, s.a = (q : Int) := Int.eq_ofNat_of_zero_le (by omega)
  have cq : w.cell? ⟨g, 16, none⟩ = some (.int .u32 s.a) := h.mid.2.2.2.2.2.2.2.2.1
  rw [hq] at cq
  have hqm := Nat.mul_le_mul_right o.width (show q + 1 ≤ o.slots by omega)
  rw [Nat.add_mul] at hqm
  have HH : ∀ w', Calls Tryd.prog 47 #[.agg #[.int .i64 x.k, .int .i64 x.wd, .int .i64 x.sl, .int .i64 x.cp, .int .u32 x.sa, .slice x.ia x.il x.ic, .int .i64 x.ow, .slice x.ra x.rl x.rc]] w' fun e w'' => e = .returned (.int .i64 ((1 + o.n : Nat) : Int)) ∧ Same w' w'' := by
    intro w'
    have := Cb.rhead_any x.wd x.sl x.cp x.sa x.ow x.ia x.ra x.il x.ic x.rl x.rc w' (by have := hx.2.2.2.2; omega)
    rw [show (1 : Int) + (x.rl : Int) = ((1 + o.n : Nat) : Int) by have := hx.2.2.2.2; omega] at this
    rw [hx.1]
    exact this
  have HW := fun w' => Ob.rwrites_reg x.k (by rw [hx.1]; decide) w'
  have e4 : Op.cabR o s l = Op.word o s l (1 + o.n + q * o.width) (some 4) := by simp [Op.cabR, hrow, Op.cabK, hq]
  have hidx : 1 + o.n + q * o.width + s.i < n := by omega
  by_cases hlt : s.i + 1 < o.width
  · have HSA := Lib.hid hq
    have PR := fun (w' : World) (h' : RB N gl w' g x o.at_ 1 o.reader s A c) (hl' : Own w' Bl 22 (some ⟨gl, 0, none⟩) cl (l.map (Value.int .u32))) (hN' : ∀ i, N i → i < w'.heap.size) => rword_rd_on w' h' hl' hgl hN' hNl o.width (1 + o.n) q n cc (1 + o.n + q * o.width + s.i) (4) (some 4) 2 HH HW rfl hwr hx.2.1 rfl w8 (by omega) (by omega) rfl hidx hn hcc hln hi o2 hlt
    have HP := Lib.hid PR
    have HN0 := Lib.hid hN
    have hy := hwl.get o 0
    rw [Op.get_gd] at hy
    obtain ⟨y, ey⟩ : ∃ y, y = gd l (o.at_) := ⟨_, rfl⟩
    have lc := (own_cell hl (o.at_) (by omega)).1
    have e0 : o.at_ + 0 = o.at_ := rfl
    rw [e0] at hy
    rw [← ey] at lc hy
    have hn1 : (0 : Int) < n := by omega
    have hn0 : 0 < n := by omega
    have f7 : y.tmod (o.slots : Int) = y % (o.slots : Int) := Int.tmod_eq_emod_of_nonneg (by omega)
    have r0 := Int.emod_nonneg y s0
    have r1 := Int.emod_lt_of_pos y s1
    have f9 := Cb.u32_in (y % (o.slots : Int)) (by omega)
    have E4 := Lib.hid e4
    have HROW := Lib.hid hrow
    have HB := Lib.hid h
    have HL := Lib.hid hl
    clear PR e4 hrow hN ok hidx o2 h hl hqm hq q3 q8 hra ey
    have fm : IntKind.i64.wrap (1 + (o.reader : Int)) = 1 + o.reader := Go.IntWalk.i64_in _ (by omega)
    generalize (o.slots : Int) = sln at *
    go_enter Tryd.func71, Tryd.ntmps71
    go_wp2_with fail
    go_quiet (fail)
    have HBQ := Lib.hid (HB.out.same ((Same.refl w).drewN nq))
    have HLQ := Lib.hid (HL.out.same ((Same.refl w).drewN nq))
    have HCQ := Lib.hid ((Chg.refl (fun i => ¬ N i) w).drewN nq)
    have HNQ : Hid (∀ i, N i → i < (w.drewN nq).heap.size) := Lib.hid (fun i hi => HN0.out i hi)
    have q10 := HBQ.out.mid.2.2.1
    have q11 := HBQ.out.mid.2.2.2.1
    have q16 := HBQ.out.mid.2.2.2.2.2.2.2.2.1
    rw [HROW.out] at q11
    rw [HSA.out] at q16
    clear c2 c10 c11 c12 cq lc f16 f17 f12 HB HL
    generalize w.drewN nq = wq at *
    go_wp2_with fail
    refine (HP.out _ HBQ.out HLQ.out HNQ.out).mono ?_
    rintro e w6 ⟨rfl, ⟨A6, c6, R6⟩, L6, C6⟩
    have HR6 := Lib.hid R6
    have HL6 := Lib.hid L6
    have HC6 := Lib.hid C6
    clear R6 L6 C6
    go_wp2
    go_end0
    rw [E4.out, dc_rd hwr]
    exact ⟨rfl, ⟨_, _, HR6.out⟩, HL6.out, HCQ.out.trans HC6.out⟩
  · have HSA := Lib.hid hq
    have PR := fun (w' : World) (h' : RB N gl w' g x o.at_ 1 o.reader s A c) (hl' : Own w' Bl 22 (some ⟨gl, 0, none⟩) cl (l.map (Value.int .u32))) (hN' : ∀ i, N i → i < w'.heap.size) => rword_rd_to w' h' hl' hgl hN' hNl o.width (1 + o.n) q n cc (1 + o.n + q * o.width + s.i) (4) 4 2 HH HW rfl hwr hx.2.1 rfl w8 (by omega) (by omega) rfl hidx hn hcc hln hi o2 hlt rfl
    have HP := Lib.hid PR
    have HN0 := Lib.hid hN
    have hy := hwl.get o 0
    rw [Op.get_gd] at hy
    obtain ⟨y, ey⟩ : ∃ y, y = gd l (o.at_) := ⟨_, rfl⟩
    have lc := (own_cell hl (o.at_) (by omega)).1
    have e0 : o.at_ + 0 = o.at_ := rfl
    rw [e0] at hy
    rw [← ey] at lc hy
    have hn1 : (0 : Int) < n := by omega
    have hn0 : 0 < n := by omega
    have f7 : y.tmod (o.slots : Int) = y % (o.slots : Int) := Int.tmod_eq_emod_of_nonneg (by omega)
    have r0 := Int.emod_nonneg y s0
    have r1 := Int.emod_lt_of_pos y s1
    have f9 := Cb.u32_in (y % (o.slots : Int)) (by omega)
    have E4 := Lib.hid e4
    have HROW := Lib.hid hrow
    have HB := Lib.hid h
    have HL := Lib.hid hl
    clear PR e4 hrow hN ok hidx o2 h hl hqm hq q3 q8 hra ey
    have fm : IntKind.i64.wrap (1 + (o.reader : Int)) = 1 + o.reader := Go.IntWalk.i64_in _ (by omega)
    generalize (o.slots : Int) = sln at *
    go_enter Tryd.func71, Tryd.ntmps71
    go_wp2_with fail
    go_quiet (fail)
    have HBQ := Lib.hid (HB.out.same ((Same.refl w).drewN nq))
    have HLQ := Lib.hid (HL.out.same ((Same.refl w).drewN nq))
    have HCQ := Lib.hid ((Chg.refl (fun i => ¬ N i) w).drewN nq)
    have HNQ : Hid (∀ i, N i → i < (w.drewN nq).heap.size) := Lib.hid (fun i hi => HN0.out i hi)
    have q10 := HBQ.out.mid.2.2.1
    have q11 := HBQ.out.mid.2.2.2.1
    have q16 := HBQ.out.mid.2.2.2.2.2.2.2.2.1
    rw [HROW.out] at q11
    rw [HSA.out] at q16
    clear c2 c10 c11 c12 cq lc f16 f17 f12 HB HL
    generalize w.drewN nq = wq at *
    go_wp2_with fail
    refine (HP.out _ HBQ.out HLQ.out HNQ.out).mono ?_
    rintro e w6 ⟨rfl, ⟨A6, c6, R6⟩, L6, C6⟩
    have HR6 := Lib.hid R6
    have HL6 := Lib.hid L6
    have HC6 := Lib.hid C6
    clear R6 L6 C6
    go_wp2
    go_end0
    rw [E4.out, dc_rd hwr]
    exact ⟨rfl, ⟨_, _, HR6.out⟩, HL6.out, HCQ.out.trans HC6.out⟩

set_option maxHeartbeats 1000000 in
theorem rcr4 (w : World) (h : RB N gl w g x o.at_ op rd (dc o s) A c) (hl : Own w Bl 22 (some ⟨gl, 0, none⟩) cl (l.map (Value.int .u32))) (hgl : g ≠ gl) (hN : ∀ i, N i → i < w.heap.size) (hNl : ¬ N gl)
    (n cc : Nat) (hsz : 1 + o.n + o.slots * o.width ≤ n) (hn : n ≤ 5000) (hcc : n ≤ cc) (hln : o.at_ + n ≤ l.length) (hwl : Op.Wd l) (ok : Op.cabOk o s) (hov : s.over = false) (hop : op = 1) (hrdr : rd = o.reader) (hwr : o.wr = false) (hrow : s.row = 4) (hx : x.k = 5 ∧ x.wd = o.width ∧ x.cp = o.cap ∧ x.sl = o.slots ∧ x.rl = o.n) (hW : Op.cabAl o) :
    Calls Tryd.prog 71 #[.pointer (some ⟨g, 0, none⟩), .slice (some ⟨gl, o.at_, none⟩) n cc] w (Leaves N gl g x o.at_ op rd Bl cl (dc o (Op.cabR o s l).1, (Op.cabR o s l).2) w) := by
  subst hrdr
  subst hop
  obtain ⟨hu20, hab, hbb, hrd, ok⟩ := ok
  obtain ⟨⟨w1, w8⟩, ⟨cap1, cap16⟩, ⟨n1, n4, ns, sl16⟩, rdn⟩ := hW
  have hpos : 0 < o.slots * o.width := Nat.mul_pos (by omega) w1
  have dr : dc o s = s := dc_rd hwr s
  rw [dr] at h
  have c11 : w.cell? ⟨g, 11, none⟩ = some (.int .i64 s.row) := h.mid.2.2.2.1
  rw [hrow] at c11
  have c12 : w.cell? ⟨g, 12, none⟩ = some (.int .i64 s.i) := h.mid.2.2.2.2.1
  have c10 : w.cell? ⟨g, 10, none⟩ = some (.int .i64 o.reader) := h.mid.2.2.1
  have c2 := h.obj.2.2.1
  rw [hx.2.2.2.1] at c2
  have f16 := h.thaw 16
  have f17 := h.thaw 17
  have f12 := h.thaw 12
  have hgm := h.mine
  have u1 := Cb.u32_in (o.slots : Int) (by omega)
  have s0 : ¬ (o.slots : Int) = 0 := by omega
  have s1 : (0 : Int) < (o.slots : Int) := by omega
  have s2 : ((o.slots : Int) == 0) = false := by simp; omega
  have hy := hwl.get o 0
  rw [Op.get_gd] at hy
  obtain ⟨y, ey⟩ : ∃ y, y = gd l (o.at_) := ⟨_, rfl⟩
  have lc := (own_cell hl (o.at_) (by omega)).1
  have e0 : o.at_ + 0 = o.at_ := rfl
  rw [e0] at hy
  rw [← ey] at lc hy
  have hn1 : (0 : Int) < n := by omega
  have hn0 : 0 < n := by omega
  have f7 : y.tmod (o.slots : Int) = y % (o.slots : Int) := Int.tmod_eq_emod_of_nonneg (by omega)
  have r0 := Int.emod_nonneg y s0
  have r1 := Int.emod_lt_of_pos y s1
  have f9 := Cb.u32_in (y % (o.slots : Int)) (by omega)
  have c16 : w.cell? ⟨g, 16, none⟩ = some (.int .u32 s.a) := h.mid.2.2.2.2.2.2.2.2.1
  have fm : IntKind.i64.wrap (1 + (o.reader : Int)) = 1 + o.reader := Go.IntWalk.i64_in _ (by omega)
  have fm2 : (1 + (o.reader : Int)).toNat = 1 + o.reader := by omega
  have fm3 : (0 : Int) ≤ 1 + o.reader := by omega
  have fm4 : 1 + (o.reader : Int) < n := by omega
  have lm := own_cell hl (o.at_ + (1 + o.reader)) (by omega)
  obtain ⟨lm, lmf⟩ := lm
  have e4 : Op.cabR o s l = (s.fin false 0, put o l (1 + o.reader) 0) := by simp [Op.cabR, hrow]
  clear ey
  have E4 := Lib.hid e4
  have HL0 := Lib.hid hl
  have HB := Lib.hid h
  have HL := Lib.hid hl
  have HROW := Lib.hid hrow
  clear e4 h hl hN ok hrow
  generalize (o.slots : Int) = sln at *
  go_enter Tryd.func71, Tryd.ntmps71
  go_wp2_with fail
  go_quiet (fail)
  have HBQ := Lib.hid (HB.out.same ((Same.refl w).drewN nq))
  have HLQ := Lib.hid (HL.out.same ((Same.refl w).drewN nq))
  have HCQ := Lib.hid ((Chg.refl (fun i => i = g) w).drewN nq)
  have q10 := HBQ.out.mid.2.2.1
  have q11 := HBQ.out.mid.2.2.2.1
  have q16 := HBQ.out.mid.2.2.2.2.2.2.2.2.1
  have t16 := HBQ.out.thaw 16
  rw [HROW.out] at q11
  obtain ⟨lq, lqf⟩ := own_cell HLQ.out (o.at_ + (1 + o.reader)) (by omega)
  clear c2 c10 c11 c12 c16 lm lmf lc f16 f17 f12 HB HL
  generalize w.drewN nq = wq at *
  go_wp2_with fail
  have C3 : Chg (fun i => i = gl) wq (wq.setCell ⟨gl, o.at_ + (1 + o.reader), none⟩ (.int .u32 (0))) := ((Chg.refl (fun i => i = gl) wq).set (p := ⟨gl, o.at_ + (1 + o.reader), none⟩) (.inl rfl) _)
  have HB3 := Lib.hid (HBQ.out.chg C3 (fun i hi => .inr hi) hgl)
  have L3 : Own (wq.setCell ⟨gl, o.at_ + (1 + o.reader), none⟩ (.int .u32 (0))) Bl 22 (some ⟨gl, 0, none⟩) cl ((put o l (1 + o.reader) (0)).map (Value.int .u32)) := by
    have := HLQ.out.put (o.at_ + (1 + o.reader)) (.int .u32 (0))
    rw [← List.map_set] at this
    exact this
  have HL3 := Lib.hid L3
  have HC3 : Hid (Chg (fun i => ¬ N i) w (wq.setCell ⟨gl, o.at_ + (1 + o.reader), none⟩ (.int .u32 (0)))) := Lib.hid ((HCQ.out.weak fun i _ hi => hi ▸ hgm).trans (C3.weak fun i _ hi => hi ▸ hNl))
  clear C3 L3 lq lqf
  generalize wq.setCell ⟨gl, o.at_ + (1 + o.reader), none⟩ (.int .u32 (0)) = w3 at *
  refine (rend_any _ HB3.out (by rw [hx.1]; decide) o.wr (by rw [hwr]; rfl) 0).mono ?_
  rintro e w6 ⟨rfl, R6, c6⟩
  have HR6 := Lib.hid R6
  have HC6 := Lib.hid c6
  clear R6 c6
  go_wp2
  go_end0
  rw [E4.out, dc_rd hwr, ← hwr]
  exact ⟨rfl, HR6.out, HL3.out.chg HC6.out (fun b' hb he => hgl (by injection hb with hb; injection hb with hb; rw [hb]; exact he.symm)), HC3.out.trans (HC6.out.weak fun i _ hi => hi ▸ hgm)⟩

set_option maxHeartbeats 1000000 in
theorem rcr5 (w : World) (h : RB N gl w g x o.at_ op rd (dc o s) A c) (hl : Own w Bl 22 (some ⟨gl, 0, none⟩) cl (l.map (Value.int .u32))) (hgl : g ≠ gl) (hN : ∀ i, N i → i < w.heap.size) (hNl : ¬ N gl)
    (n cc : Nat) (hsz : 1 + o.n + o.slots * o.width ≤ n) (hn : n ≤ 5000) (hcc : n ≤ cc) (hln : o.at_ + n ≤ l.length) (hwl : Op.Wd l) (ok : Op.cabOk o s) (hov : s.over = false) (hop : op = 1) (hrdr : rd = o.reader) (hwr : o.wr = false) (hrow : s.row = 5) (hx : x.k = 5 ∧ x.wd = o.width ∧ x.cp = o.cap ∧ x.sl = o.slots ∧ x.rl = o.n) (hW : Op.cabAl o) :
    Calls Tryd.prog 71 #[.pointer (some ⟨g, 0, none⟩), .slice (some ⟨gl, o.at_, none⟩) n cc] w (Leaves N gl g x o.at_ op rd Bl cl (dc o (Op.cabR o s l).1, (Op.cabR o s l).2) w) := by
  subst hrdr
  subst hop
  obtain ⟨hu20, hab, hbb, hrd, ok⟩ := ok
  obtain ⟨⟨w1, w8⟩, ⟨cap1, cap16⟩, ⟨n1, n4, ns, sl16⟩, rdn⟩ := hW
  have hpos : 0 < o.slots * o.width := Nat.mul_pos (by omega) w1
  have dr : dc o s = s := dc_rd hwr s
  rw [dr] at h
  have c11 : w.cell? ⟨g, 11, none⟩ = some (.int .i64 s.row) := h.mid.2.2.2.1
  rw [hrow] at c11
  have c12 : w.cell? ⟨g, 12, none⟩ = some (.int .i64 s.i) := h.mid.2.2.2.2.1
  have c10 : w.cell? ⟨g, 10, none⟩ = some (.int .i64 o.reader) := h.mid.2.2.1
  have c2 := h.obj.2.2.1
  rw [hx.2.2.2.1] at c2
  have f16 := h.thaw 16
  have f17 := h.thaw 17
  have f12 := h.thaw 12
  have hgm := h.mine
  have u1 := Cb.u32_in (o.slots : Int) (by omega)
  have s0 : ¬ (o.slots : Int) = 0 := by omega
  have s1 : (0 : Int) < (o.slots : Int) := by omega
  have s2 : ((o.slots : Int) == 0) = false := by simp; omega
  have hy := hwl.get o 0
  rw [Op.get_gd] at hy
  obtain ⟨y, ey⟩ : ∃ y, y = gd l (o.at_) := ⟨_, rfl⟩
  have lc := (own_cell hl (o.at_) (by omega)).1
  have e0 : o.at_ + 0 = o.at_ := rfl
  rw [e0] at hy
  rw [← ey] at lc hy
  have hn1 : (0 : Int) < n := by omega
  have hn0 : 0 < n := by omega
  have f7 : y.tmod (o.slots : Int) = y % (o.slots : Int) := Int.tmod_eq_emod_of_nonneg (by omega)
  have r0 := Int.emod_nonneg y s0
  have r1 := Int.emod_lt_of_pos y s1
  have f9 := Cb.u32_in (y % (o.slots : Int)) (by omega)
  have c16 : w.cell? ⟨g, 16, none⟩ = some (.int .u32 s.a) := h.mid.2.2.2.2.2.2.2.2.1
  have fm : IntKind.i64.wrap (1 + (o.reader : Int)) = 1 + o.reader := Go.IntWalk.i64_in _ (by omega)
  have fm2 : (1 + (o.reader : Int)).toNat = 1 + o.reader := by omega
  have fm3 : (0 : Int) ≤ 1 + o.reader := by omega
  have fm4 : 1 + (o.reader : Int) < n := by omega
  have lm := own_cell hl (o.at_ + (1 + o.reader)) (by omega)
  obtain ⟨lm, lmf⟩ := lm
  have e4 : Op.cabR o s l = (s.fin false 1, put o l (1 + o.reader) 0) := by simp [Op.cabR, hrow]
  clear ey
  have E4 := Lib.hid e4
  have HL0 := Lib.hid hl
  have HB := Lib.hid h
  have HL := Lib.hid hl
  have HROW := Lib.hid hrow
  clear e4 h hl hN ok hrow
  generalize (o.slots : Int) = sln at *
  go_enter Tryd.func71, Tryd.ntmps71
  go_wp2_with fail
  go_quiet (fail)
  have HBQ := Lib.hid (HB.out.same ((Same.refl w).drewN nq))
  have HLQ := Lib.hid (HL.out.same ((Same.refl w).drewN nq))
  have HCQ := Lib.hid ((Chg.refl (fun i => i = g) w).drewN nq)
  have q10 := HBQ.out.mid.2.2.1
  have q11 := HBQ.out.mid.2.2.2.1
  have q16 := HBQ.out.mid.2.2.2.2.2.2.2.2.1
  have t16 := HBQ.out.thaw 16
  rw [HROW.out] at q11
  obtain ⟨lq, lqf⟩ := own_cell HLQ.out (o.at_ + (1 + o.reader)) (by omega)
  clear c2 c10 c11 c12 c16 lm lmf lc f16 f17 f12 HB HL
  generalize w.drewN nq = wq at *
  go_wp2_with fail
  have C3 : Chg (fun i => i = gl) wq (wq.setCell ⟨gl, o.at_ + (1 + o.reader), none⟩ (.int .u32 (0))) := ((Chg.refl (fun i => i = gl) wq).set (p := ⟨gl, o.at_ + (1 + o.reader), none⟩) (.inl rfl) _)
  have HB3 := Lib.hid (HBQ.out.chg C3 (fun i hi => .inr hi) hgl)
  have L3 : Own (wq.setCell ⟨gl, o.at_ + (1 + o.reader), none⟩ (.int .u32 (0))) Bl 22 (some ⟨gl, 0, none⟩) cl ((put o l (1 + o.reader) (0)).map (Value.int .u32)) := by
    have := HLQ.out.put (o.at_ + (1 + o.reader)) (.int .u32 (0))
    rw [← List.map_set] at this
    exact this
  have HL3 := Lib.hid L3
  have HC3 : Hid (Chg (fun i => ¬ N i) w (wq.setCell ⟨gl, o.at_ + (1 + o.reader), none⟩ (.int .u32 (0)))) := Lib.hid ((HCQ.out.weak fun i _ hi => hi ▸ hgm).trans (C3.weak fun i _ hi => hi ▸ hNl))
  clear C3 L3 lq lqf
  generalize wq.setCell ⟨gl, o.at_ + (1 + o.reader), none⟩ (.int .u32 (0)) = w3 at *
  refine (rend_any _ HB3.out (by rw [hx.1]; decide) o.wr (by rw [hwr]; rfl) 1).mono ?_
  rintro e w6 ⟨rfl, R6, c6⟩
  have HR6 := Lib.hid R6
  have HC6 := Lib.hid c6
  clear R6 c6
  go_wp2
  go_end0
  rw [E4.out, dc_rd hwr, ← hwr]
  exact ⟨rfl, HR6.out, HL3.out.chg HC6.out (fun b' hb he => hgl (by injection hb with hb; injection hb with hb; rw [hb]; exact he.symm)), HC3.out.trans (HC6.out.weak fun i _ hi => hi ▸ hgm)⟩

end

end Go.Proofs.YtniglkbfkehfmaaDoor.Rf
