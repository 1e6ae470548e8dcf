/-
  The document's own operation on slots enough for all readers: the rows that are left.
-/
import Derived.Test.YtejajmdmfipplabDoorRefChen
set_option linter.unusedSimpArgs false
set_option linter.unusedVariables false
namespace Go.Proofs.YtejajmdmfipplabDoor.Rf
open Go.ChangeShapes Go.WideShapes Go.ChangeAt Go.RowKit Ws Mm Pa
open Go.Proofs.YtejajmdmfipplabDoor.Op (St Im gd get put more)

section
variable {N : Nat → Prop} {gl : Nat} {g : Nat} {x : Ox} {op rd : Int} {s : St} {A : Option Addr} {c : Nat} {l : List Int} {Bl cl : Nat} {o : Im}

set_option maxHeartbeats 1000000 in
theorem rew2 (w : World) (h : RB N gl w g x o.at_ op rd (dc o s) A c) (hl : Own w Bl 22 (some ⟨gl, 0, none⟩) cl (l.map (Value.int .u32))) (hgl : g ≠ gl) (hN : ∀ i, N i → i < w.heap.size) (hNl : ¬ N gl)
    (n cc : Nat) (hsz : 1 + o.n + Op.csl o * o.width ≤ n) (hn : n ≤ 5000) (hcc : n ≤ cc) (hln : o.at_ + n ≤ l.length) (hwl : Op.Wd l) (ok : Op.chenOk o s) (hov : s.over = false) (hop : op = 2) (hrdr : rd = o.reader) (hwr : o.wr = true) (hrow : s.row = 2) (hx : x.k = 2 ∧ x.wd = o.width ∧ x.cp = o.cap ∧ x.sl = o.slots ∧ x.rl = o.n) (hW : Op.chenAl o) :
    Calls Tryd.prog 56 #[.pointer (some ⟨g, 0, none⟩), .slice (some ⟨gl, o.at_, none⟩) n cc] w (Leaves N gl g x o.at_ op rd Bl cl (dc o (Op.chenW o s l).1, (Op.chenW o s l).2) w) := by
  subst hrdr
  subst hop
  obtain ⟨hu20, hab, hbb, hrd, htr, ok⟩ := ok
  obtain ⟨⟨w1, w8⟩, ⟨n1, n4⟩, rdn⟩ := hW
  have hcsl : Op.csl o = o.n + 2 := rfl
  have hpos : 0 < Op.csl o * o.width := Nat.mul_pos (by omega) w1
  have dr : dc o s = { s with a := 0 } := dc_wr hwr s
  rw [dr] at h
  have c11 : w.cell? ⟨g, 11, none⟩ = some (.int .i64 s.row) := h.mid.2.2.2.1
  rw [hrow] at c11
  have c12 : w.cell? ⟨g, 12, none⟩ = some (.int .i64 s.i) := h.mid.2.2.2.2.1
  have c10 : w.cell? ⟨g, 10, none⟩ = some (.int .i64 o.reader) := h.mid.2.2.1
  have c7 := h.obj.2.2.2.2.2.2.2
  rw [hx.2.2.2.2] at c7
  have f16 := h.thaw 16
  have f17 := h.thaw 17
  have f12 := h.thaw 12
  have hgm := h.mine
  have u2 : IntKind.i64.wrap ((o.n : Int) + 2) = (o.n : Int) + 2 := Go.IntWalk.i64_in _ (by omega)
  have u1 := Ch.u32_in ((o.n : Int) + 2) (by omega)
  have fm : IntKind.i64.wrap (1 + (o.reader : Int)) = 1 + o.reader := Go.IntWalk.i64_in _ (by omega)
  obtain ⟨_, o2, _, _, q2, _, _, _⟩ := (ok hov).2.1 hwr
  have hi := q2 hrow
  obtain ⟨q, hq⟩ : ∃ q : Nat, s.b = (q : Int) := Int.eq_ofNat_of_zero_le (by omega)
  have cq : w.cell? ⟨g, 17, none⟩ = some (.int .u32 s.b) := h.mid.2.2.2.2.2.2.2.2.2
  rw [hq] at cq
  have hqm := Nat.mul_le_mul_right o.width (show q + 1 ≤ Op.csl o by omega)
  rw [Nat.add_mul] at hqm
  have HH : ∀ w', Calls Tryd.prog 94 #[.agg #[.int .i64 x.k, .int .i64 x.wd, .int .i64 x.sl, .int .i64 x.cp, .int .u32 x.sa, .slice x.ia x.il x.ic, .int .i64 x.ow, .slice x.ra x.rl x.rc]] w' fun e w'' => e = .returned (.int .i64 ((1 + o.n : Nat) : Int)) ∧ Same w' w'' := by
    intro w'
    have := Ch.rhead_any x.wd x.sl x.cp x.sa x.ow x.ia x.ra x.il x.ic x.rl x.rc w' (by have := hx.2.2.2.2; omega)
    rw [show (1 : Int) + (x.rl : Int) = ((1 + o.n : Nat) : Int) by have := hx.2.2.2.2; omega] at this
    rw [hx.1]
    exact this
  have HW := fun w' => Ob.rwrites_reg x.k (by rw [hx.1]; decide) w'
  have e4 : Op.chenW o s l = Op.word o s l (1 + o.n + q * o.width) (some 3) := by simp [Op.chenW, hrow, Op.chenK, hq]
  have hidx : 1 + o.n + q * o.width + s.i < n := by omega
  by_cases hlt : s.i + 1 < o.width
  · have PR := rword_wr_on w h hl hgl hN hNl o.width (1 + o.n) q n cc (1 + o.n + q * o.width + s.i) (3) (some 3) 2 HH HW rfl hwr hx.2.1 rfl w8 (by omega) (by omega) rfl hidx hn hcc hln hi o2 hlt
    rw [← dr, word_dc o hwr] at PR
    have HP := Lib.hid PR
    have E4 := Lib.hid e4
    have HROW := Lib.hid hrow
    have HB := Lib.hid h
    have HL := Lib.hid hl
    clear PR e4 hrow hN ok hidx o2 h hl hqm hq q2
    go_enter Tryd.func56, Tryd.ntmps56
    go_wp2_with fail
    refine HP.out.mono ?_
    rintro e w6 ⟨rfl, ⟨A6, c6, R6⟩, L6, C6⟩
    have HR6 := Lib.hid R6
    have HL6 := Lib.hid L6
    have HC6 := Lib.hid C6
    clear R6 L6 C6
    go_wp2
    go_end0
    rw [E4.out]
    exact ⟨rfl, ⟨_, _, HR6.out⟩, HL6.out, HC6.out⟩
  · have PR := rword_wr_to w h hl hgl hN hNl o.width (1 + o.n) q n cc (1 + o.n + q * o.width + s.i) (3) 3 2 HH HW rfl hwr hx.2.1 rfl w8 (by omega) (by omega) rfl hidx hn hcc hln hi o2 hlt rfl
    rw [← dr, word_dc o hwr] at PR
    have HP := Lib.hid PR
    have E4 := Lib.hid e4
    have HROW := Lib.hid hrow
    have HB := Lib.hid h
    have HL := Lib.hid hl
    clear PR e4 hrow hN ok hidx o2 h hl hqm hq q2
    go_enter Tryd.func56, Tryd.ntmps56
    go_wp2_with fail
    refine HP.out.mono ?_
    rintro e w6 ⟨rfl, ⟨A6, c6, R6⟩, L6, C6⟩
    have HR6 := Lib.hid R6
    have HL6 := Lib.hid L6
    have HC6 := Lib.hid C6
    clear R6 L6 C6
    go_wp2
    go_end0
    rw [E4.out]
    exact ⟨rfl, ⟨_, _, HR6.out⟩, HL6.out, HC6.out⟩

set_option maxHeartbeats 1000000 in
theorem rew4c (w : World) (h : RB N gl w g x o.at_ op rd (dc o s) A c) (hl : Own w Bl 22 (some ⟨gl, 0, none⟩) cl (l.map (Value.int .u32))) (hgl : g ≠ gl) (hN : ∀ i, N i → i < w.heap.size) (hNl : ¬ N gl)
    (n cc : Nat) (hsz : 1 + o.n + Op.csl o * o.width ≤ n) (hn : n ≤ 5000) (hcc : n ≤ cc) (hln : o.at_ + n ≤ l.length) (hwl : Op.Wd l) (ok : Op.chenOk o s) (hov : s.over = false) (hop : op = 2) (hrdr : rd = o.reader) (hwr : o.wr = true) (hrow : s.row = 4) (hx : x.k = 2 ∧ x.wd = o.width ∧ x.cp = o.cap ∧ x.sl = o.slots ∧ x.rl = o.n) (hW : Op.chenAl o)  (hcas : gd l (o.at_ + (1 + s.i)) = (Op.csl o : Int)) (hlt : s.i + 1 < o.n):
    Calls Tryd.prog 56 #[.pointer (some ⟨g, 0, none⟩), .slice (some ⟨gl, o.at_, none⟩) n cc] w (Leaves N gl g x o.at_ op rd Bl cl (dc o (Op.chenW o s l).1, (Op.chenW o s l).2) w) := by
  subst hrdr
  subst hop
  obtain ⟨hu20, hab, hbb, hrd, htr, ok⟩ := ok
  obtain ⟨⟨w1, w8⟩, ⟨n1, n4⟩, rdn⟩ := hW
  have hcsl : Op.csl o = o.n + 2 := rfl
  have hpos : 0 < Op.csl o * o.width := Nat.mul_pos (by omega) w1
  have dr : dc o s = { s with a := 0 } := dc_wr hwr s
  rw [dr] at h
  have c11 : w.cell? ⟨g, 11, none⟩ = some (.int .i64 s.row) := h.mid.2.2.2.1
  rw [hrow] at c11
  have c12 : w.cell? ⟨g, 12, none⟩ = some (.int .i64 s.i) := h.mid.2.2.2.2.1
  have c10 : w.cell? ⟨g, 10, none⟩ = some (.int .i64 o.reader) := h.mid.2.2.1
  have c7 := h.obj.2.2.2.2.2.2.2
  rw [hx.2.2.2.2] at c7
  have f16 := h.thaw 16
  have f17 := h.thaw 17
  have f12 := h.thaw 12
  have hgm := h.mine
  have u2 : IntKind.i64.wrap ((o.n : Int) + 2) = (o.n : Int) + 2 := Go.IntWalk.i64_in _ (by omega)
  have u1 := Ch.u32_in ((o.n : Int) + 2) (by omega)
  have fm : IntKind.i64.wrap (1 + (o.reader : Int)) = 1 + o.reader := Go.IntWalk.i64_in _ (by omega)
  obtain ⟨_, _, _, _, _, _, q4, _⟩ := (ok hov).2.1 hwr
  have hi := q4 hrow
  have hy := hwl.get o (1 + s.i)
  rw [Op.get_gd] at hy
  obtain ⟨y, ey⟩ : ∃ y, y = gd l (o.at_ + (1 + s.i)) := ⟨_, rfl⟩
  have lc := own_cell hl (o.at_ + (1 + s.i)) (by omega)
  obtain ⟨lc, lf⟩ := lc
  rw [← ey] at lc hy
  have f1 : IntKind.i64.wrap (1 + (s.i : Int)) = 1 + s.i := Go.IntWalk.i64_in _ (by omega)
  have f2 : (1 + (s.i : Int)).toNat = 1 + s.i := by omega
  have f3 : (0 : Int) ≤ 1 + s.i := by omega
  have f4 : 1 + (s.i : Int) < n := by omega
  have f5 : IntKind.i64.wrap ((s.i : Int) + 1) = s.i + 1 := Go.IntWalk.i64_in _ (by omega)
  have b1 : ((s.i : Int) + 1 == (o.n : Int)) = false := by simp; omega
  have b1' : (((s.i + 1 : Nat) : Int) == (o.n : Int)) = false := by simp; omega
  have es : ((s.i : Int) + 1) = ((s.i + 1 : Nat) : Int) := by omega
  have c17 : w.cell? ⟨g, 17, none⟩ = some (.int .u32 s.b) := h.mid.2.2.2.2.2.2.2.2.2
  have hg : Op.get o l (1 + s.i) = (Op.csl o : Int) := hcas
  rw [← ey] at hcas
  have b2 : (y == ((o.n : Int) + 2)) = true := by rw [hcsl] at hcas; simp; omega
  have e4 : Op.chenW o s l = ({ s with i := s.i + 1 }, put o l (1 + s.i) s.b) := by
    simp only [Op.chenW, hrow, Op.casP, hg, hlt, ↓reduceIte]
  have HES := Lib.hid es
  clear ey hg hcas q4 es
  have E4 := Lib.hid e4
  have HB := Lib.hid h
  have HL := Lib.hid hl
  have HROW := Lib.hid hrow
  have HNW := Lib.hid hN
  clear e4 h hl hN ok hrow
  go_enter Tryd.func56, Tryd.ntmps56
  go_wp2_with fail
  go_region_held3 (fun w' => w'.cell? ⟨g, 12, none⟩ = some (.int .i64 s.i) ∧ w'.cell? ⟨g, 17, none⟩ = some (.int .u32 s.b))
    (first | assumption | exact ⟨c12, c17⟩ | exact ⟨cell_far hgl c12, cell_far hgl c17⟩)
    (fail)
  have k12 := cell_far (j := o.at_ + (1 + s.i)) (v := .int .u32 s.b) hgl c12
  clear lc lf c11 c10 c7 c12 c17 f12 f16 f17
  have C3 : Chg (fun i => i = gl) w ((w.setCell ⟨gl, o.at_ + (1 + s.i), none⟩ (.int .u32 (s.b))).drew) := ((Chg.refl (fun i => i = gl) w).set (p := ⟨gl, o.at_ + (1 + s.i), none⟩) (.inl rfl) _).drew
  have HB3 := Lib.hid (HB.out.chg C3 (fun i hi => .inr hi) hgl)
  have L3 : Own ((w.setCell ⟨gl, o.at_ + (1 + s.i), none⟩ (.int .u32 (s.b))).drew) Bl 22 (some ⟨gl, 0, none⟩) cl ((put o l ((1 + s.i)) (s.b)).map (Value.int .u32)) := by
    have := HL.out.put (o.at_ + (1 + s.i)) (.int .u32 (s.b))
    rw [← List.map_set] at this
    exact this.same (Same.refl _).drew
  have HL3 := Lib.hid L3
  have HC3 : Hid (Chg (fun i => ¬ N i) w ((w.setCell ⟨gl, o.at_ + (1 + s.i), none⟩ (.int .u32 (s.b))).drew)) := Lib.hid (C3.weak fun i _ hi => hi ▸ hNl)
  clear C3 L3
  have f12 := HB3.out.thaw 12
  generalize (w.setCell ⟨gl, o.at_ + (1 + s.i), none⟩ (.int .u32 (s.b))).drew = w3 at *
  have HR2 := HB3
  have HC2 := Lib.hid (Chg.refl (fun i => i = g) w3)
  go_wp2_with fail
  have R3 := HR2.out.set_i (s.i + 1)
  have hc3 := HC2.out.set (p := ⟨g, 12, none⟩) (.inl rfl) (.int .i64 ((s.i + 1 : Nat) : Int))
  rw [← HES.out] at R3 hc3
  have HR3 := Lib.hid R3
  have HCC := Lib.hid hc3
  clear R3 hc3 HR2 HC2
  go_end0
  rw [E4.out, dc_wr hwr]
  exact ⟨rfl, ⟨_, _, HR3.out⟩, HL3.out.chg HCC.out (fun b' hb he => hgl (by injection hb with hb; injection hb with hb; rw [hb]; exact he.symm)), HC3.out.trans (HCC.out.weak fun i _ hi => hi ▸ hgm)⟩

set_option maxHeartbeats 1000000 in
theorem rew4cl (w : World) (h : RB N gl w g x o.at_ op rd (dc o s) A c) (hl : Own w Bl 22 (some ⟨gl, 0, none⟩) cl (l.map (Value.int .u32))) (hgl : g ≠ gl) (hN : ∀ i, N i → i < w.heap.size) (hNl : ¬ N gl)
    (n cc : Nat) (hsz : 1 + o.n + Op.csl o * o.width ≤ n) (hn : n ≤ 5000) (hcc : n ≤ cc) (hln : o.at_ + n ≤ l.length) (hwl : Op.Wd l) (ok : Op.chenOk o s) (hov : s.over = false) (hop : op = 2) (hrdr : rd = o.reader) (hwr : o.wr = true) (hrow : s.row = 4) (hx : x.k = 2 ∧ x.wd = o.width ∧ x.cp = o.cap ∧ x.sl = o.slots ∧ x.rl = o.n) (hW : Op.chenAl o)  (hcas : gd l (o.at_ + (1 + s.i)) = (Op.csl o : Int)) (hlt : ¬ s.i + 1 < o.n):
    Calls Tryd.prog 56 #[.pointer (some ⟨g, 0, none⟩), .slice (some ⟨gl, o.at_, none⟩) n cc] w (Leaves N gl g x o.at_ op rd Bl cl (dc o (Op.chenW o s l).1, (Op.chenW o s l).2) w) := by
  subst hrdr
  subst hop
  obtain ⟨hu20, hab, hbb, hrd, htr, ok⟩ := ok
  obtain ⟨⟨w1, w8⟩, ⟨n1, n4⟩, rdn⟩ := hW
  have hcsl : Op.csl o = o.n + 2 := rfl
  have hpos : 0 < Op.csl o * o.width := Nat.mul_pos (by omega) w1
  have dr : dc o s = { s with a := 0 } := dc_wr hwr s
  rw [dr] at h
  have c11 : w.cell? ⟨g, 11, none⟩ = some (.int .i64 s.row) := h.mid.2.2.2.1
  rw [hrow] at c11
  have c12 : w.cell? ⟨g, 12, none⟩ = some (.int .i64 s.i) := h.mid.2.2.2.2.1
  have c10 : w.cell? ⟨g, 10, none⟩ = some (.int .i64 o.reader) := h.mid.2.2.1
  have c7 := h.obj.2.2.2.2.2.2.2
  rw [hx.2.2.2.2] at c7
  have f16 := h.thaw 16
  have f17 := h.thaw 17
  have f12 := h.thaw 12
  have hgm := h.mine
  have u2 : IntKind.i64.wrap ((o.n : Int) + 2) = (o.n : Int) + 2 := Go.IntWalk.i64_in _ (by omega)
  have u1 := Ch.u32_in ((o.n : Int) + 2) (by omega)
  have fm : IntKind.i64.wrap (1 + (o.reader : Int)) = 1 + o.reader := Go.IntWalk.i64_in _ (by omega)
  obtain ⟨_, _, _, _, _, _, q4, _⟩ := (ok hov).2.1 hwr
  have hi := q4 hrow
  have hy := hwl.get o (1 + s.i)
  rw [Op.get_gd] at hy
  obtain ⟨y, ey⟩ : ∃ y, y = gd l (o.at_ + (1 + s.i)) := ⟨_, rfl⟩
  have lc := own_cell hl (o.at_ + (1 + s.i)) (by omega)
  obtain ⟨lc, lf⟩ := lc
  rw [← ey] at lc hy
  have f1 : IntKind.i64.wrap (1 + (s.i : Int)) = 1 + s.i := Go.IntWalk.i64_in _ (by omega)
  have f2 : (1 + (s.i : Int)).toNat = 1 + s.i := by omega
  have f3 : (0 : Int) ≤ 1 + s.i := by omega
  have f4 : 1 + (s.i : Int) < n := by omega
  have f5 : IntKind.i64.wrap ((s.i : Int) + 1) = s.i + 1 := Go.IntWalk.i64_in _ (by omega)
  have b1 : ((s.i : Int) + 1 == (o.n : Int)) = true := by simp; omega
  have b1' : (((s.i + 1 : Nat) : Int) == (o.n : Int)) = true := by simp; omega
  have es : ((s.i : Int) + 1) = ((s.i + 1 : Nat) : Int) := by omega
  have c17 : w.cell? ⟨g, 17, none⟩ = some (.int .u32 s.b) := h.mid.2.2.2.2.2.2.2.2.2
  have hg : Op.get o l (1 + s.i) = (Op.csl o : Int) := hcas
  rw [← ey] at hcas
  have b2 : (y == ((o.n : Int) + 2)) = true := by rw [hcsl] at hcas; simp; omega
  have e4 : Op.chenW o s l = (({ s with i := s.i + 1 } : Op.St).fin true 0, put o l (1 + s.i) s.b) := by
    simp only [Op.chenW, hrow, Op.casP, hg, hlt, ↓reduceIte]
  have HES := Lib.hid es
  clear ey hg hcas q4 es
  have E4 := Lib.hid e4
  have HB := Lib.hid h
  have HL := Lib.hid hl
  have HROW := Lib.hid hrow
  have HNW := Lib.hid hN
  clear e4 h hl hN ok hrow
  go_enter Tryd.func56, Tryd.ntmps56
  go_wp2_with fail
  go_region_held3 (fun w' => w'.cell? ⟨g, 12, none⟩ = some (.int .i64 s.i) ∧ w'.cell? ⟨g, 17, none⟩ = some (.int .u32 s.b))
    (first | assumption | exact ⟨c12, c17⟩ | exact ⟨cell_far hgl c12, cell_far hgl c17⟩)
    (fail)
  have k12 := cell_far (j := o.at_ + (1 + s.i)) (v := .int .u32 s.b) hgl c12
  clear lc lf c11 c10 c7 c12 c17 f12 f16 f17
  have C3 : Chg (fun i => i = gl) w ((w.setCell ⟨gl, o.at_ + (1 + s.i), none⟩ (.int .u32 (s.b))).drew) := ((Chg.refl (fun i => i = gl) w).set (p := ⟨gl, o.at_ + (1 + s.i), none⟩) (.inl rfl) _).drew
  have HB3 := Lib.hid (HB.out.chg C3 (fun i hi => .inr hi) hgl)
  have L3 : Own ((w.setCell ⟨gl, o.at_ + (1 + s.i), none⟩ (.int .u32 (s.b))).drew) Bl 22 (some ⟨gl, 0, none⟩) cl ((put o l ((1 + s.i)) (s.b)).map (Value.int .u32)) := by
    have := HL.out.put (o.at_ + (1 + s.i)) (.int .u32 (s.b))
    rw [← List.map_set] at this
    exact this.same (Same.refl _).drew
  have HL3 := Lib.hid L3
  have HC3 : Hid (Chg (fun i => ¬ N i) w ((w.setCell ⟨gl, o.at_ + (1 + s.i), none⟩ (.int .u32 (s.b))).drew)) := Lib.hid (C3.weak fun i _ hi => hi ▸ hNl)
  clear C3 L3
  have f12 := HB3.out.thaw 12
  generalize (w.setCell ⟨gl, o.at_ + (1 + s.i), none⟩ (.int .u32 (s.b))).drew = w3 at *
  have HR2 := HB3
  have HC2 := Lib.hid (Chg.refl (fun i => i = g) w3)
  go_wp2_with fail
  have R3 := HR2.out.set_i (s.i + 1)
  have hc3 := HC2.out.set (p := ⟨g, 12, none⟩) (.inl rfl) (.int .i64 ((s.i + 1 : Nat) : Int))
  rw [← HES.out] at R3 hc3
  have HR3 := Lib.hid R3
  have HCC := Lib.hid hc3
  clear R3 hc3 HR2 HC2
  generalize w3.setCell ⟨g, 12, none⟩ (.int .i64 ((s.i : Int) + 1)) = w4 at *
  refine (rend_any _ HR3.out (by rw [hx.1]; decide) o.wr (by rw [hwr]; rfl) 0).mono ?_
  rintro e w6 ⟨rfl, R6, c6⟩
  have HR6 := Lib.hid R6
  have HC6 := Lib.hid (HCC.out.trans c6)
  clear R6 c6
  go_wp2
  go_end0
  rw [E4.out, ← hwr, dc_wr hwr]
  exact ⟨rfl, HR6.out, HL3.out.chg HC6.out (fun b' hb he => hgl (by injection hb with hb; injection hb with hb; rw [hb]; exact he.symm)), HC3.out.trans (HC6.out.weak fun i _ hi => hi ▸ hgm)⟩

set_option maxHeartbeats 1000000 in
theorem rew4n (w : World) (h : RB N gl w g x o.at_ op rd (dc o s) A c) (hl : Own w Bl 22 (some ⟨gl, 0, none⟩) cl (l.map (Value.int .u32))) (hgl : g ≠ gl) (hN : ∀ i, N i → i < w.heap.size) (hNl : ¬ N gl)
    (n cc : Nat) (hsz : 1 + o.n + Op.csl o * o.width ≤ n) (hn : n ≤ 5000) (hcc : n ≤ cc) (hln : o.at_ + n ≤ l.length) (hwl : Op.Wd l) (ok : Op.chenOk o s) (hov : s.over = false) (hop : op = 2) (hrdr : rd = o.reader) (hwr : o.wr = true) (hrow : s.row = 4) (hx : x.k = 2 ∧ x.wd = o.width ∧ x.cp = o.cap ∧ x.sl = o.slots ∧ x.rl = o.n) (hW : Op.chenAl o)  (hcas : ¬ gd l (o.at_ + (1 + s.i)) = (Op.csl o : Int)) (hlt : s.i + 1 < o.n):
    Calls Tryd.prog 56 #[.pointer (some ⟨g, 0, none⟩), .slice (some ⟨gl, o.at_, none⟩) n cc] w (Leaves N gl g x o.at_ op rd Bl cl (dc o (Op.chenW o s l).1, (Op.chenW o s l).2) w) := by
  subst hrdr
  subst hop
  obtain ⟨hu20, hab, hbb, hrd, htr, ok⟩ := ok
  obtain ⟨⟨w1, w8⟩, ⟨n1, n4⟩, rdn⟩ := hW
  have hcsl : Op.csl o = o.n + 2 := rfl
  have hpos : 0 < Op.csl o * o.width := Nat.mul_pos (by omega) w1
  have dr : dc o s = { s with a := 0 } := dc_wr hwr s
  rw [dr] at h
  have c11 : w.cell? ⟨g, 11, none⟩ = some (.int .i64 s.row) := h.mid.2.2.2.1
  rw [hrow] at c11
  have c12 : w.cell? ⟨g, 12, none⟩ = some (.int .i64 s.i) := h.mid.2.2.2.2.1
  have c10 : w.cell? ⟨g, 10, none⟩ = some (.int .i64 o.reader) := h.mid.2.2.1
  have c7 := h.obj.2.2.2.2.2.2.2
  rw [hx.2.2.2.2] at c7
  have f16 := h.thaw 16
  have f17 := h.thaw 17
  have f12 := h.thaw 12
  have hgm := h.mine
  have u2 : IntKind.i64.wrap ((o.n : Int) + 2) = (o.n : Int) + 2 := Go.IntWalk.i64_in _ (by omega)
  have u1 := Ch.u32_in ((o.n : Int) + 2) (by omega)
  have fm : IntKind.i64.wrap (1 + (o.reader : Int)) = 1 + o.reader := Go.IntWalk.i64_in _ (by omega)
  obtain ⟨_, _, _, _, _, _, q4, _⟩ := (ok hov).2.1 hwr
  have hi := q4 hrow
  have hy := hwl.get o (1 + s.i)
  rw [Op.get_gd] at hy
  obtain ⟨y, ey⟩ : ∃ y, y = gd l (o.at_ + (1 + s.i)) := ⟨_, rfl⟩
  have lc := own_cell hl (o.at_ + (1 + s.i)) (by omega)
  obtain ⟨lc, lf⟩ := lc
  rw [← ey] at lc hy
  have f1 : IntKind.i64.wrap (1 + (s.i : Int)) = 1 + s.i := Go.IntWalk.i64_in _ (by omega)
  have f2 : (1 + (s.i : Int)).toNat = 1 + s.i := by omega
  have f3 : (0 : Int) ≤ 1 + s.i := by omega
  have f4 : 1 + (s.i : Int) < n := by omega
  have f5 : IntKind.i64.wrap ((s.i : Int) + 1) = s.i + 1 := Go.IntWalk.i64_in _ (by omega)
  have b1 : ((s.i : Int) + 1 == (o.n : Int)) = false := by simp; omega
  have b1' : (((s.i + 1 : Nat) : Int) == (o.n : Int)) = false := by simp; omega
  have es : ((s.i : Int) + 1) = ((s.i + 1 : Nat) : Int) := by omega
  have c17 : w.cell? ⟨g, 17, none⟩ = some (.int .u32 s.b) := h.mid.2.2.2.2.2.2.2.2.2
  have hg : ¬ Op.get o l (1 + s.i) = (Op.csl o : Int) := hcas
  rw [← ey] at hcas
  have b2 : (y == ((o.n : Int) + 2)) = false := by rw [hcsl] at hcas; simp; omega
  have e4 : Op.chenW o s l = ({ s with i := s.i + 1 }, l) := by
    simp only [Op.chenW, hrow, Op.casP, hg, hlt, ↓reduceIte]
  have HES := Lib.hid es
  clear ey hg hcas q4 es
  have E4 := Lib.hid e4
  have HB := Lib.hid h
  have HL := Lib.hid hl
  have HROW := Lib.hid hrow
  have HNW := Lib.hid hN
  clear e4 h hl hN ok hrow
  go_enter Tryd.func56, Tryd.ntmps56
  go_wp2_with fail
  have HR2 := HB
  have HC2 := Lib.hid (Chg.refl (fun i => i = g) w)
  clear lc lf
  have R3 := HR2.out.set_i (s.i + 1)
  have hc3 := HC2.out.set (p := ⟨g, 12, none⟩) (.inl rfl) (.int .i64 ((s.i + 1 : Nat) : Int))
  rw [← HES.out] at R3 hc3
  have HR3 := Lib.hid R3
  have HCC := Lib.hid hc3
  clear R3 hc3 HR2 HC2
  go_end0
  rw [E4.out, dc_wr hwr]
  exact ⟨rfl, ⟨_, _, HR3.out⟩, HL.out.chg HCC.out (fun b' hb he => hgl (by injection hb with hb; injection hb with hb; rw [hb]; exact he.symm)), HCC.out.weak fun i _ hi => hi ▸ hgm⟩

set_option maxHeartbeats 1000000 in
theorem rew4nl (w : World) (h : RB N gl w g x o.at_ op rd (dc o s) A c) (hl : Own w Bl 22 (some ⟨gl, 0, none⟩) cl (l.map (Value.int .u32))) (hgl : g ≠ gl) (hN : ∀ i, N i → i < w.heap.size) (hNl : ¬ N gl)
    (n cc : Nat) (hsz : 1 + o.n + Op.csl o * o.width ≤ n) (hn : n ≤ 5000) (hcc : n ≤ cc) (hln : o.at_ + n ≤ l.length) (hwl : Op.Wd l) (ok : Op.chenOk o s) (hov : s.over = false) (hop : op = 2) (hrdr : rd = o.reader) (hwr : o.wr = true) (hrow : s.row = 4) (hx : x.k = 2 ∧ x.wd = o.width ∧ x.cp = o.cap ∧ x.sl = o.slots ∧ x.rl = o.n) (hW : Op.chenAl o)  (hcas : ¬ gd l (o.at_ + (1 + s.i)) = (Op.csl o : Int)) (hlt : ¬ s.i + 1 < o.n):
    Calls Tryd.prog 56 #[.pointer (some ⟨g, 0, none⟩), .slice (some ⟨gl, o.at_, none⟩) n cc] w (Leaves N gl g x o.at_ op rd Bl cl (dc o (Op.chenW o s l).1, (Op.chenW o s l).2) w) := by
  subst hrdr
  subst hop
  obtain ⟨hu20, hab, hbb, hrd, htr, ok⟩ := ok
  obtain ⟨⟨w1, w8⟩, ⟨n1, n4⟩, rdn⟩ := hW
  have hcsl : Op.csl o = o.n + 2 := rfl
  have hpos : 0 < Op.csl o * o.width := Nat.mul_pos (by omega) w1
  have dr : dc o s = { s with a := 0 } := dc_wr hwr s
  rw [dr] at h
  have c11 : w.cell? ⟨g, 11, none⟩ = some (.int .i64 s.row) := h.mid.2.2.2.1
  rw [hrow] at c11
  have c12 : w.cell? ⟨g, 12, none⟩ = some (.int .i64 s.i) := h.mid.2.2.2.2.1
  have c10 : w.cell? ⟨g, 10, none⟩ = some (.int .i64 o.reader) := h.mid.2.2.1
  have c7 := h.obj.2.2.2.2.2.2.2
  rw [hx.2.2.2.2] at c7
  have f16 := h.thaw 16
  have f17 := h.thaw 17
  have f12 := h.thaw 12
  have hgm := h.mine
  have u2 : IntKind.i64.wrap ((o.n : Int) + 2) = (o.n : Int) + 2 := Go.IntWalk.i64_in _ (by omega)
  have u1 := Ch.u32_in ((o.n : Int) + 2) (by omega)
  have fm : IntKind.i64.wrap (1 + (o.reader : Int)) = 1 + o.reader := Go.IntWalk.i64_in _ (by omega)
  obtain ⟨_, _, _, _, _, _, q4, _⟩ := (ok hov).2.1 hwr
  have hi := q4 hrow
  have hy := hwl.get o (1 + s.i)
  rw [Op.get_gd] at hy
  obtain ⟨y, ey⟩ : ∃ y, y = gd l (o.at_ + (1 + s.i)) := ⟨_, rfl⟩
  have lc := own_cell hl (o.at_ + (1 + s.i)) (by omega)
  obtain ⟨lc, lf⟩ := lc
  rw [← ey] at lc hy
  have f1 : IntKind.i64.wrap (1 + (s.i : Int)) = 1 + s.i := Go.IntWalk.i64_in _ (by omega)
  have f2 : (1 + (s.i : Int)).toNat = 1 + s.i := by omega
  have f3 : (0 : Int) ≤ 1 + s.i := by omega
  have f4 : 1 + (s.i : Int) < n := by omega
  have f5 : IntKind.i64.wrap ((s.i : Int) + 1) = s.i + 1 := Go.IntWalk.i64_in _ (by omega)
  have b1 : ((s.i : Int) + 1 == (o.n : Int)) = true := by simp; omega
  have b1' : (((s.i + 1 : Nat) : Int) == (o.n : Int)) = true := by simp; omega
  have es : ((s.i : Int) + 1) = ((s.i + 1 : Nat) : Int) := by omega
  have c17 : w.cell? ⟨g, 17, none⟩ = some (.int .u32 s.b) := h.mid.2.2.2.2.2.2.2.2.2
  have hg : ¬ Op.get o l (1 + s.i) = (Op.csl o : Int) := hcas
  rw [← ey] at hcas
  have b2 : (y == ((o.n : Int) + 2)) = false := by rw [hcsl] at hcas; simp; omega
  have e4 : Op.chenW o s l = (({ s with i := s.i + 1 } : Op.St).fin true 0, l) := by
    simp only [Op.chenW, hrow, Op.casP, hg, hlt, ↓reduceIte]
  have HES := Lib.hid es
  clear ey hg hcas q4 es
  have E4 := Lib.hid e4
  have HB := Lib.hid h
  have HL := Lib.hid hl
  have HROW := Lib.hid hrow
  have HNW := Lib.hid hN
  clear e4 h hl hN ok hrow
  go_enter Tryd.func56, Tryd.ntmps56
  go_wp2_with fail
  have HR2 := HB
  have HC2 := Lib.hid (Chg.refl (fun i => i = g) w)
  clear lc lf
  have R3 := HR2.out.set_i (s.i + 1)
  have hc3 := HC2.out.set (p := ⟨g, 12, none⟩) (.inl rfl) (.int .i64 ((s.i + 1 : Nat) : Int))
  rw [← HES.out] at R3 hc3
  have HR3 := Lib.hid R3
  have HCC := Lib.hid hc3
  clear R3 hc3 HR2 HC2
  generalize w.setCell ⟨g, 12, none⟩ (.int .i64 ((s.i : Int) + 1)) = w4 at *
  refine (rend_any _ HR3.out (by rw [hx.1]; decide) o.wr (by rw [hwr]; rfl) 0).mono ?_
  rintro e w6 ⟨rfl, R6, c6⟩
  have HR6 := Lib.hid R6
  have HC6 := Lib.hid (HCC.out.trans c6)
  clear R6 c6
  go_wp2
  go_end0
  rw [E4.out, ← hwr, dc_wr hwr]
  exact ⟨rfl, HR6.out, HL.out.chg HC6.out (fun b' hb he => hgl (by injection hb with hb; injection hb with hb; rw [hb]; exact he.symm)), HC6.out.weak fun i _ hi => hi ▸ hgm⟩

set_option maxHeartbeats 1000000 in
theorem rer0 (w : World) (h : RB N gl w g x o.at_ op rd (dc o s) A c) (hl : Own w Bl 22 (some ⟨gl, 0, none⟩) cl (l.map (Value.int .u32))) (hgl : g ≠ gl) (hN : ∀ i, N i → i < w.heap.size) (hNl : ¬ N gl)
    (n cc : Nat) (hsz : 1 + o.n + Op.csl o * o.width ≤ n) (hn : n ≤ 5000) (hcc : n ≤ cc) (hln : o.at_ + n ≤ l.length) (hwl : Op.Wd l) (ok : Op.chenOk o s) (hov : s.over = false) (hop : op = 1) (hrdr : rd = o.reader) (hwr : o.wr = false) (hrow : s.row = 0) (hx : x.k = 2 ∧ x.wd = o.width ∧ x.cp = o.cap ∧ x.sl = o.slots ∧ x.rl = o.n) (hW : Op.chenAl o) :
    Calls Tryd.prog 57 #[.pointer (some ⟨g, 0, none⟩), .slice (some ⟨gl, o.at_, none⟩) n cc] w (Leaves N gl g x o.at_ op rd Bl cl (dc o (Op.chenR o s l).1, (Op.chenR o s l).2) w) := by
  subst hrdr
  subst hop
  obtain ⟨hu20, hab, hbb, hrd, htr, ok⟩ := ok
  obtain ⟨⟨w1, w8⟩, ⟨n1, n4⟩, rdn⟩ := hW
  have hcsl : Op.csl o = o.n + 2 := rfl
  have hpos : 0 < Op.csl o * o.width := Nat.mul_pos (by omega) w1
  have dr : dc o s = s := dc_rd hwr s
  rw [dr] at h
  have c11 : w.cell? ⟨g, 11, none⟩ = some (.int .i64 s.row) := h.mid.2.2.2.1
  rw [hrow] at c11
  have c12 : w.cell? ⟨g, 12, none⟩ = some (.int .i64 s.i) := h.mid.2.2.2.2.1
  have c10 : w.cell? ⟨g, 10, none⟩ = some (.int .i64 o.reader) := h.mid.2.2.1
  have c7 := h.obj.2.2.2.2.2.2.2
  rw [hx.2.2.2.2] at c7
  have f16 := h.thaw 16
  have f17 := h.thaw 17
  have f12 := h.thaw 12
  have hgm := h.mine
  have u2 : IntKind.i64.wrap ((o.n : Int) + 2) = (o.n : Int) + 2 := Go.IntWalk.i64_in _ (by omega)
  have u1 := Ch.u32_in ((o.n : Int) + 2) (by omega)
  have fm : IntKind.i64.wrap (1 + (o.reader : Int)) = 1 + o.reader := Go.IntWalk.i64_in _ (by omega)
  have fm2 : (1 + (o.reader : Int)).toNat = 1 + o.reader := by omega
  have fm3 : (0 : Int) ≤ 1 + o.reader := by omega
  have fm4 : 1 + (o.reader : Int) < n := by omega
  have lm := own_cell hl (o.at_ + (1 + o.reader)) (by omega)
  obtain ⟨lm, lmf⟩ := lm
  have e4 : Op.chenR o s l = (s.to 1, put o l (1 + o.reader) ((o.n : Int) + 2)) := by simp [Op.chenR, hrow, hcsl]
  have E4 := Lib.hid e4
  have HB := Lib.hid h
  have HL := Lib.hid hl
  have HROW := Lib.hid hrow
  have HNW := Lib.hid hN
  clear e4 h hl hN ok hrow
  go_enter Tryd.func57, Tryd.ntmps57
  go_wp2_with fail
  clear lm lmf
  have C3 : Chg (fun i => i = gl) w (w.setCell ⟨gl, o.at_ + (1 + o.reader), none⟩ (.int .u32 ((o.n : Int) + 2))) := ((Chg.refl (fun i => i = gl) w).set (p := ⟨gl, o.at_ + (1 + o.reader), none⟩) (.inl rfl) _)
  have HB3 := Lib.hid (HB.out.chg C3 (fun i hi => .inr hi) hgl)
  have L3 : Own (w.setCell ⟨gl, o.at_ + (1 + o.reader), none⟩ (.int .u32 ((o.n : Int) + 2))) Bl 22 (some ⟨gl, 0, none⟩) cl ((put o l ((1 + o.reader)) ((o.n : Int) + 2)).map (Value.int .u32)) := by
    have := HL.out.put (o.at_ + (1 + o.reader)) (.int .u32 ((o.n : Int) + 2))
    rw [← List.map_set] at this
    exact this
  have HL3 := Lib.hid L3
  have HC3 : Hid (Chg (fun i => ¬ N i) w (w.setCell ⟨gl, o.at_ + (1 + o.reader), none⟩ (.int .u32 ((o.n : Int) + 2)))) := Lib.hid (C3.weak fun i _ hi => hi ▸ hNl)
  clear C3 L3
  generalize w.setCell ⟨gl, o.at_ + (1 + o.reader), none⟩ (.int .u32 ((o.n : Int) + 2)) = w3 at *
  refine (rto_lit _ HB3.out 1 1 rfl).mono ?_
  rintro e w6 ⟨rfl, R6, c6⟩
  have HR6 := Lib.hid R6
  have HC6 := Lib.hid c6
  clear R6 c6
  go_wp2
  go_end0
  rw [E4.out, dc_rd hwr]
  exact ⟨rfl, ⟨_, _, HR6.out⟩, HL3.out.chg HC6.out (fun b' hb he => hgl (by injection hb with hb; injection hb with hb; rw [hb]; exact he.symm)), HC3.out.trans (HC6.out.weak fun i _ hi => hi ▸ hgm)⟩

set_option maxHeartbeats 1000000 in
theorem rer1 (w : World) (h : RB N gl w g x o.at_ op rd (dc o s) A c) (hl : Own w Bl 22 (some ⟨gl, 0, none⟩) cl (l.map (Value.int .u32))) (hgl : g ≠ gl) (hN : ∀ i, N i → i < w.heap.size) (hNl : ¬ N gl)
    (n cc : Nat) (hsz : 1 + o.n + Op.csl o * o.width ≤ n) (hn : n ≤ 5000) (hcc : n ≤ cc) (hln : o.at_ + n ≤ l.length) (hwl : Op.Wd l) (ok : Op.chenOk o s) (hov : s.over = false) (hop : op = 1) (hrdr : rd = o.reader) (hwr : o.wr = false) (hrow : s.row = 1) (hx : x.k = 2 ∧ x.wd = o.width ∧ x.cp = o.cap ∧ x.sl = o.slots ∧ x.rl = o.n) (hW : Op.chenAl o) :
    Calls Tryd.prog 57 #[.pointer (some ⟨g, 0, none⟩), .slice (some ⟨gl, o.at_, none⟩) n cc] w (Leaves N gl g x o.at_ op rd Bl cl (dc o (Op.chenR o s l).1, (Op.chenR o s l).2) w) := by
  subst hrdr
  subst hop
  obtain ⟨hu20, hab, hbb, hrd, htr, ok⟩ := ok
  obtain ⟨⟨w1, w8⟩, ⟨n1, n4⟩, rdn⟩ := hW
  have hcsl : Op.csl o = o.n + 2 := rfl
  have hpos : 0 < Op.csl o * o.width := Nat.mul_pos (by omega) w1
  have dr : dc o s = s := dc_rd hwr s
  rw [dr] at h
  have c11 : w.cell? ⟨g, 11, none⟩ = some (.int .i64 s.row) := h.mid.2.2.2.1
  rw [hrow] at c11
  have c12 : w.cell? ⟨g, 12, none⟩ = some (.int .i64 s.i) := h.mid.2.2.2.2.1
  have c10 : w.cell? ⟨g, 10, none⟩ = some (.int .i64 o.reader) := h.mid.2.2.1
  have c7 := h.obj.2.2.2.2.2.2.2
  rw [hx.2.2.2.2] at c7
  have f16 := h.thaw 16
  have f17 := h.thaw 17
  have f12 := h.thaw 12
  have hgm := h.mine
  have u2 : IntKind.i64.wrap ((o.n : Int) + 2) = (o.n : Int) + 2 := Go.IntWalk.i64_in _ (by omega)
  have u1 := Ch.u32_in ((o.n : Int) + 2) (by omega)
  have fm : IntKind.i64.wrap (1 + (o.reader : Int)) = 1 + o.reader := Go.IntWalk.i64_in _ (by omega)
  have hy := hwl.get o 0
  rw [Op.get_gd] at hy
  obtain ⟨y, ey⟩ : ∃ y, y = gd l (o.at_) := ⟨_, rfl⟩
  have lc := (own_cell hl (o.at_) (by omega)).1
  have e0 : o.at_ + 0 = o.at_ := rfl
  rw [e0] at hy
  rw [← ey] at lc hy
  have hn1 : (0 : Int) < n := by omega
  have hn0 : 0 < n := by omega
  have c16 : w.cell? ⟨g, 16, none⟩ = some (.int .u32 s.a) := h.mid.2.2.2.2.2.2.2.2.1
  have e4 : Op.chenR o s l = ({ s.to 2 with a := y }, l) := by simp [Op.chenR, hrow, Op.get_gd, ← ey]
  clear ey
  have E4 := Lib.hid e4
  have HB := Lib.hid h
  have HL := Lib.hid hl
  have HROW := Lib.hid hrow
  have HNW := Lib.hid hN
  clear e4 h hl hN ok hrow
  go_enter Tryd.func57, Tryd.ntmps57
  go_wp2_with fail
  have HR5 := Lib.hid (HB.out.set_a y)
  have HCC := Lib.hid ((Chg.refl (fun i => i = g) w).set (p := ⟨g, 16, none⟩) (.inl rfl) (.int .u32 y))
  refine (rto_lit _ HR5.out 2 2 rfl).mono ?_
  rintro e w9 ⟨rfl, R9, c9⟩
  have HR9 := Lib.hid R9
  have HC9 := Lib.hid (HCC.out.trans c9)
  clear R9 c9
  go_wp2
  go_end0
  rw [E4.out, dc_rd hwr]
  exact ⟨rfl, ⟨_, _, HR9.out⟩, HL.out.chg HC9.out (fun b' hb he => hgl (by injection hb with hb; injection hb with hb; rw [hb]; exact he.symm)), HC9.out.weak fun i _ hi => hi ▸ hgm⟩

set_option maxHeartbeats 1000000 in
theorem rer2c (w : World) (h : RB N gl w g x o.at_ op rd (dc o s) A c) (hl : Own w Bl 22 (some ⟨gl, 0, none⟩) cl (l.map (Value.int .u32))) (hgl : g ≠ gl) (hN : ∀ i, N i → i < w.heap.size) (hNl : ¬ N gl)
    (n cc : Nat) (hsz : 1 + o.n + Op.csl o * o.width ≤ n) (hn : n ≤ 5000) (hcc : n ≤ cc) (hln : o.at_ + n ≤ l.length) (hwl : Op.Wd l) (ok : Op.chenOk o s) (hov : s.over = false) (hop : op = 1) (hrdr : rd = o.reader) (hwr : o.wr = false) (hrow : s.row = 2) (hx : x.k = 2 ∧ x.wd = o.width ∧ x.cp = o.cap ∧ x.sl = o.slots ∧ x.rl = o.n) (hW : Op.chenAl o)  (hcas : gd l (o.at_ + (1 + o.reader)) = (Op.csl o : Int)):
    Calls Tryd.prog 57 #[.pointer (some ⟨g, 0, none⟩), .slice (some ⟨gl, o.at_, none⟩) n cc] w (Leaves N gl g x o.at_ op rd Bl cl (dc o (Op.chenR o s l).1, (Op.chenR o s l).2) w) := by
  subst hrdr
  subst hop
  obtain ⟨hu20, hab, hbb, hrd, htr, ok⟩ := ok
  obtain ⟨⟨w1, w8⟩, ⟨n1, n4⟩, rdn⟩ := hW
  have hcsl : Op.csl o = o.n + 2 := rfl
  have hpos : 0 < Op.csl o * o.width := Nat.mul_pos (by omega) w1
  have dr : dc o s = s := dc_rd hwr s
  rw [dr] at h
  have c11 : w.cell? ⟨g, 11, none⟩ = some (.int .i64 s.row) := h.mid.2.2.2.1
  rw [hrow] at c11
  have c12 : w.cell? ⟨g, 12, none⟩ = some (.int .i64 s.i) := h.mid.2.2.2.2.1
  have c10 : w.cell? ⟨g, 10, none⟩ = some (.int .i64 o.reader) := h.mid.2.2.1
  have c7 := h.obj.2.2.2.2.2.2.2
  rw [hx.2.2.2.2] at c7
  have f16 := h.thaw 16
  have f17 := h.thaw 17
  have f12 := h.thaw 12
  have hgm := h.mine
  have u2 : IntKind.i64.wrap ((o.n : Int) + 2) = (o.n : Int) + 2 := Go.IntWalk.i64_in _ (by omega)
  have u1 := Ch.u32_in ((o.n : Int) + 2) (by omega)
  have fm : IntKind.i64.wrap (1 + (o.reader : Int)) = 1 + o.reader := Go.IntWalk.i64_in _ (by omega)
  have fm2 : (1 + (o.reader : Int)).toNat = 1 + o.reader := by omega
  have fm3 : (0 : Int) ≤ 1 + o.reader := by omega
  have fm4 : 1 + (o.reader : Int) < n := by omega
  have lm := own_cell hl (o.at_ + (1 + o.reader)) (by omega)
  obtain ⟨lm, lmf⟩ := lm
  have hy := hwl.get o (1 + o.reader)
  rw [Op.get_gd] at hy
  obtain ⟨y, ey⟩ : ∃ y, y = gd l (o.at_ + (1 + o.reader)) := ⟨_, rfl⟩
  rw [← ey] at lm hy
  have c16 : w.cell? ⟨g, 16, none⟩ = some (.int .u32 s.a) := h.mid.2.2.2.2.2.2.2.2.1
  have hg : Op.get o l (1 + o.reader) = (Op.csl o : Int) := hcas
  rw [← ey] at hcas
  have b2 : (y == ((o.n : Int) + 2)) = true := by rw [hcsl] at hcas; simp; omega
  have e4 : Op.chenR o s l = (s.to 3, put o l (1 + o.reader) s.a) := by
    simp only [Op.chenR, hrow, Op.casP, hg, ↓reduceIte]
  clear ey hg hcas
  have E4 := Lib.hid e4
  have HB := Lib.hid h
  have HL := Lib.hid hl
  have HROW := Lib.hid hrow
  have HNW := Lib.hid hN
  clear e4 h hl hN ok hrow
  go_enter Tryd.func57, Tryd.ntmps57
  go_wp2_with fail
  clear lm lmf
  have C3 : Chg (fun i => i = gl) w (w.setCell ⟨gl, o.at_ + (1 + o.reader), none⟩ (.int .u32 (s.a))) := ((Chg.refl (fun i => i = gl) w).set (p := ⟨gl, o.at_ + (1 + o.reader), none⟩) (.inl rfl) _)
  have HB3 := Lib.hid (HB.out.chg C3 (fun i hi => .inr hi) hgl)
  have L3 : Own (w.setCell ⟨gl, o.at_ + (1 + o.reader), none⟩ (.int .u32 (s.a))) Bl 22 (some ⟨gl, 0, none⟩) cl ((put o l ((1 + o.reader)) (s.a)).map (Value.int .u32)) := by
    have := HL.out.put (o.at_ + (1 + o.reader)) (.int .u32 (s.a))
    rw [← List.map_set] at this
    exact this
  have HL3 := Lib.hid L3
  have HC3 : Hid (Chg (fun i => ¬ N i) w (w.setCell ⟨gl, o.at_ + (1 + o.reader), none⟩ (.int .u32 (s.a)))) := Lib.hid (C3.weak fun i _ hi => hi ▸ hNl)
  clear C3 L3
  generalize w.setCell ⟨gl, o.at_ + (1 + o.reader), none⟩ (.int .u32 (s.a)) = w3 at *
  refine (rto_lit _ HB3.out 3 3 rfl).mono ?_
  rintro e w6 ⟨rfl, R6, c6⟩
  have HR6 := Lib.hid R6
  have HC6 := Lib.hid c6
  clear R6 c6
  go_wp2
  go_end0
  rw [E4.out, dc_rd hwr]
  exact ⟨rfl, ⟨_, _, HR6.out⟩, HL3.out.chg HC6.out (fun b' hb he => hgl (by injection hb with hb; injection hb with hb; rw [hb]; exact he.symm)), HC3.out.trans (HC6.out.weak fun i _ hi => hi ▸ hgm)⟩

set_option maxHeartbeats 1000000 in
theorem rer2n (w : World) (h : RB N gl w g x o.at_ op rd (dc o s) A c) (hl : Own w Bl 22 (some ⟨gl, 0, none⟩) cl (l.map (Value.int .u32))) (hgl : g ≠ gl) (hN : ∀ i, N i → i < w.heap.size) (hNl : ¬ N gl)
    (n cc : Nat) (hsz : 1 + o.n + Op.csl o * o.width ≤ n) (hn : n ≤ 5000) (hcc : n ≤ cc) (hln : o.at_ + n ≤ l.length) (hwl : Op.Wd l) (ok : Op.chenOk o s) (hov : s.over = false) (hop : op = 1) (hrdr : rd = o.reader) (hwr : o.wr = false) (hrow : s.row = 2) (hx : x.k = 2 ∧ x.wd = o.width ∧ x.cp = o.cap ∧ x.sl = o.slots ∧ x.rl = o.n) (hW : Op.chenAl o)  (hcas : ¬ gd l (o.at_ + (1 + o.reader)) = (Op.csl o : Int)):
    Calls Tryd.prog 57 #[.pointer (some ⟨g, 0, none⟩), .slice (some ⟨gl, o.at_, none⟩) n cc] w (Leaves N gl g x o.at_ op rd Bl cl (dc o (Op.chenR o s l).1, (Op.chenR o s l).2) w) := by
  subst hrdr
  subst hop
  obtain ⟨hu20, hab, hbb, hrd, htr, ok⟩ := ok
  obtain ⟨⟨w1, w8⟩, ⟨n1, n4⟩, rdn⟩ := hW
  have hcsl : Op.csl o = o.n + 2 := rfl
  have hpos : 0 < Op.csl o * o.width := Nat.mul_pos (by omega) w1
  have dr : dc o s = s := dc_rd hwr s
  rw [dr] at h
  have c11 : w.cell? ⟨g, 11, none⟩ = some (.int .i64 s.row) := h.mid.2.2.2.1
  rw [hrow] at c11
  have c12 : w.cell? ⟨g, 12, none⟩ = some (.int .i64 s.i) := h.mid.2.2.2.2.1
  have c10 : w.cell? ⟨g, 10, none⟩ = some (.int .i64 o.reader) := h.mid.2.2.1
  have c7 := h.obj.2.2.2.2.2.2.2
  rw [hx.2.2.2.2] at c7
  have f16 := h.thaw 16
  have f17 := h.thaw 17
  have f12 := h.thaw 12
  have hgm := h.mine
  have u2 : IntKind.i64.wrap ((o.n : Int) + 2) = (o.n : Int) + 2 := Go.IntWalk.i64_in _ (by omega)
  have u1 := Ch.u32_in ((o.n : Int) + 2) (by omega)
  have fm : IntKind.i64.wrap (1 + (o.reader : Int)) = 1 + o.reader := Go.IntWalk.i64_in _ (by omega)
  have fm2 : (1 + (o.reader : Int)).toNat = 1 + o.reader := by omega
  have fm3 : (0 : Int) ≤ 1 + o.reader := by omega
  have fm4 : 1 + (o.reader : Int) < n := by omega
  have lm := own_cell hl (o.at_ + (1 + o.reader)) (by omega)
  obtain ⟨lm, lmf⟩ := lm
  have hy := hwl.get o (1 + o.reader)
  rw [Op.get_gd] at hy
  obtain ⟨y, ey⟩ : ∃ y, y = gd l (o.at_ + (1 + o.reader)) := ⟨_, rfl⟩
  rw [← ey] at lm hy
  have c16 : w.cell? ⟨g, 16, none⟩ = some (.int .u32 s.a) := h.mid.2.2.2.2.2.2.2.2.1
  have hg : ¬ Op.get o l (1 + o.reader) = (Op.csl o : Int) := hcas
  rw [← ey] at hcas
  have b2 : (y == ((o.n : Int) + 2)) = false := by rw [hcsl] at hcas; simp; omega
  have e4 : Op.chenR o s l = (s.to 3, l) := by
    simp only [Op.chenR, hrow, Op.casP, hg, ↓reduceIte]
  clear ey hg hcas
  have E4 := Lib.hid e4
  have HB := Lib.hid h
  have HL := Lib.hid hl
  have HROW := Lib.hid hrow
  have HNW := Lib.hid hN
  clear e4 h hl hN ok hrow
  go_enter Tryd.func57, Tryd.ntmps57
  go_wp2_with fail
  have HCC := Lib.hid (Chg.refl (fun i => i = g) w)
  refine (rto_lit _ HB.out 3 3 rfl).mono ?_
  rintro e w9 ⟨rfl, R9, c9⟩
  have HR9 := Lib.hid R9
  have HC9 := Lib.hid (HCC.out.trans c9)
  clear R9 c9
  go_wp2
  go_end0
  rw [E4.out, dc_rd hwr]
  exact ⟨rfl, ⟨_, _, HR9.out⟩, HL.out.chg HC9.out (fun b' hb he => hgl (by injection hb with hb; injection hb with hb; rw [hb]; exact he.symm)), HC9.out.weak fun i _ hi => hi ▸ hgm⟩

set_option maxHeartbeats 1000000 in
theorem rer3 (w : World) (h : RB N gl w g x o.at_ op rd (dc o s) A c) (hl : Own w Bl 22 (some ⟨gl, 0, none⟩) cl (l.map (Value.int .u32))) (hgl : g ≠ gl) (hN : ∀ i, N i → i < w.heap.size) (hNl : ¬ N gl)
    (n cc : Nat) (hsz : 1 + o.n + Op.csl o * o.width ≤ n) (hn : n ≤ 5000) (hcc : n ≤ cc) (hln : o.at_ + n ≤ l.length) (hwl : Op.Wd l) (ok : Op.chenOk o s) (hov : s.over = false) (hop : op = 1) (hrdr : rd = o.reader) (hwr : o.wr = false) (hrow : s.row = 3) (hx : x.k = 2 ∧ x.wd = o.width ∧ x.cp = o.cap ∧ x.sl = o.slots ∧ x.rl = o.n) (hW : Op.chenAl o) :
    Calls Tryd.prog 57 #[.pointer (some ⟨g, 0, none⟩), .slice (some ⟨gl, o.at_, none⟩) n cc] w (Leaves N gl g x o.at_ op rd Bl cl (dc o (Op.chenR o s l).1, (Op.chenR o s l).2) w) := by
  subst hrdr
  subst hop
  obtain ⟨hu20, hab, hbb, hrd, htr, ok⟩ := ok
  obtain ⟨⟨w1, w8⟩, ⟨n1, n4⟩, rdn⟩ := hW
  have hcsl : Op.csl o = o.n + 2 := rfl
  have hpos : 0 < Op.csl o * o.width := Nat.mul_pos (by omega) w1
  have dr : dc o s = s := dc_rd hwr s
  rw [dr] at h
  have c11 : w.cell? ⟨g, 11, none⟩ = some (.int .i64 s.row) := h.mid.2.2.2.1
  rw [hrow] at c11
  have c12 : w.cell? ⟨g, 12, none⟩ = some (.int .i64 s.i) := h.mid.2.2.2.2.1
  have c10 : w.cell? ⟨g, 10, none⟩ = some (.int .i64 o.reader) := h.mid.2.2.1
  have c7 := h.obj.2.2.2.2.2.2.2
  rw [hx.2.2.2.2] at c7
  have f16 := h.thaw 16
  have f17 := h.thaw 17
  have f12 := h.thaw 12
  have hgm := h.mine
  have u2 : IntKind.i64.wrap ((o.n : Int) + 2) = (o.n : Int) + 2 := Go.IntWalk.i64_in _ (by omega)
  have u1 := Ch.u32_in ((o.n : Int) + 2) (by omega)
  have fm : IntKind.i64.wrap (1 + (o.reader : Int)) = 1 + o.reader := Go.IntWalk.i64_in _ (by omega)
  have fm2 : (1 + (o.reader : Int)).toNat = 1 + o.reader := by omega
  have fm3 : (0 : Int) ≤ 1 + o.reader := by omega
  have fm4 : 1 + (o.reader : Int) < n := by omega
  have lm := own_cell hl (o.at_ + (1 + o.reader)) (by omega)
  obtain ⟨lm, lmf⟩ := lm
  have hy := hwl.get o (1 + o.reader)
  rw [Op.get_gd] at hy
  obtain ⟨y, ey⟩ : ∃ y, y = gd l (o.at_ + (1 + o.reader)) := ⟨_, rfl⟩
  rw [← ey] at lm hy
  have c17 : w.cell? ⟨g, 17, none⟩ = some (.int .u32 s.b) := h.mid.2.2.2.2.2.2.2.2.2
  have s0 : ¬ ((o.n : Int) + 2) = 0 := by omega
  have s2 : (((o.n : Int) + 2) == 0) = false := by simp; omega
  have f7 : y.tmod ((o.n : Int) + 2) = y % ((o.n : Int) + 2) := Int.tmod_eq_emod_of_nonneg (by omega)
  have r0 := Int.emod_nonneg y s0
  have r1 := Int.emod_lt_of_pos y (show (0 : Int) < (o.n : Int) + 2 by omega)
  have f9 := Ch.u32_in (y % ((o.n : Int) + 2)) (by omega)
  have e4 : Op.chenR o s l = ({ s.to 4 with b := y % ((o.n : Int) + 2) }, l) := by simp [Op.chenR, hrow, Op.get_gd, ← ey, hcsl]
  clear ey
  have E4 := Lib.hid e4
  have HB := Lib.hid h
  have HL := Lib.hid hl
  have HROW := Lib.hid hrow
  have HNW := Lib.hid hN
  clear e4 h hl hN ok hrow
  go_enter Tryd.func57, Tryd.ntmps57
  go_wp2_with fail
  have HR5 := Lib.hid (HB.out.set_b (y % ((o.n : Int) + 2)))
  have HCC := Lib.hid ((Chg.refl (fun i => i = g) w).set (p := ⟨g, 17, none⟩) (.inl rfl) (.int .u32 (y % ((o.n : Int) + 2))))
  refine (rto_lit _ HR5.out 4 4 rfl).mono ?_
  rintro e w9 ⟨rfl, R9, c9⟩
  have HR9 := Lib.hid R9
  have HC9 := Lib.hid (HCC.out.trans c9)
  clear R9 c9
  go_wp2
  go_end0
  rw [E4.out, dc_rd hwr]
  exact ⟨rfl, ⟨_, _, HR9.out⟩, HL.out.chg HC9.out (fun b' hb he => hgl (by injection hb with hb; injection hb with hb; rw [hb]; exact he.symm)), HC9.out.weak fun i _ hi => hi ▸ hgm⟩

set_option maxHeartbeats 1000000 in
theorem rer4 (w : World) (h : RB N gl w g x o.at_ op rd (dc o s) A c) (hl : Own w Bl 22 (some ⟨gl, 0, none⟩) cl (l.map (Value.int .u32))) (hgl : g ≠ gl) (hN : ∀ i, N i → i < w.heap.size) (hNl : ¬ N gl)
    (n cc : Nat) (hsz : 1 + o.n + Op.csl o * o.width ≤ n) (hn : n ≤ 5000) (hcc : n ≤ cc) (hln : o.at_ + n ≤ l.length) (hwl : Op.Wd l) (ok : Op.chenOk o s) (hov : s.over = false) (hop : op = 1) (hrdr : rd = o.reader) (hwr : o.wr = false) (hrow : s.row = 4) (hx : x.k = 2 ∧ x.wd = o.width ∧ x.cp = o.cap ∧ x.sl = o.slots ∧ x.rl = o.n) (hW : Op.chenAl o) :
    Calls Tryd.prog 57 #[.pointer (some ⟨g, 0, none⟩), .slice (some ⟨gl, o.at_, none⟩) n cc] w (Leaves N gl g x o.at_ op rd Bl cl (dc o (Op.chenR o s l).1, (Op.chenR o s l).2) w) := by
  subst hrdr
  subst hop
  obtain ⟨hu20, hab, hbb, hrd, htr, ok⟩ := ok
  obtain ⟨⟨w1, w8⟩, ⟨n1, n4⟩, rdn⟩ := hW
  have hcsl : Op.csl o = o.n + 2 := rfl
  have hpos : 0 < Op.csl o * o.width := Nat.mul_pos (by omega) w1
  have dr : dc o s = s := dc_rd hwr s
  rw [dr] at h
  have c11 : w.cell? ⟨g, 11, none⟩ = some (.int .i64 s.row) := h.mid.2.2.2.1
  rw [hrow] at c11
  have c12 : w.cell? ⟨g, 12, none⟩ = some (.int .i64 s.i) := h.mid.2.2.2.2.1
  have c10 : w.cell? ⟨g, 10, none⟩ = some (.int .i64 o.reader) := h.mid.2.2.1
  have c7 := h.obj.2.2.2.2.2.2.2
  rw [hx.2.2.2.2] at c7
  have f16 := h.thaw 16
  have f17 := h.thaw 17
  have f12 := h.thaw 12
  have hgm := h.mine
  have u2 : IntKind.i64.wrap ((o.n : Int) + 2) = (o.n : Int) + 2 := Go.IntWalk.i64_in _ (by omega)
  have u1 := Ch.u32_in ((o.n : Int) + 2) (by omega)
  have fm : IntKind.i64.wrap (1 + (o.reader : Int)) = 1 + o.reader := Go.IntWalk.i64_in _ (by omega)
  obtain ⟨_, o2, _, q8⟩ := (ok hov).2.2 hwr
  have hi := q8 hrow
  obtain ⟨q, hq⟩ : ∃ q : Nat, s.b = (q : Int) := Int.eq_ofNat_of_zero_le (by omega)
  have cq : w.cell? ⟨g, 17, none⟩ = some (.int .u32 s.b) := h.mid.2.2.2.2.2.2.2.2.2
  rw [hq] at cq
  have hqm := Nat.mul_le_mul_right o.width (show q + 1 ≤ Op.csl o by omega)
  rw [Nat.add_mul] at hqm
  have HH : ∀ w', Calls Tryd.prog 94 #[.agg #[.int .i64 x.k, .int .i64 x.wd, .int .i64 x.sl, .int .i64 x.cp, .int .u32 x.sa, .slice x.ia x.il x.ic, .int .i64 x.ow, .slice x.ra x.rl x.rc]] w' fun e w'' => e = .returned (.int .i64 ((1 + o.n : Nat) : Int)) ∧ Same w' w'' := by
    intro w'
    have := Ch.rhead_any x.wd x.sl x.cp x.sa x.ow x.ia x.ra x.il x.ic x.rl x.rc w' (by have := hx.2.2.2.2; omega)
    rw [show (1 : Int) + (x.rl : Int) = ((1 + o.n : Nat) : Int) by have := hx.2.2.2.2; omega] at this
    rw [hx.1]
    exact this
  have HW := fun w' => Ob.rwrites_reg x.k (by rw [hx.1]; decide) w'
  have e4 : Op.chenR o s l = Op.word o s l (1 + o.n + q * o.width) none := by simp [Op.chenR, hrow, Op.chenK, hq]
  have hidx : 1 + o.n + q * o.width + s.i < n := by omega
  by_cases hlt : s.i + 1 < o.width
  · have PR := rword_rd_on w h hl hgl hN hNl o.width (1 + o.n) q n cc (1 + o.n + q * o.width + s.i) (-1) none 2 HH HW rfl hwr hx.2.1 rfl w8 (by omega) (by omega) rfl hidx hn hcc hln hi o2 hlt
    have HP := Lib.hid PR
    have E4 := Lib.hid e4
    have HROW := Lib.hid hrow
    have HB := Lib.hid h
    have HL := Lib.hid hl
    clear PR e4 hrow hN ok hidx o2 h hl hqm hq q8
    go_enter Tryd.func57, Tryd.ntmps57
    go_wp2_with fail
    refine HP.out.mono ?_
    rintro e w6 ⟨rfl, ⟨A6, c6, R6⟩, L6, C6⟩
    have HR6 := Lib.hid R6
    have HL6 := Lib.hid L6
    have HC6 := Lib.hid C6
    clear R6 L6 C6
    go_wp2
    go_end0
    rw [E4.out, dc_rd hwr]
    exact ⟨rfl, ⟨_, _, HR6.out⟩, HL6.out, HC6.out⟩
  · have PR := rword_rd_end w h hl hgl hN hNl o.width (1 + o.n) q n cc (1 + o.n + q * o.width + s.i) (-1) 2 HH HW rfl hwr hx.2.1 rfl w8 (by omega) (by omega) rfl hidx hn hcc hln hi o2 hlt (by decide) (by rw [hx.1]; decide) (by rw [hwr]; rfl)
    have HP := Lib.hid PR
    have E4 := Lib.hid e4
    have HROW := Lib.hid hrow
    have HB := Lib.hid h
    have HL := Lib.hid hl
    clear PR e4 hrow hN ok hidx o2 h hl hqm hq q8
    go_enter Tryd.func57, Tryd.ntmps57
    go_wp2_with fail
    refine HP.out.mono ?_
    rintro e w6 ⟨rfl, ⟨A6, c6, R6⟩, L6, C6⟩
    have HR6 := Lib.hid R6
    have HL6 := Lib.hid L6
    have HC6 := Lib.hid C6
    clear R6 L6 C6
    go_wp2
    go_end0
    rw [E4.out, dc_rd hwr]
    exact ⟨rfl, ⟨_, _, HR6.out⟩, HL6.out, HC6.out⟩

end

end Go.Proofs.YtejajmdmfipplabDoor.Rf
