/-

  Package fifo: each step of a put, and of a take.
-/
import Derived.Test.YtejajmdmfipplabFifoBase
set_option linter.unusedSimpArgs false
set_option linter.unusedVariables false
namespace Go.Proofs.Ytejajmdmfipplab.Ff
open Go.ChangeShapes Go.WideShapes Go.ChangeAt Go.RowKit Ws Mm Pa

def exf (o : Op.Im) (s : Op.St) : List Value := [.int .i64 o.slots, .int .u32 s.b]
section
variable {R : Nat → Prop} {g gm : Nat} {T : TypeId} {p : Pt} {l : List Int} {st : Int} {o : Op.Im} {size : Nat} {s : Op.St}

theorem toNat_at {o : Op.Im} {size : Nat} {s : Op.St} {p : Pt} (I : Imp o size s p) (k : Nat) (i : Int) (h : i = (k : Int)) : (p.at_ + i).toNat = o.at_ + k := by
  have := I.at_
  omega
theorem drew_of {w w' : World} (h : Same w.drew w') : Same w w' := Same.trans (Same.refl w).drew h

set_option maxHeartbeats 400000 in
theorem fw0 (w : World) (h : PB w g T p (exf o s)) (I : Imp o size s p) (m : Mem w R gm l st) (hg : ¬ R g) (hl : Op.Wd l) (ok : Op.fifoOk o s) (hw : Op.fifoAl o) (hfit : o.at_ + size ≤ l.length) (hsz : size = 2 + o.slots * o.width) (hov : s.over = false) (hs : s.steps ≤ 1000) (hwr : o.wr = true) (hrow : s.row = 0) :
    Calls Try.prog 34 #[.pointer (some ⟨g, 0, none⟩), .pointer (some ⟨gm, 0, none⟩)] w (Did R g gm T (exf o) o size (Op.fifo o s l) (wrap64 (st + 1)) w) := by
  have hsh := m.short
  have ia := I.at_
  have is := I.steps
  obtain ⟨i1, i2⟩ := I.st hov
  have i3 := I.att hov
  obtain ⟨⟨b1, b2⟩, ab, _, htr, ok⟩ := ok
  obtain ⟨⟨w1, w8⟩, ⟨sl1, sl16⟩⟩ := hw
  have hpos : 0 < o.slots * o.width := Nat.mul_pos (by omega) w1
  have stp : 0 ≤ p.stage ∧ p.stage ≤ 100000 := by omega
  have sts : 0 ≤ p.steps ∧ p.steps ≤ 100000 := by omega
  have c3 := h.head.2.2.2.1
  rw [i1, hrow] at c3
  have x0 := h.ex_ 0
  have x1 := h.ex_ 1
  simp only [exf, List.getElem?_cons_zero, List.getElem?_cons_succ] at x0 x1
  have HX0 : Hid (∀ {w1 : World} {p1 : Pt} {b1 : Int}, PB w1 g T p1 [.int .i64 o.slots, .int .u32 b1] → w1.cell? ⟨g, 19, none⟩ = some (.int .i64 o.slots)) := Lib.hid (fun h => h.ex_ 0)
  have HX1 : Hid (∀ {w1 : World} {p1 : Pt}, PB w1 g T p1 (exf o s) → w1.cell? ⟨g, 20, none⟩ = some (.int .u32 s.b)) := Lib.hid (fun h => h.ex_ 1)
  have PR := pread w h m hg 1 sts (by omega) (by omega)
  rw [toNat_at I 1 1 rfl] at PR
  have hy := hl.get o 1
  rw [Op.get_gd] at hy
  obtain ⟨y, ey⟩ : ∃ y, y = Op.gd l (o.at_ + 1) := ⟨_, rfl⟩
  rw [← ey] at PR hy
  have e4 : Op.fifo o s l = ({ (Op.more s).to (s.row + 1) with a := y % Op.fmod o, b := y }, l) := by simp [Op.fifo, hwr, Op.fifoW, Op.more, hrow, ey, Op.get_gd]
  clear ey
  have E4 := Lib.hid e4
  have HS := Lib.hid I
  have HV := Lib.hid hov
  clear ia is i1 i2 i3 e4 I ok hov hrow ab
  go_enter Try.func34, Try.ntmps34
  go_wp2_with fail
  refine PR.mono ?_
  rintro e w1 ⟨rfl, L1⟩
  have z0 := L1.op.ex_ 1
  simp only [exf, List.getElem?_cons_zero, List.getElem?_cons_succ] at z0
  have f1 := L1.op.thaw 20
  have L2 := L1.set hg 20 _ (L1.op.put_ex 1 (.int .u32 y))
  go_wp2_with fail
  refine (pnext _ L2.op L2.mem hg stp).mono ?_
  rintro e w3 ⟨rfl, L3⟩
  have L4 := L2.trans L3
  go_wp2
  go_end0
  rw [E4.out]
  exact ⟨rfl, _, imp_next HS.out HV.out _ rfl rfl rfl rfl HV.out rfl rfl, L4⟩

set_option maxHeartbeats 400000 in
theorem fw1 (w : World) (h : PB w g T p (exf o s)) (I : Imp o size s p) (m : Mem w R gm l st) (hg : ¬ R g) (hl : Op.Wd l) (ok : Op.fifoOk o s) (hw : Op.fifoAl o) (hfit : o.at_ + size ≤ l.length) (hsz : size = 2 + o.slots * o.width) (hov : s.over = false) (hs : s.steps ≤ 1000) (hwr : o.wr = true) (hrow : s.row = 1) (hc : ¬ ((o.slots : Int) ≤ Op.fgap (Op.fmod o) (Op.gd l (o.at_ + 0)) s.b)) :
    Calls Try.prog 34 #[.pointer (some ⟨g, 0, none⟩), .pointer (some ⟨gm, 0, none⟩)] w (Did R g gm T (exf o) o size (Op.fifo o s l) (wrap64 (st + 1)) w) := by
  have hsh := m.short
  have ia := I.at_
  have is := I.steps
  obtain ⟨i1, i2⟩ := I.st hov
  have i3 := I.att hov
  obtain ⟨⟨b1, b2⟩, ab, _, htr, ok⟩ := ok
  obtain ⟨⟨w1, w8⟩, ⟨sl1, sl16⟩⟩ := hw
  have hpos : 0 < o.slots * o.width := Nat.mul_pos (by omega) w1
  have stp : 0 ≤ p.stage ∧ p.stage ≤ 100000 := by omega
  have sts : 0 ≤ p.steps ∧ p.steps ≤ 100000 := by omega
  have c3 := h.head.2.2.2.1
  rw [i1, hrow] at c3
  have x0 := h.ex_ 0
  have x1 := h.ex_ 1
  simp only [exf, List.getElem?_cons_zero, List.getElem?_cons_succ] at x0 x1
  have HX0 : Hid (∀ {w1 : World} {p1 : Pt} {b1 : Int}, PB w1 g T p1 [.int .i64 o.slots, .int .u32 b1] → w1.cell? ⟨g, 19, none⟩ = some (.int .i64 o.slots)) := Lib.hid (fun h => h.ex_ 0)
  have HX1 : Hid (∀ {w1 : World} {p1 : Pt}, PB w1 g T p1 (exf o s) → w1.cell? ⟨g, 20, none⟩ = some (.int .u32 s.b)) := Lib.hid (fun h => h.ex_ 1)
  have PR := fun w' (s' : Same w w') => pread w' (h.same s') (m.same s') hg 0 sts (by omega) (by omega)
  rw [toNat_at I 0 0 rfl] at PR
  have hy := hl.get o 0
  rw [Op.get_gd] at hy
  obtain ⟨y, ey⟩ : ∃ y, y = Op.gd l (o.at_ + 0) := ⟨_, rfl⟩
  rw [← ey] at PR hy hc
  obtain ⟨G, eG⟩ : ∃ G, G = Op.fgap (Op.fmod o) y s.b := ⟨_, rfl⟩
  rw [← eG] at hc
  have GP := fun (w' : World) (p' : Pt) (h' : PB w' g T p' (exf o s)) => gap_any w' h' ⟨sl1, sl16⟩ y s.b hy ⟨b1, b2⟩
  rw [show (2 * (o.slots : Int)) = Op.fmod o from rfl, ← eG] at GP
  have e4 : Op.fifo o s l = ((Op.more s).to (s.row + 1), l) := by
    have hc' := hc
    rw [eG, ey] at hc'
    simp only [Op.fifo, hwr, Op.fifoW, Op.more, hrow, Op.get_gd, if_true, Bool.false_eq_true, if_false, hc', ↓reduceIte, Op.St.to]
  have f1 := u32_in (o.slots : Int) (by omega)
  have bb : decide ((o.slots : Int) ≤ G) = false := by simpa using hc
  have HGP := Lib.hid GP
  clear ey eG GP hc
  have E4 := Lib.hid e4
  have HS := Lib.hid I
  have HV := Lib.hid hov
  clear ia is i1 i2 i3 e4 I ok hov hrow ab
  go_enter Try.func34, Try.ntmps34
  go_wp2_with fail
  go_region_held3 (fun w' => w'.cell? ⟨g, 20, none⟩ = some (.int .u32 s.b) ∧ w'.cell? ⟨g, 19, none⟩ = some (.int .i64 o.slots))
    (first | assumption | exact ⟨x1, x0⟩ | exact ⟨HX1.out L1.op, HX0.out L1.op⟩)
    (first | (go_at_call 53; ((with_reducible refine (PR _ (Same.refl _).drew).mono ?_); rintro e w' ⟨rfl, L1⟩)) | (go_at_call 55; ((with_reducible refine (HGP.out _ _ L1.op).mono ?_); rintro e w' ⟨rfl, rfl⟩)))
  have L2 := L1.drew0
  go_wp2_with fail
  refine (pnext _ L2.op L2.mem hg stp).mono ?_
  rintro e w3 ⟨rfl, L3⟩
  have L4 := L2.trans L3
  go_wp2
  go_end0
  rw [E4.out]
  exact ⟨rfl, _, imp_next HS.out HV.out _ rfl rfl rfl rfl HV.out rfl rfl, L4⟩

set_option maxHeartbeats 400000 in
theorem fw1e (w : World) (h : PB w g T p (exf o s)) (I : Imp o size s p) (m : Mem w R gm l st) (hg : ¬ R g) (hl : Op.Wd l) (ok : Op.fifoOk o s) (hw : Op.fifoAl o) (hfit : o.at_ + size ≤ l.length) (hsz : size = 2 + o.slots * o.width) (hov : s.over = false) (hs : s.steps ≤ 1000) (hwr : o.wr = true) (hrow : s.row = 1) (hc : ((o.slots : Int) ≤ Op.fgap (Op.fmod o) (Op.gd l (o.at_ + 0)) s.b)) :
    Calls Try.prog 34 #[.pointer (some ⟨g, 0, none⟩), .pointer (some ⟨gm, 0, none⟩)] w (Did R g gm T (exf o) o size (Op.fifo o s l) (wrap64 (st + 1)) w) := by
  have hsh := m.short
  have ia := I.at_
  have is := I.steps
  obtain ⟨i1, i2⟩ := I.st hov
  have i3 := I.att hov
  obtain ⟨⟨b1, b2⟩, ab, _, htr, ok⟩ := ok
  obtain ⟨⟨w1, w8⟩, ⟨sl1, sl16⟩⟩ := hw
  have hpos : 0 < o.slots * o.width := Nat.mul_pos (by omega) w1
  have stp : 0 ≤ p.stage ∧ p.stage ≤ 100000 := by omega
  have sts : 0 ≤ p.steps ∧ p.steps ≤ 100000 := by omega
  have c3 := h.head.2.2.2.1
  rw [i1, hrow] at c3
  have x0 := h.ex_ 0
  have x1 := h.ex_ 1
  simp only [exf, List.getElem?_cons_zero, List.getElem?_cons_succ] at x0 x1
  have HX0 : Hid (∀ {w1 : World} {p1 : Pt} {b1 : Int}, PB w1 g T p1 [.int .i64 o.slots, .int .u32 b1] → w1.cell? ⟨g, 19, none⟩ = some (.int .i64 o.slots)) := Lib.hid (fun h => h.ex_ 0)
  have HX1 : Hid (∀ {w1 : World} {p1 : Pt}, PB w1 g T p1 (exf o s) → w1.cell? ⟨g, 20, none⟩ = some (.int .u32 s.b)) := Lib.hid (fun h => h.ex_ 1)
  have PR := fun w' (s' : Same w w') => pread w' (h.same s') (m.same s') hg 0 sts (by omega) (by omega)
  rw [toNat_at I 0 0 rfl] at PR
  have hy := hl.get o 0
  rw [Op.get_gd] at hy
  obtain ⟨y, ey⟩ : ∃ y, y = Op.gd l (o.at_ + 0) := ⟨_, rfl⟩
  rw [← ey] at PR hy hc
  obtain ⟨G, eG⟩ : ∃ G, G = Op.fgap (Op.fmod o) y s.b := ⟨_, rfl⟩
  rw [← eG] at hc
  have GP := fun (w' : World) (p' : Pt) (h' : PB w' g T p' (exf o s)) => gap_any w' h' ⟨sl1, sl16⟩ y s.b hy ⟨b1, b2⟩
  rw [show (2 * (o.slots : Int)) = Op.fmod o from rfl, ← eG] at GP
  have e4 : Op.fifo o s l = ((Op.more s).fin o.wr 2, l) := by
    have hc' := hc
    rw [eG, ey] at hc'
    simp only [Op.fifo, hwr, Op.fifoW, Op.more, hrow, Op.get_gd, if_true, Bool.false_eq_true, if_false, hc', ↓reduceIte]
  have f1 := u32_in (o.slots : Int) (by omega)
  have bb : decide ((o.slots : Int) ≤ G) = true := by simpa using hc
  have HGP := Lib.hid GP
  clear ey eG GP hc
  have E4 := Lib.hid e4
  have HS := Lib.hid I
  have HV := Lib.hid hov
  clear ia is i1 i2 i3 e4 I ok hov hrow ab
  go_enter Try.func34, Try.ntmps34
  go_wp2_with fail
  go_region_held3 (fun w' => w'.cell? ⟨g, 20, none⟩ = some (.int .u32 s.b) ∧ w'.cell? ⟨g, 19, none⟩ = some (.int .i64 o.slots))
    (first | assumption | exact ⟨x1, x0⟩ | exact ⟨HX1.out L1.op, HX0.out L1.op⟩)
    (first | (go_at_call 53; ((with_reducible refine (PR _ (Same.refl _).drew).mono ?_); rintro e w' ⟨rfl, L1⟩)) | (go_at_call 55; ((with_reducible refine (HGP.out _ _ L1.op).mono ?_); rintro e w' ⟨rfl, rfl⟩)))
  have L2 := L1.drew0
  go_wp2_with fail
  refine (pend _ L2.op L2.mem hg 2).mono ?_
  rintro e w3 ⟨rfl, L3⟩
  have L4 := L2.trans L3
  go_wp2
  go_end0
  rw [E4.out]
  exact ⟨rfl, _, imp_end HS.out HV.out 2, L4⟩

set_option maxHeartbeats 400000 in
theorem fw2 (w : World) (h : PB w g T p (exf o s)) (I : Imp o size s p) (m : Mem w R gm l st) (hg : ¬ R g) (hl : Op.Wd l) (ok : Op.fifoOk o s) (hw : Op.fifoAl o) (hfit : o.at_ + size ≤ l.length) (hsz : size = 2 + o.slots * o.width) (hov : s.over = false) (hs : s.steps ≤ 1000) (hwr : o.wr = true) (hrow : s.row = 2) :
    Calls Try.prog 34 #[.pointer (some ⟨g, 0, none⟩), .pointer (some ⟨gm, 0, none⟩)] w (Did R g gm T (exf o) o size (Op.fifo o s l) (wrap64 (st + 1)) w) := by
  have hsh := m.short
  have ia := I.at_
  have is := I.steps
  obtain ⟨i1, i2⟩ := I.st hov
  have i3 := I.att hov
  obtain ⟨⟨b1, b2⟩, ab, _, htr, ok⟩ := ok
  obtain ⟨⟨w1, w8⟩, ⟨sl1, sl16⟩⟩ := hw
  have hpos : 0 < o.slots * o.width := Nat.mul_pos (by omega) w1
  have stp : 0 ≤ p.stage ∧ p.stage ≤ 100000 := by omega
  have sts : 0 ≤ p.steps ∧ p.steps ≤ 100000 := by omega
  have c3 := h.head.2.2.2.1
  rw [i1, hrow] at c3
  have x0 := h.ex_ 0
  have x1 := h.ex_ 1
  simp only [exf, List.getElem?_cons_zero, List.getElem?_cons_succ] at x0 x1
  have HX0 : Hid (∀ {w1 : World} {p1 : Pt} {b1 : Int}, PB w1 g T p1 [.int .i64 o.slots, .int .u32 b1] → w1.cell? ⟨g, 19, none⟩ = some (.int .i64 o.slots)) := Lib.hid (fun h => h.ex_ 0)
  have HX1 : Hid (∀ {w1 : World} {p1 : Pt}, PB w1 g T p1 (exf o s) → w1.cell? ⟨g, 20, none⟩ = some (.int .u32 s.b)) := Lib.hid (fun h => h.ex_ 1)
  obtain ⟨_, _, _, q2, qw, qr⟩ := ok hov
  have hi := q2 hrow
  have hrl := qw hwr
  have iw := I.width
  have hbn : (s.b % (o.slots : Int)).toNat < o.slots := by
    have h0 := Int.emod_nonneg s.b (show (o.slots : Int) ≠ 0 by omega)
    have h1 := Int.emod_lt_of_pos s.b (show (0 : Int) < o.slots by omega)
    omega
  have hk1 : Op.fifoK o s.b + o.width ≤ 2 + o.slots * o.width := by
    unfold Op.fifoK
    have := Nat.mul_le_mul_right o.width (show (s.b % (o.slots : Int)).toNat + 1 ≤ o.slots by omega)
    rw [Nat.add_mul] at this
    omega
  have hk0 : 1 ≤ Op.fifoK o s.b ∧ Op.fifoK o s.b ≤ 1000 := by
    have : o.slots * o.width ≤ 16 * 8 := Nat.mul_le_mul sl16 w8
    unfold Op.fifoK at hk1 ⊢
    omega
  have PL := fun w' (s' : Same w w') => place_any w' (h.same s') o.width iw ⟨b1, b2⟩ ⟨sl1, sl16⟩ w8
  rw [show (2 + (s.b % (o.slots : Int)).toNat * o.width) = Op.fifoK o s.b from rfl] at PL
  have hk2 : ((Op.fifoK o s.b : Nat) : Int) + (s.i : Int) = ((Op.fifoK o s.b + s.i : Nat) : Int) := by omega
  have PR := fun w' (s' : Same w w') => precord_wr w' (h.same s') (m.same s') hg (Op.fifoK o s.b : Nat) s.i (by rw [I.rd, hwr]; rfl) i2 (by omega) sts stp (by omega) (by omega)
  rw [toNat_at I (Op.fifoK o s.b + s.i) _ hk2, I.gd s.i (by omega)] at PR
  have e5 : (Op.word o (Op.more s) l (Op.fifoK o s.b) (some 3)).2 = l.set (o.at_ + (Op.fifoK o s.b + s.i)) (Op.gd s.rc s.i) := by
    simp only [Op.word, hwr, if_true]
    split <;> rfl
  have im := imp_word_wr I hov hwr l (Op.fifoK o s.b) 3 (by rw [hrow])
  have e6 : exf o (Op.word o (Op.more s) l (Op.fifoK o s.b) (some 3)).1 = exf o s := by
    simp only [Op.word, hwr, if_true]
    split <;> rfl
  have e4 : (Op.fifo o s l) = Op.word o (Op.more s) l (Op.fifoK o s.b) (some 3) := by simp [Op.fifo, hwr, Op.fifoW, Op.more, hrow]
  generalize ((Op.fifoK o s.b : Nat) : Int) = K at *
  have E5 := Lib.hid e5
  have E6 := Lib.hid e6
  have HK2 := Lib.hid hk2
  clear iw e5 e6 hk2 hbn hk1 hk0 hi q2 qw qr
  have E4 := Lib.hid e4
  have HS := Lib.hid I
  have HV := Lib.hid hov
  clear ia is i1 i2 i3 e4 I ok hov hrow ab
  go_enter Try.func34, Try.ntmps34
  go_wp2_with fail
  go_region_held3 (fun w' => Chg (fun i => R i ∨ i = g) w w')
    (first | assumption | exact (Chg.refl _ w).drew | exact ((Chg.refl _ w).drew).trans (hs.chg _) | exact (‹Chg (fun i => R i ∨ i = g) w _›).trans L1.chg)
    (first | (go_at_call 58; ((with_reducible refine (PL _ (Same.refl _).drew).mono ?_); rintro e w' ⟨rfl, hs⟩)) | (go_at_call 57; ((with_reducible refine (PR _ (drew_of ‹Same w.drew _›)).mono ?_); rintro e w' ⟨rfl, L1⟩)))
  go_wp2
  go_end0
  rw [E4.out]
  exact ⟨rfl, _, im, ⟨by rw [E6.out]; exact L1.op, by rw [E5.out]; exact L1.mem, ‹Chg (fun i => R i ∨ i = g) w _›⟩⟩

set_option maxHeartbeats 400000 in
theorem fw3 (w : World) (h : PB w g T p (exf o s)) (I : Imp o size s p) (m : Mem w R gm l st) (hg : ¬ R g) (hl : Op.Wd l) (ok : Op.fifoOk o s) (hw : Op.fifoAl o) (hfit : o.at_ + size ≤ l.length) (hsz : size = 2 + o.slots * o.width) (hov : s.over = false) (hs : s.steps ≤ 1000) (hwr : o.wr = true) (hrow : s.row = 3) :
    Calls Try.prog 34 #[.pointer (some ⟨g, 0, none⟩), .pointer (some ⟨gm, 0, none⟩)] w (Did R g gm T (exf o) o size (Op.fifo o s l) (wrap64 (st + 1)) w) := by
  have hsh := m.short
  have ia := I.at_
  have is := I.steps
  obtain ⟨i1, i2⟩ := I.st hov
  have i3 := I.att hov
  obtain ⟨⟨b1, b2⟩, ab, _, htr, ok⟩ := ok
  obtain ⟨⟨w1, w8⟩, ⟨sl1, sl16⟩⟩ := hw
  have hpos : 0 < o.slots * o.width := Nat.mul_pos (by omega) w1
  have stp : 0 ≤ p.stage ∧ p.stage ≤ 100000 := by omega
  have sts : 0 ≤ p.steps ∧ p.steps ≤ 100000 := by omega
  have c3 := h.head.2.2.2.1
  rw [i1, hrow] at c3
  have x0 := h.ex_ 0
  have x1 := h.ex_ 1
  simp only [exf, List.getElem?_cons_zero, List.getElem?_cons_succ] at x0 x1
  have HX0 : Hid (∀ {w1 : World} {p1 : Pt} {b1 : Int}, PB w1 g T p1 [.int .i64 o.slots, .int .u32 b1] → w1.cell? ⟨g, 19, none⟩ = some (.int .i64 o.slots)) := Lib.hid (fun h => h.ex_ 0)
  have HX1 : Hid (∀ {w1 : World} {p1 : Pt}, PB w1 g T p1 (exf o s) → w1.cell? ⟨g, 20, none⟩ = some (.int .u32 s.b)) := Lib.hid (fun h => h.ex_ 1)
  obtain ⟨v, ev⟩ : ∃ v, v = (s.b + 1) % Op.fmod o := ⟨_, rfl⟩
  have NX := fun w' (s' : Same w w') => next_any w' (h.same s') ⟨sl1, sl16⟩ ⟨b1, b2⟩
  rw [show (2 * (o.slots : Int)) = Op.fmod o from rfl, ← ev] at NX
  have PR := fun w' (s' : Same w w') => pwrite w' (h.same s') (m.same s') hg 1 v sts (by omega) (by omega)
  rw [toNat_at I 1 1 rfl] at PR
  have e4 : Op.fifo o s l = ((Op.more s).fin o.wr 0, Op.put o l 1 v) := by simp [Op.fifo, hwr, Op.fifoW, Op.more, hrow, ev]
  clear ev
  have E4 := Lib.hid e4
  have HS := Lib.hid I
  have HV := Lib.hid hov
  clear ia is i1 i2 i3 e4 I ok hov hrow ab
  go_enter Try.func34, Try.ntmps34
  go_wp2_with fail
  go_region_held3 (fun w' => Chg (fun i => R i ∨ i = g) w w')
    (first | assumption | exact (Chg.refl _ w).drew | exact ((Chg.refl _ w).drew).trans (hs.chg _) | exact (‹Chg (fun i => R i ∨ i = g) w _›).trans L1.chg)
    (first | (go_at_call 60; ((with_reducible refine (NX _ (Same.refl _).drew).mono ?_); rintro e w' ⟨rfl, hs⟩)) | (go_at_call 59; ((with_reducible refine (PR _ (drew_of ‹Same w.drew _›)).mono ?_); rintro e w' ⟨rfl, L1⟩)))
  have L2 : Lft R g gm T _ _ _ _ w _ := ⟨L1.op, L1.mem, ‹Chg (fun i => R i ∨ i = g) w _›⟩
  go_wp2_with fail
  refine (pend _ L2.op L2.mem hg 0).mono ?_
  rintro e w3 ⟨rfl, L3⟩
  have L4 := L2.trans L3
  go_wp2
  go_end0
  rw [E4.out]
  exact ⟨rfl, _, imp_end HS.out HV.out 0, L4⟩

set_option maxHeartbeats 400000 in
theorem fr0 (w : World) (h : PB w g T p (exf o s)) (I : Imp o size s p) (m : Mem w R gm l st) (hg : ¬ R g) (hl : Op.Wd l) (ok : Op.fifoOk o s) (hw : Op.fifoAl o) (hfit : o.at_ + size ≤ l.length) (hsz : size = 2 + o.slots * o.width) (hov : s.over = false) (hs : s.steps ≤ 1000) (hwr : o.wr = false) (hrow : s.row = 0) :
    Calls Try.prog 33 #[.pointer (some ⟨g, 0, none⟩), .pointer (some ⟨gm, 0, none⟩)] w (Did R g gm T (exf o) o size (Op.fifo o s l) (wrap64 (st + 1)) w) := by
  have hsh := m.short
  have ia := I.at_
  have is := I.steps
  obtain ⟨i1, i2⟩ := I.st hov
  have i3 := I.att hov
  obtain ⟨⟨b1, b2⟩, ab, _, htr, ok⟩ := ok
  obtain ⟨⟨w1, w8⟩, ⟨sl1, sl16⟩⟩ := hw
  have hpos : 0 < o.slots * o.width := Nat.mul_pos (by omega) w1
  have stp : 0 ≤ p.stage ∧ p.stage ≤ 100000 := by omega
  have sts : 0 ≤ p.steps ∧ p.steps ≤ 100000 := by omega
  have c3 := h.head.2.2.2.1
  rw [i1, hrow] at c3
  have x0 := h.ex_ 0
  have x1 := h.ex_ 1
  simp only [exf, List.getElem?_cons_zero, List.getElem?_cons_succ] at x0 x1
  have HX0 : Hid (∀ {w1 : World} {p1 : Pt} {b1 : Int}, PB w1 g T p1 [.int .i64 o.slots, .int .u32 b1] → w1.cell? ⟨g, 19, none⟩ = some (.int .i64 o.slots)) := Lib.hid (fun h => h.ex_ 0)
  have HX1 : Hid (∀ {w1 : World} {p1 : Pt}, PB w1 g T p1 (exf o s) → w1.cell? ⟨g, 20, none⟩ = some (.int .u32 s.b)) := Lib.hid (fun h => h.ex_ 1)
  have PR := pread w h m hg 0 sts (by omega) (by omega)
  rw [toNat_at I 0 0 rfl] at PR
  have hy := hl.get o 0
  rw [Op.get_gd] at hy
  obtain ⟨y, ey⟩ : ∃ y, y = Op.gd l (o.at_ + 0) := ⟨_, rfl⟩
  rw [← ey] at PR hy
  have e4 : Op.fifo o s l = ({ (Op.more s).to (s.row + 1) with a := y % Op.fmod o, b := y }, l) := by simp [Op.fifo, hwr, Op.fifoR, Op.more, hrow, ey, Op.get_gd]
  clear ey
  have E4 := Lib.hid e4
  have HS := Lib.hid I
  have HV := Lib.hid hov
  clear ia is i1 i2 i3 e4 I ok hov hrow ab
  go_enter Try.func33, Try.ntmps33
  go_wp2_with fail
  refine PR.mono ?_
  rintro e w1 ⟨rfl, L1⟩
  have z0 := L1.op.ex_ 1
  simp only [exf, List.getElem?_cons_zero, List.getElem?_cons_succ] at z0
  have f1 := L1.op.thaw 20
  have L2 := L1.set hg 20 _ (L1.op.put_ex 1 (.int .u32 y))
  go_wp2_with fail
  refine (pnext _ L2.op L2.mem hg stp).mono ?_
  rintro e w3 ⟨rfl, L3⟩
  have L4 := L2.trans L3
  go_wp2
  go_end0
  rw [E4.out]
  exact ⟨rfl, _, imp_next HS.out HV.out _ rfl rfl rfl rfl HV.out rfl rfl, L4⟩

set_option maxHeartbeats 400000 in
theorem fr1 (w : World) (h : PB w g T p (exf o s)) (I : Imp o size s p) (m : Mem w R gm l st) (hg : ¬ R g) (hl : Op.Wd l) (ok : Op.fifoOk o s) (hw : Op.fifoAl o) (hfit : o.at_ + size ≤ l.length) (hsz : size = 2 + o.slots * o.width) (hov : s.over = false) (hs : s.steps ≤ 1000) (hwr : o.wr = false) (hrow : s.row = 1) (hc : ¬ (Op.fgap (Op.fmod o) s.b (Op.gd l (o.at_ + 1)) = 0)) :
    Calls Try.prog 33 #[.pointer (some ⟨g, 0, none⟩), .pointer (some ⟨gm, 0, none⟩)] w (Did R g gm T (exf o) o size (Op.fifo o s l) (wrap64 (st + 1)) w) := by
  have hsh := m.short
  have ia := I.at_
  have is := I.steps
  obtain ⟨i1, i2⟩ := I.st hov
  have i3 := I.att hov
  obtain ⟨⟨b1, b2⟩, ab, _, htr, ok⟩ := ok
  obtain ⟨⟨w1, w8⟩, ⟨sl1, sl16⟩⟩ := hw
  have hpos : 0 < o.slots * o.width := Nat.mul_pos (by omega) w1
  have stp : 0 ≤ p.stage ∧ p.stage ≤ 100000 := by omega
  have sts : 0 ≤ p.steps ∧ p.steps ≤ 100000 := by omega
  have c3 := h.head.2.2.2.1
  rw [i1, hrow] at c3
  have x0 := h.ex_ 0
  have x1 := h.ex_ 1
  simp only [exf, List.getElem?_cons_zero, List.getElem?_cons_succ] at x0 x1
  have HX0 : Hid (∀ {w1 : World} {p1 : Pt} {b1 : Int}, PB w1 g T p1 [.int .i64 o.slots, .int .u32 b1] → w1.cell? ⟨g, 19, none⟩ = some (.int .i64 o.slots)) := Lib.hid (fun h => h.ex_ 0)
  have HX1 : Hid (∀ {w1 : World} {p1 : Pt}, PB w1 g T p1 (exf o s) → w1.cell? ⟨g, 20, none⟩ = some (.int .u32 s.b)) := Lib.hid (fun h => h.ex_ 1)
  have PR := fun w' (s' : Same w w') => pread w' (h.same s') (m.same s') hg 1 sts (by omega) (by omega)
  rw [toNat_at I 1 1 rfl] at PR
  have hy := hl.get o 1
  rw [Op.get_gd] at hy
  obtain ⟨y, ey⟩ : ∃ y, y = Op.gd l (o.at_ + 1) := ⟨_, rfl⟩
  rw [← ey] at PR hy hc
  obtain ⟨G, eG⟩ : ∃ G, G = Op.fgap (Op.fmod o) s.b y := ⟨_, rfl⟩
  rw [← eG] at hc
  have GP := fun (w' : World) (p' : Pt) (h' : PB w' g T p' (exf o s)) => gap_any w' h' ⟨sl1, sl16⟩ s.b y ⟨b1, b2⟩ hy
  rw [show (2 * (o.slots : Int)) = Op.fmod o from rfl, ← eG] at GP
  have e4 : Op.fifo o s l = ((Op.more s).to (s.row + 1), l) := by
    have hc' := hc
    rw [eG, ey] at hc'
    simp only [Op.fifo, hwr, Op.fifoR, Op.more, hrow, Op.get_gd, if_true, Bool.false_eq_true, if_false, hc', ↓reduceIte, Op.St.to]
  have bb : (G == 0) = false := by simpa using hc
  have HGP := Lib.hid GP
  clear ey eG GP hc
  have E4 := Lib.hid e4
  have HS := Lib.hid I
  have HV := Lib.hid hov
  clear ia is i1 i2 i3 e4 I ok hov hrow ab
  go_enter Try.func33, Try.ntmps33
  go_wp2_with fail
  go_region_held3 (fun w' => w'.cell? ⟨g, 20, none⟩ = some (.int .u32 s.b))
    (first | assumption | exact x1 | exact HX1.out L1.op)
    (first | (go_at_call 53; ((with_reducible refine (PR _ (Same.refl _).drew).mono ?_); rintro e w' ⟨rfl, L1⟩)) | (go_at_call 55; ((with_reducible refine (HGP.out _ _ L1.op).mono ?_); rintro e w' ⟨rfl, rfl⟩)))
  have L2 := L1.drew0
  go_wp2_with fail
  refine (pnext _ L2.op L2.mem hg stp).mono ?_
  rintro e w3 ⟨rfl, L3⟩
  have L4 := L2.trans L3
  go_wp2
  go_end0
  rw [E4.out]
  exact ⟨rfl, _, imp_next HS.out HV.out _ rfl rfl rfl rfl HV.out rfl rfl, L4⟩

set_option maxHeartbeats 400000 in
theorem fr1e (w : World) (h : PB w g T p (exf o s)) (I : Imp o size s p) (m : Mem w R gm l st) (hg : ¬ R g) (hl : Op.Wd l) (ok : Op.fifoOk o s) (hw : Op.fifoAl o) (hfit : o.at_ + size ≤ l.length) (hsz : size = 2 + o.slots * o.width) (hov : s.over = false) (hs : s.steps ≤ 1000) (hwr : o.wr = false) (hrow : s.row = 1) (hc : (Op.fgap (Op.fmod o) s.b (Op.gd l (o.at_ + 1)) = 0)) :
    Calls Try.prog 33 #[.pointer (some ⟨g, 0, none⟩), .pointer (some ⟨gm, 0, none⟩)] w (Did R g gm T (exf o) o size (Op.fifo o s l) (wrap64 (st + 1)) w) := by
  have hsh := m.short
  have ia := I.at_
  have is := I.steps
  obtain ⟨i1, i2⟩ := I.st hov
  have i3 := I.att hov
  obtain ⟨⟨b1, b2⟩, ab, _, htr, ok⟩ := ok
  obtain ⟨⟨w1, w8⟩, ⟨sl1, sl16⟩⟩ := hw
  have hpos : 0 < o.slots * o.width := Nat.mul_pos (by omega) w1
  have stp : 0 ≤ p.stage ∧ p.stage ≤ 100000 := by omega
  have sts : 0 ≤ p.steps ∧ p.steps ≤ 100000 := by omega
  have c3 := h.head.2.2.2.1
  rw [i1, hrow] at c3
  have x0 := h.ex_ 0
  have x1 := h.ex_ 1
  simp only [exf, List.getElem?_cons_zero, List.getElem?_cons_succ] at x0 x1
  have HX0 : Hid (∀ {w1 : World} {p1 : Pt} {b1 : Int}, PB w1 g T p1 [.int .i64 o.slots, .int .u32 b1] → w1.cell? ⟨g, 19, none⟩ = some (.int .i64 o.slots)) := Lib.hid (fun h => h.ex_ 0)
  have HX1 : Hid (∀ {w1 : World} {p1 : Pt}, PB w1 g T p1 (exf o s) → w1.cell? ⟨g, 20, none⟩ = some (.int .u32 s.b)) := Lib.hid (fun h => h.ex_ 1)
  have PR := fun w' (s' : Same w w') => pread w' (h.same s') (m.same s') hg 1 sts (by omega) (by omega)
  rw [toNat_at I 1 1 rfl] at PR
  have hy := hl.get o 1
  rw [Op.get_gd] at hy
  obtain ⟨y, ey⟩ : ∃ y, y = Op.gd l (o.at_ + 1) := ⟨_, rfl⟩
  rw [← ey] at PR hy hc
  obtain ⟨G, eG⟩ : ∃ G, G = Op.fgap (Op.fmod o) s.b y := ⟨_, rfl⟩
  rw [← eG] at hc
  have GP := fun (w' : World) (p' : Pt) (h' : PB w' g T p' (exf o s)) => gap_any w' h' ⟨sl1, sl16⟩ s.b y ⟨b1, b2⟩ hy
  rw [show (2 * (o.slots : Int)) = Op.fmod o from rfl, ← eG] at GP
  have e4 : Op.fifo o s l = ((Op.more s).fin o.wr 3, l) := by
    have hc' := hc
    rw [eG, ey] at hc'
    simp only [Op.fifo, hwr, Op.fifoR, Op.more, hrow, Op.get_gd, if_true, Bool.false_eq_true, if_false, hc', ↓reduceIte]
  have bb : (G == 0) = true := by simpa using hc
  have HGP := Lib.hid GP
  clear ey eG GP hc
  have E4 := Lib.hid e4
  have HS := Lib.hid I
  have HV := Lib.hid hov
  clear ia is i1 i2 i3 e4 I ok hov hrow ab
  go_enter Try.func33, Try.ntmps33
  go_wp2_with fail
  go_region_held3 (fun w' => w'.cell? ⟨g, 20, none⟩ = some (.int .u32 s.b))
    (first | assumption | exact x1 | exact HX1.out L1.op)
    (first | (go_at_call 53; ((with_reducible refine (PR _ (Same.refl _).drew).mono ?_); rintro e w' ⟨rfl, L1⟩)) | (go_at_call 55; ((with_reducible refine (HGP.out _ _ L1.op).mono ?_); rintro e w' ⟨rfl, rfl⟩)))
  have L2 := L1.drew0
  go_wp2_with fail
  refine (pend _ L2.op L2.mem hg 3).mono ?_
  rintro e w3 ⟨rfl, L3⟩
  have L4 := L2.trans L3
  go_wp2
  go_end0
  rw [E4.out]
  exact ⟨rfl, _, imp_end HS.out HV.out 3, L4⟩

set_option maxHeartbeats 400000 in
theorem fr2 (w : World) (h : PB w g T p (exf o s)) (I : Imp o size s p) (m : Mem w R gm l st) (hg : ¬ R g) (hl : Op.Wd l) (ok : Op.fifoOk o s) (hw : Op.fifoAl o) (hfit : o.at_ + size ≤ l.length) (hsz : size = 2 + o.slots * o.width) (hov : s.over = false) (hs : s.steps ≤ 1000) (hwr : o.wr = false) (hrow : s.row = 2) :
    Calls Try.prog 33 #[.pointer (some ⟨g, 0, none⟩), .pointer (some ⟨gm, 0, none⟩)] w (Did R g gm T (exf o) o size (Op.fifo o s l) (wrap64 (st + 1)) w) := by
  have hsh := m.short
  have ia := I.at_
  have is := I.steps
  obtain ⟨i1, i2⟩ := I.st hov
  have i3 := I.att hov
  obtain ⟨⟨b1, b2⟩, ab, _, htr, ok⟩ := ok
  obtain ⟨⟨w1, w8⟩, ⟨sl1, sl16⟩⟩ := hw
  have hpos : 0 < o.slots * o.width := Nat.mul_pos (by omega) w1
  have stp : 0 ≤ p.stage ∧ p.stage ≤ 100000 := by omega
  have sts : 0 ≤ p.steps ∧ p.steps ≤ 100000 := by omega
  have c3 := h.head.2.2.2.1
  rw [i1, hrow] at c3
  have x0 := h.ex_ 0
  have x1 := h.ex_ 1
  simp only [exf, List.getElem?_cons_zero, List.getElem?_cons_succ] at x0 x1
  have HX0 : Hid (∀ {w1 : World} {p1 : Pt} {b1 : Int}, PB w1 g T p1 [.int .i64 o.slots, .int .u32 b1] → w1.cell? ⟨g, 19, none⟩ = some (.int .i64 o.slots)) := Lib.hid (fun h => h.ex_ 0)
  have HX1 : Hid (∀ {w1 : World} {p1 : Pt}, PB w1 g T p1 (exf o s) → w1.cell? ⟨g, 20, none⟩ = some (.int .u32 s.b)) := Lib.hid (fun h => h.ex_ 1)
  obtain ⟨_, _, _, q2, qw, qr⟩ := ok hov
  have hi := q2 hrow
  have hrl := (qr hwr).2.1 hrow
  have iw := I.width
  have hbn : (s.b % (o.slots : Int)).toNat < o.slots := by
    have h0 := Int.emod_nonneg s.b (show (o.slots : Int) ≠ 0 by omega)
    have h1 := Int.emod_lt_of_pos s.b (show (0 : Int) < o.slots by omega)
    omega
  have hk1 : Op.fifoK o s.b + o.width ≤ 2 + o.slots * o.width := by
    unfold Op.fifoK
    have := Nat.mul_le_mul_right o.width (show (s.b % (o.slots : Int)).toNat + 1 ≤ o.slots by omega)
    rw [Nat.add_mul] at this
    omega
  have hk0 : 1 ≤ Op.fifoK o s.b ∧ Op.fifoK o s.b ≤ 1000 := by
    have : o.slots * o.width ≤ 16 * 8 := Nat.mul_le_mul sl16 w8
    unfold Op.fifoK at hk1 ⊢
    omega
  have PL := fun w' (s' : Same w w') => place_any w' (h.same s') o.width iw ⟨b1, b2⟩ ⟨sl1, sl16⟩ w8
  rw [show (2 + (s.b % (o.slots : Int)).toNat * o.width) = Op.fifoK o s.b from rfl] at PL
  have hk2 : ((Op.fifoK o s.b : Nat) : Int) + (s.i : Int) = ((Op.fifoK o s.b + s.i : Nat) : Int) := by omega
  have PR := fun w' (s' : Same w w') => precord_rd w' (h.same s') (m.same s') hg (Op.fifoK o s.b : Nat) s.i (by rw [I.rd, hwr]; rfl) i2 (by omega) sts stp (by omega) (by omega)
  rw [toNat_at I (Op.fifoK o s.b + s.i) _ hk2] at PR
  have e5 : (Op.word o (Op.more s) l (Op.fifoK o s.b) (some 3)).2 = l := by
    simp only [Op.word, hwr, Bool.false_eq_true, if_false]
    split <;> rfl
  have im := imp_word_rd I hov hwr h.rec8 hrl (by omega) l (Op.fifoK o s.b) 3 (by rw [hrow]) _ rfl
  rw [Op.get_gd] at im
  have e6 : exf o (Op.word o (Op.more s) l (Op.fifoK o s.b) (some 3)).1 = exf o s := by
    simp only [Op.word, hwr, Bool.false_eq_true, if_false]
    split <;> rfl
  have e4 : (Op.fifo o s l) = Op.word o (Op.more s) l (Op.fifoK o s.b) (some 3) := by simp [Op.fifo, hwr, Op.fifoR, Op.more, hrow]
  generalize ((Op.fifoK o s.b : Nat) : Int) = K at *
  have E5 := Lib.hid e5
  have E6 := Lib.hid e6
  have HK2 := Lib.hid hk2
  clear iw e5 e6 hk2 hbn hk1 hk0 hi q2 qw qr
  have E4 := Lib.hid e4
  have HS := Lib.hid I
  have HV := Lib.hid hov
  clear ia is i1 i2 i3 e4 I ok hov hrow ab
  go_enter Try.func33, Try.ntmps33
  go_wp2_with fail
  go_region_held3 (fun w' => Chg (fun i => R i ∨ i = g) w w')
    (first | assumption | exact (Chg.refl _ w).drew | exact ((Chg.refl _ w).drew).trans (hs.chg _) | exact (‹Chg (fun i => R i ∨ i = g) w _›).trans L1.chg)
    (first | (go_at_call 58; ((with_reducible refine (PL _ (Same.refl _).drew).mono ?_); rintro e w' ⟨rfl, hs⟩)) | (go_at_call 57; ((with_reducible refine (PR _ (drew_of ‹Same w.drew _›)).mono ?_); rintro e w' ⟨rfl, L1⟩)))
  go_wp2
  go_end0
  rw [E4.out]
  exact ⟨rfl, _, im, ⟨by rw [E6.out]; exact L1.op, by rw [E5.out]; exact L1.mem, ‹Chg (fun i => R i ∨ i = g) w _›⟩⟩

set_option maxHeartbeats 400000 in
theorem fr3 (w : World) (h : PB w g T p (exf o s)) (I : Imp o size s p) (m : Mem w R gm l st) (hg : ¬ R g) (hl : Op.Wd l) (ok : Op.fifoOk o s) (hw : Op.fifoAl o) (hfit : o.at_ + size ≤ l.length) (hsz : size = 2 + o.slots * o.width) (hov : s.over = false) (hs : s.steps ≤ 1000) (hwr : o.wr = false) (hrow : s.row = 3) :
    Calls Try.prog 33 #[.pointer (some ⟨g, 0, none⟩), .pointer (some ⟨gm, 0, none⟩)] w (Did R g gm T (exf o) o size (Op.fifo o s l) (wrap64 (st + 1)) w) := by
  have hsh := m.short
  have ia := I.at_
  have is := I.steps
  obtain ⟨i1, i2⟩ := I.st hov
  have i3 := I.att hov
  obtain ⟨⟨b1, b2⟩, ab, _, htr, ok⟩ := ok
  obtain ⟨⟨w1, w8⟩, ⟨sl1, sl16⟩⟩ := hw
  have hpos : 0 < o.slots * o.width := Nat.mul_pos (by omega) w1
  have stp : 0 ≤ p.stage ∧ p.stage ≤ 100000 := by omega
  have sts : 0 ≤ p.steps ∧ p.steps ≤ 100000 := by omega
  have c3 := h.head.2.2.2.1
  rw [i1, hrow] at c3
  have x0 := h.ex_ 0
  have x1 := h.ex_ 1
  simp only [exf, List.getElem?_cons_zero, List.getElem?_cons_succ] at x0 x1
  have HX0 : Hid (∀ {w1 : World} {p1 : Pt} {b1 : Int}, PB w1 g T p1 [.int .i64 o.slots, .int .u32 b1] → w1.cell? ⟨g, 19, none⟩ = some (.int .i64 o.slots)) := Lib.hid (fun h => h.ex_ 0)
  have HX1 : Hid (∀ {w1 : World} {p1 : Pt}, PB w1 g T p1 (exf o s) → w1.cell? ⟨g, 20, none⟩ = some (.int .u32 s.b)) := Lib.hid (fun h => h.ex_ 1)
  obtain ⟨v, ev⟩ : ∃ v, v = (s.b + 1) % Op.fmod o := ⟨_, rfl⟩
  have NX := fun w' (s' : Same w w') => next_any w' (h.same s') ⟨sl1, sl16⟩ ⟨b1, b2⟩
  rw [show (2 * (o.slots : Int)) = Op.fmod o from rfl, ← ev] at NX
  have PR := fun w' (s' : Same w w') => pwrite w' (h.same s') (m.same s') hg 0 v sts (by omega) (by omega)
  rw [toNat_at I 0 0 rfl] at PR
  have e4 : Op.fifo o s l = ((Op.more s).fin o.wr 0, Op.put o l 0 v) := by simp [Op.fifo, hwr, Op.fifoR, Op.more, hrow, ev]
  clear ev
  have E4 := Lib.hid e4
  have HS := Lib.hid I
  have HV := Lib.hid hov
  clear ia is i1 i2 i3 e4 I ok hov hrow ab
  go_enter Try.func33, Try.ntmps33
  go_wp2_with fail
  go_region_held3 (fun w' => Chg (fun i => R i ∨ i = g) w w')
    (first | assumption | exact (Chg.refl _ w).drew | exact ((Chg.refl _ w).drew).trans (hs.chg _) | exact (‹Chg (fun i => R i ∨ i = g) w _›).trans L1.chg)
    (first | (go_at_call 60; ((with_reducible refine (NX _ (Same.refl _).drew).mono ?_); rintro e w' ⟨rfl, hs⟩)) | (go_at_call 59; ((with_reducible refine (PR _ (drew_of ‹Same w.drew _›)).mono ?_); rintro e w' ⟨rfl, L1⟩)))
  have L2 : Lft R g gm T _ _ _ _ w _ := ⟨L1.op, L1.mem, ‹Chg (fun i => R i ∨ i = g) w _›⟩
  go_wp2_with fail
  refine (pend _ L2.op L2.mem hg 0).mono ?_
  rintro e w3 ⟨rfl, L3⟩
  have L4 := L2.trans L3
  go_wp2
  go_end0
  rw [E4.out]
  exact ⟨rfl, _, imp_end HS.out HV.out 0, L4⟩

end

end Go.Proofs.Ytejajmdmfipplab.Ff
