/-
  Package ring: each step of a write, and of a read.
-/
import Derived.Test.YtniglkbfkehfmaaRingBase
set_option linter.unusedVariables false
namespace Go.Proofs.Ytniglkbfkehfmaa.Rg
open Go.ChangeShapes Go.WideShapes Go.ChangeAt Go.RowKit Ws Mm Pa

def exf (o : Op.Im) (s : Op.St) : List Value := [.int .i64 o.slots, .int .u32 s.b]
section
variable {R : Nat → Prop} {g gm : Nat} {T : TypeId} {p : Pt} {l : List Int} {st : Int} {o : Op.Im} {size : Nat} {s : Op.St}

theorem toNat_at {o : Op.Im} {size : Nat} {s : Op.St} {p : Pt} (I : Imp o size s p) (k : Nat) (i : Int) (h : i = (k : Int)) : (p.at_ + i).toNat = o.at_ + k := by
  have := I.at_
  omega
theorem x_of {w w' : World} (L : Lft R g gm T p (exf o s) l st w w') : w'.cell? ⟨g, 19, none⟩ = some (.int .i64 o.slots) ∧ w'.cell? ⟨g, 20, none⟩ = some (.int .u32 s.b) := ⟨L.op.ex_ 0, L.op.ex_ 1⟩
theorem drew_of {w w' : World} (h : Same w.drew w') : Same w w' := Same.trans (Same.refl w).drew h

set_option maxHeartbeats 400000 in
theorem rw0 (w : World) (h : PB w g T p (exf o s)) (I : Imp o size s p) (m : Mem w R gm l st) (hg : ¬ R g) (hl : Op.Wd l) (ok : Op.ringOk o s) (hw : Op.ringAl o) (hfit : o.at_ + size ≤ l.length) (hsz : size = 1 + o.slots * o.width) (hov : s.over = false) (hs : s.steps ≤ 1000) (hwr : o.wr = true) (hrow : s.row = 0) :
    Calls Try.prog 77 #[.pointer (some ⟨g, 0, none⟩), .pointer (some ⟨gm, 0, none⟩)] w (Did R g gm T (exf o) o size (Op.ring o s l) (wrap64 (st + 1)) w) := by
  have hin := Op.rmod_in hw (Op.gd l (o.at_ + 0) + 1)
  have hws := hw.2.2
  have hsh := m.short
  have ia := I.at_
  have is := I.steps
  obtain ⟨i1, i2⟩ := I.st hov
  have i3 := I.att hov
  have hmd := Op.rmod_bd hw
  obtain ⟨⟨b1, b2⟩, ab, _, ok⟩ := ok
  obtain ⟨⟨w1, w8⟩, ⟨cap1, cap16⟩, ⟨sl2, sl16⟩⟩ := hw
  have hpos : 0 < o.slots * o.width := Nat.mul_pos (by omega) w1
  have stp : 0 ≤ p.stage ∧ p.stage ≤ 100000 := by omega
  have sts : 0 ≤ p.steps ∧ p.steps ≤ 100000 := by omega
  have c3 := h.head.2.2.2.1
  rw [i1, hrow] at c3
  have x0 := h.ex_ 0
  have x1 := h.ex_ 1
  simp only [exf, List.getElem?_cons_zero, List.getElem?_cons_succ] at x0 x1
  have PR := fun w' (s' : Same w w') => pread w' (h.same s') (m.same s') hg 0 sts (by omega) (by omega)
  rw [toNat_at I 0 0 rfl] at PR
  have hy := hl.get o 0
  rw [Op.get_gd] at hy
  obtain ⟨y, ey⟩ : ∃ y, y = Op.gd l (o.at_ + 0) := ⟨_, rfl⟩
  rw [← ey] at PR hy hin
  have e4 : Op.ring o s l = ({ (Op.more s).to (s.row + 1) with a := (y + 1) % Op.rmod o, b := (y + 1) % Op.rmod o }, l) := by simp [Op.ring, hwr, Op.ringW, Op.more, hrow, ey, Op.get_gd]
  have MD := fun w' => modulus_any o.slots hws w'
  have NX := fun w' => wnext_any y (Op.rmod o) hy (by omega) w'
  rw [show ((o.slots : Int) * 1048576) = Op.rmod o from rfl] at MD
  obtain ⟨z, hz⟩ : ∃ z, z = (y + 1) % Op.rmod o := ⟨_, rfl⟩
  rw [← hz] at e4 NX
  generalize Op.rmod o = M at *
  clear ey hz hin hws
  have E4 := Lib.hid e4
  have HS := Lib.hid I
  have HO := Lib.hid ok
  have HV := Lib.hid hov
  clear ia is i1 i2 i3 e4 I ok hov hrow hmd hpos ab
  go_enter Try.func77, Try.ntmps77
  go_wp2_with fail
  go_region_held3 (fun w' => w'.cell? ⟨g, 19, none⟩ = some (.int .i64 o.slots))
    (first | assumption | (rw [World.cell?_setCell_other _ _ _ _ (by simp)]; assumption) | exact (x_of ‹Lft _ _ _ _ _ (exf o s) _ _ _ _›).1)
    (first | (go_at_call 119; ((with_reducible refine (MD _).mono ?_); rintro e w' ⟨rfl, rfl⟩)) | (go_at_call 90; ((with_reducible refine (PR _ (Same.refl _).drew).mono ?_); rintro e w' ⟨rfl, L1⟩; have z0 := L1.op.ex_ 1; have f1 := L1.op.thaw 20)) | (go_at_call 118; ((with_reducible refine (NX _).mono ?_); rintro e w' ⟨rfl, rfl⟩)))
  have L1 := L1.drew0
  have L2 := L1.set hg 20 _ (L1.op.put_ex 1 (.int .u32 z))
  go_wp2_with fail
  refine (pnext _ L2.op L2.mem hg stp).mono ?_
  rintro e w3 ⟨rfl, L3⟩
  have L4 := L2.trans L3
  go_wp2
  go_end0
  rw [E4.out]
  exact ⟨rfl, _, imp_next HS.out HV.out _ rfl rfl rfl rfl HV.out rfl rfl, L4⟩

set_option maxHeartbeats 400000 in
theorem rw1 (w : World) (h : PB w g T p (exf o s)) (I : Imp o size s p) (m : Mem w R gm l st) (hg : ¬ R g) (hl : Op.Wd l) (ok : Op.ringOk o s) (hw : Op.ringAl o) (hfit : o.at_ + size ≤ l.length) (hsz : size = 1 + o.slots * o.width) (hov : s.over = false) (hs : s.steps ≤ 1000) (hwr : o.wr = true) (hrow : s.row = 1) :
    Calls Try.prog 77 #[.pointer (some ⟨g, 0, none⟩), .pointer (some ⟨gm, 0, none⟩)] w (Did R g gm T (exf o) o size (Op.ring o s l) (wrap64 (st + 1)) w) := by
  have hsh := m.short
  have ia := I.at_
  have is := I.steps
  obtain ⟨i1, i2⟩ := I.st hov
  have i3 := I.att hov
  have hmd := Op.rmod_bd hw
  obtain ⟨⟨b1, b2⟩, ab, _, ok⟩ := ok
  obtain ⟨⟨w1, w8⟩, ⟨cap1, cap16⟩, ⟨sl2, sl16⟩⟩ := hw
  have hpos : 0 < o.slots * o.width := Nat.mul_pos (by omega) w1
  have stp : 0 ≤ p.stage ∧ p.stage ≤ 100000 := by omega
  have sts : 0 ≤ p.steps ∧ p.steps ≤ 100000 := by omega
  have c3 := h.head.2.2.2.1
  rw [i1, hrow] at c3
  have x0 := h.ex_ 0
  have x1 := h.ex_ 1
  simp only [exf, List.getElem?_cons_zero, List.getElem?_cons_succ] at x0 x1
  have iw := I.width
  obtain ⟨_, _, ok⟩ := ok hov
  obtain ⟨_, _, o2, _, o4⟩ := ok.1 hwr
  have hi := o4 hrow
  have hbn : (s.b % (o.slots : Int)).toNat < o.slots := by
    have h0 := Int.emod_nonneg s.b (show (o.slots : Int) ≠ 0 by omega)
    have h1 := Int.emod_lt_of_pos s.b (show (0 : Int) < o.slots by omega)
    omega
  have hk1 : Op.ringK o s.b + o.width ≤ 1 + o.slots * o.width := by
    unfold Op.ringK
    have := Nat.mul_le_mul_right o.width (show (s.b % (o.slots : Int)).toNat + 1 ≤ o.slots by omega)
    rw [Nat.add_mul] at this
    omega
  have hk0 : 1 ≤ Op.ringK o s.b ∧ Op.ringK o s.b ≤ 1000 := by
    have : o.slots * o.width ≤ 16 * 8 := Nat.mul_le_mul sl16 w8
    unfold Op.ringK at hk1 ⊢
    omega
  have PL := fun w' (s' : Same w w') => place_any w' (h.same s') o.width iw ⟨b1, b2⟩ ⟨sl2, sl16⟩ w8
  rw [show (1 + (s.b % (o.slots : Int)).toNat * o.width) = Op.ringK o s.b from rfl] at PL
  have hk2 : ((Op.ringK o s.b : Nat) : Int) + (s.i : Int) = ((Op.ringK o s.b + s.i : Nat) : Int) := by omega
  have PR := fun w' (s' : Same w w') => precord_wr w' (h.same s') (m.same s') hg (Op.ringK o s.b : Nat) s.i (by rw [I.rd, hwr]; rfl) i2 (by omega) sts stp (by omega) (by omega)
  rw [toNat_at I (Op.ringK o s.b + s.i) _ hk2, I.gd s.i (by omega)] at PR
  have e4 : (Op.ring o s l) = Op.word o (Op.more s) l (Op.ringK o s.b) (some 2) := by simp [Op.ring, hwr, Op.ringW, Op.more, hrow]
  have e5 : (Op.word o (Op.more s) l (Op.ringK o s.b) (some 2)).2 = l.set (o.at_ + (Op.ringK o s.b + s.i)) (Op.gd s.rc s.i) := by
    simp only [Op.word, hwr, if_true]
    split <;> rfl
  have e6 : exf o (Op.word o (Op.more s) l (Op.ringK o s.b) (some 2)).1 = exf o s := by
    simp only [Op.word, hwr, if_true]
    split <;> rfl
  have im := imp_word_wr I hov hwr l (Op.ringK o s.b) 2 (by rw [hrow])
  generalize ((Op.ringK o s.b : Nat) : Int) = K at *
  have E5 := Lib.hid e5
  have E6 := Lib.hid e6
  have HK2 := Lib.hid hk2
  clear iw e5 e6 hk2 o2 o4 hbn hk1 hk0
  have E4 := Lib.hid e4
  have HS := Lib.hid I
  have HO := Lib.hid ok
  have HV := Lib.hid hov
  clear ia is i1 i2 i3 e4 I ok hov hrow hmd hpos ab
  go_enter Try.func77, Try.ntmps77
  go_wp2_with fail
  go_region_held3 (fun w' => Chg (fun i => R i ∨ i = g) w w')
    (first | assumption | exact (Chg.refl _ w).drew | exact ((Chg.refl _ w).drew).trans (hs.chg _) | exact (‹Chg (fun i => R i ∨ i = g) w _›).trans L1.chg)
    (first | (go_at_call 115; ((with_reducible refine (PL _ (Same.refl _).drew).mono ?_); rintro e w' ⟨rfl, hs⟩)) | (go_at_call 94; ((with_reducible refine (PR _ (drew_of ‹Same w.drew _›)).mono ?_); rintro e w' ⟨rfl, L1⟩)))
  go_wp2
  go_end0
  rw [E4.out]
  exact ⟨rfl, _, im, ⟨by rw [E6.out]; exact L1.op, by rw [E5.out]; exact L1.mem, ‹Chg (fun i => R i ∨ i = g) w _›⟩⟩

set_option maxHeartbeats 400000 in
theorem rw2 (w : World) (h : PB w g T p (exf o s)) (I : Imp o size s p) (m : Mem w R gm l st) (hg : ¬ R g) (hl : Op.Wd l) (ok : Op.ringOk o s) (hw : Op.ringAl o) (hfit : o.at_ + size ≤ l.length) (hsz : size = 1 + o.slots * o.width) (hov : s.over = false) (hs : s.steps ≤ 1000) (hwr : o.wr = true) (hrow : s.row = 2) :
    Calls Try.prog 77 #[.pointer (some ⟨g, 0, none⟩), .pointer (some ⟨gm, 0, none⟩)] w (Did R g gm T (exf o) o size (Op.ring o s l) (wrap64 (st + 1)) w) := by
  have hsh := m.short
  have ia := I.at_
  have is := I.steps
  obtain ⟨i1, i2⟩ := I.st hov
  have i3 := I.att hov
  have hmd := Op.rmod_bd hw
  obtain ⟨⟨b1, b2⟩, ab, _, ok⟩ := ok
  obtain ⟨⟨w1, w8⟩, ⟨cap1, cap16⟩, ⟨sl2, sl16⟩⟩ := hw
  have hpos : 0 < o.slots * o.width := Nat.mul_pos (by omega) w1
  have stp : 0 ≤ p.stage ∧ p.stage ≤ 100000 := by omega
  have sts : 0 ≤ p.steps ∧ p.steps ≤ 100000 := by omega
  have c3 := h.head.2.2.2.1
  rw [i1, hrow] at c3
  have x0 := h.ex_ 0
  have x1 := h.ex_ 1
  simp only [exf, List.getElem?_cons_zero, List.getElem?_cons_succ] at x0 x1
  have PR := fun w' (s' : Same w w') => pwrite w' (h.same s') (m.same s') hg 0 s.b sts (by omega) (by omega)
  rw [toNat_at I 0 0 rfl] at PR
  have e4 : Op.ring o s l = ((Op.more s).fin o.wr 0, Op.put o l 0 s.b) := by simp [Op.ring, hwr, Op.ringW, Op.more, hrow]
  have E4 := Lib.hid e4
  have HS := Lib.hid I
  have HO := Lib.hid ok
  have HV := Lib.hid hov
  clear ia is i1 i2 i3 e4 I ok hov hrow hmd hpos ab
  go_enter Try.func77, Try.ntmps77
  go_wp2_with fail
  go_region_held3 (fun w' => w'.cell? ⟨g, 20, none⟩ = some (.int .u32 s.b))
    (first | assumption | exact (x_of ‹Lft _ _ _ _ _ (exf o s) _ _ _ _›).2)
    (first | (go_at_call 92; ((with_reducible refine (PR _ (Same.refl _).drew).mono ?_); rintro e w' ⟨rfl, L1⟩)))
  have L2 := L1.drew0
  go_wp2_with fail
  refine (pend _ L2.op L2.mem hg 0).mono ?_
  rintro e w3 ⟨rfl, L3⟩
  have L4 := L2.trans L3
  go_wp2
  go_end0
  rw [E4.out]
  exact ⟨rfl, _, imp_end HS.out HV.out 0, L4⟩

theorem rfail {ex : List Value} (w : World) (h : PB w g T p ex) (m : Mem w R gm l st) (hg : ¬ R g) (ha : 0 ≤ p.att ∧ p.att ≤ 100000) :
    Calls Try.prog 117 #[.pointer (some ⟨g, 0, none⟩)] w fun e w' => e = .returned (.tuple #[]) ∧ Lft R g gm T (Pt.failed p) ex l st w w' := by
  have PA := pagain w h m hg ha
  unfold Pt.failed
  by_cases hlt : p.att - 1 < 1
  · rw [if_pos hlt, decide_eq_true hlt] at PA
    rw [if_pos hlt]
    clear h m
    go_enter Try.func117, Try.ntmps117
    go_wp2_with fail
    refine PA.mono ?_
    rintro e w1 ⟨rfl, L1⟩
    go_wp2_with fail
    refine (pend _ L1.op L1.mem hg 1).mono ?_
    rintro e w2 ⟨rfl, L2⟩
    go_wp2
    go_end0
    exact ⟨rfl, L1.trans L2⟩
  · rw [if_neg hlt, decide_eq_false hlt] at PA
    rw [if_neg hlt]
    clear h m
    go_enter Try.func117, Try.ntmps117
    go_wp2_with fail
    refine PA.mono ?_
    rintro e w1 ⟨rfl, L1⟩
    go_wp2
    go_end0
    exact ⟨rfl, L1⟩

theorem fresh_any (w : World) (h : PB w g T p (exf o s)) (now : Int) (hnow : 0 ≤ now ∧ now < 4294967296) (hb : 0 ≤ s.b ∧ s.b < 4294967296) (hw : Op.ringAl o) :
    Calls Try.prog 116 #[.pointer (some ⟨g, 0, none⟩), .int .u32 now] w fun e w' => e = .returned (.bool (decide (Op.rgap (Op.rmod o) s.b now + 1 < (o.slots : Int)))) ∧ Same w w' := by
  have hmd := Op.rmod_bd hw
  have hn := hw.2.2
  have x0 := h.ex_ 0
  have x1 := h.ex_ 1
  simp only [exf, List.getElem?_cons_zero, List.getElem?_cons_succ] at x0 x1
  have MD := fun w' => modulus_any o.slots hn w'
  rw [show ((o.slots : Int) * 1048576) = Op.rmod o from rfl] at MD
  have GP := fun w' => wgap_any s.b now (Op.rmod o) hb hnow (by omega) w'
  generalize Op.rgap (Op.rmod o) s.b now = G at *
  generalize Op.rmod o = M at *
  generalize s.b = c at *
  have E : Hid (decide (G < (o.slots : Int) - 1) = decide (G + 1 < (o.slots : Int))) := Lib.hid (by rw [decide_eq_decide]; omega)
  have f1 : IntKind.i64.wrap ((o.slots : Int) - 1) = (o.slots : Int) - 1 := Go.IntWalk.i64_in _ (by omega)
  have f2 : IntKind.u32.wrap ((o.slots : Int) - 1) = (o.slots : Int) - 1 := u32_in _ (by omega)
  have f3 : wrap64 ((o.slots : Int) - 1) = (o.slots : Int) - 1 := by unfold wrap64; omega
  generalize (o.slots : Int) = n at *
  clear h hw hmd hb hnow hn
  go_enter Try.func116, Try.ntmps116
  go_wp2_with fail
  go_region_held3 (fun w' => w'.cell? ⟨g, 19, none⟩ = some (.int .i64 n) ∧ w'.cell? ⟨g, 20, none⟩ = some (.int .u32 c) ∧ Same w w')
    (first | assumption | exact ⟨x0, x1, (Same.refl _).drew⟩)
    (first | (go_at_call 119; ((with_reducible refine (MD _).mono ?_); rintro e w' ⟨rfl, rfl⟩)) | (go_at_call 127; ((with_reducible refine (GP _).mono ?_); rintro e w' ⟨rfl, rfl⟩)))
  rcases ‹_ ∧ _ ∧ Same w _› with ⟨_, _, x9⟩
  go_wp2
  go_ret
  exact ⟨ret_bool E.out, x9⟩

set_option maxHeartbeats 400000 in
theorem rr0 (w : World) (h : PB w g T p (exf o s)) (I : Imp o size s p) (m : Mem w R gm l st) (hg : ¬ R g) (hl : Op.Wd l) (ok : Op.ringOk o s) (hw : Op.ringAl o) (hfit : o.at_ + size ≤ l.length) (hsz : size = 1 + o.slots * o.width) (hov : s.over = false) (hs : s.steps ≤ 1000) (hwr : o.wr = false) (hrow : s.row = 0) :
    Calls Try.prog 76 #[.pointer (some ⟨g, 0, none⟩), .pointer (some ⟨gm, 0, none⟩)] w (Did R g gm T (exf o) o size (Op.ring o s l) (wrap64 (st + 1)) w) := by
  have hsh := m.short
  have ia := I.at_
  have is := I.steps
  obtain ⟨i1, i2⟩ := I.st hov
  have i3 := I.att hov
  have hmd := Op.rmod_bd hw
  obtain ⟨⟨b1, b2⟩, ab, _, ok⟩ := ok
  obtain ⟨⟨w1, w8⟩, ⟨cap1, cap16⟩, ⟨sl2, sl16⟩⟩ := hw
  have hpos : 0 < o.slots * o.width := Nat.mul_pos (by omega) w1
  have stp : 0 ≤ p.stage ∧ p.stage ≤ 100000 := by omega
  have sts : 0 ≤ p.steps ∧ p.steps ≤ 100000 := by omega
  have c3 := h.head.2.2.2.1
  rw [i1, hrow] at c3
  have x0 := h.ex_ 0
  have x1 := h.ex_ 1
  simp only [exf, List.getElem?_cons_zero, List.getElem?_cons_succ] at x0 x1
  have PR := pread w h m hg 0 sts (by omega) (by omega)
  rw [toNat_at I 0 0 rfl] at PR
  have hy := hl.get o 0
  rw [Op.get_gd] at hy
  obtain ⟨y, ey⟩ : ∃ y, y = Op.gd l (o.at_ + 0) := ⟨_, rfl⟩
  rw [← ey] at PR hy
  have e4 : Op.ring o s l = ({ (Op.more s).to (s.row + 1) with a := y % Op.rmod o, b := y }, l) := by simp [Op.ring, hwr, Op.ringR, Op.more, hrow, ey, Op.get_gd]
  clear ey
  have E4 := Lib.hid e4
  have HS := Lib.hid I
  have HO := Lib.hid ok
  have HV := Lib.hid hov
  clear ia is i1 i2 i3 e4 I ok hov hrow hmd hpos ab
  go_enter Try.func76, Try.ntmps76
  go_wp2_with fail
  refine PR.mono ?_
  rintro e w1 ⟨rfl, L1⟩
  have z0 := L1.op.ex_ 1
  simp only [exf, List.getElem?_cons_zero, List.getElem?_cons_succ] at z0
  have f1 := L1.op.thaw 20
  have L2 := L1.set hg 20 _ (L1.op.put_ex 1 (.int .u32 y))
  go_wp2_with fail
  refine (pnext _ L2.op L2.mem hg stp).mono ?_
  rintro e w3 ⟨rfl, L3⟩
  have L4 := L2.trans L3
  go_wp2
  go_end0
  rw [E4.out]
  exact ⟨rfl, _, imp_next HS.out HV.out _ rfl rfl rfl rfl HV.out rfl rfl, L4⟩

set_option maxHeartbeats 400000 in
theorem rr1 (w : World) (h : PB w g T p (exf o s)) (I : Imp o size s p) (m : Mem w R gm l st) (hg : ¬ R g) (hl : Op.Wd l) (ok : Op.ringOk o s) (hw : Op.ringAl o) (hfit : o.at_ + size ≤ l.length) (hsz : size = 1 + o.slots * o.width) (hov : s.over = false) (hs : s.steps ≤ 1000) (hwr : o.wr = false) (hrow : s.row = 1) :
    Calls Try.prog 76 #[.pointer (some ⟨g, 0, none⟩), .pointer (some ⟨gm, 0, none⟩)] w (Did R g gm T (exf o) o size (Op.ring o s l) (wrap64 (st + 1)) w) := by
  have hsh := m.short
  have ia := I.at_
  have is := I.steps
  obtain ⟨i1, i2⟩ := I.st hov
  have i3 := I.att hov
  have hmd := Op.rmod_bd hw
  obtain ⟨⟨b1, b2⟩, ab, _, ok⟩ := ok
  obtain ⟨⟨w1, w8⟩, ⟨cap1, cap16⟩, ⟨sl2, sl16⟩⟩ := hw
  have hpos : 0 < o.slots * o.width := Nat.mul_pos (by omega) w1
  have stp : 0 ≤ p.stage ∧ p.stage ≤ 100000 := by omega
  have sts : 0 ≤ p.steps ∧ p.steps ≤ 100000 := by omega
  have c3 := h.head.2.2.2.1
  rw [i1, hrow] at c3
  have x0 := h.ex_ 0
  have x1 := h.ex_ 1
  simp only [exf, List.getElem?_cons_zero, List.getElem?_cons_succ] at x0 x1
  have iw := I.width
  obtain ⟨_, _, ok⟩ := ok hov
  obtain ⟨_, _, o2, _, _, o4⟩ := ok.2 hwr
  have hi := o4 hrow
  have hbn : (s.b % (o.slots : Int)).toNat < o.slots := by
    have h0 := Int.emod_nonneg s.b (show (o.slots : Int) ≠ 0 by omega)
    have h1 := Int.emod_lt_of_pos s.b (show (0 : Int) < o.slots by omega)
    omega
  have hk1 : Op.ringK o s.b + o.width ≤ 1 + o.slots * o.width := by
    unfold Op.ringK
    have := Nat.mul_le_mul_right o.width (show (s.b % (o.slots : Int)).toNat + 1 ≤ o.slots by omega)
    rw [Nat.add_mul] at this
    omega
  have hk0 : 1 ≤ Op.ringK o s.b ∧ Op.ringK o s.b ≤ 1000 := by
    have : o.slots * o.width ≤ 16 * 8 := Nat.mul_le_mul sl16 w8
    unfold Op.ringK at hk1 ⊢
    omega
  have PL := fun w' (s' : Same w w') => place_any w' (h.same s') o.width iw ⟨b1, b2⟩ ⟨sl2, sl16⟩ w8
  rw [show (1 + (s.b % (o.slots : Int)).toNat * o.width) = Op.ringK o s.b from rfl] at PL
  have hk2 : ((Op.ringK o s.b : Nat) : Int) + (s.i : Int) = ((Op.ringK o s.b + s.i : Nat) : Int) := by omega
  have hrl := o2 hrow
  have h8 := h.1
  obtain ⟨v, hv⟩ : ∃ v, v = Op.get o l (Op.ringK o s.b + s.i) := ⟨_, rfl⟩
  have PR := fun w' (s' : Same w w') => precord_rd w' (h.same s') (m.same s') hg (Op.ringK o s.b : Nat) s.i (by rw [I.rd, hwr]; rfl) i2 (by omega) sts stp (by omega) (by omega)
  rw [toNat_at I (Op.ringK o s.b + s.i) _ hk2, ← Op.get_gd, ← hv] at PR
  have e4 : (Op.ring o s l) = Op.word o (Op.more s) l (Op.ringK o s.b) (some 2) := by simp [Op.ring, hwr, Op.ringR, Op.more, hrow]
  have e5 : (Op.word o (Op.more s) l (Op.ringK o s.b) (some 2)).2 = l := by
    simp only [Op.word, hwr, Bool.false_eq_true, if_false]
    split <;> rfl
  have e6 : exf o (Op.word o (Op.more s) l (Op.ringK o s.b) (some 2)).1 = exf o s := by
    simp only [Op.word, hwr, Bool.false_eq_true, if_false]
    split <;> rfl
  have im := imp_word_rd I hov hwr h8 hrl (by omega) l (Op.ringK o s.b) 2 (by rw [hrow]) v hv
  generalize ((Op.ringK o s.b : Nat) : Int) = K at *
  have E5 := Lib.hid e5
  have E6 := Lib.hid e6
  have HK2 := Lib.hid hk2
  clear iw e5 e6 hk2 o2 o4 hbn hk1 hk0 hv hrl h8
  have E4 := Lib.hid e4
  have HS := Lib.hid I
  have HO := Lib.hid ok
  have HV := Lib.hid hov
  clear ia is i1 i2 i3 e4 I ok hov hrow hmd hpos ab
  go_enter Try.func76, Try.ntmps76
  go_wp2_with fail
  go_region_held3 (fun w' => Chg (fun i => R i ∨ i = g) w w')
    (first | assumption | exact (Chg.refl _ w).drew | exact ((Chg.refl _ w).drew).trans (hs.chg _) | exact (‹Chg (fun i => R i ∨ i = g) w _›).trans L1.chg)
    (first | (go_at_call 115; ((with_reducible refine (PL _ (Same.refl _).drew).mono ?_); rintro e w' ⟨rfl, hs⟩)) | (go_at_call 94; ((with_reducible refine (PR _ (drew_of ‹Same w.drew _›)).mono ?_); rintro e w' ⟨rfl, L1⟩)))
  go_wp2
  go_end0
  rw [E4.out]
  exact ⟨rfl, _, im, ⟨by rw [E6.out]; exact L1.op, by rw [E5.out]; exact L1.mem, ‹Chg (fun i => R i ∨ i = g) w _›⟩⟩

set_option maxHeartbeats 400000 in
theorem rr2 (w : World) (h : PB w g T p (exf o s)) (I : Imp o size s p) (m : Mem w R gm l st) (hg : ¬ R g) (hl : Op.Wd l) (ok : Op.ringOk o s) (hw : Op.ringAl o) (hfit : o.at_ + size ≤ l.length) (hsz : size = 1 + o.slots * o.width) (hov : s.over = false) (hs : s.steps ≤ 1000) (hwr : o.wr = false) (hrow : s.row = 2) (hsame : Op.rgap (Op.rmod o) s.b (Op.gd l (o.at_ + 0)) + 1 < (o.slots : Int)) :
    Calls Try.prog 76 #[.pointer (some ⟨g, 0, none⟩), .pointer (some ⟨gm, 0, none⟩)] w (Did R g gm T (exf o) o size (Op.ring o s l) (wrap64 (st + 1)) w) := by
  have HWW := hw
  have hsh := m.short
  have ia := I.at_
  have is := I.steps
  obtain ⟨i1, i2⟩ := I.st hov
  have i3 := I.att hov
  have hmd := Op.rmod_bd hw
  obtain ⟨⟨b1, b2⟩, ab, _, ok⟩ := ok
  obtain ⟨⟨w1, w8⟩, ⟨cap1, cap16⟩, ⟨sl2, sl16⟩⟩ := hw
  have hpos : 0 < o.slots * o.width := Nat.mul_pos (by omega) w1
  have stp : 0 ≤ p.stage ∧ p.stage ≤ 100000 := by omega
  have sts : 0 ≤ p.steps ∧ p.steps ≤ 100000 := by omega
  have c3 := h.head.2.2.2.1
  rw [i1, hrow] at c3
  have x0 := h.ex_ 0
  have x1 := h.ex_ 1
  simp only [exf, List.getElem?_cons_zero, List.getElem?_cons_succ] at x0 x1
  have PR := pread w h m hg 0 sts (by omega) (by omega)
  rw [toNat_at I 0 0 rfl] at PR
  have hy := hl.get o 0
  rw [Op.get_gd] at hy
  obtain ⟨y, ey⟩ : ∃ y, y = Op.gd l (o.at_ + 0) := ⟨_, rfl⟩
  rw [← ey] at PR hy hsame
  have e4 : Op.ring o s l = ((Op.more s).fin o.wr 0, l) := by
    simp only [Op.ring, hwr, Op.ringR, Op.more, hrow, Op.get_gd, ← ey, hsame, ↓reduceIte, Bool.false_eq_true]
  have HSM : Hid (decide (Op.rgap (Op.rmod o) s.b y + 1 < (o.slots : Int)) = true) := Lib.hid (decide_eq_true hsame)
  have HY := Lib.hid hy
  have HB : Hid (0 ≤ s.b ∧ s.b < 4294967296) := Lib.hid ⟨b1, b2⟩
  have HW := Lib.hid HWW
  clear ey hsame hy HWW
  have E4 := Lib.hid e4
  have HS := Lib.hid I
  have HO := Lib.hid ok
  have HV := Lib.hid hov
  clear ia is i1 i2 i3 e4 I ok hov hrow hmd hpos ab
  go_enter Try.func76, Try.ntmps76
  go_wp2_with fail
  refine PR.mono ?_
  rintro e w1 ⟨rfl, L1⟩
  have FRE := fresh_any w1 L1.op y HY.out HB.out HW.out
  rw [HSM.out] at FRE
  go_wp2_with fail
  refine FRE.mono ?_
  rintro e w2 ⟨rfl, S2⟩
  have L2 := L1.same S2
  go_wp2_with fail
  refine (pend _ L2.op L2.mem hg 0).mono ?_
  rintro e w3 ⟨rfl, L3⟩
  have L4 := L2.trans L3
  go_wp2
  go_end0
  rw [E4.out]
  exact ⟨rfl, _, imp_end HS.out HV.out 0, L4⟩

set_option maxHeartbeats 400000 in
theorem rr2f (w : World) (h : PB w g T p (exf o s)) (I : Imp o size s p) (m : Mem w R gm l st) (hg : ¬ R g) (hl : Op.Wd l) (ok : Op.ringOk o s) (hw : Op.ringAl o) (hfit : o.at_ + size ≤ l.length) (hsz : size = 1 + o.slots * o.width) (hov : s.over = false) (hs : s.steps ≤ 1000) (hwr : o.wr = false) (hrow : s.row = 2) (hsame : ¬ (Op.rgap (Op.rmod o) s.b (Op.gd l (o.at_ + 0)) + 1 < (o.slots : Int))) :
    Calls Try.prog 76 #[.pointer (some ⟨g, 0, none⟩), .pointer (some ⟨gm, 0, none⟩)] w (Did R g gm T (exf o) o size (Op.ring o s l) (wrap64 (st + 1)) w) := by
  have HWW := hw
  have hsh := m.short
  have ia := I.at_
  have is := I.steps
  obtain ⟨i1, i2⟩ := I.st hov
  have i3 := I.att hov
  have hmd := Op.rmod_bd hw
  obtain ⟨⟨b1, b2⟩, ab, _, ok⟩ := ok
  obtain ⟨⟨w1, w8⟩, ⟨cap1, cap16⟩, ⟨sl2, sl16⟩⟩ := hw
  have hpos : 0 < o.slots * o.width := Nat.mul_pos (by omega) w1
  have stp : 0 ≤ p.stage ∧ p.stage ≤ 100000 := by omega
  have sts : 0 ≤ p.steps ∧ p.steps ≤ 100000 := by omega
  have c3 := h.head.2.2.2.1
  rw [i1, hrow] at c3
  have x0 := h.ex_ 0
  have x1 := h.ex_ 1
  simp only [exf, List.getElem?_cons_zero, List.getElem?_cons_succ] at x0 x1
  have PR := pread w h m hg 0 sts (by omega) (by omega)
  rw [toNat_at I 0 0 rfl] at PR
  have hy := hl.get o 0
  rw [Op.get_gd] at hy
  obtain ⟨y, ey⟩ : ∃ y, y = Op.gd l (o.at_ + 0) := ⟨_, rfl⟩
  rw [← ey] at PR hy hsame
  have e4 : Op.ring o s l = (Op.failS o (Op.more s), l) := by
    simp only [Op.ring, hwr, Op.ringR, Op.more, hrow, Op.get_gd, ← ey, hsame, ↓reduceIte, Bool.false_eq_true]
  have e6 : exf o (Op.failS o (Op.more s)) = exf o s := by
    unfold Op.failS
    simp only
    split <;> rfl
  have HSM : Hid (decide (Op.rgap (Op.rmod o) s.b y + 1 < (o.slots : Int)) = false) := Lib.hid (decide_eq_false hsame)
  have tr := (ok hov).2.1
  have at0 : 0 ≤ p.att ∧ p.att ≤ 100000 := by omega
  have E6 := Lib.hid e6
  have HY := Lib.hid hy
  have HB : Hid (0 ≤ s.b ∧ s.b < 4294967296) := Lib.hid ⟨b1, b2⟩
  have HW := Lib.hid HWW
  clear ey hsame hy HWW e6 tr
  have E4 := Lib.hid e4
  have HS := Lib.hid I
  have HO := Lib.hid ok
  have HV := Lib.hid hov
  clear ia is i1 i2 i3 e4 I ok hov hrow hmd hpos ab
  go_enter Try.func76, Try.ntmps76
  go_wp2_with fail
  refine PR.mono ?_
  rintro e w1 ⟨rfl, L1⟩
  have FRE := fresh_any w1 L1.op y HY.out HB.out HW.out
  rw [HSM.out] at FRE
  go_wp2_with fail
  refine FRE.mono ?_
  rintro e w2 ⟨rfl, S2⟩
  have L2 := L1.same S2
  go_wp2_with fail
  refine (rfail _ L2.op L2.mem hg at0).mono ?_
  rintro e w3 ⟨rfl, L3⟩
  have L4 := L2.trans L3
  go_wp2
  go_end0
  rw [E4.out]
  exact ⟨rfl, _, imp_fail HS.out HV.out _ rfl rfl HV.out rfl, ⟨by rw [E6.out]; exact L4.op, L4.mem, L4.chg⟩⟩

end

end Go.Proofs.Ytniglkbfkehfmaa.Rg
