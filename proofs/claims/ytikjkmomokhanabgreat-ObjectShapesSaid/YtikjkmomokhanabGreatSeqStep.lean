/-
  Package seq: each step of a write, and of a read.
-/
import Derived.Test.YtikjkmomokhanabGreatPartAgain
import Derived.Test.YtikjkmomokhanabGreatPartEnd
import Derived.Laws.BitsAllLaws
set_option linter.unusedSimpArgs false
set_option linter.unusedVariables false
namespace Go.Proofs.YtikjkmomokhanabGreat.Sq
open Go.ChangeShapes Go.WideShapes Go.ChangeAt Go.RowKit Ws Mm Pa

def exf (s : Op.St) : List Value := [.int .u32 s.a]
theorem and_one (x : Int) (h : 0 ≤ x ∧ x < 4294967296) : bits .and .u32 x 1 = x % 2 := by
  obtain ⟨n, rfl⟩ := Int.eq_ofNat_of_zero_le h.1
  have := u32_and_nat n 1 (by omega) (by omega)
  rw [show ((1 : Nat) : Int) = 1 from rfl] at this
  rw [this, Nat.and_one_is_mod]
  omega
theorem odd_any (x : Int) (h : 0 ≤ x ∧ x < 4294967296) (w : World) : Calls Tryz.prog 113 #[.int .u32 x] w fun e w' => e = .returned (.bool (x % 2 == 1)) ∧ w = w' := by
  have h1 := Lib.hid (and_one x h)
  go_enter Tryz.func113, Tryz.ntmps113
  go_wp2_with fail
  go_ret
  exact ⟨ret_bool (by rw [h1.out]), rfl⟩
theorem up_wrap (x : Int) : IntKind.u32.wrap x = Op.up x := by rw [IntKind.wrap_u32']; rfl

section
variable {R : Nat → Prop} {g gm : Nat} {T : TypeId} {p : Pt} {l : List Int} {st : Int} {o : Op.Im} {size : Nat} {s : Op.St}

theorem toNat_at {o : Op.Im} {size : Nat} {s : Op.St} {p : Pt} (I : Imp o size s p) (k : Nat) (i : Int) (h : i = (k : Int)) : (p.at_ + i).toNat = o.at_ + k := by
  have := I.at_
  omega
theorem x_of {w w' : World} (L : Lft R g gm T p (exf s) l st w w') : w'.cell? ⟨g, 19, none⟩ = some (.int .u32 s.a) := L.op.ex_ 0
theorem drew_of {w w' : World} (h : Same w.drew w') : Same w w' := Same.trans (Same.refl w).drew h

theorem sfail {ex : List Value} (w : World) (h : PB w g T p ex) (m : Mem w R gm l st) (hg : ¬ R g) (ha : 0 ≤ p.att ∧ p.att ≤ 100000) :
    Calls Tryz.prog 183 #[.pointer (some ⟨g, 0, none⟩)] w fun e w' => e = .returned (.tuple #[]) ∧ Lft R g gm T (Pt.failed p) ex l st w w' := by
  have PA := pagain w h m hg ha
  unfold Pt.failed
  by_cases hlt : p.att - 1 < 1
  · rw [if_pos hlt, decide_eq_true hlt] at PA
    rw [if_pos hlt]
    clear h m
    go_enter Tryz.func183, Tryz.ntmps183
    go_wp2_with fail
    refine PA.mono ?_
    rintro e w1 ⟨rfl, L1⟩
    go_wp2_with fail
    refine (pend _ L1.op L1.mem hg 1).mono ?_
    rintro e w2 ⟨rfl, L2⟩
    go_wp2
    go_end0
    exact ⟨rfl, L1.trans L2⟩
  · rw [if_neg hlt, decide_eq_false hlt] at PA
    rw [if_neg hlt]
    clear h m
    go_enter Tryz.func183, Tryz.ntmps183
    go_wp2_with fail
    refine PA.mono ?_
    rintro e w1 ⟨rfl, L1⟩
    go_wp2
    go_end0
    exact ⟨rfl, L1⟩

set_option maxHeartbeats 400000 in
theorem sw0 (w : World) (h : PB w g T p (exf s)) (I : Imp o size s p) (m : Mem w R gm l st) (hg : ¬ R g) (hl : Op.Wd l) (ok : Op.seqOk o s) (hw : Op.seqAl o) (hfit : o.at_ + size ≤ l.length) (hsz : size = 1 + o.width) (hov : s.over = false) (hs : s.steps ≤ 1000) (hwr : o.wr = true) (hrow : s.row = 0) :
    Calls Tryz.prog 182 #[.pointer (some ⟨g, 0, none⟩), .pointer (some ⟨gm, 0, none⟩)] w (Did R g gm T exf o size (Op.seq o s l) (wrap64 (st + 1)) w) := by
  have hsh := m.short
  have ia := I.at_
  have is := I.steps
  obtain ⟨i1, i2⟩ := I.st hov
  have i3 := I.att hov
  obtain ⟨⟨a1, a2⟩, b0, _, ok⟩ := ok
  obtain ⟨⟨w1, w8⟩, ⟨cap1, cap16⟩⟩ := hw
  have stp : 0 ≤ p.stage ∧ p.stage ≤ 100000 := by omega
  have sts : 0 ≤ p.steps ∧ p.steps ≤ 100000 := by omega
  have c3 := h.head.2.2.2.1
  rw [i1, hrow] at c3
  have x0 := h.ex_ 0
  simp only [exf, List.getElem?_cons_zero, List.getElem?_cons_succ] at x0
  have PR := pread w h m hg 0 sts (by omega) (by omega)
  rw [toNat_at I 0 0 rfl] at PR
  have hy := hl.get o 0
  rw [Op.get_gd] at hy
  obtain ⟨y, ey⟩ : ∃ y, y = Op.gd l (o.at_ + 0) := ⟨_, rfl⟩
  rw [← ey] at PR hy
  have e4 : Op.seq o s l = ({ (Op.more s).to (s.row + 1) with a := y }, l) := by simp [Op.seq, hwr, Op.seqW, Op.more, hrow, ey, Op.get_gd]
  clear ey
  have E4 := Lib.hid e4
  have HS := Lib.hid I
  have HO := Lib.hid ok
  have HV := Lib.hid hov
  clear ia is i1 i2 i3 e4 I ok hov hrow
  go_enter Tryz.func182, Tryz.ntmps182
  go_wp2_with fail
  refine PR.mono ?_
  rintro e w1 ⟨rfl, L1⟩
  have z0 := L1.op.ex_ 0
  simp only [exf, List.getElem?_cons_zero, List.getElem?_cons_succ] at z0
  have f1 := L1.op.thaw 19
  have L2 := L1.set hg 19 _ (L1.op.put_ex 0 (.int .u32 y))
  go_wp2_with fail
  refine (pnext _ L2.op L2.mem hg stp).mono ?_
  rintro e w3 ⟨rfl, L3⟩
  have L4 := L2.trans L3
  go_wp2
  go_end0
  rw [E4.out]
  exact ⟨rfl, _, imp_next HS.out HV.out _ rfl rfl rfl rfl HV.out rfl rfl, L4⟩

set_option maxHeartbeats 400000 in
theorem sw1 (w : World) (h : PB w g T p (exf s)) (I : Imp o size s p) (m : Mem w R gm l st) (hg : ¬ R g) (hl : Op.Wd l) (ok : Op.seqOk o s) (hw : Op.seqAl o) (hfit : o.at_ + size ≤ l.length) (hsz : size = 1 + o.width) (hov : s.over = false) (hs : s.steps ≤ 1000) (hwr : o.wr = true) (hrow : s.row = 1) :
    Calls Tryz.prog 182 #[.pointer (some ⟨g, 0, none⟩), .pointer (some ⟨gm, 0, none⟩)] w (Did R g gm T exf o size (Op.seq o s l) (wrap64 (st + 1)) w) := by
  have hsh := m.short
  have ia := I.at_
  have is := I.steps
  obtain ⟨i1, i2⟩ := I.st hov
  have i3 := I.att hov
  obtain ⟨⟨a1, a2⟩, b0, _, ok⟩ := ok
  obtain ⟨⟨w1, w8⟩, ⟨cap1, cap16⟩⟩ := hw
  have stp : 0 ≤ p.stage ∧ p.stage ≤ 100000 := by omega
  have sts : 0 ≤ p.steps ∧ p.steps ≤ 100000 := by omega
  have c3 := h.head.2.2.2.1
  rw [i1, hrow] at c3
  have x0 := h.ex_ 0
  simp only [exf, List.getElem?_cons_zero, List.getElem?_cons_succ] at x0
  have PR := fun w' (s' : Same w w') => pwrite w' (h.same s') (m.same s') hg 0 (Op.up (s.a + 1)) sts (by omega) (by omega)
  rw [toNat_at I 0 0 rfl] at PR
  have e4 : Op.seq o s l = ((Op.more s).to (s.row + 1), Op.put o l 0 (Op.up (s.a + 1))) := by simp [Op.seq, hwr, Op.seqW, Op.more, hrow]
  have f2 := up_wrap (s.a + 1)
  have E4 := Lib.hid e4
  have HS := Lib.hid I
  have HO := Lib.hid ok
  have HV := Lib.hid hov
  clear ia is i1 i2 i3 e4 I ok hov hrow
  go_enter Tryz.func182, Tryz.ntmps182
  go_wp2_with fail
  go_region_held3 (fun w' => w'.cell? ⟨g, 19, none⟩ = some (.int .u32 s.a))
    (first | assumption | exact x_of ‹Lft _ _ _ _ _ (exf s) _ _ _ _›)
    (first | (go_at_call 152; ((with_reducible refine (PR _ (Same.refl _).drew).mono ?_); rintro e w' ⟨rfl, L1⟩)))
  have L2 := L1.drew0
  go_wp2_with fail
  refine (pnext _ L2.op L2.mem hg stp).mono ?_
  rintro e w3 ⟨rfl, L3⟩
  have L4 := L2.trans L3
  go_wp2
  go_end0
  rw [E4.out]
  exact ⟨rfl, _, imp_next HS.out HV.out _ rfl rfl rfl rfl HV.out rfl rfl, L4⟩

set_option maxHeartbeats 400000 in
theorem sw3 (w : World) (h : PB w g T p (exf s)) (I : Imp o size s p) (m : Mem w R gm l st) (hg : ¬ R g) (hl : Op.Wd l) (ok : Op.seqOk o s) (hw : Op.seqAl o) (hfit : o.at_ + size ≤ l.length) (hsz : size = 1 + o.width) (hov : s.over = false) (hs : s.steps ≤ 1000) (hwr : o.wr = true) (hrow : s.row = 3) :
    Calls Tryz.prog 182 #[.pointer (some ⟨g, 0, none⟩), .pointer (some ⟨gm, 0, none⟩)] w (Did R g gm T exf o size (Op.seq o s l) (wrap64 (st + 1)) w) := by
  have hsh := m.short
  have ia := I.at_
  have is := I.steps
  obtain ⟨i1, i2⟩ := I.st hov
  have i3 := I.att hov
  obtain ⟨⟨a1, a2⟩, b0, _, ok⟩ := ok
  obtain ⟨⟨w1, w8⟩, ⟨cap1, cap16⟩⟩ := hw
  have stp : 0 ≤ p.stage ∧ p.stage ≤ 100000 := by omega
  have sts : 0 ≤ p.steps ∧ p.steps ≤ 100000 := by omega
  have c3 := h.head.2.2.2.1
  rw [i1, hrow] at c3
  have x0 := h.ex_ 0
  simp only [exf, List.getElem?_cons_zero, List.getElem?_cons_succ] at x0
  have PR := fun w' (s' : Same w w') => pwrite w' (h.same s') (m.same s') hg 0 (Op.up (s.a + 2)) sts (by omega) (by omega)
  rw [toNat_at I 0 0 rfl] at PR
  have e4 : Op.seq o s l = ((Op.more s).fin o.wr 0, Op.put o l 0 (Op.up (s.a + 2))) := by simp [Op.seq, hwr, Op.seqW, Op.more, hrow]
  have f2 := up_wrap (s.a + 2)
  have E4 := Lib.hid e4
  have HS := Lib.hid I
  have HO := Lib.hid ok
  have HV := Lib.hid hov
  clear ia is i1 i2 i3 e4 I ok hov hrow
  go_enter Tryz.func182, Tryz.ntmps182
  go_wp2_with fail
  go_region_held3 (fun w' => w'.cell? ⟨g, 19, none⟩ = some (.int .u32 s.a))
    (first | assumption | exact x_of ‹Lft _ _ _ _ _ (exf s) _ _ _ _›)
    (first | (go_at_call 152; ((with_reducible refine (PR _ (Same.refl _).drew).mono ?_); rintro e w' ⟨rfl, L1⟩)))
  have L2 := L1.drew0
  go_wp2_with fail
  refine (pend _ L2.op L2.mem hg 0).mono ?_
  rintro e w3 ⟨rfl, L3⟩
  have L4 := L2.trans L3
  go_wp2
  go_end0
  rw [E4.out]
  exact ⟨rfl, _, imp_end HS.out HV.out 0, L4⟩

set_option maxHeartbeats 400000 in
theorem sw2 (w : World) (h : PB w g T p (exf s)) (I : Imp o size s p) (m : Mem w R gm l st) (hg : ¬ R g) (hl : Op.Wd l) (ok : Op.seqOk o s) (hw : Op.seqAl o) (hfit : o.at_ + size ≤ l.length) (hsz : size = 1 + o.width) (hov : s.over = false) (hs : s.steps ≤ 1000) (hwr : o.wr = true) (hrow : s.row = 2) :
    Calls Tryz.prog 182 #[.pointer (some ⟨g, 0, none⟩), .pointer (some ⟨gm, 0, none⟩)] w (Did R g gm T exf o size (Op.seq o s l) (wrap64 (st + 1)) w) := by
  have hsh := m.short
  have ia := I.at_
  have is := I.steps
  obtain ⟨i1, i2⟩ := I.st hov
  have i3 := I.att hov
  obtain ⟨⟨a1, a2⟩, b0, _, ok⟩ := ok
  obtain ⟨⟨w1, w8⟩, ⟨cap1, cap16⟩⟩ := hw
  have stp : 0 ≤ p.stage ∧ p.stage ≤ 100000 := by omega
  have sts : 0 ≤ p.steps ∧ p.steps ≤ 100000 := by omega
  have c3 := h.head.2.2.2.1
  rw [i1, hrow] at c3
  have x0 := h.ex_ 0
  simp only [exf, List.getElem?_cons_zero, List.getElem?_cons_succ] at x0
  have iw := I.width
  obtain ⟨_, _, ok⟩ := ok hov
  obtain ⟨_, _, o2, _, o4⟩ := ok.1 hwr
  have hi := o4 hrow
  have hk2 : (1 : Int) + (s.i : Int) = ((1 + s.i : Nat) : Int) := by omega
  have PR := precord_wr w h m hg 1 s.i (by rw [I.rd, hwr]; rfl) i2 (by omega) sts stp (by omega) (by omega)
  rw [toNat_at I (1 + s.i) _ hk2, I.gd s.i (by omega)] at PR
  have e4 : (Op.seq o s l) = Op.word o (Op.more s) l 1 (some 3) := by simp [Op.seq, hwr, Op.seqW, Op.more, hrow]
  have e5 : (Op.word o (Op.more s) l 1 (some 3)).2 = l.set (o.at_ + (1 + s.i)) (Op.gd s.rc s.i) := by
    simp only [Op.word, hwr, if_true]
    split <;> rfl
  have e6 : exf (Op.word o (Op.more s) l 1 (some 3)).1 = exf s := by
    simp only [Op.word, hwr, if_true]
    split <;> rfl
  have im := imp_word_wr I hov hwr l 1 3 (by rw [hrow])
  have E4 := Lib.hid e4
  have E5 := Lib.hid e5
  have E6 := Lib.hid e6
  have HV := Lib.hid hov
  clear ia is iw i1 i2 i3 e4 e5 e6 I ok hov hrow hk2 o2 o4
  go_enter Tryz.func182, Tryz.ntmps182
  go_wp2_with fail
  refine PR.mono ?_
  rintro e w1 ⟨rfl, L1⟩
  go_wp2
  go_end0
  rw [E4.out]
  exact ⟨rfl, _, im, ⟨by rw [E6.out]; exact L1.op, by rw [E5.out]; exact L1.mem, L1.chg⟩⟩

set_option maxHeartbeats 400000 in
theorem sr0 (w : World) (h : PB w g T p (exf s)) (I : Imp o size s p) (m : Mem w R gm l st) (hg : ¬ R g) (hl : Op.Wd l) (ok : Op.seqOk o s) (hw : Op.seqAl o) (hfit : o.at_ + size ≤ l.length) (hsz : size = 1 + o.width) (hov : s.over = false) (hs : s.steps ≤ 1000) (hwr : o.wr = false) (hrow : s.row = 0) (hodd : Op.gd l (o.at_ + 0) % 2 ≠ 1) :
    Calls Tryz.prog 181 #[.pointer (some ⟨g, 0, none⟩), .pointer (some ⟨gm, 0, none⟩)] w (Did R g gm T exf o size (Op.seq o s l) (wrap64 (st + 1)) w) := by
  have hsh := m.short
  have ia := I.at_
  have is := I.steps
  obtain ⟨i1, i2⟩ := I.st hov
  have i3 := I.att hov
  obtain ⟨⟨a1, a2⟩, b0, _, ok⟩ := ok
  obtain ⟨⟨w1, w8⟩, ⟨cap1, cap16⟩⟩ := hw
  have stp : 0 ≤ p.stage ∧ p.stage ≤ 100000 := by omega
  have sts : 0 ≤ p.steps ∧ p.steps ≤ 100000 := by omega
  have c3 := h.head.2.2.2.1
  rw [i1, hrow] at c3
  have x0 := h.ex_ 0
  simp only [exf, List.getElem?_cons_zero, List.getElem?_cons_succ] at x0
  have PR := pread w h m hg 0 sts (by omega) (by omega)
  rw [toNat_at I 0 0 rfl] at PR
  have hy := hl.get o 0
  rw [Op.get_gd] at hy
  obtain ⟨y, ey⟩ : ∃ y, y = Op.gd l (o.at_ + 0) := ⟨_, rfl⟩
  rw [← ey] at PR hy hodd
  have e4 : Op.seq o s l = ({ (Op.more s).to (s.row + 1) with a := y }, l) := by
    simp only [Op.seq, hwr, Op.seqR, Op.more, hrow, Op.get_gd, ← ey, Bool.false_eq_true, if_false]
    rw [if_neg hodd]
  have hy2 : (y % 2 == 1) = false := by simpa using hodd
  have OD := odd_any y hy
  rw [hy2] at OD
  clear ey hodd hy2
  have E4 := Lib.hid e4
  have HS := Lib.hid I
  have HO := Lib.hid ok
  have HV := Lib.hid hov
  clear ia is i1 i2 i3 e4 I ok hov hrow
  go_enter Tryz.func181, Tryz.ntmps181
  go_wp2_with fail
  refine PR.mono ?_
  rintro e w1 ⟨rfl, L1⟩
  have z0 := L1.op.ex_ 0
  simp only [exf, List.getElem?_cons_zero, List.getElem?_cons_succ] at z0
  have f1 := L1.op.thaw 19
  have L2 := L1.set hg 19 _ (L1.op.put_ex 0 (.int .u32 y))
  go_wp2_with fail
  refine (OD _).mono ?_
  rintro e w' ⟨rfl, rfl⟩
  go_wp2_with fail
  refine (pnext _ L2.op L2.mem hg stp).mono ?_
  rintro e w3 ⟨rfl, L3⟩
  have L4 := L2.trans L3
  go_wp2
  go_end0
  rw [E4.out]
  exact ⟨rfl, _, imp_next HS.out HV.out _ rfl rfl rfl rfl HV.out rfl rfl, L4⟩

set_option maxHeartbeats 400000 in
theorem sr0f (w : World) (h : PB w g T p (exf s)) (I : Imp o size s p) (m : Mem w R gm l st) (hg : ¬ R g) (hl : Op.Wd l) (ok : Op.seqOk o s) (hw : Op.seqAl o) (hfit : o.at_ + size ≤ l.length) (hsz : size = 1 + o.width) (hov : s.over = false) (hs : s.steps ≤ 1000) (hwr : o.wr = false) (hrow : s.row = 0) (hodd : Op.gd l (o.at_ + 0) % 2 = 1) :
    Calls Tryz.prog 181 #[.pointer (some ⟨g, 0, none⟩), .pointer (some ⟨gm, 0, none⟩)] w (Did R g gm T exf o size (Op.seq o s l) (wrap64 (st + 1)) w) := by
  have hsh := m.short
  have ia := I.at_
  have is := I.steps
  obtain ⟨i1, i2⟩ := I.st hov
  have i3 := I.att hov
  obtain ⟨⟨a1, a2⟩, b0, _, ok⟩ := ok
  obtain ⟨⟨w1, w8⟩, ⟨cap1, cap16⟩⟩ := hw
  have stp : 0 ≤ p.stage ∧ p.stage ≤ 100000 := by omega
  have sts : 0 ≤ p.steps ∧ p.steps ≤ 100000 := by omega
  have c3 := h.head.2.2.2.1
  rw [i1, hrow] at c3
  have x0 := h.ex_ 0
  simp only [exf, List.getElem?_cons_zero, List.getElem?_cons_succ] at x0
  have PR := pread w h m hg 0 sts (by omega) (by omega)
  rw [toNat_at I 0 0 rfl] at PR
  have hy := hl.get o 0
  rw [Op.get_gd] at hy
  obtain ⟨y, ey⟩ : ∃ y, y = Op.gd l (o.at_ + 0) := ⟨_, rfl⟩
  rw [← ey] at PR hy hodd
  have e4 : Op.seq o s l = (Op.failS o { Op.more s with a := y }, l) := by
    simp only [Op.seq, hwr, Op.seqR, Op.more, hrow, Op.get_gd, ← ey, Bool.false_eq_true, if_false]
    rw [if_pos hodd]
  have e6 : exf (Op.failS o { Op.more s with a := y }) = [.int .u32 y] := by
    unfold Op.failS
    simp only
    split <;> rfl
  have hy2 : (y % 2 == 1) = true := by simpa using hodd
  have OD := odd_any y hy
  rw [hy2] at OD
  have tr := (ok hov).2.1
  have at0 : 0 ≤ p.att ∧ p.att ≤ 100000 := by omega
  have E6 := Lib.hid e6
  clear ey hodd hy2 e6 tr
  have E4 := Lib.hid e4
  have HS := Lib.hid I
  have HO := Lib.hid ok
  have HV := Lib.hid hov
  clear ia is i1 i2 i3 e4 I ok hov hrow
  go_enter Tryz.func181, Tryz.ntmps181
  go_wp2_with fail
  refine PR.mono ?_
  rintro e w1 ⟨rfl, L1⟩
  have z0 := L1.op.ex_ 0
  simp only [exf, List.getElem?_cons_zero, List.getElem?_cons_succ] at z0
  have f1 := L1.op.thaw 19
  have L2 := L1.set hg 19 _ (L1.op.put_ex 0 (.int .u32 y))
  go_wp2_with fail
  refine (OD _).mono ?_
  rintro e w' ⟨rfl, rfl⟩
  go_wp2_with fail
  refine (sfail _ L2.op L2.mem hg at0).mono ?_
  rintro e w3 ⟨rfl, L3⟩
  have L4 := L2.trans L3
  go_wp2
  go_end0
  rw [E4.out]
  exact ⟨rfl, _, imp_fail HS.out HV.out _ rfl rfl HV.out rfl, ⟨by rw [E6.out]; exact L4.op, L4.mem, L4.chg⟩⟩

set_option maxHeartbeats 400000 in
theorem sr1 (w : World) (h : PB w g T p (exf s)) (I : Imp o size s p) (m : Mem w R gm l st) (hg : ¬ R g) (hl : Op.Wd l) (ok : Op.seqOk o s) (hw : Op.seqAl o) (hfit : o.at_ + size ≤ l.length) (hsz : size = 1 + o.width) (hov : s.over = false) (hs : s.steps ≤ 1000) (hwr : o.wr = false) (hrow : s.row = 1) :
    Calls Tryz.prog 181 #[.pointer (some ⟨g, 0, none⟩), .pointer (some ⟨gm, 0, none⟩)] w (Did R g gm T exf o size (Op.seq o s l) (wrap64 (st + 1)) w) := by
  have hsh := m.short
  have ia := I.at_
  have is := I.steps
  obtain ⟨i1, i2⟩ := I.st hov
  have i3 := I.att hov
  obtain ⟨⟨a1, a2⟩, b0, _, ok⟩ := ok
  obtain ⟨⟨w1, w8⟩, ⟨cap1, cap16⟩⟩ := hw
  have stp : 0 ≤ p.stage ∧ p.stage ≤ 100000 := by omega
  have sts : 0 ≤ p.steps ∧ p.steps ≤ 100000 := by omega
  have c3 := h.head.2.2.2.1
  rw [i1, hrow] at c3
  have x0 := h.ex_ 0
  simp only [exf, List.getElem?_cons_zero, List.getElem?_cons_succ] at x0
  have iw := I.width
  obtain ⟨_, _, ok⟩ := ok hov
  obtain ⟨_, _, o2, _, _, o4⟩ := ok.2 hwr
  have hi := o4 hrow
  have hrl := o2 hrow
  have h8 := h.1
  have hk2 : (1 : Int) + (s.i : Int) = ((1 + s.i : Nat) : Int) := by omega
  obtain ⟨v, hv⟩ : ∃ v, v = Op.get o l (1 + s.i) := ⟨_, rfl⟩
  have PR := precord_rd w h m hg 1 s.i (by rw [I.rd, hwr]; rfl) i2 (by omega) sts stp (by omega) (by omega)
  rw [toNat_at I (1 + s.i) _ hk2, ← Op.get_gd, ← hv] at PR
  have e4 : (Op.seq o s l) = Op.word o (Op.more s) l 1 (some 2) := by simp [Op.seq, hwr, Op.seqR, Op.more, hrow]
  have e5 : (Op.word o (Op.more s) l 1 (some 2)).2 = l := by
    simp only [Op.word, hwr, Bool.false_eq_true, if_false]
    split <;> rfl
  have e6 : exf (Op.word o (Op.more s) l 1 (some 2)).1 = exf s := by
    simp only [Op.word, hwr, Bool.false_eq_true, if_false]
    split <;> rfl
  have im := imp_word_rd I hov hwr h8 hrl (by omega) l 1 2 (by rw [hrow]) v hv
  have E4 := Lib.hid e4
  have E5 := Lib.hid e5
  have E6 := Lib.hid e6
  have HV := Lib.hid hov
  clear ia is iw i1 i2 i3 e4 e5 e6 I ok hov hrow hk2 o2 o4 hv hrl
  go_enter Tryz.func181, Tryz.ntmps181
  go_wp2_with fail
  refine PR.mono ?_
  rintro e w1 ⟨rfl, L1⟩
  go_wp2
  go_end0
  rw [E4.out]
  exact ⟨rfl, _, im, ⟨by rw [E6.out]; exact L1.op, by rw [E5.out]; exact L1.mem, L1.chg⟩⟩

set_option maxHeartbeats 400000 in
theorem sr2 (w : World) (h : PB w g T p (exf s)) (I : Imp o size s p) (m : Mem w R gm l st) (hg : ¬ R g) (hl : Op.Wd l) (ok : Op.seqOk o s) (hw : Op.seqAl o) (hfit : o.at_ + size ≤ l.length) (hsz : size = 1 + o.width) (hov : s.over = false) (hs : s.steps ≤ 1000) (hwr : o.wr = false) (hrow : s.row = 2) (hsame : Op.gd l (o.at_ + 0) = s.a) :
    Calls Tryz.prog 181 #[.pointer (some ⟨g, 0, none⟩), .pointer (some ⟨gm, 0, none⟩)] w (Did R g gm T exf o size (Op.seq o s l) (wrap64 (st + 1)) w) := by
  have hsh := m.short
  have ia := I.at_
  have is := I.steps
  obtain ⟨i1, i2⟩ := I.st hov
  have i3 := I.att hov
  obtain ⟨⟨a1, a2⟩, b0, _, ok⟩ := ok
  obtain ⟨⟨w1, w8⟩, ⟨cap1, cap16⟩⟩ := hw
  have stp : 0 ≤ p.stage ∧ p.stage ≤ 100000 := by omega
  have sts : 0 ≤ p.steps ∧ p.steps ≤ 100000 := by omega
  have c3 := h.head.2.2.2.1
  rw [i1, hrow] at c3
  have x0 := h.ex_ 0
  simp only [exf, List.getElem?_cons_zero, List.getElem?_cons_succ] at x0
  have PR := fun w' (s' : Same w w') => pread w' (h.same s') (m.same s') hg 0 sts (by omega) (by omega)
  rw [toNat_at I 0 0 rfl] at PR
  have hy := hl.get o 0
  rw [Op.get_gd] at hy
  obtain ⟨y, ey⟩ : ∃ y, y = Op.gd l (o.at_ + 0) := ⟨_, rfl⟩
  rw [← ey] at PR hy hsame
  have e4 : Op.seq o s l = ((Op.more s).fin o.wr 0, l) := by
    simp only [Op.seq, hwr, Op.seqR, Op.more, hrow, Op.get_gd, ← ey, hsame, ↓reduceIte, Bool.false_eq_true]
  have hne : (y != s.a) = false := by simpa using hsame
  clear ey hsame
  have E4 := Lib.hid e4
  have HS := Lib.hid I
  have HO := Lib.hid ok
  have HV := Lib.hid hov
  clear ia is i1 i2 i3 e4 I ok hov hrow
  go_enter Tryz.func181, Tryz.ntmps181
  go_wp2_with fail
  go_region_held3 (fun w' => w'.cell? ⟨g, 19, none⟩ = some (.int .u32 s.a))
    (first | assumption | exact x_of ‹Lft _ _ _ _ _ (exf s) _ _ _ _›)
    (first | (go_at_call 150; ((with_reducible refine (PR _ (Same.refl _).drew).mono ?_); rintro e w' ⟨rfl, L1⟩)))
  have L2 := L1.drew0
  go_wp2_with fail
  refine (pend _ L2.op L2.mem hg 0).mono ?_
  rintro e w3 ⟨rfl, L3⟩
  have L4 := L2.trans L3
  go_wp2
  go_end0
  rw [E4.out]
  exact ⟨rfl, _, imp_end HS.out HV.out 0, L4⟩

set_option maxHeartbeats 400000 in
theorem sr2f (w : World) (h : PB w g T p (exf s)) (I : Imp o size s p) (m : Mem w R gm l st) (hg : ¬ R g) (hl : Op.Wd l) (ok : Op.seqOk o s) (hw : Op.seqAl o) (hfit : o.at_ + size ≤ l.length) (hsz : size = 1 + o.width) (hov : s.over = false) (hs : s.steps ≤ 1000) (hwr : o.wr = false) (hrow : s.row = 2) (hsame : Op.gd l (o.at_ + 0) ≠ s.a) :
    Calls Tryz.prog 181 #[.pointer (some ⟨g, 0, none⟩), .pointer (some ⟨gm, 0, none⟩)] w (Did R g gm T exf o size (Op.seq o s l) (wrap64 (st + 1)) w) := by
  have hsh := m.short
  have ia := I.at_
  have is := I.steps
  obtain ⟨i1, i2⟩ := I.st hov
  have i3 := I.att hov
  obtain ⟨⟨a1, a2⟩, b0, _, ok⟩ := ok
  obtain ⟨⟨w1, w8⟩, ⟨cap1, cap16⟩⟩ := hw
  have stp : 0 ≤ p.stage ∧ p.stage ≤ 100000 := by omega
  have sts : 0 ≤ p.steps ∧ p.steps ≤ 100000 := by omega
  have c3 := h.head.2.2.2.1
  rw [i1, hrow] at c3
  have x0 := h.ex_ 0
  simp only [exf, List.getElem?_cons_zero, List.getElem?_cons_succ] at x0
  have PR := fun w' (s' : Same w w') => pread w' (h.same s') (m.same s') hg 0 sts (by omega) (by omega)
  rw [toNat_at I 0 0 rfl] at PR
  have hy := hl.get o 0
  rw [Op.get_gd] at hy
  obtain ⟨y, ey⟩ : ∃ y, y = Op.gd l (o.at_ + 0) := ⟨_, rfl⟩
  rw [← ey] at PR hy hsame
  have e4 : Op.seq o s l = (Op.failS o (Op.more s), l) := by
    simp only [Op.seq, hwr, Op.seqR, Op.more, hrow, Op.get_gd, ← ey, hsame, ↓reduceIte, Bool.false_eq_true]
  have e6 : exf (Op.failS o (Op.more s)) = exf s := by
    unfold Op.failS
    simp only
    split <;> rfl
  have hne : (y != s.a) = true := by simpa using hsame
  have tr := (ok hov).2.1
  have at0 : 0 ≤ p.att ∧ p.att ≤ 100000 := by omega
  have E6 := Lib.hid e6
  clear ey hsame e6 tr
  have E4 := Lib.hid e4
  have HS := Lib.hid I
  have HO := Lib.hid ok
  have HV := Lib.hid hov
  clear ia is i1 i2 i3 e4 I ok hov hrow
  go_enter Tryz.func181, Tryz.ntmps181
  go_wp2_with fail
  go_region_held3 (fun w' => w'.cell? ⟨g, 19, none⟩ = some (.int .u32 s.a))
    (first | assumption | exact x_of ‹Lft _ _ _ _ _ (exf s) _ _ _ _›)
    (first | (go_at_call 150; ((with_reducible refine (PR _ (Same.refl _).drew).mono ?_); rintro e w' ⟨rfl, L1⟩)))
  have L2 := L1.drew0
  go_wp2_with fail
  refine (sfail _ L2.op L2.mem hg at0).mono ?_
  rintro e w3 ⟨rfl, L3⟩
  have L4 := L2.trans L3
  go_wp2
  go_end0
  rw [E4.out]
  exact ⟨rfl, _, imp_fail HS.out HV.out _ rfl rfl HV.out rfl, ⟨by rw [E6.out]; exact L4.op, L4.mem, L4.chg⟩⟩

end

end Go.Proofs.YtikjkmomokhanabGreat.Sq
