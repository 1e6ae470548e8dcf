/-
  Package four: each step of a write, and of a read.
-/
import Derived.Test.YtniglkbfkehfmaaImp
import Derived.Test.YtniglkbfkehfmaaFour
set_option linter.unusedVariables false
namespace Go.Proofs.Ytniglkbfkehfmaa.Fo
open Go.ChangeShapes Go.WideShapes Go.ChangeAt Go.RowKit Ws Mm Pa

def exf (s : Op.St) : List Value := [.int .u32 s.a, .int .u32 s.b]

section
variable {R : Nat → Prop} {g gm : Nat} {T : TypeId} {p : Pt} {l : List Int} {st : Int} {o : Op.Im} {size : Nat} {s : Op.St}

theorem toNat_at {o : Op.Im} {size : Nat} {s : Op.St} {p : Pt} (I : Imp o size s p) (k : Nat) (i : Int) (h : i = (k : Int)) : (p.at_ + i).toNat = o.at_ + k := by
  have := I.at_
  omega
theorem x_of {w w' : World} (L : Lft R g gm T p (exf s) l st w w') : w'.cell? ⟨g, 19, none⟩ = some (.int .u32 s.a) ∧ w'.cell? ⟨g, 20, none⟩ = some (.int .u32 s.b) := ⟨L.op.ex_ 0, L.op.ex_ 1⟩
theorem drew_of {w w' : World} (h : Same w.drew w') : Same w w' := Same.trans (Same.refl w).drew h

set_option maxHeartbeats 400000 in
theorem fw0 (w : World) (h : PB w g T p (exf s)) (I : Imp o size s p) (m : Mem w R gm l st) (hg : ¬ R g) (hl : Op.Wd l) (ok : Op.fourOk o s) (hw : 0 < o.width ∧ o.width ≤ 8) (hfit : o.at_ + size ≤ l.length) (hsz : size = 4 + 4 * o.width) (hov : s.over = false) (hs : s.steps ≤ 1000) (hwr : o.wr = true) (hrow : s.row = 0) :
    Calls Try.prog 50 #[.pointer (some ⟨g, 0, none⟩), .pointer (some ⟨gm, 0, none⟩)] w (Did R g gm T exf o size (Op.four o s l) (wrap64 (st + 1)) w) := by
  have hsh := m.short
  have ia := I.at_
  have is := I.steps
  obtain ⟨i1, i2⟩ := I.st hov
  obtain ⟨⟨a1, a2⟩, ⟨b1, b2⟩, ok⟩ := ok
  have stp : 0 ≤ p.stage ∧ p.stage ≤ 100000 := by omega
  have sts : 0 ≤ p.steps ∧ p.steps ≤ 100000 := by omega
  have c3 := h.head.2.2.2.1
  rw [i1, hrow] at c3
  have x0 := h.ex_ 0
  have x1 := h.ex_ 1
  simp only [exf, List.getElem?_cons_zero, List.getElem?_cons_succ] at x0 x1
  have PR := pread w h m hg 1 sts (by omega) (by omega)
  rw [toNat_at I 1 1 rfl] at PR
  have hy := hl.get o 1
  rw [Op.get_gd] at hy
  obtain ⟨y, ey⟩ : ∃ y, y = Op.gd l (o.at_ + 1) := ⟨_, rfl⟩
  rw [← ey] at PR hy
  have e4 : Op.four o s l = ({ (Op.more s).to (s.row + 1) with a := (y + 1) % 2 }, l) := by simp [Op.four, hwr, Op.fourW, Op.more, hrow, ey, Op.get_gd]
  clear ey
  have E4 := Lib.hid e4
  have HS := Lib.hid I
  have HO := Lib.hid ok
  have HV := Lib.hid hov
  clear ia is i1 i2 e4 I ok hov hrow
  go_enter Try.func50, Try.ntmps50
  go_wp2_with fail
  refine PR.mono ?_
  rintro e w1 ⟨rfl, L1⟩
  have z0 := L1.op.ex_ 0
  simp only [exf, List.getElem?_cons_zero, List.getElem?_cons_succ] at z0
  have f1 := L1.op.thaw 19
  have L2 := L1.set hg 19 _ (L1.op.put_ex 0 (.int .u32 ((y + 1) % 2)))
  go_wp2_with fail
  refine (other_any y hy _).mono ?_
  rintro e w' ⟨rfl, rfl⟩
  go_wp2_with fail
  refine (pnext _ L2.op L2.mem hg stp).mono ?_
  rintro e w3 ⟨rfl, L3⟩
  have L4 := L2.trans L3
  go_wp2
  go_end0
  rw [E4.out]
  exact ⟨rfl, _, imp_next HS.out HV.out _ rfl rfl rfl rfl HV.out rfl rfl, L4⟩

set_option maxHeartbeats 400000 in
theorem fr0 (w : World) (h : PB w g T p (exf s)) (I : Imp o size s p) (m : Mem w R gm l st) (hg : ¬ R g) (hl : Op.Wd l) (ok : Op.fourOk o s) (hw : 0 < o.width ∧ o.width ≤ 8) (hfit : o.at_ + size ≤ l.length) (hsz : size = 4 + 4 * o.width) (hov : s.over = false) (hs : s.steps ≤ 1000) (hwr : o.wr = false) (hrow : s.row = 0) :
    Calls Try.prog 49 #[.pointer (some ⟨g, 0, none⟩), .pointer (some ⟨gm, 0, none⟩)] w (Did R g gm T exf o size (Op.four o s l) (wrap64 (st + 1)) w) := by
  have hsh := m.short
  have ia := I.at_
  have is := I.steps
  obtain ⟨i1, i2⟩ := I.st hov
  obtain ⟨⟨a1, a2⟩, ⟨b1, b2⟩, ok⟩ := ok
  have stp : 0 ≤ p.stage ∧ p.stage ≤ 100000 := by omega
  have sts : 0 ≤ p.steps ∧ p.steps ≤ 100000 := by omega
  have c3 := h.head.2.2.2.1
  rw [i1, hrow] at c3
  have x0 := h.ex_ 0
  have x1 := h.ex_ 1
  simp only [exf, List.getElem?_cons_zero, List.getElem?_cons_succ] at x0 x1
  have PR := pread w h m hg 0 sts (by omega) (by omega)
  rw [toNat_at I 0 0 rfl] at PR
  have hy := hl.get o 0
  rw [Op.get_gd] at hy
  obtain ⟨y, ey⟩ : ∃ y, y = Op.gd l (o.at_ + 0) := ⟨_, rfl⟩
  rw [← ey] at PR hy
  have e4 : Op.four o s l = ({ (Op.more s).to (s.row + 1) with a := y % 2 }, l) := by simp [Op.four, hwr, Op.fourR, Op.more, hrow, ey, Op.get_gd]
  clear ey
  have E4 := Lib.hid e4
  have HS := Lib.hid I
  have HO := Lib.hid ok
  have HV := Lib.hid hov
  clear ia is i1 i2 e4 I ok hov hrow
  go_enter Try.func49, Try.ntmps49
  go_wp2_with fail
  refine PR.mono ?_
  rintro e w1 ⟨rfl, L1⟩
  have z0 := L1.op.ex_ 0
  simp only [exf, List.getElem?_cons_zero, List.getElem?_cons_succ] at z0
  have f1 := L1.op.thaw 19
  have L2 := L1.set hg 19 _ (L1.op.put_ex 0 (.int .u32 (y % 2)))
  go_wp2_with fail
  refine (lowest_any y hy _).mono ?_
  rintro e w' ⟨rfl, rfl⟩
  go_wp2_with fail
  refine (pnext _ L2.op L2.mem hg stp).mono ?_
  rintro e w3 ⟨rfl, L3⟩
  have L4 := L2.trans L3
  go_wp2
  go_end0
  rw [E4.out]
  exact ⟨rfl, _, imp_next HS.out HV.out _ rfl rfl rfl rfl HV.out rfl rfl, L4⟩

set_option maxHeartbeats 400000 in
theorem fw1 (w : World) (h : PB w g T p (exf s)) (I : Imp o size s p) (m : Mem w R gm l st) (hg : ¬ R g) (hl : Op.Wd l) (ok : Op.fourOk o s) (hw : 0 < o.width ∧ o.width ≤ 8) (hfit : o.at_ + size ≤ l.length) (hsz : size = 4 + 4 * o.width) (hov : s.over = false) (hs : s.steps ≤ 1000) (hwr : o.wr = true) (hrow : s.row = 1) :
    Calls Try.prog 50 #[.pointer (some ⟨g, 0, none⟩), .pointer (some ⟨gm, 0, none⟩)] w (Did R g gm T exf o size (Op.four o s l) (wrap64 (st + 1)) w) := by
  have hsh := m.short
  have ia := I.at_
  have is := I.steps
  obtain ⟨i1, i2⟩ := I.st hov
  obtain ⟨⟨a1, a2⟩, ⟨b1, b2⟩, ok⟩ := ok
  have stp : 0 ≤ p.stage ∧ p.stage ≤ 100000 := by omega
  have sts : 0 ≤ p.steps ∧ p.steps ≤ 100000 := by omega
  have c3 := h.head.2.2.2.1
  rw [i1, hrow] at c3
  have x0 := h.ex_ 0
  have x1 := h.ex_ 1
  simp only [exf, List.getElem?_cons_zero, List.getElem?_cons_succ] at x0 x1
  have hk : (2 : Int) + s.a = ((2 + s.a.toNat : Nat) : Int) := by omega
  have PR := fun w' (s' : Same w w') => pread w' (h.same s') (m.same s') hg (2 + s.a) sts (by omega) (by omega)
  rw [toNat_at I (2 + s.a.toNat) _ hk] at PR
  have hy := hl.get o (2 + s.a.toNat)
  rw [Op.get_gd] at hy
  obtain ⟨y, ey⟩ : ∃ y, y = Op.gd l (o.at_ + (2 + s.a.toNat)) := ⟨_, rfl⟩
  rw [← ey] at PR hy
  have e4 : Op.four o s l = ({ (Op.more s).to (s.row + 1) with b := (y + 1) % 2 }, l) := by simp [Op.four, hwr, Op.fourW, Op.more, hrow, ey, Op.get_gd]
  clear ey hk
  have E4 := Lib.hid e4
  have HS := Lib.hid I
  have HO := Lib.hid ok
  have HV := Lib.hid hov
  clear ia is i1 i2 e4 I ok hov hrow
  go_enter Try.func50, Try.ntmps50
  go_wp2_with fail
  go_region_held3 (fun w' => w'.cell? ⟨g, 19, none⟩ = some (.int .u32 s.a))
    (first | assumption | (rw [World.cell?_setCell_other _ _ _ _ (by simp)]; assumption) | exact (x_of ‹Lft _ _ _ _ _ (exf s) _ _ _ _›).1)
    (first | (go_at_call 93; ((with_reducible refine (slot_any _ h.drew ⟨a1, a2⟩).mono ?_); rintro e w' ⟨rfl, rfl⟩)) | (go_at_call 90; ((with_reducible refine (PR _ (Same.refl _).drew).mono ?_); rintro e w' ⟨rfl, L1⟩; have z0 := L1.op.ex_ 1; have f1 := L1.op.thaw 20)) | (go_at_call 97; ((with_reducible refine (other_any y hy _).mono ?_); rintro e w' ⟨rfl, rfl⟩)))
  have L1 := L1.drew0
  have L2 := L1.set hg 20 _ (L1.op.put_ex 1 (.int .u32 ((y + 1) % 2)))
  go_wp2_with fail
  refine (pnext _ L2.op L2.mem hg stp).mono ?_
  rintro e w3 ⟨rfl, L3⟩
  have L4 := L2.trans L3
  go_wp2
  go_end0
  rw [E4.out]
  exact ⟨rfl, _, imp_next HS.out HV.out _ rfl rfl rfl rfl HV.out rfl rfl, L4⟩

set_option maxHeartbeats 400000 in
theorem fr2 (w : World) (h : PB w g T p (exf s)) (I : Imp o size s p) (m : Mem w R gm l st) (hg : ¬ R g) (hl : Op.Wd l) (ok : Op.fourOk o s) (hw : 0 < o.width ∧ o.width ≤ 8) (hfit : o.at_ + size ≤ l.length) (hsz : size = 4 + 4 * o.width) (hov : s.over = false) (hs : s.steps ≤ 1000) (hwr : o.wr = false) (hrow : s.row = 2) :
    Calls Try.prog 49 #[.pointer (some ⟨g, 0, none⟩), .pointer (some ⟨gm, 0, none⟩)] w (Did R g gm T exf o size (Op.four o s l) (wrap64 (st + 1)) w) := by
  have hsh := m.short
  have ia := I.at_
  have is := I.steps
  obtain ⟨i1, i2⟩ := I.st hov
  obtain ⟨⟨a1, a2⟩, ⟨b1, b2⟩, ok⟩ := ok
  have stp : 0 ≤ p.stage ∧ p.stage ≤ 100000 := by omega
  have sts : 0 ≤ p.steps ∧ p.steps ≤ 100000 := by omega
  have c3 := h.head.2.2.2.1
  rw [i1, hrow] at c3
  have x0 := h.ex_ 0
  have x1 := h.ex_ 1
  simp only [exf, List.getElem?_cons_zero, List.getElem?_cons_succ] at x0 x1
  have hk : (2 : Int) + s.a = ((2 + s.a.toNat : Nat) : Int) := by omega
  have PR := fun w' (s' : Same w w') => pread w' (h.same s') (m.same s') hg (2 + s.a) sts (by omega) (by omega)
  rw [toNat_at I (2 + s.a.toNat) _ hk] at PR
  have hy := hl.get o (2 + s.a.toNat)
  rw [Op.get_gd] at hy
  obtain ⟨y, ey⟩ : ∃ y, y = Op.gd l (o.at_ + (2 + s.a.toNat)) := ⟨_, rfl⟩
  rw [← ey] at PR hy
  have e4 : Op.four o s l = ({ (Op.more s).to (s.row + 1) with b := y % 2 }, l) := by simp [Op.four, hwr, Op.fourR, Op.more, hrow, ey, Op.get_gd]
  clear ey hk
  have E4 := Lib.hid e4
  have HS := Lib.hid I
  have HO := Lib.hid ok
  have HV := Lib.hid hov
  clear ia is i1 i2 e4 I ok hov hrow
  go_enter Try.func49, Try.ntmps49
  go_wp2_with fail
  go_region_held3 (fun w' => w'.cell? ⟨g, 19, none⟩ = some (.int .u32 s.a))
    (first | assumption | (rw [World.cell?_setCell_other _ _ _ _ (by simp)]; assumption) | exact (x_of ‹Lft _ _ _ _ _ (exf s) _ _ _ _›).1)
    (first | (go_at_call 93; ((with_reducible refine (slot_any _ h.drew ⟨a1, a2⟩).mono ?_); rintro e w' ⟨rfl, rfl⟩)) | (go_at_call 90; ((with_reducible refine (PR _ (Same.refl _).drew).mono ?_); rintro e w' ⟨rfl, L1⟩; have z0 := L1.op.ex_ 1; have f1 := L1.op.thaw 20)) | (go_at_call 89; ((with_reducible refine (lowest_any y hy _).mono ?_); rintro e w' ⟨rfl, rfl⟩)))
  have L1 := L1.drew0
  have L2 := L1.set hg 20 _ (L1.op.put_ex 1 (.int .u32 (y % 2)))
  go_wp2_with fail
  refine (pnext _ L2.op L2.mem hg stp).mono ?_
  rintro e w3 ⟨rfl, L3⟩
  have L4 := L2.trans L3
  go_wp2
  go_end0
  rw [E4.out]
  exact ⟨rfl, _, imp_next HS.out HV.out _ rfl rfl rfl rfl HV.out rfl rfl, L4⟩

set_option maxHeartbeats 400000 in
theorem fw3 (w : World) (h : PB w g T p (exf s)) (I : Imp o size s p) (m : Mem w R gm l st) (hg : ¬ R g) (hl : Op.Wd l) (ok : Op.fourOk o s) (hw : 0 < o.width ∧ o.width ≤ 8) (hfit : o.at_ + size ≤ l.length) (hsz : size = 4 + 4 * o.width) (hov : s.over = false) (hs : s.steps ≤ 1000) (hwr : o.wr = true) (hrow : s.row = 3) :
    Calls Try.prog 50 #[.pointer (some ⟨g, 0, none⟩), .pointer (some ⟨gm, 0, none⟩)] w (Did R g gm T exf o size (Op.four o s l) (wrap64 (st + 1)) w) := by
  have hsh := m.short
  have ia := I.at_
  have is := I.steps
  obtain ⟨i1, i2⟩ := I.st hov
  obtain ⟨⟨a1, a2⟩, ⟨b1, b2⟩, ok⟩ := ok
  have stp : 0 ≤ p.stage ∧ p.stage ≤ 100000 := by omega
  have sts : 0 ≤ p.steps ∧ p.steps ≤ 100000 := by omega
  have c3 := h.head.2.2.2.1
  rw [i1, hrow] at c3
  have x0 := h.ex_ 0
  have x1 := h.ex_ 1
  simp only [exf, List.getElem?_cons_zero, List.getElem?_cons_succ] at x0 x1
  have hk : (2 : Int) + s.a = ((2 + s.a.toNat : Nat) : Int) := by omega
  have PR := fun w' (s' : Same w w') => pwrite w' (h.same s') (m.same s') hg (2 + s.a) s.b sts (by omega) (by omega)
  rw [toNat_at I (2 + s.a.toNat) _ hk] at PR
  have e4 : Op.four o s l = ((Op.more s).to (s.row + 1), Op.put o l (2 + s.a.toNat) s.b) := by simp [Op.four, hwr, Op.fourW, Op.more, hrow]
  clear hk
  have E4 := Lib.hid e4
  have HS := Lib.hid I
  have HO := Lib.hid ok
  have HV := Lib.hid hov
  clear ia is i1 i2 e4 I ok hov hrow
  go_enter Try.func50, Try.ntmps50
  go_wp2_with fail
  go_region_held3 (fun w' => w'.cell? ⟨g, 19, none⟩ = some (.int .u32 s.a) ∧ w'.cell? ⟨g, 20, none⟩ = some (.int .u32 s.b))
    (first | assumption | exact ⟨x0, x1⟩ | exact x_of ‹Lft _ _ _ _ _ (exf s) _ _ _ _›)
    (first | (go_at_call 93; ((with_reducible refine (slot_any _ h.drew ⟨a1, a2⟩).mono ?_); rintro e w' ⟨rfl, rfl⟩)) | (go_at_call 92; ((with_reducible refine (PR _ (Same.refl _).drew).mono ?_); rintro e w' ⟨rfl, L1⟩)))
  have L2 := L1.drew0
  go_wp2_with fail
  refine (pnext _ L2.op L2.mem hg stp).mono ?_
  rintro e w3 ⟨rfl, L3⟩
  have L4 := L2.trans L3
  go_wp2
  go_end0
  rw [E4.out]
  exact ⟨rfl, _, imp_next HS.out HV.out _ rfl rfl rfl rfl HV.out rfl rfl, L4⟩

set_option maxHeartbeats 400000 in
theorem fw4 (w : World) (h : PB w g T p (exf s)) (I : Imp o size s p) (m : Mem w R gm l st) (hg : ¬ R g) (hl : Op.Wd l) (ok : Op.fourOk o s) (hw : 0 < o.width ∧ o.width ≤ 8) (hfit : o.at_ + size ≤ l.length) (hsz : size = 4 + 4 * o.width) (hov : s.over = false) (hs : s.steps ≤ 1000) (hwr : o.wr = true) (hrow : s.row = 4) :
    Calls Try.prog 50 #[.pointer (some ⟨g, 0, none⟩), .pointer (some ⟨gm, 0, none⟩)] w (Did R g gm T exf o size (Op.four o s l) (wrap64 (st + 1)) w) := by
  have hsh := m.short
  have ia := I.at_
  have is := I.steps
  obtain ⟨i1, i2⟩ := I.st hov
  obtain ⟨⟨a1, a2⟩, ⟨b1, b2⟩, ok⟩ := ok
  have stp : 0 ≤ p.stage ∧ p.stage ≤ 100000 := by omega
  have sts : 0 ≤ p.steps ∧ p.steps ≤ 100000 := by omega
  have c3 := h.head.2.2.2.1
  rw [i1, hrow] at c3
  have x0 := h.ex_ 0
  have x1 := h.ex_ 1
  simp only [exf, List.getElem?_cons_zero, List.getElem?_cons_succ] at x0 x1
  have PR := fun w' (s' : Same w w') => pwrite w' (h.same s') (m.same s') hg 0 s.a sts (by omega) (by omega)
  rw [toNat_at I 0 0 rfl] at PR
  have e4 : Op.four o s l = ((Op.more s).fin o.wr 0, Op.put o l 0 s.a) := by simp [Op.four, hwr, Op.fourW, Op.more, hrow]
  have E4 := Lib.hid e4
  have HS := Lib.hid I
  have HO := Lib.hid ok
  have HV := Lib.hid hov
  clear ia is i1 i2 e4 I ok hov hrow
  go_enter Try.func50, Try.ntmps50
  go_wp2_with fail
  go_region_held3 (fun w' => w'.cell? ⟨g, 19, none⟩ = some (.int .u32 s.a))
    (first | assumption | exact (x_of ‹Lft _ _ _ _ _ (exf s) _ _ _ _›).1)
    (first | (go_at_call 92; ((with_reducible refine (PR _ (Same.refl _).drew).mono ?_); rintro e w' ⟨rfl, L1⟩)))
  have L2 := L1.drew0
  go_wp2_with fail
  refine (pend _ L2.op L2.mem hg 0).mono ?_
  rintro e w3 ⟨rfl, L3⟩
  have L4 := L2.trans L3
  go_wp2
  go_end0
  rw [E4.out]
  exact ⟨rfl, _, imp_end HS.out HV.out 0, L4⟩

set_option maxHeartbeats 400000 in
theorem fr1 (w : World) (h : PB w g T p (exf s)) (I : Imp o size s p) (m : Mem w R gm l st) (hg : ¬ R g) (hl : Op.Wd l) (ok : Op.fourOk o s) (hw : 0 < o.width ∧ o.width ≤ 8) (hfit : o.at_ + size ≤ l.length) (hsz : size = 4 + 4 * o.width) (hov : s.over = false) (hs : s.steps ≤ 1000) (hwr : o.wr = false) (hrow : s.row = 1) :
    Calls Try.prog 49 #[.pointer (some ⟨g, 0, none⟩), .pointer (some ⟨gm, 0, none⟩)] w (Did R g gm T exf o size (Op.four o s l) (wrap64 (st + 1)) w) := by
  have hsh := m.short
  have ia := I.at_
  have is := I.steps
  obtain ⟨i1, i2⟩ := I.st hov
  obtain ⟨⟨a1, a2⟩, ⟨b1, b2⟩, ok⟩ := ok
  have stp : 0 ≤ p.stage ∧ p.stage ≤ 100000 := by omega
  have sts : 0 ≤ p.steps ∧ p.steps ≤ 100000 := by omega
  have c3 := h.head.2.2.2.1
  rw [i1, hrow] at c3
  have x0 := h.ex_ 0
  have x1 := h.ex_ 1
  simp only [exf, List.getElem?_cons_zero, List.getElem?_cons_succ] at x0 x1
  have PR := fun w' (s' : Same w w') => pwrite w' (h.same s') (m.same s') hg 1 s.a sts (by omega) (by omega)
  rw [toNat_at I 1 1 rfl] at PR
  have e4 : Op.four o s l = ((Op.more s).to (s.row + 1), Op.put o l 1 s.a) := by simp [Op.four, hwr, Op.fourR, Op.more, hrow]
  have E4 := Lib.hid e4
  have HS := Lib.hid I
  have HO := Lib.hid ok
  have HV := Lib.hid hov
  clear ia is i1 i2 e4 I ok hov hrow
  go_enter Try.func49, Try.ntmps49
  go_wp2_with fail
  go_region_held3 (fun w' => w'.cell? ⟨g, 19, none⟩ = some (.int .u32 s.a))
    (first | assumption | exact (x_of ‹Lft _ _ _ _ _ (exf s) _ _ _ _›).1)
    (first | (go_at_call 92; ((with_reducible refine (PR _ (Same.refl _).drew).mono ?_); rintro e w' ⟨rfl, L1⟩)))
  have L2 := L1.drew0
  go_wp2_with fail
  refine (pnext _ L2.op L2.mem hg stp).mono ?_
  rintro e w3 ⟨rfl, L3⟩
  have L4 := L2.trans L3
  go_wp2
  go_end0
  rw [E4.out]
  exact ⟨rfl, _, imp_next HS.out HV.out _ rfl rfl rfl rfl HV.out rfl rfl, L4⟩
end

end Go.Proofs.Ytniglkbfkehfmaa.Fo
