/-

  Package cab: each step of a write, and of a read.
-/
import Derived.Test.YtniglkbfkehfmaaDoorCabBase
set_option linter.unusedVariables false
namespace Go.Proofs.YtniglkbfkehfmaaDoor.Cb
open Go.ChangeShapes Go.WideShapes Go.ChangeAt Go.RowKit Ws Mm Pa

def usedOf (o : Op.Im) (s : Op.St) : Int := if o.wr then s.a else 0
def slotOf (o : Op.Im) (s : Op.St) : Int := if o.wr then s.b else s.a
def exf (o : Op.Im) (s : Op.St) : List Value := ex4 o.n o.slots (usedOf o s) (slotOf o s)
section
variable {R : Nat → Prop} {g gm : Nat} {T : TypeId} {p : Pt} {l : List Int} {st : Int} {o : Op.Im} {size : Nat} {s : Op.St}

theorem toNat_at {o : Op.Im} {size : Nat} {s : Op.St} {p : Pt} (I : Imp o size s p) (k : Nat) (i : Int) (h : i = (k : Int)) : (p.at_ + i).toNat = o.at_ + k := by
  have := I.at_
  omega
theorem at_nat {o : Op.Im} {size : Nat} {s : Op.St} {p : Pt} (I : Imp o size s p) : p.at_.toNat = o.at_ := by
  have := I.at_
  omega
theorem drew_of {w w' : World} (h : Same w.drew w') : Same w w' := Same.trans (Same.refl w).drew h
/-- a step that was made within its row -/
theorem imp_on {o : Op.Im} {size : Nat} {s : Op.St} {p : Pt} (h : Imp o size s p) (hov : s.over = false) (s' : Op.St) (k1 : s'.rc = s.rc) (k2 : s'.steps = s.steps + 1) (k3 : s'.row = s.row) (k4 : s'.i = s.i + 1) (k5 : s'.over = false) (k6 : s'.code = s.code) (k7 : s'.tries = s.tries) :
    Imp o size s' { p with steps := p.steps + 1, turn := p.turn + 1 } := by
  obtain ⟨h1, h2, h3, h4, h5, h6, h7, h8, h9, h10, h11, h12⟩ := h
  obtain ⟨h13, h14⟩ := h11 hov
  have h15 := h12 hov
  exact ⟨h1, h2, h3, h4, h5, by rw [k1]; exact h6, by rw [k1]; exact h7, by simp only; omega, by rw [k5, ← hov]; exact h9, by rw [k6]; exact h10, fun _ => ⟨by simp only; omega, by simp only; omega⟩, fun _ => by rw [k7]; exact h15⟩
/-- an attempt that failed: the first row comes again, or the last one -/
theorem imp_failC {o : Op.Im} {size : Nat} {s : Op.St} {p : Pt} (h : Imp o size s p) (hov : s.over = false) (hi : s.i = 0) (q : Pt) (hq : q = if p.att - 1 < 1 then { p with steps := p.steps + 1, att := p.att - 1, stage := 6 } else { p with steps := p.steps + 1, att := p.att - 1, stage := 1, turn := 0 }) :
    Imp o size (Op.failC o (Op.more s)) q := by
  subst hq
  obtain ⟨h1, h2, h3, h4, h5, h6, h7, h8, h9, h10, h11, h12⟩ := h
  obtain ⟨h13, h14⟩ := h11 hov
  have h15 := h12 hov
  unfold Op.failC Op.more
  by_cases hc : o.cap ≤ s.tries + 1
  · rw [if_pos (show p.att - 1 < 1 by omega)]
    simp only [hc, ↓reduceIte]
    exact ⟨h1, h2, h3, h4, h5, by simp, by simp, by simp only; omega, h9, h10, fun _ => ⟨rfl, by simp only; omega⟩, fun _ => by simp only; omega⟩
  · rw [if_neg (show ¬ p.att - 1 < 1 by omega)]
    simp only [hc, ↓reduceIte]
    exact ⟨h1, h2, h3, h4, h5, by simp, by simp, by simp only; omega, h9, h10, fun _ => ⟨rfl, rfl⟩, fun _ => by simp only; omega⟩

set_option maxHeartbeats 400000 in
theorem cw0 (w : World) (hT : TZ w) (hgT : ¬ R 0 ∧ g ≠ 0) (h : PB w g T p (exf o s)) (I : Imp o size s p) (m : Mem w R gm l st) (hg : ¬ R g) (hl : Op.Wd l) (ok : Op.cabOk o s) (hw : Op.cabAl o) (hfit : o.at_ + size ≤ l.length) (hsz : size = 1 + o.n + o.slots * o.width) (hov : s.over = false) (hs : s.steps ≤ 1000) (hwr : o.wr = true) (hrow : s.row = 0) :
    Calls Tryd.prog 59 #[.pointer (some ⟨g, 0, none⟩), .pointer (some ⟨gm, 0, none⟩)] w (Did R g gm T (exf o) o size (Op.cab o s l) (wrap64 (st + 1)) w) := by
  have hx : exf o s = ex4 o.n o.slots s.a s.b := by simp only [exf, usedOf, slotOf, hwr, if_true, Bool.false_eq_true, if_false]
  rw [hx] at h
  have hsh := m.short
  have ia := I.at_
  have is := I.steps
  obtain ⟨i1, i2⟩ := I.st hov
  have i3 := I.att hov
  obtain ⟨hu20, hab, hbb, hrd, ok⟩ := ok
  obtain ⟨⟨w1, w8⟩, ⟨cap1, cap16⟩, ⟨n1, n4, ns, sl16⟩, rdn⟩ := hw
  have hpos : 0 < o.slots * o.width := Nat.mul_pos (by omega) w1
  have stp : 0 ≤ p.stage ∧ p.stage ≤ 100000 := by omega
  have sts : 0 ≤ p.steps ∧ p.steps ≤ 100000 := by omega
  have ats : 0 ≤ p.at_ ∧ p.at_ ≤ 100000 := by omega
  have c3 := h.head.2.2.2.1
  rw [i1, hrow] at c3
  have hy := hl.get o 0
  rw [Op.get_gd, Nat.add_zero] at hy
  obtain ⟨y, ey⟩ : ∃ y, y = Op.gd l o.at_ := ⟨_, rfl⟩
  rw [← ey] at hy
  have PN := newest_any w h m hg sts ats (by omega) ⟨by omega, sl16⟩ y (by rw [ey, at_nat I]) hy
  obtain ⟨v, ev⟩ : ∃ v, v = y % (o.slots : Int) := ⟨_, rfl⟩
  rw [← ev] at PN
  have e4 : Op.cab o s l = ({ (Op.more s).to (s.row + 1) with a := Op.putI s.a v, used := Op.noteL o.slots s.used v }, l) := by simp [Op.cab, hwr, Op.cabW, Op.more, hrow, ← ey, ← ev, Op.get_gd]
  have e6 : ∀ u : List Bool, exf o { (Op.more s).to (s.row + 1) with a := Op.putI s.a v, used := u } = ex4 o.n o.slots (Op.putI s.a v) s.b := fun u => by simp only [exf, usedOf, slotOf, hwr, if_true]; rfl
  have HAB := Lib.hid hab
  clear ey ev
  have E4 := Lib.hid e4
  have HS := Lib.hid I
  have HV := Lib.hid hov
  clear ia is i1 i2 i3 e4 I ok hov hrow hab hrd
  go_enter Tryd.func59, Tryd.ntmps59
  go_wp2_with fail
  refine PN.mono ?_
  rintro e w1 ⟨rfl, L1⟩
  go_wp2_with fail
  refine (use_any _ L1.op L1.mem hg HAB.out v).mono ?_
  rintro e w2 ⟨rfl, L2⟩
  go_wp2_with fail
  refine (pnext _ L2.op L2.mem hg stp).mono ?_
  rintro e w3 ⟨rfl, L3⟩
  have L4 := (L1.trans L2).trans L3
  go_wp2
  go_end0
  rw [E4.out]
  exact ⟨rfl, _, imp_next HS.out HV.out _ rfl rfl rfl rfl HV.out rfl rfl, by rw [e6]; exact L4⟩

set_option maxHeartbeats 400000 in
theorem cw1 (w : World) (hT : TZ w) (hgT : ¬ R 0 ∧ g ≠ 0) (h : PB w g T p (exf o s)) (I : Imp o size s p) (m : Mem w R gm l st) (hg : ¬ R g) (hl : Op.Wd l) (ok : Op.cabOk o s) (hw : Op.cabAl o) (hfit : o.at_ + size ≤ l.length) (hsz : size = 1 + o.n + o.slots * o.width) (hov : s.over = false) (hs : s.steps ≤ 1000) (hwr : o.wr = true) (hrow : s.row = 1) (hlt : s.i + 1 < o.n) :
    Calls Tryd.prog 59 #[.pointer (some ⟨g, 0, none⟩), .pointer (some ⟨gm, 0, none⟩)] w (Did R g gm T (exf o) o size (Op.cab o s l) (wrap64 (st + 1)) w) := by
  have hx : exf o s = ex4 o.n o.slots s.a s.b := by simp only [exf, usedOf, slotOf, hwr, if_true, Bool.false_eq_true, if_false]
  rw [hx] at h
  have hsh := m.short
  have ia := I.at_
  have is := I.steps
  obtain ⟨i1, i2⟩ := I.st hov
  have i3 := I.att hov
  obtain ⟨hu20, hab, hbb, hrd, ok⟩ := ok
  obtain ⟨⟨w1, w8⟩, ⟨cap1, cap16⟩, ⟨n1, n4, ns, sl16⟩, rdn⟩ := hw
  have hpos : 0 < o.slots * o.width := Nat.mul_pos (by omega) w1
  have stp : 0 ≤ p.stage ∧ p.stage ≤ 100000 := by omega
  have sts : 0 ≤ p.steps ∧ p.steps ≤ 100000 := by omega
  have ats : 0 ≤ p.at_ ∧ p.at_ ≤ 100000 := by omega
  have c3 := h.head.2.2.2.1
  rw [i1, hrow] at c3
  obtain ⟨_, _, _, _, q1, _, _, qn⟩ := (ok hov).2.1 hwr
  have hi := q1 hrow
  have hnt := qn (by omega)
  have c4 := h.head.2.2.2.2.1
  rw [i2] at c4
  have hy := hl.get o (1 + s.i)
  rw [Op.get_gd] at hy
  obtain ⟨y, ey⟩ : ∃ y, y = Op.gd l (o.at_ + (1 + s.i)) := ⟨_, rfl⟩
  rw [← ey] at hy
  have f1 := i64_in (1 + (s.i : Int)) (by omega)
  have f2 := i64_in y (by omega)
  have f3 := i64_in (y - 1) (by omega)
  have g3 : wrap64 (y - 1) = y - 1 := by unfold wrap64; omega
  have PR := fun w' (s' : Same w w') => pread w' (h.same s') (m.same s') hg (1 + (s.i : Int)) sts (by omega) (by omega)
  rw [toNat_at I (1 + s.i) _ (by omega), ← ey] at PR
  have c19 := h.ex_ 0
  simp only [ex4, List.getElem?_cons_zero] at c19
  have nm := Op.noted_more sl16 hu20 hnt (y - 1)
  have e4 : Op.cab o s l = ({ Op.more s with a := Op.putI s.a (y - 1), used := Op.noteL o.slots s.used (y - 1), i := s.i + 1 }, l) := by
    simp only [Op.cab, hwr, Op.cabW, Op.more, hrow, if_true, Op.marked, hlt, ↓reduceIte, Op.get_gd, ← ey]
  have e6 : ∀ u : List Bool, exf o { Op.more s with a := Op.putI s.a (y - 1), used := u, i := s.i + 1 } = ex4 o.n o.slots (Op.putI s.a (y - 1)) s.b := fun u => by simp only [exf, usedOf, slotOf, hwr, if_true]; rfl
  have HRP : Hid (p.turn + 1 < (o.n : Int)) := Lib.hid (by omega)
  have HRD : Hid (decide ((o.n : Int) ≤ p.turn + 1) = false) := Lib.hid (decide_eq_false (by omega))
  have HAB := Lib.hid hab
  have HC4 : Hid (∀ {w1 : World} {p1 : Pt} {ex1 : List Value}, PB w1 g T p1 ex1 → p1.turn = p.turn → w1.cell? ⟨g, 4, none⟩ = some (.int .i64 s.i)) := Lib.hid (fun hp ht => by have := hp.head.2.2.2.2.1; rw [ht, i2] at this; exact this)
  have HC19 : Hid (∀ {w1 w2 : World} {p1 : Pt} {u k : Int} {l1 : List Int} {s1 : Int}, Lft R g gm T p1 (ex4 o.n o.slots u k) l1 s1 w2 w1 → w1.cell? ⟨g, 19, none⟩ = some (.int .i64 o.n)) := Lib.hid (fun L => by have := L.op.ex_ 0; simpa [ex4] using this)
  have HTN : Hid (0 ≤ p.turn ∧ p.turn ≤ 100000) := Lib.hid (by omega)
  clear ey nm hnt q1 qn hi hlt
  have E4 := Lib.hid e4
  have HS := Lib.hid I
  have HV := Lib.hid hov
  clear ia is i1 i2 i3 e4 I ok hov hrow hab hrd
  go_enter Tryd.func59, Tryd.ntmps59
  go_wp2_with fail
  go_region_held3 (fun w' => w'.cell? ⟨g, 4, none⟩ = some (.int .i64 s.i) ∧ Chg (fun i => R i ∨ i = g) w w')
    (first | assumption | exact ⟨c4, (Chg.refl _ w).drew⟩ | exact ⟨HC4.out L2.op rfl, ((Chg.refl _ w).drew.trans L1.chg).trans L2.chg⟩ | exact ⟨HC4.out L1.op rfl, (Chg.refl _ w).drew.trans L1.chg⟩)
    (first | (go_at_call 90; ((with_reducible refine (PR _ (Same.refl _).drew).mono ?_); rintro e w' ⟨rfl, L1⟩)) | (go_at_call 89; ((with_reducible refine (use_any _ L1.op L1.mem hg HAB.out _).mono ?_); rintro e w' ⟨rfl, L2⟩)))
  have L1 := L1.drew0
  go_wp2_with fail
  have x19 := L2.op.ex_ 0
  simp only [ex4, List.getElem?_cons_zero] at x19
  have RP := prepeat _ L2.op.drew (mdrew L2.mem) hg (o.n : Int) stp HTN.out
  simp only at RP
  rw [HRD.out, if_pos (by have := HRP.out; omega)] at RP
  have HRQ := Lib.hid RP
  clear RP
  go_region_held3 (fun w' => w'.cell? ⟨g, 19, none⟩ = some (.int .i64 o.n))
    (first | assumption | exact HC19.out L3)
    (first | (go_at_call 91; ((with_reducible refine HRQ.out.mono ?_); rintro e w' ⟨rfl, L3⟩)))
  have L4 := (L1.trans L2).trans L3.drew0
  have x21 := L4.op.ex_ 2
  simp only [ex4, List.getElem?_cons_zero, List.getElem?_cons_succ] at x21
  have k22 := L4.op.thaw 22
  have x22 := L4.op.ex_ 3
  simp only [ex4, List.getElem?_cons_zero, List.getElem?_cons_succ] at x22
  go_wp2_with fail
  go_end0
  rw [E4.out]
  exact ⟨rfl, _, imp_on HS.out HV.out _ rfl rfl rfl rfl HV.out rfl rfl, by rw [e6]; exact L4⟩

set_option maxHeartbeats 400000 in
theorem cw1l (w : World) (hT : TZ w) (hgT : ¬ R 0 ∧ g ≠ 0) (h : PB w g T p (exf o s)) (I : Imp o size s p) (m : Mem w R gm l st) (hg : ¬ R g) (hl : Op.Wd l) (ok : Op.cabOk o s) (hw : Op.cabAl o) (hfit : o.at_ + size ≤ l.length) (hsz : size = 1 + o.n + o.slots * o.width) (hov : s.over = false) (hs : s.steps ≤ 1000) (hwr : o.wr = true) (hrow : s.row = 1) (hlt : ¬ s.i + 1 < o.n) :
    Calls Tryd.prog 59 #[.pointer (some ⟨g, 0, none⟩), .pointer (some ⟨gm, 0, none⟩)] w (Did R g gm T (exf o) o size (Op.cab o s l) (wrap64 (st + 1)) w) := by
  have hx : exf o s = ex4 o.n o.slots s.a s.b := by simp only [exf, usedOf, slotOf, hwr, if_true, Bool.false_eq_true, if_false]
  rw [hx] at h
  have hsh := m.short
  have ia := I.at_
  have is := I.steps
  obtain ⟨i1, i2⟩ := I.st hov
  have i3 := I.att hov
  obtain ⟨hu20, hab, hbb, hrd, ok⟩ := ok
  obtain ⟨⟨w1, w8⟩, ⟨cap1, cap16⟩, ⟨n1, n4, ns, sl16⟩, rdn⟩ := hw
  have hpos : 0 < o.slots * o.width := Nat.mul_pos (by omega) w1
  have stp : 0 ≤ p.stage ∧ p.stage ≤ 100000 := by omega
  have sts : 0 ≤ p.steps ∧ p.steps ≤ 100000 := by omega
  have ats : 0 ≤ p.at_ ∧ p.at_ ≤ 100000 := by omega
  have c3 := h.head.2.2.2.1
  rw [i1, hrow] at c3
  obtain ⟨_, _, _, _, q1, _, _, qn⟩ := (ok hov).2.1 hwr
  have hi := q1 hrow
  have hnt := qn (by omega)
  have c4 := h.head.2.2.2.2.1
  rw [i2] at c4
  have hy := hl.get o (1 + s.i)
  rw [Op.get_gd] at hy
  obtain ⟨y, ey⟩ : ∃ y, y = Op.gd l (o.at_ + (1 + s.i)) := ⟨_, rfl⟩
  rw [← ey] at hy
  have f1 := i64_in (1 + (s.i : Int)) (by omega)
  have f2 := i64_in y (by omega)
  have f3 := i64_in (y - 1) (by omega)
  have g3 : wrap64 (y - 1) = y - 1 := by unfold wrap64; omega
  have PR := fun w' (s' : Same w w') => pread w' (h.same s') (m.same s') hg (1 + (s.i : Int)) sts (by omega) (by omega)
  rw [toNat_at I (1 + s.i) _ (by omega), ← ey] at PR
  have c19 := h.ex_ 0
  simp only [ex4, List.getElem?_cons_zero] at c19
  have nm := Op.noted_more sl16 hu20 hnt (y - 1)
  have fr := Op.free_eq ((Op.noteL_length _ _ _).trans hu20) sl16 (by have := nm.2; omega) nm.1
  obtain ⟨k, hk⟩ : ∃ k, k = Op.freeL (Op.noteL o.slots s.used (y - 1)) := ⟨_, rfl⟩
  rw [← hk] at fr
  have pbd := Op.putI_bd hab (y - 1)
  have e4 : Op.cab o s l = ({ (Op.more s).to (s.row + 1) with a := Op.putI s.a (y - 1), used := Op.noteL o.slots s.used (y - 1), b := (k : Int) }, l) := by
    simp only [Op.cab, hwr, Op.cabW, Op.more, hrow, if_true, Op.marked, hlt, ↓reduceIte, Op.get_gd, ← ey, hk, Op.St.to]
  have e6 : ∀ u : List Bool, exf o { (Op.more s).to (s.row + 1) with a := Op.putI s.a (y - 1), used := u, b := (k : Int) } = ex4 o.n o.slots (Op.putI s.a (y - 1)) (k : Int) := fun u => by simp only [exf, usedOf, slotOf, hwr, if_true]
  have cf := ctz_free _ pbd k fr.1 (by omega)
  have nt := not_u64 _ pbd
  have FI := fun w' (hw' : TZ w') => first_any (18446744073709551615 - (Op.putI s.a (y - 1)).toNat) (by omega) cf.1 w' hw'
  rw [cf.2, ← nt] at FI
  have HFI := Lib.hid FI
  have HTZ := Lib.hid hT
  have HGT : Hid (¬ (R 0 ∨ 0 = g)) := Lib.hid (fun h => h.elim hgT.1 (fun e => hgT.2 e.symm))
  clear nt FI cf pbd fr hk hgT hT
  have HRP : Hid (¬ p.turn + 1 < (o.n : Int)) := Lib.hid (by omega)
  have HRD : Hid (decide ((o.n : Int) ≤ p.turn + 1) = true) := Lib.hid (decide_eq_true (by omega))
  have HAB := Lib.hid hab
  have HC4 : Hid (∀ {w1 : World} {p1 : Pt} {ex1 : List Value}, PB w1 g T p1 ex1 → p1.turn = p.turn → w1.cell? ⟨g, 4, none⟩ = some (.int .i64 s.i)) := Lib.hid (fun hp ht => by have := hp.head.2.2.2.2.1; rw [ht, i2] at this; exact this)
  have HC19 : Hid (∀ {w1 w2 : World} {p1 : Pt} {u k : Int} {l1 : List Int} {s1 : Int}, Lft R g gm T p1 (ex4 o.n o.slots u k) l1 s1 w2 w1 → w1.cell? ⟨g, 19, none⟩ = some (.int .i64 o.n)) := Lib.hid (fun L => by have := L.op.ex_ 0; simpa [ex4] using this)
  have HTN : Hid (0 ≤ p.turn ∧ p.turn ≤ 100000) := Lib.hid (by omega)
  clear ey nm hnt q1 qn hi hlt
  have E4 := Lib.hid e4
  have HS := Lib.hid I
  have HV := Lib.hid hov
  clear ia is i1 i2 i3 e4 I ok hov hrow hab hrd
  go_enter Tryd.func59, Tryd.ntmps59
  go_wp2_with fail
  go_region_held3 (fun w' => w'.cell? ⟨g, 4, none⟩ = some (.int .i64 s.i) ∧ Chg (fun i => R i ∨ i = g) w w')
    (first | assumption | exact ⟨c4, (Chg.refl _ w).drew⟩ | exact ⟨HC4.out L2.op rfl, ((Chg.refl _ w).drew.trans L1.chg).trans L2.chg⟩ | exact ⟨HC4.out L1.op rfl, (Chg.refl _ w).drew.trans L1.chg⟩)
    (first | (go_at_call 90; ((with_reducible refine (PR _ (Same.refl _).drew).mono ?_); rintro e w' ⟨rfl, L1⟩)) | (go_at_call 89; ((with_reducible refine (use_any _ L1.op L1.mem hg HAB.out _).mono ?_); rintro e w' ⟨rfl, L2⟩)))
  have L1 := L1.drew0
  go_wp2_with fail
  have x19 := L2.op.ex_ 0
  simp only [ex4, List.getElem?_cons_zero] at x19
  have RP := prepeat _ L2.op.drew (mdrew L2.mem) hg (o.n : Int) stp HTN.out
  simp only at RP
  rw [HRD.out, if_neg (by have := HRP.out; omega)] at RP
  have HRQ := Lib.hid RP
  clear RP
  go_region_held3 (fun w' => w'.cell? ⟨g, 19, none⟩ = some (.int .i64 o.n))
    (first | assumption | exact HC19.out L3)
    (first | (go_at_call 91; ((with_reducible refine HRQ.out.mono ?_); rintro e w' ⟨rfl, L3⟩)))
  have L4 := (L1.trans L2).trans L3.drew0
  have x21 := L4.op.ex_ 2
  simp only [ex4, List.getElem?_cons_zero, List.getElem?_cons_succ] at x21
  have k22 := L4.op.thaw 22
  have x22 := L4.op.ex_ 3
  simp only [ex4, List.getElem?_cons_zero, List.getElem?_cons_succ] at x22
  have HL4 : Hid (TZ w') := Lib.hid (HTZ.out.chg L4.chg HGT.out)
  go_wp2_with fail
  refine (HFI.out _ HL4.out).mono ?_
  rintro e w4 ⟨rfl, rfl⟩
  go_wp2
  go_end0
  rw [E4.out]
  exact ⟨rfl, _, imp_next HS.out HV.out _ rfl rfl rfl rfl HV.out rfl rfl, by rw [e6]; exact L4.set hg 22 _ (L4.op.put_ex 3 (.int .i64 k))⟩

set_option maxHeartbeats 400000 in
theorem cw2 (w : World) (hT : TZ w) (hgT : ¬ R 0 ∧ g ≠ 0) (h : PB w g T p (exf o s)) (I : Imp o size s p) (m : Mem w R gm l st) (hg : ¬ R g) (hl : Op.Wd l) (ok : Op.cabOk o s) (hw : Op.cabAl o) (hfit : o.at_ + size ≤ l.length) (hsz : size = 1 + o.n + o.slots * o.width) (hov : s.over = false) (hs : s.steps ≤ 1000) (hwr : o.wr = true) (hrow : s.row = 2) :
    Calls Tryd.prog 59 #[.pointer (some ⟨g, 0, none⟩), .pointer (some ⟨gm, 0, none⟩)] w (Did R g gm T (exf o) o size (Op.cab o s l) (wrap64 (st + 1)) w) := by
  have hx : exf o s = ex4 o.n o.slots s.a s.b := by simp only [exf, usedOf, slotOf, hwr, if_true, Bool.false_eq_true, if_false]
  rw [hx] at h
  have hsh := m.short
  have ia := I.at_
  have is := I.steps
  obtain ⟨i1, i2⟩ := I.st hov
  have i3 := I.att hov
  obtain ⟨hu20, hab, hbb, hrd, ok⟩ := ok
  obtain ⟨⟨w1, w8⟩, ⟨cap1, cap16⟩, ⟨n1, n4, ns, sl16⟩, rdn⟩ := hw
  have hpos : 0 < o.slots * o.width := Nat.mul_pos (by omega) w1
  have stp : 0 ≤ p.stage ∧ p.stage ≤ 100000 := by omega
  have sts : 0 ≤ p.steps ∧ p.steps ≤ 100000 := by omega
  have ats : 0 ≤ p.at_ ∧ p.at_ ≤ 100000 := by omega
  have c3 := h.head.2.2.2.1
  rw [i1, hrow] at c3
  obtain ⟨_, _, qr, _, _, q2, _, _⟩ := (ok hov).2.1 hwr
  have hi := q2 hrow
  have hsl : 0 ≤ s.b ∧ s.b ≤ 15 := by omega
  have iw := I.width
  have hbn : s.b.toNat < o.slots := by omega
  have hk1 : Op.cabK o s.b + o.width ≤ 1 + o.n + o.slots * o.width := by
    unfold Op.cabK
    have := Nat.mul_le_mul_right o.width (show s.b.toNat + 1 ≤ o.slots by omega)
    rw [Nat.add_mul] at this
    omega
  have hk0 : 1 ≤ Op.cabK o s.b ∧ Op.cabK o s.b ≤ 1000 := by
    have : o.slots * o.width ≤ 16 * 8 := Nat.mul_le_mul sl16 w8
    unfold Op.cabK at hk1 ⊢
    omega
  have PL := fun w' (s' : Same w w') => place_any w' (h.same s') o.width iw n4 hsl w8
  rw [show (1 + o.n + s.b.toNat * o.width) = Op.cabK o s.b from rfl] at PL
  have hk2 : ((Op.cabK o s.b : Nat) : Int) + (s.i : Int) = ((Op.cabK o s.b + s.i : Nat) : Int) := by omega
  have PR := fun w' (s' : Same w w') => precord_wr w' (h.same s') (m.same s') hg (Op.cabK o s.b : Nat) s.i (by rw [I.rd, hwr]; rfl) i2 (by omega) sts stp (by omega) (by omega)
  rw [toNat_at I (Op.cabK o s.b + s.i) _ hk2, I.gd s.i (by omega)] at PR
  have e5 : (Op.word o (Op.more s) l (Op.cabK o s.b) (some 3)).2 = l.set (o.at_ + (Op.cabK o s.b + s.i)) (Op.gd s.rc s.i) := by
    simp only [Op.word, hwr, if_true]
    split <;> rfl
  have im := imp_word_wr I hov hwr l (Op.cabK o s.b) 3 (by rw [hrow])
  have e6 : exf o (Op.word o (Op.more s) l (Op.cabK o s.b) (some 3)).1 = exf o s := by
    simp only [Op.word, hwr, if_true]
    split <;> rfl
  have e4 : (Op.cab o s l) = Op.word o (Op.more s) l (Op.cabK o s.b) (some 3) := by simp [Op.cab, hwr, Op.cabW, Op.more, hrow]
  rw [hx] at e6
  generalize ((Op.cabK o s.b : Nat) : Int) = K at *
  have E5 := Lib.hid e5
  have E6 := Lib.hid e6
  have HK2 := Lib.hid hk2
  have c3x := c3
  clear iw e5 e6 hk2 hbn hk1 hk0 hi
  have E4 := Lib.hid e4
  have HS := Lib.hid I
  have HV := Lib.hid hov
  clear ia is i1 i2 i3 e4 I ok hov hrow hab hrd
  go_enter Tryd.func59, Tryd.ntmps59
  go_wp2_with fail
  go_region_held3 (fun w' => Chg (fun i => R i ∨ i = g) w w')
    (first | assumption | exact (Chg.refl _ w).drew | exact ((Chg.refl _ w).drew).trans (hs.chg _) | exact (‹Chg (fun i => R i ∨ i = g) w _›).trans L1.chg)
    (first | (go_at_call 87; ((with_reducible refine (PL _ (Same.refl _).drew).mono ?_); rintro e w' ⟨rfl, hs⟩)) | (go_at_call 86; ((with_reducible refine (PR _ (drew_of ‹Same w.drew _›)).mono ?_); rintro e w' ⟨rfl, L1⟩)))
  go_wp2
  go_end0
  rw [E4.out]
  exact ⟨rfl, _, im, ⟨by rw [E6.out]; exact L1.op, by rw [E5.out]; exact L1.mem, ‹Chg (fun i => R i ∨ i = g) w _›⟩⟩

set_option maxHeartbeats 400000 in
theorem cw3 (w : World) (hT : TZ w) (hgT : ¬ R 0 ∧ g ≠ 0) (h : PB w g T p (exf o s)) (I : Imp o size s p) (m : Mem w R gm l st) (hg : ¬ R g) (hl : Op.Wd l) (ok : Op.cabOk o s) (hw : Op.cabAl o) (hfit : o.at_ + size ≤ l.length) (hsz : size = 1 + o.n + o.slots * o.width) (hov : s.over = false) (hs : s.steps ≤ 1000) (hwr : o.wr = true) (hrow : s.row = 3) :
    Calls Tryd.prog 59 #[.pointer (some ⟨g, 0, none⟩), .pointer (some ⟨gm, 0, none⟩)] w (Did R g gm T (exf o) o size (Op.cab o s l) (wrap64 (st + 1)) w) := by
  have hx : exf o s = ex4 o.n o.slots s.a s.b := by simp only [exf, usedOf, slotOf, hwr, if_true, Bool.false_eq_true, if_false]
  rw [hx] at h
  have hsh := m.short
  have ia := I.at_
  have is := I.steps
  obtain ⟨i1, i2⟩ := I.st hov
  have i3 := I.att hov
  obtain ⟨hu20, hab, hbb, hrd, ok⟩ := ok
  obtain ⟨⟨w1, w8⟩, ⟨cap1, cap16⟩, ⟨n1, n4, ns, sl16⟩, rdn⟩ := hw
  have hpos : 0 < o.slots * o.width := Nat.mul_pos (by omega) w1
  have stp : 0 ≤ p.stage ∧ p.stage ≤ 100000 := by omega
  have sts : 0 ≤ p.steps ∧ p.steps ≤ 100000 := by omega
  have ats : 0 ≤ p.at_ ∧ p.at_ ≤ 100000 := by omega
  have c3 := h.head.2.2.2.1
  rw [i1, hrow] at c3
  have PR := fun w' (s' : Same w w') => pwrite w' (h.same s') (m.same s') hg 0 s.b sts (by omega) (by omega)
  rw [toNat_at I 0 0 rfl] at PR
  have e4 : Op.cab o s l = ((Op.more s).fin o.wr 0, Op.put o l 0 s.b) := by simp [Op.cab, hwr, Op.cabW, Op.more, hrow]
  have e6 : exf o ((Op.more s).fin o.wr 0) = ex4 o.n o.slots s.a s.b := by simp only [exf, usedOf, slotOf, hwr, if_true]; rfl
  have f1 := u32_in s.b (by omega)
  have x22 := h.ex_ 3
  simp only [ex4, List.getElem?_cons_zero, List.getElem?_cons_succ] at x22
  have HX : Hid (∀ {w1 : World} {p1 : Pt} {l1 : List Int} {s1 : Int}, Lft R g gm T p1 (ex4 o.n o.slots s.a s.b) l1 s1 w.drew w1 → w1.cell? ⟨g, 22, none⟩ = some (.int .i64 s.b)) := Lib.hid (fun L => by have := L.op.ex_ 3; simpa [ex4] using this)
  have E4 := Lib.hid e4
  have HS := Lib.hid I
  have HV := Lib.hid hov
  clear ia is i1 i2 i3 e4 I ok hov hrow hab hrd
  go_enter Tryd.func59, Tryd.ntmps59
  go_wp2_with fail
  go_region_held3 (fun w' => w'.cell? ⟨g, 22, none⟩ = some (.int .i64 s.b))
    (first | assumption | exact HX.out L1)
    (first | (go_at_call 84; ((with_reducible refine (PR _ (Same.refl _).drew).mono ?_); rintro e w' ⟨rfl, L1⟩)))
  have L2 := L1.drew0
  go_wp2_with fail
  refine (pend _ L2.op L2.mem hg 0).mono ?_
  rintro e w3 ⟨rfl, L3⟩
  have L4 := L2.trans L3
  go_wp2
  go_end0
  rw [E4.out]
  exact ⟨rfl, _, imp_end HS.out HV.out 0, by rw [e6]; exact L4⟩

set_option maxHeartbeats 400000 in
theorem cr0 (w : World) (hT : TZ w) (hgT : ¬ R 0 ∧ g ≠ 0) (h : PB w g T p (exf o s)) (I : Imp o size s p) (m : Mem w R gm l st) (hg : ¬ R g) (hl : Op.Wd l) (ok : Op.cabOk o s) (hw : Op.cabAl o) (hfit : o.at_ + size ≤ l.length) (hsz : size = 1 + o.n + o.slots * o.width) (hov : s.over = false) (hs : s.steps ≤ 1000) (hwr : o.wr = false) (hrow : s.row = 0) :
    Calls Tryd.prog 58 #[.pointer (some ⟨g, 0, none⟩), .pointer (some ⟨gm, 0, none⟩)] w (Did R g gm T (exf o) o size (Op.cab o s l) (wrap64 (st + 1)) w) := by
  have hx : exf o s = ex4 o.n o.slots 0 s.a := by simp only [exf, usedOf, slotOf, hwr, if_true, Bool.false_eq_true, if_false]
  rw [hx] at h
  have hsh := m.short
  have ia := I.at_
  have is := I.steps
  obtain ⟨i1, i2⟩ := I.st hov
  have i3 := I.att hov
  obtain ⟨hu20, hab, hbb, hrd, ok⟩ := ok
  obtain ⟨⟨w1, w8⟩, ⟨cap1, cap16⟩, ⟨n1, n4, ns, sl16⟩, rdn⟩ := hw
  have hpos : 0 < o.slots * o.width := Nat.mul_pos (by omega) w1
  have stp : 0 ≤ p.stage ∧ p.stage ≤ 100000 := by omega
  have sts : 0 ≤ p.steps ∧ p.steps ≤ 100000 := by omega
  have ats : 0 ≤ p.at_ ∧ p.at_ ≤ 100000 := by omega
  have c3 := h.head.2.2.2.1
  rw [i1, hrow] at c3
  have c1 := h.head.2.1
  have rx := I.reader
  rw [rx] at c1
  have fm := i64_in (1 + (o.reader : Int)) (by omega)
  have hy := hl.get o 0
  rw [Op.get_gd, Nat.add_zero] at hy
  obtain ⟨y, ey⟩ : ∃ y, y = Op.gd l o.at_ := ⟨_, rfl⟩
  rw [← ey] at hy
  have PN := newest_any w h m hg sts ats (by omega) ⟨by omega, sl16⟩ y (by rw [ey, at_nat I]) hy
  obtain ⟨v, ev⟩ : ∃ v, v = y % (o.slots : Int) := ⟨_, rfl⟩
  rw [← ev] at PN
  have e4 : Op.cab o s l = ({ (Op.more s).to (s.row + 1) with a := v }, l) := by simp [Op.cab, hwr, Op.cabR, Op.more, hrow, ← ey, ← ev, Op.get_gd]
  have e6 : exf o { (Op.more s).to (s.row + 1) with a := v } = ex4 o.n o.slots 0 v := by simp only [exf, usedOf, slotOf, hwr, Bool.false_eq_true, if_false]
  clear ey ev
  have E4 := Lib.hid e4
  have HS := Lib.hid I
  have HV := Lib.hid hov
  clear ia is i1 i2 i3 e4 I ok hov hrow hab hrd
  go_enter Tryd.func58, Tryd.ntmps58
  go_wp2_with fail
  refine PN.mono ?_
  rintro e w1 ⟨rfl, L1⟩
  have x22 := L1.op.ex_ 3
  simp only [ex4, List.getElem?_cons_zero, List.getElem?_cons_succ] at x22
  have k22 := L1.op.thaw 22
  have L2 := L1.set hg 22 _ (L1.op.put_ex 3 (.int .i64 v))
  go_wp2_with fail
  refine (pnext _ L2.op L2.mem hg stp).mono ?_
  rintro e w3 ⟨rfl, L3⟩
  have L4 := L2.trans L3
  go_wp2
  go_end0
  rw [E4.out]
  exact ⟨rfl, _, imp_next HS.out HV.out _ rfl rfl rfl rfl HV.out rfl rfl, by rw [e6]; exact L4⟩

set_option maxHeartbeats 400000 in
theorem cr1 (w : World) (hT : TZ w) (hgT : ¬ R 0 ∧ g ≠ 0) (h : PB w g T p (exf o s)) (I : Imp o size s p) (m : Mem w R gm l st) (hg : ¬ R g) (hl : Op.Wd l) (ok : Op.cabOk o s) (hw : Op.cabAl o) (hfit : o.at_ + size ≤ l.length) (hsz : size = 1 + o.n + o.slots * o.width) (hov : s.over = false) (hs : s.steps ≤ 1000) (hwr : o.wr = false) (hrow : s.row = 1) :
    Calls Tryd.prog 58 #[.pointer (some ⟨g, 0, none⟩), .pointer (some ⟨gm, 0, none⟩)] w (Did R g gm T (exf o) o size (Op.cab o s l) (wrap64 (st + 1)) w) := by
  have hx : exf o s = ex4 o.n o.slots 0 s.a := by simp only [exf, usedOf, slotOf, hwr, if_true, Bool.false_eq_true, if_false]
  rw [hx] at h
  have hsh := m.short
  have ia := I.at_
  have is := I.steps
  obtain ⟨i1, i2⟩ := I.st hov
  have i3 := I.att hov
  obtain ⟨hu20, hab, hbb, hrd, ok⟩ := ok
  obtain ⟨⟨w1, w8⟩, ⟨cap1, cap16⟩, ⟨n1, n4, ns, sl16⟩, rdn⟩ := hw
  have hpos : 0 < o.slots * o.width := Nat.mul_pos (by omega) w1
  have stp : 0 ≤ p.stage ∧ p.stage ≤ 100000 := by omega
  have sts : 0 ≤ p.steps ∧ p.steps ≤ 100000 := by omega
  have ats : 0 ≤ p.at_ ∧ p.at_ ≤ 100000 := by omega
  have c3 := h.head.2.2.2.1
  rw [i1, hrow] at c3
  have c1 := h.head.2.1
  have rx := I.reader
  rw [rx] at c1
  have fm := i64_in (1 + (o.reader : Int)) (by omega)
  have hrd' := hrd hwr
  have PR := fun w' (s' : Same w w') => pwrite w' (h.same s') (m.same s') hg (1 + (o.reader : Int)) (s.a + 1) sts (by omega) (by omega)
  rw [toNat_at I (1 + o.reader) _ (by omega)] at PR
  have e4 : Op.cab o s l = ((Op.more s).to (s.row + 1), Op.put o l (1 + o.reader) (s.a + 1)) := by simp [Op.cab, hwr, Op.cabR, Op.more, hrow]
  have e6 : exf o ((Op.more s).to (s.row + 1)) = ex4 o.n o.slots 0 s.a := by simp only [exf, usedOf, slotOf, hwr, Bool.false_eq_true, if_false]; rfl
  have f1 := i64_in (s.a + 1) (by omega)
  have f2 := u32_in (s.a + 1) (by omega)
  have g1 : wrap64 (s.a + 1) = s.a + 1 := by unfold wrap64; omega
  have x22 := h.ex_ 3
  simp only [ex4, List.getElem?_cons_zero, List.getElem?_cons_succ] at x22
  have HX : Hid (∀ {w1 : World} {p1 : Pt} {l1 : List Int} {s1 : Int}, Lft R g gm T p1 (ex4 o.n o.slots 0 s.a) l1 s1 w.drew w1 → w1.cell? ⟨g, 22, none⟩ = some (.int .i64 s.a)) := Lib.hid (fun L => by have := L.op.ex_ 3; simpa [ex4] using this)
  have E4 := Lib.hid e4
  have HS := Lib.hid I
  have HV := Lib.hid hov
  clear ia is i1 i2 i3 e4 I ok hov hrow hab hrd
  clear hrd'
  go_enter Tryd.func58, Tryd.ntmps58
  go_wp2_with fail
  go_region_held3 (fun w' => w'.cell? ⟨g, 22, none⟩ = some (.int .i64 s.a))
    (first | assumption | exact HX.out L1)
    (first | (go_at_call 84; ((with_reducible refine (PR _ (Same.refl _).drew).mono ?_); rintro e w' ⟨rfl, L1⟩)))
  have L2 := L1.drew0
  go_wp2_with fail
  refine (pnext _ L2.op L2.mem hg stp).mono ?_
  rintro e w3 ⟨rfl, L3⟩
  have L4 := L2.trans L3
  go_wp2
  go_end0
  rw [E4.out]
  exact ⟨rfl, _, imp_next HS.out HV.out _ rfl rfl rfl rfl HV.out rfl rfl, by rw [e6]; exact L4⟩

set_option maxHeartbeats 400000 in
theorem cr2 (w : World) (hT : TZ w) (hgT : ¬ R 0 ∧ g ≠ 0) (h : PB w g T p (exf o s)) (I : Imp o size s p) (m : Mem w R gm l st) (hg : ¬ R g) (hl : Op.Wd l) (ok : Op.cabOk o s) (hw : Op.cabAl o) (hfit : o.at_ + size ≤ l.length) (hsz : size = 1 + o.n + o.slots * o.width) (hov : s.over = false) (hs : s.steps ≤ 1000) (hwr : o.wr = false) (hrow : s.row = 2) (hsame : Op.gd l o.at_ % (o.slots : Int) = s.a) :
    Calls Tryd.prog 58 #[.pointer (some ⟨g, 0, none⟩), .pointer (some ⟨gm, 0, none⟩)] w (Did R g gm T (exf o) o size (Op.cab o s l) (wrap64 (st + 1)) w) := by
  have hx : exf o s = ex4 o.n o.slots 0 s.a := by simp only [exf, usedOf, slotOf, hwr, if_true, Bool.false_eq_true, if_false]
  rw [hx] at h
  have hsh := m.short
  have ia := I.at_
  have is := I.steps
  obtain ⟨i1, i2⟩ := I.st hov
  have i3 := I.att hov
  obtain ⟨hu20, hab, hbb, hrd, ok⟩ := ok
  obtain ⟨⟨w1, w8⟩, ⟨cap1, cap16⟩, ⟨n1, n4, ns, sl16⟩, rdn⟩ := hw
  have hpos : 0 < o.slots * o.width := Nat.mul_pos (by omega) w1
  have stp : 0 ≤ p.stage ∧ p.stage ≤ 100000 := by omega
  have sts : 0 ≤ p.steps ∧ p.steps ≤ 100000 := by omega
  have ats : 0 ≤ p.at_ ∧ p.at_ ≤ 100000 := by omega
  have c3 := h.head.2.2.2.1
  rw [i1, hrow] at c3
  have c1 := h.head.2.1
  have rx := I.reader
  rw [rx] at c1
  have fm := i64_in (1 + (o.reader : Int)) (by omega)
  have hy := hl.get o 0
  rw [Op.get_gd, Nat.add_zero] at hy
  obtain ⟨y, ey⟩ : ∃ y, y = Op.gd l o.at_ := ⟨_, rfl⟩
  rw [← ey] at hy
  have PN := newest_any w h m hg sts ats (by omega) ⟨by omega, sl16⟩ y (by rw [ey, at_nat I]) hy
  rw [← ey] at hsame
  obtain ⟨_, _, q6, _, _, _, q7, _⟩ := (ok hov).2.2 hwr
  have hi := q7 (by omega)
  have htr := q6 (by omega)
  have hrd' := hrd hwr
  obtain ⟨v, ev⟩ : ∃ v, v = y % (o.slots : Int) := ⟨_, rfl⟩
  rw [← ev] at PN hsame
  have PNW := fun w' (s' : Same w w') => newest_any w' (h.same s') (m.same s') hg sts ats (by omega) ⟨by omega, sl16⟩ y (by rw [ey, at_nat I]) hy
  rw [← ev] at PNW
  have att : 0 ≤ p.att ∧ p.att ≤ 100000 := by omega
  have HX : Hid (∀ {w1 : World} {p1 : Pt} {l1 : List Int} {s1 : Int}, Lft R g gm T p1 (ex4 o.n o.slots 0 s.a) l1 s1 w.drew w1 → w1.cell? ⟨g, 22, none⟩ = some (.int .i64 s.a)) := Lib.hid (fun L => by have := L.op.ex_ 3; simpa [ex4] using this)
  have x22 := h.ex_ 3
  simp only [ex4, List.getElem?_cons_zero, List.getElem?_cons_succ] at x22
  have e4 : Op.cab o s l = ((Op.more s).to (s.row + 1), l) := by
    have : Op.get o l 0 % (o.slots : Int) = s.a := by rw [Op.get_gd, Nat.add_zero, ← ey, ← ev]; exact hsame
    simp [Op.cab, hwr, Op.cabR, Op.more, hrow, this]
  have e6 : exf o ((Op.more s).to (s.row + 1)) = ex4 o.n o.slots 0 s.a := by simp only [exf, usedOf, slotOf, hwr, Bool.false_eq_true, if_false]; rfl
  have b1 : (v == s.a) = true := by simpa using hsame
  clear ey ev PN q6 q7 hrd' htr hsame hi
  have E4 := Lib.hid e4
  have HS := Lib.hid I
  have HV := Lib.hid hov
  clear ia is i1 i2 i3 e4 I ok hov hrow hab hrd
  go_enter Tryd.func58, Tryd.ntmps58
  go_wp2_with fail
  go_region_held3 (fun w' => w'.cell? ⟨g, 22, none⟩ = some (.int .i64 s.a))
    (first | assumption | exact HX.out L1)
    (first | (go_at_call 82; ((with_reducible refine (PNW _ (Same.refl _).drew).mono ?_); rintro e w' ⟨rfl, L1⟩)))
  have L2 := L1.drew0
  go_wp2_with fail
  refine (pnext _ L2.op L2.mem hg stp).mono ?_
  rintro e w3 ⟨rfl, L3⟩
  have L4 := L2.trans L3
  go_wp2
  go_end0
  rw [E4.out]
  exact ⟨rfl, _, imp_next HS.out HV.out _ rfl rfl rfl rfl HV.out rfl rfl, by rw [e6]; exact L4⟩

set_option maxHeartbeats 400000 in
theorem cr2f (w : World) (hT : TZ w) (hgT : ¬ R 0 ∧ g ≠ 0) (h : PB w g T p (exf o s)) (I : Imp o size s p) (m : Mem w R gm l st) (hg : ¬ R g) (hl : Op.Wd l) (ok : Op.cabOk o s) (hw : Op.cabAl o) (hfit : o.at_ + size ≤ l.length) (hsz : size = 1 + o.n + o.slots * o.width) (hov : s.over = false) (hs : s.steps ≤ 1000) (hwr : o.wr = false) (hrow : s.row = 2) (hsame : ¬ Op.gd l o.at_ % (o.slots : Int) = s.a) :
    Calls Tryd.prog 58 #[.pointer (some ⟨g, 0, none⟩), .pointer (some ⟨gm, 0, none⟩)] w (Did R g gm T (exf o) o size (Op.cab o s l) (wrap64 (st + 1)) w) := by
  have hx : exf o s = ex4 o.n o.slots 0 s.a := by simp only [exf, usedOf, slotOf, hwr, if_true, Bool.false_eq_true, if_false]
  rw [hx] at h
  have hsh := m.short
  have ia := I.at_
  have is := I.steps
  obtain ⟨i1, i2⟩ := I.st hov
  have i3 := I.att hov
  obtain ⟨hu20, hab, hbb, hrd, ok⟩ := ok
  obtain ⟨⟨w1, w8⟩, ⟨cap1, cap16⟩, ⟨n1, n4, ns, sl16⟩, rdn⟩ := hw
  have hpos : 0 < o.slots * o.width := Nat.mul_pos (by omega) w1
  have stp : 0 ≤ p.stage ∧ p.stage ≤ 100000 := by omega
  have sts : 0 ≤ p.steps ∧ p.steps ≤ 100000 := by omega
  have ats : 0 ≤ p.at_ ∧ p.at_ ≤ 100000 := by omega
  have c3 := h.head.2.2.2.1
  rw [i1, hrow] at c3
  have c1 := h.head.2.1
  have rx := I.reader
  rw [rx] at c1
  have fm := i64_in (1 + (o.reader : Int)) (by omega)
  have hy := hl.get o 0
  rw [Op.get_gd, Nat.add_zero] at hy
  obtain ⟨y, ey⟩ : ∃ y, y = Op.gd l o.at_ := ⟨_, rfl⟩
  rw [← ey] at hy
  have PN := newest_any w h m hg sts ats (by omega) ⟨by omega, sl16⟩ y (by rw [ey, at_nat I]) hy
  rw [← ey] at hsame
  obtain ⟨_, _, q6, _, _, _, q7, _⟩ := (ok hov).2.2 hwr
  have hi := q7 (by omega)
  have htr := q6 (by omega)
  have hrd' := hrd hwr
  obtain ⟨v, ev⟩ : ∃ v, v = y % (o.slots : Int) := ⟨_, rfl⟩
  rw [← ev] at PN hsame
  have PNW := fun w' (s' : Same w w') => newest_any w' (h.same s') (m.same s') hg sts ats (by omega) ⟨by omega, sl16⟩ y (by rw [ey, at_nat I]) hy
  rw [← ev] at PNW
  have att : 0 ≤ p.att ∧ p.att ≤ 100000 := by omega
  have HX : Hid (∀ {w1 : World} {p1 : Pt} {l1 : List Int} {s1 : Int}, Lft R g gm T p1 (ex4 o.n o.slots 0 s.a) l1 s1 w.drew w1 → w1.cell? ⟨g, 22, none⟩ = some (.int .i64 s.a)) := Lib.hid (fun L => by have := L.op.ex_ 3; simpa [ex4] using this)
  have x22 := h.ex_ 3
  simp only [ex4, List.getElem?_cons_zero, List.getElem?_cons_succ] at x22
  have e4 : Op.cab o s l = (Op.failC o (Op.more s), l) := by
    have : ¬ Op.get o l 0 % (o.slots : Int) = s.a := by rw [Op.get_gd, Nat.add_zero, ← ey, ← ev]; exact hsame
    simp [Op.cab, hwr, Op.cabR, Op.more, hrow, this]
  have e6 : exf o (Op.failC o (Op.more s)) = ex4 o.n o.slots 0 s.a := by simp only [exf, usedOf, slotOf, hwr, Bool.false_eq_true, if_false]; rfl
  have b1 : (v == s.a) = false := by simpa using hsame
  have IF := imp_failC I hov hi _ rfl
  clear ey ev PN q6 q7 hrd' htr hsame hi
  have E4 := Lib.hid e4
  have HS := Lib.hid I
  have HV := Lib.hid hov
  clear ia is i1 i2 i3 e4 I ok hov hrow hab hrd
  go_enter Tryd.func58, Tryd.ntmps58
  go_wp2_with fail
  go_region_held3 (fun w' => w'.cell? ⟨g, 22, none⟩ = some (.int .i64 s.a))
    (first | assumption | exact HX.out L1)
    (first | (go_at_call 82; ((with_reducible refine (PNW _ (Same.refl _).drew).mono ?_); rintro e w' ⟨rfl, L1⟩)))
  have L2 := L1.drew0
  have PA := pagain _ L2.op L2.mem hg att
  simp only at PA
  by_cases hlt : p.att - 1 < 1
  · rw [if_pos hlt, decide_eq_true hlt] at PA
    rw [if_pos hlt] at IF
    have HPA := Lib.hid PA
    clear PA
    go_wp2_with fail
    refine HPA.out.mono ?_
    rintro e w3 ⟨rfl, L3⟩
    have k3 := L3.op.thaw 3
    have y3 := L3.op.head.2.2.2.1
    have L4 := (L2.trans L3).set hg 3 _ (L3.op.put_stage 6)
    go_wp2_with fail
    go_end0
    rw [E4.out]
    exact ⟨rfl, _, IF, by rw [e6]; exact L4⟩
  · rw [if_neg hlt, decide_eq_false hlt] at PA
    rw [if_neg hlt] at IF
    have HPA := Lib.hid PA
    clear PA
    go_wp2_with fail
    refine HPA.out.mono ?_
    rintro e w3 ⟨rfl, L3⟩
    have L4 := L2.trans L3
    go_wp2_with fail
    go_end0
    rw [E4.out]
    exact ⟨rfl, _, IF, by rw [e6]; exact L4⟩

set_option maxHeartbeats 400000 in
theorem cr3 (w : World) (hT : TZ w) (hgT : ¬ R 0 ∧ g ≠ 0) (h : PB w g T p (exf o s)) (I : Imp o size s p) (m : Mem w R gm l st) (hg : ¬ R g) (hl : Op.Wd l) (ok : Op.cabOk o s) (hw : Op.cabAl o) (hfit : o.at_ + size ≤ l.length) (hsz : size = 1 + o.n + o.slots * o.width) (hov : s.over = false) (hs : s.steps ≤ 1000) (hwr : o.wr = false) (hrow : s.row = 3) :
    Calls Tryd.prog 58 #[.pointer (some ⟨g, 0, none⟩), .pointer (some ⟨gm, 0, none⟩)] w (Did R g gm T (exf o) o size (Op.cab o s l) (wrap64 (st + 1)) w) := by
  have hx : exf o s = ex4 o.n o.slots 0 s.a := by simp only [exf, usedOf, slotOf, hwr, if_true, Bool.false_eq_true, if_false]
  rw [hx] at h
  have hsh := m.short
  have ia := I.at_
  have is := I.steps
  obtain ⟨i1, i2⟩ := I.st hov
  have i3 := I.att hov
  obtain ⟨hu20, hab, hbb, hrd, ok⟩ := ok
  obtain ⟨⟨w1, w8⟩, ⟨cap1, cap16⟩, ⟨n1, n4, ns, sl16⟩, rdn⟩ := hw
  have hpos : 0 < o.slots * o.width := Nat.mul_pos (by omega) w1
  have stp : 0 ≤ p.stage ∧ p.stage ≤ 100000 := by omega
  have sts : 0 ≤ p.steps ∧ p.steps ≤ 100000 := by omega
  have ats : 0 ≤ p.at_ ∧ p.at_ ≤ 100000 := by omega
  have c3 := h.head.2.2.2.1
  rw [i1, hrow] at c3
  obtain ⟨_, _, _, _, q3, _, _, q8⟩ := (ok hov).2.2 hwr
  have hi := q8 hrow
  have hrl := q3 hrow
  have hrd' := hrd hwr
  have hsl : 0 ≤ s.a ∧ s.a ≤ 15 := by omega
  have iw := I.width
  have hbn : s.a.toNat < o.slots := by omega
  have hk1 : Op.cabK o s.a + o.width ≤ 1 + o.n + o.slots * o.width := by
    unfold Op.cabK
    have := Nat.mul_le_mul_right o.width (show s.a.toNat + 1 ≤ o.slots by omega)
    rw [Nat.add_mul] at this
    omega
  have hk0 : 1 ≤ Op.cabK o s.a ∧ Op.cabK o s.a ≤ 1000 := by
    have : o.slots * o.width ≤ 16 * 8 := Nat.mul_le_mul sl16 w8
    unfold Op.cabK at hk1 ⊢
    omega
  have PL := fun w' (s' : Same w w') => place_any w' (h.same s') o.width iw n4 hsl w8
  rw [show (1 + o.n + s.a.toNat * o.width) = Op.cabK o s.a from rfl] at PL
  have hk2 : ((Op.cabK o s.a : Nat) : Int) + (s.i : Int) = ((Op.cabK o s.a + s.i : Nat) : Int) := by omega
  have PR := fun w' (s' : Same w w') => precord_rd w' (h.same s') (m.same s') hg (Op.cabK o s.a : Nat) s.i (by rw [I.rd, hwr]; rfl) i2 (by omega) sts stp (by omega) (by omega)
  rw [toNat_at I (Op.cabK o s.a + s.i) _ hk2] at PR
  have e5 : (Op.word o (Op.more s) l (Op.cabK o s.a) (some 4)).2 = l := by
    simp only [Op.word, hwr, Bool.false_eq_true, if_false]
    split <;> rfl
  have im := imp_word_rd I hov hwr h.rec8 hrl (by omega) l (Op.cabK o s.a) 4 (by rw [hrow]) _ rfl
  rw [Op.get_gd] at im
  have e6 : exf o (Op.word o (Op.more s) l (Op.cabK o s.a) (some 4)).1 = exf o s := by
    simp only [Op.word, hwr, Bool.false_eq_true, if_false]
    split <;> rfl
  have e4 : (Op.cab o s l) = Op.word o (Op.more s) l (Op.cabK o s.a) (some 4) := by simp [Op.cab, hwr, Op.cabR, Op.more, hrow]
  rw [hx] at e6
  generalize ((Op.cabK o s.a : Nat) : Int) = K at *
  have E5 := Lib.hid e5
  have E6 := Lib.hid e6
  have HK2 := Lib.hid hk2
  have c3x := c3
  clear iw e5 e6 hk2 hbn hk1 hk0 hi
  have E4 := Lib.hid e4
  have HS := Lib.hid I
  have HV := Lib.hid hov
  clear ia is i1 i2 i3 e4 I ok hov hrow hab hrd
  have c1 := h.head.2.1
  have rx := HS.out.reader
  rw [rx] at c1
  have fm := i64_in (1 + (o.reader : Int)) (by omega)
  go_enter Tryd.func58, Tryd.ntmps58
  go_wp2_with fail
  go_region_held3 (fun w' => Chg (fun i => R i ∨ i = g) w w')
    (first | assumption | exact (Chg.refl _ w).drew | exact ((Chg.refl _ w).drew).trans (hs.chg _) | exact (‹Chg (fun i => R i ∨ i = g) w _›).trans L1.chg)
    (first | (go_at_call 87; ((with_reducible refine (PL _ (Same.refl _).drew).mono ?_); rintro e w' ⟨rfl, hs⟩)) | (go_at_call 86; ((with_reducible refine (PR _ (drew_of ‹Same w.drew _›)).mono ?_); rintro e w' ⟨rfl, L1⟩)))
  go_wp2
  go_end0
  rw [E4.out]
  exact ⟨rfl, _, im, ⟨by rw [E6.out]; exact L1.op, by rw [E5.out]; exact L1.mem, ‹Chg (fun i => R i ∨ i = g) w _›⟩⟩

set_option maxHeartbeats 400000 in
theorem cr4 (w : World) (hT : TZ w) (hgT : ¬ R 0 ∧ g ≠ 0) (h : PB w g T p (exf o s)) (I : Imp o size s p) (m : Mem w R gm l st) (hg : ¬ R g) (hl : Op.Wd l) (ok : Op.cabOk o s) (hw : Op.cabAl o) (hfit : o.at_ + size ≤ l.length) (hsz : size = 1 + o.n + o.slots * o.width) (hov : s.over = false) (hs : s.steps ≤ 1000) (hwr : o.wr = false) (hrow : s.row = 4) :
    Calls Tryd.prog 58 #[.pointer (some ⟨g, 0, none⟩), .pointer (some ⟨gm, 0, none⟩)] w (Did R g gm T (exf o) o size (Op.cab o s l) (wrap64 (st + 1)) w) := by
  have hx : exf o s = ex4 o.n o.slots 0 s.a := by simp only [exf, usedOf, slotOf, hwr, if_true, Bool.false_eq_true, if_false]
  rw [hx] at h
  have hsh := m.short
  have ia := I.at_
  have is := I.steps
  obtain ⟨i1, i2⟩ := I.st hov
  have i3 := I.att hov
  obtain ⟨hu20, hab, hbb, hrd, ok⟩ := ok
  obtain ⟨⟨w1, w8⟩, ⟨cap1, cap16⟩, ⟨n1, n4, ns, sl16⟩, rdn⟩ := hw
  have hpos : 0 < o.slots * o.width := Nat.mul_pos (by omega) w1
  have stp : 0 ≤ p.stage ∧ p.stage ≤ 100000 := by omega
  have sts : 0 ≤ p.steps ∧ p.steps ≤ 100000 := by omega
  have ats : 0 ≤ p.at_ ∧ p.at_ ≤ 100000 := by omega
  have c3 := h.head.2.2.2.1
  rw [i1, hrow] at c3
  have c1 := h.head.2.1
  have rx := I.reader
  rw [rx] at c1
  have fm := i64_in (1 + (o.reader : Int)) (by omega)
  have hrd' := hrd hwr
  have PR := fun w' (s' : Same w w') => pwrite w' (h.same s') (m.same s') hg (1 + (o.reader : Int)) 0 sts (by omega) (by omega)
  rw [toNat_at I (1 + o.reader) _ (by omega)] at PR
  have e4 : Op.cab o s l = ((Op.more s).fin o.wr 0, Op.put o l (1 + o.reader) 0) := by simp [Op.cab, hwr, Op.cabR, Op.more, hrow]
  have e6 : exf o ((Op.more s).fin o.wr 0) = ex4 o.n o.slots 0 s.a := by simp only [exf, usedOf, slotOf, hwr, Bool.false_eq_true, if_false]; rfl
  have E4 := Lib.hid e4
  have HS := Lib.hid I
  have HV := Lib.hid hov
  clear ia is i1 i2 i3 e4 I ok hov hrow hab hrd
  clear hrd'
  go_enter Tryd.func58, Tryd.ntmps58
  go_wp2_with fail
  refine (PR _ (Same.refl _)).mono ?_
  rintro e w1 ⟨rfl, L1⟩
  go_wp2_with fail
  refine (pend _ L1.op L1.mem hg 0).mono ?_
  rintro e w3 ⟨rfl, L3⟩
  have L4 := L1.trans L3
  go_wp2
  go_end0
  rw [E4.out]
  exact ⟨rfl, _, imp_end HS.out HV.out 0, by rw [e6]; exact L4⟩

set_option maxHeartbeats 400000 in
theorem cr5 (w : World) (hT : TZ w) (hgT : ¬ R 0 ∧ g ≠ 0) (h : PB w g T p (exf o s)) (I : Imp o size s p) (m : Mem w R gm l st) (hg : ¬ R g) (hl : Op.Wd l) (ok : Op.cabOk o s) (hw : Op.cabAl o) (hfit : o.at_ + size ≤ l.length) (hsz : size = 1 + o.n + o.slots * o.width) (hov : s.over = false) (hs : s.steps ≤ 1000) (hwr : o.wr = false) (hrow : s.row = 5) :
    Calls Tryd.prog 58 #[.pointer (some ⟨g, 0, none⟩), .pointer (some ⟨gm, 0, none⟩)] w (Did R g gm T (exf o) o size (Op.cab o s l) (wrap64 (st + 1)) w) := by
  have hx : exf o s = ex4 o.n o.slots 0 s.a := by simp only [exf, usedOf, slotOf, hwr, if_true, Bool.false_eq_true, if_false]
  rw [hx] at h
  have hsh := m.short
  have ia := I.at_
  have is := I.steps
  obtain ⟨i1, i2⟩ := I.st hov
  have i3 := I.att hov
  obtain ⟨hu20, hab, hbb, hrd, ok⟩ := ok
  obtain ⟨⟨w1, w8⟩, ⟨cap1, cap16⟩, ⟨n1, n4, ns, sl16⟩, rdn⟩ := hw
  have hpos : 0 < o.slots * o.width := Nat.mul_pos (by omega) w1
  have stp : 0 ≤ p.stage ∧ p.stage ≤ 100000 := by omega
  have sts : 0 ≤ p.steps ∧ p.steps ≤ 100000 := by omega
  have ats : 0 ≤ p.at_ ∧ p.at_ ≤ 100000 := by omega
  have c3 := h.head.2.2.2.1
  rw [i1, hrow] at c3
  have c1 := h.head.2.1
  have rx := I.reader
  rw [rx] at c1
  have fm := i64_in (1 + (o.reader : Int)) (by omega)
  have hrd' := hrd hwr
  have PR := fun w' (s' : Same w w') => pwrite w' (h.same s') (m.same s') hg (1 + (o.reader : Int)) 0 sts (by omega) (by omega)
  rw [toNat_at I (1 + o.reader) _ (by omega)] at PR
  have e4 : Op.cab o s l = ((Op.more s).fin o.wr 1, Op.put o l (1 + o.reader) 0) := by simp [Op.cab, hwr, Op.cabR, Op.more, hrow]
  have e6 : exf o ((Op.more s).fin o.wr 1) = ex4 o.n o.slots 0 s.a := by simp only [exf, usedOf, slotOf, hwr, Bool.false_eq_true, if_false]; rfl
  have E4 := Lib.hid e4
  have HS := Lib.hid I
  have HV := Lib.hid hov
  clear ia is i1 i2 i3 e4 I ok hov hrow hab hrd
  clear hrd'
  go_enter Tryd.func58, Tryd.ntmps58
  go_wp2_with fail
  refine (PR _ (Same.refl _)).mono ?_
  rintro e w1 ⟨rfl, L1⟩
  go_wp2_with fail
  refine (pend _ L1.op L1.mem hg 1).mono ?_
  rintro e w3 ⟨rfl, L3⟩
  have L4 := L1.trans L3
  go_wp2
  go_end0
  rw [E4.out]
  exact ⟨rfl, _, imp_end HS.out HV.out 1, by rw [e6]; exact L4⟩

end

end Go.Proofs.YtniglkbfkehfmaaDoor.Cb
