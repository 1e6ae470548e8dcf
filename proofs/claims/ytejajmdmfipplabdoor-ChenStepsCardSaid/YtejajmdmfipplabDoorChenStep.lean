/-

  Package chen: each step of a write, and of a read.
-/
import Derived.Test.YtejajmdmfipplabDoorChenBase
set_option linter.unusedSimpArgs false
set_option linter.unusedVariables false
namespace Go.Proofs.YtejajmdmfipplabDoor.Ch
open Go.ChangeShapes Go.WideShapes Go.ChangeAt Go.RowKit Ws Mm Pa

def usedOf (o : Op.Im) (s : Op.St) : Int := if o.wr then s.a else 0
def newOf (o : Op.Im) (s : Op.St) : Int := if o.wr then 0 else s.a
def exf (o : Op.Im) (s : Op.St) : List Value := ex4 o.n (usedOf o s) (newOf o s) s.b
theorem swap_eq (o : Op.Im) (l : List Int) (k : Nat) (v u : Int) : swapped l (o.at_ + k) v u = Op.casP o l k v u := by
  unfold swapped Op.casP
  rw [Op.get_gd]
  rfl
section
variable {R : Nat → Prop} {g gm : Nat} {T : TypeId} {p : Pt} {l : List Int} {st : Int} {o : Op.Im} {size : Nat} {s : Op.St}

theorem toNat_at {o : Op.Im} {size : Nat} {s : Op.St} {p : Pt} (I : Imp o size s p) (k : Nat) (i : Int) (h : i = (k : Int)) : (p.at_ + i).toNat = o.at_ + k := by
  have := I.at_
  omega
theorem at_nat {o : Op.Im} {size : Nat} {s : Op.St} {p : Pt} (I : Imp o size s p) : p.at_.toNat = o.at_ := by
  have := I.at_
  omega
theorem drew_of {w w' : World} (h : Same w.drew w') : Same w w' := Same.trans (Same.refl w).drew h
/-- a step that was made within its row -/
theorem imp_on {o : Op.Im} {size : Nat} {s : Op.St} {p : Pt} (h : Imp o size s p) (hov : s.over = false) (s' : Op.St) (k1 : s'.rc = s.rc) (k2 : s'.steps = s.steps + 1) (k3 : s'.row = s.row) (k4 : s'.i = s.i + 1) (k5 : s'.over = false) (k6 : s'.code = s.code) (k7 : s'.tries = s.tries) :
    Imp o size s' { p with steps := p.steps + 1, turn := p.turn + 1 } := by
  obtain ⟨h1, h2, h3, h4, h5, h6, h7, h8, h9, h10, h11, h12⟩ := h
  obtain ⟨h13, h14⟩ := h11 hov
  have h15 := h12 hov
  exact ⟨h1, h2, h3, h4, h5, by rw [k1]; exact h6, by rw [k1]; exact h7, by simp only; omega, by rw [k5, ← hov]; exact h9, by rw [k6]; exact h10, fun _ => ⟨by simp only; omega, by simp only; omega⟩, fun _ => by rw [k7]; exact h15⟩
/-- the last step of a row, that ends it all -/
theorem imp_fin {o : Op.Im} {size : Nat} {s : Op.St} {p : Pt} (h : Imp o size s p) (hov : s.over = false) (c : Int) :
    Imp o size ((Op.more s).fin o.wr c) { p with steps := p.steps + 1, stage := p.stage + 1, turn := 0, un := false, code := c } := by
  have := imp_end h hov c
  exact ⟨this.1, this.2, this.3, this.4, this.5, this.6, this.7, this.8, this.9, this.10, fun h => (by cases h), fun h => (by cases h)⟩
theorem imp_fi {o : Op.Im} {size k : Nat} {s : Op.St} {p : Pt} {b : Bool} {c : Int} (h : Imp o size (s.fin b c) p) : Imp o size (({ s with i := k } : Op.St).fin b c) p :=
  ⟨h.1, h.2, h.3, h.4, h.5, h.6, h.7, h.8, h.9, h.10, fun h => (by cases h), fun h => (by cases h)⟩

set_option maxHeartbeats 400000 in
theorem ew0 (w : World) (hT : TZ w) (hgT : ¬ R 2 ∧ g ≠ 2) (h : PB w g T p (exf o s)) (I : Imp o size s p) (m : Mem w R gm l st) (hg : ¬ R g) (hl : Op.Wd l) (ok : Op.chenOk o s) (hw : Op.chenAl o) (hfit : o.at_ + size ≤ l.length) (hsz : size = 1 + o.n + Op.csl o * o.width) (hov : s.over = false) (hs : s.steps ≤ 1000) (hwr : o.wr = true) (hrow : s.row = 0) :
    Calls Tryd.prog 49 #[.pointer (some ⟨g, 0, none⟩), .pointer (some ⟨gm, 0, none⟩)] w (Did R g gm T (exf o) o size (Op.chen o s l) (wrap64 (st + 1)) w) := by
  have hx : exf o s = ex4 o.n s.a 0 s.b := by simp only [exf, usedOf, newOf, hwr, if_true, Bool.false_eq_true, if_false]
  rw [hx] at h
  have hsh := m.short
  have ia := I.at_
  have is := I.steps
  obtain ⟨i1, i2⟩ := I.st hov
  have i3 := I.att hov
  obtain ⟨hu20, hab, hbb, hrd, _, ok⟩ := ok
  obtain ⟨⟨w1, w8⟩, ⟨n1, n4⟩, rdn⟩ := hw
  have hcs : Op.csl o = o.n + 2 := rfl
  have hpos : 0 < Op.csl o * o.width := Nat.mul_pos (by omega) w1
  have NN := fun w' (s' : Same w w') => none_any w' (h.same s') n4
  rw [← hcs] at NN
  have stp : 0 ≤ p.stage ∧ p.stage ≤ 100000 := by omega
  have sts : 0 ≤ p.steps ∧ p.steps ≤ 100000 := by omega
  have ats : 0 ≤ p.at_ ∧ p.at_ ≤ 100000 := by omega
  have c3 := h.head.2.2.2.1
  rw [i1, hrow] at c3
  have hy := hl.get o 0
  rw [Op.get_gd] at hy
  obtain ⟨y, ey⟩ : ∃ y, y = Op.gd l (o.at_ + 0) := ⟨_, rfl⟩
  rw [← ey] at hy
  have PR := fun w' (s' : Same w w') => pread w' (h.same s') (m.same s') hg (0) sts (by omega) (by omega)
  rw [toNat_at I 0 _ (by omega), ← ey] at PR
  rw [Nat.add_zero] at ey
  have e4 : Op.chen o s l = ({ (Op.more s).to (s.row + 1) with a := Op.putI s.a y, used := Op.noteL (Op.csl o) s.used y }, l) := by simp [Op.chen, hwr, Op.chenW, Op.more, hrow, ← ey, Op.get_gd]
  have e6 : ∀ u : List Bool, exf o { (Op.more s).to (s.row + 1) with a := Op.putI s.a y, used := u } = ex4 o.n (Op.putI s.a y) 0 s.b := fun u => by simp only [exf, usedOf, newOf, hwr, if_true]; rfl
  have HAB := Lib.hid hab
  clear ey
  have E4 := Lib.hid e4
  have HS := Lib.hid I
  have HV := Lib.hid hov
  clear ia is i1 i2 i3 e4 I ok hov hrow hab hrd hcs
  go_enter Tryd.func49, Tryd.ntmps49
  go_wp2_with fail
  refine (PR _ (Same.refl _)).mono ?_
  rintro e w1 ⟨rfl, L1⟩
  go_wp2_with fail
  refine (use_any _ L1.op L1.mem hg HAB.out y hy).mono ?_
  rintro e w2 ⟨rfl, L2⟩
  have LX := L1.trans L2
  go_wp2_with fail
  refine (pnext _ LX.op LX.mem hg stp).mono ?_
  rintro e w9 ⟨rfl, L9⟩
  have L4 := LX.trans L9
  go_wp2
  go_end0
  rw [E4.out]
  exact ⟨rfl, _, imp_next HS.out HV.out _ rfl rfl rfl rfl HV.out rfl rfl, by rw [e6]; exact L4⟩

set_option maxHeartbeats 400000 in
theorem ew1 (w : World) (hT : TZ w) (hgT : ¬ R 2 ∧ g ≠ 2) (h : PB w g T p (exf o s)) (I : Imp o size s p) (m : Mem w R gm l st) (hg : ¬ R g) (hl : Op.Wd l) (ok : Op.chenOk o s) (hw : Op.chenAl o) (hfit : o.at_ + size ≤ l.length) (hsz : size = 1 + o.n + Op.csl o * o.width) (hov : s.over = false) (hs : s.steps ≤ 1000) (hwr : o.wr = true) (hrow : s.row = 1) (hlt : s.i + 1 < o.n) :
    Calls Tryd.prog 49 #[.pointer (some ⟨g, 0, none⟩), .pointer (some ⟨gm, 0, none⟩)] w (Did R g gm T (exf o) o size (Op.chen o s l) (wrap64 (st + 1)) w) := by
  have hx : exf o s = ex4 o.n s.a 0 s.b := by simp only [exf, usedOf, newOf, hwr, if_true, Bool.false_eq_true, if_false]
  rw [hx] at h
  have hsh := m.short
  have ia := I.at_
  have is := I.steps
  obtain ⟨i1, i2⟩ := I.st hov
  have i3 := I.att hov
  obtain ⟨hu20, hab, hbb, hrd, _, ok⟩ := ok
  obtain ⟨⟨w1, w8⟩, ⟨n1, n4⟩, rdn⟩ := hw
  have hcs : Op.csl o = o.n + 2 := rfl
  have hpos : 0 < Op.csl o * o.width := Nat.mul_pos (by omega) w1
  have NN := fun w' (s' : Same w w') => none_any w' (h.same s') n4
  rw [← hcs] at NN
  have stp : 0 ≤ p.stage ∧ p.stage ≤ 100000 := by omega
  have sts : 0 ≤ p.steps ∧ p.steps ≤ 100000 := by omega
  have ats : 0 ≤ p.at_ ∧ p.at_ ≤ 100000 := by omega
  have c3 := h.head.2.2.2.1
  rw [i1, hrow] at c3
  obtain ⟨_, _, _, q1, _, _, _, qn⟩ := (ok hov).2.1 hwr
  have hi := q1 hrow
  have hnt := qn (by omega)
  have c4 := h.head.2.2.2.2.1
  rw [i2] at c4
  have hy := hl.get o (1 + s.i)
  rw [Op.get_gd] at hy
  obtain ⟨y, ey⟩ : ∃ y, y = Op.gd l (o.at_ + (1 + s.i)) := ⟨_, rfl⟩
  rw [← ey] at hy
  have f1 := i64_in (1 + (s.i : Int)) (by omega)
  have PR := fun w' (s' : Same w w') => pread w' (h.same s') (m.same s') hg (1 + (s.i : Int)) sts (by omega) (by omega)
  rw [toNat_at I (1 + s.i) _ (by omega), ← ey] at PR
  have c19 := h.ex_ 0
  simp only [ex4, List.getElem?_cons_zero] at c19
  have nm := Op.notedC_more (by omega) hu20 hnt y
  have e4 : Op.chen o s l = ({ Op.more s with a := Op.putI s.a y, used := Op.noteL (Op.csl o) s.used y, i := s.i + 1 }, l) := by
    simp only [Op.chen, hwr, Op.chenW, Op.more, hrow, if_true, Op.chenM, hlt, ↓reduceIte, Op.get_gd, ← ey]
  have e6 : ∀ u : List Bool, exf o { Op.more s with a := Op.putI s.a y, used := u, i := s.i + 1 } = ex4 o.n (Op.putI s.a y) 0 s.b := fun u => by simp only [exf, usedOf, newOf, hwr, if_true]; rfl
  have HRP : Hid (p.turn + 1 < (o.n : Int)) := Lib.hid (by omega)
  have HRD : Hid (decide ((o.n : Int) ≤ p.turn + 1) = false) := Lib.hid (decide_eq_false (by omega))
  have HAB := Lib.hid hab
  have HC4 : Hid (∀ {w1 : World} {p1 : Pt} {ex1 : List Value}, PB w1 g T p1 ex1 → p1.turn = p.turn → w1.cell? ⟨g, 4, none⟩ = some (.int .i64 s.i)) := Lib.hid (fun hp ht => by have := hp.head.2.2.2.2.1; rw [ht, i2] at this; exact this)
  have HC19 : Hid (∀ {w1 w2 : World} {p1 : Pt} {u nw k : Int} {l1 : List Int} {s1 : Int}, Lft R g gm T p1 (ex4 o.n u nw k) l1 s1 w2 w1 → w1.cell? ⟨g, 19, none⟩ = some (.int .i64 o.n)) := Lib.hid (fun L => by have := L.op.ex_ 0; simpa [ex4] using this)
  have HTN : Hid (0 ≤ p.turn ∧ p.turn ≤ 100000) := Lib.hid (by omega)
  clear ey nm hnt q1 qn hi hlt
  have E4 := Lib.hid e4
  have HS := Lib.hid I
  have HV := Lib.hid hov
  clear ia is i1 i2 i3 e4 I ok hov hrow hab hrd hcs
  go_enter Tryd.func49, Tryd.ntmps49
  go_wp2_with fail
  go_region_held3 (fun w' => w'.cell? ⟨g, 4, none⟩ = some (.int .i64 s.i) ∧ Chg (fun i => R i ∨ i = g) w w')
    (first | assumption | exact ⟨c4, (Chg.refl _ w).drew⟩ | exact ⟨HC4.out L2.op rfl, ((Chg.refl _ w).drew.trans L1.chg).trans L2.chg⟩ | exact ⟨HC4.out L1.op rfl, (Chg.refl _ w).drew.trans L1.chg⟩)
    (first | (go_at_call 86; ((with_reducible refine (PR _ (Same.refl _).drew).mono ?_); rintro e w' ⟨rfl, L1⟩)) | (go_at_call 91; ((with_reducible refine (use_any _ L1.op L1.mem hg HAB.out _ hy).mono ?_); rintro e w' ⟨rfl, L2⟩)))
  have L1 := L1.drew0
  go_wp2_with fail
  have x19 := L2.op.ex_ 0
  simp only [ex4, List.getElem?_cons_zero] at x19
  have RP := prepeat _ L2.op.drew (mdrew L2.mem) hg (o.n : Int) stp HTN.out
  simp only at RP
  rw [HRD.out, if_pos (by have := HRP.out; omega)] at RP
  have HRQ := Lib.hid RP
  clear RP
  go_region_held3 (fun w' => w'.cell? ⟨g, 19, none⟩ = some (.int .i64 o.n))
    (first | assumption | exact HC19.out L3)
    (first | (go_at_call 92; ((with_reducible refine HRQ.out.mono ?_); rintro e w' ⟨rfl, L3⟩)))
  have L4 := (L1.trans L2).trans L3.drew0
  have x21 := L4.op.ex_ 1
  simp only [ex4, List.getElem?_cons_zero, List.getElem?_cons_succ] at x21
  have k22 := L4.op.thaw 22
  have x22 := L4.op.ex_ 3
  simp only [ex4, List.getElem?_cons_zero, List.getElem?_cons_succ] at x22
  go_wp2_with fail
  go_end0
  rw [E4.out]
  exact ⟨rfl, _, imp_on HS.out HV.out _ rfl rfl rfl rfl HV.out rfl rfl, by rw [e6]; exact L4⟩

set_option maxHeartbeats 400000 in
theorem ew1l (w : World) (hT : TZ w) (hgT : ¬ R 2 ∧ g ≠ 2) (h : PB w g T p (exf o s)) (I : Imp o size s p) (m : Mem w R gm l st) (hg : ¬ R g) (hl : Op.Wd l) (ok : Op.chenOk o s) (hw : Op.chenAl o) (hfit : o.at_ + size ≤ l.length) (hsz : size = 1 + o.n + Op.csl o * o.width) (hov : s.over = false) (hs : s.steps ≤ 1000) (hwr : o.wr = true) (hrow : s.row = 1) (hlt : ¬ s.i + 1 < o.n) :
    Calls Tryd.prog 49 #[.pointer (some ⟨g, 0, none⟩), .pointer (some ⟨gm, 0, none⟩)] w (Did R g gm T (exf o) o size (Op.chen o s l) (wrap64 (st + 1)) w) := by
  have hx : exf o s = ex4 o.n s.a 0 s.b := by simp only [exf, usedOf, newOf, hwr, if_true, Bool.false_eq_true, if_false]
  rw [hx] at h
  have hsh := m.short
  have ia := I.at_
  have is := I.steps
  obtain ⟨i1, i2⟩ := I.st hov
  have i3 := I.att hov
  obtain ⟨hu20, hab, hbb, hrd, _, ok⟩ := ok
  obtain ⟨⟨w1, w8⟩, ⟨n1, n4⟩, rdn⟩ := hw
  have hcs : Op.csl o = o.n + 2 := rfl
  have hpos : 0 < Op.csl o * o.width := Nat.mul_pos (by omega) w1
  have NN := fun w' (s' : Same w w') => none_any w' (h.same s') n4
  rw [← hcs] at NN
  have stp : 0 ≤ p.stage ∧ p.stage ≤ 100000 := by omega
  have sts : 0 ≤ p.steps ∧ p.steps ≤ 100000 := by omega
  have ats : 0 ≤ p.at_ ∧ p.at_ ≤ 100000 := by omega
  have c3 := h.head.2.2.2.1
  rw [i1, hrow] at c3
  obtain ⟨_, _, _, q1, _, _, _, qn⟩ := (ok hov).2.1 hwr
  have hi := q1 hrow
  have hnt := qn (by omega)
  have c4 := h.head.2.2.2.2.1
  rw [i2] at c4
  have hy := hl.get o (1 + s.i)
  rw [Op.get_gd] at hy
  obtain ⟨y, ey⟩ : ∃ y, y = Op.gd l (o.at_ + (1 + s.i)) := ⟨_, rfl⟩
  rw [← ey] at hy
  have f1 := i64_in (1 + (s.i : Int)) (by omega)
  have PR := fun w' (s' : Same w w') => pread w' (h.same s') (m.same s') hg (1 + (s.i : Int)) sts (by omega) (by omega)
  rw [toNat_at I (1 + s.i) _ (by omega), ← ey] at PR
  have c19 := h.ex_ 0
  simp only [ex4, List.getElem?_cons_zero] at c19
  have nm := Op.notedC_more (by omega) hu20 hnt y
  have fr := Op.free_eq ((Op.noteL_length _ _ _).trans hu20) (by omega) (by have := nm.2; omega) nm.1
  obtain ⟨k, hk⟩ : ∃ k, k = Op.freeL (Op.noteL (Op.csl o) s.used y) := ⟨_, rfl⟩
  rw [← hk] at fr
  have pbd := Op.putI_bd hab y
  have e4 : Op.chen o s l = ({ (Op.more s).to (s.row + 1) with a := Op.putI s.a y, used := Op.noteL (Op.csl o) s.used y, b := (k : Int) }, l) := by
    simp only [Op.chen, hwr, Op.chenW, Op.more, hrow, if_true, Op.chenM, hlt, ↓reduceIte, Op.get_gd, ← ey, hk, Op.St.to]
  have e6 : ∀ u : List Bool, exf o { (Op.more s).to (s.row + 1) with a := Op.putI s.a y, used := u, b := (k : Int) } = ex4 o.n (Op.putI s.a y) 0 (k : Int) := fun u => by simp only [exf, usedOf, newOf, hwr, if_true]
  have cf := ctz_free _ pbd k fr.1 (by omega)
  have nt := not_u64 _ pbd
  have FI := fun w' (hw' : TZ w') => first_any (18446744073709551615 - (Op.putI s.a y).toNat) (by omega) cf.1 w' hw'
  rw [cf.2, ← nt] at FI
  have HFI := Lib.hid FI
  have HTZ := Lib.hid hT
  have HGT : Hid (¬ (R 2 ∨ 2 = g)) := Lib.hid (fun h => h.elim hgT.1 (fun e => hgT.2 e.symm))
  clear nt FI cf pbd fr hk hgT hT
  have HRP : Hid (¬ p.turn + 1 < (o.n : Int)) := Lib.hid (by omega)
  have HRD : Hid (decide ((o.n : Int) ≤ p.turn + 1) = true) := Lib.hid (decide_eq_true (by omega))
  have HAB := Lib.hid hab
  have HC4 : Hid (∀ {w1 : World} {p1 : Pt} {ex1 : List Value}, PB w1 g T p1 ex1 → p1.turn = p.turn → w1.cell? ⟨g, 4, none⟩ = some (.int .i64 s.i)) := Lib.hid (fun hp ht => by have := hp.head.2.2.2.2.1; rw [ht, i2] at this; exact this)
  have HC19 : Hid (∀ {w1 w2 : World} {p1 : Pt} {u nw k : Int} {l1 : List Int} {s1 : Int}, Lft R g gm T p1 (ex4 o.n u nw k) l1 s1 w2 w1 → w1.cell? ⟨g, 19, none⟩ = some (.int .i64 o.n)) := Lib.hid (fun L => by have := L.op.ex_ 0; simpa [ex4] using this)
  have HTN : Hid (0 ≤ p.turn ∧ p.turn ≤ 100000) := Lib.hid (by omega)
  clear ey nm hnt q1 qn hi hlt
  have E4 := Lib.hid e4
  have HS := Lib.hid I
  have HV := Lib.hid hov
  clear ia is i1 i2 i3 e4 I ok hov hrow hab hrd hcs
  go_enter Tryd.func49, Tryd.ntmps49
  go_wp2_with fail
  go_region_held3 (fun w' => w'.cell? ⟨g, 4, none⟩ = some (.int .i64 s.i) ∧ Chg (fun i => R i ∨ i = g) w w')
    (first | assumption | exact ⟨c4, (Chg.refl _ w).drew⟩ | exact ⟨HC4.out L2.op rfl, ((Chg.refl _ w).drew.trans L1.chg).trans L2.chg⟩ | exact ⟨HC4.out L1.op rfl, (Chg.refl _ w).drew.trans L1.chg⟩)
    (first | (go_at_call 86; ((with_reducible refine (PR _ (Same.refl _).drew).mono ?_); rintro e w' ⟨rfl, L1⟩)) | (go_at_call 91; ((with_reducible refine (use_any _ L1.op L1.mem hg HAB.out _ hy).mono ?_); rintro e w' ⟨rfl, L2⟩)))
  have L1 := L1.drew0
  go_wp2_with fail
  have x19 := L2.op.ex_ 0
  simp only [ex4, List.getElem?_cons_zero] at x19
  have RP := prepeat _ L2.op.drew (mdrew L2.mem) hg (o.n : Int) stp HTN.out
  simp only at RP
  rw [HRD.out, if_neg (by have := HRP.out; omega)] at RP
  have HRQ := Lib.hid RP
  clear RP
  go_region_held3 (fun w' => w'.cell? ⟨g, 19, none⟩ = some (.int .i64 o.n))
    (first | assumption | exact HC19.out L3)
    (first | (go_at_call 92; ((with_reducible refine HRQ.out.mono ?_); rintro e w' ⟨rfl, L3⟩)))
  have L4 := (L1.trans L2).trans L3.drew0
  have x21 := L4.op.ex_ 1
  simp only [ex4, List.getElem?_cons_zero, List.getElem?_cons_succ] at x21
  have k22 := L4.op.thaw 22
  have x22 := L4.op.ex_ 3
  simp only [ex4, List.getElem?_cons_zero, List.getElem?_cons_succ] at x22
  have HL4 : Hid (TZ w') := Lib.hid (HTZ.out.chg L4.chg HGT.out)
  go_wp2_with fail
  refine (HFI.out _ HL4.out).mono ?_
  rintro e w4 ⟨rfl, rfl⟩
  go_wp2
  go_end0
  rw [E4.out]
  exact ⟨rfl, _, imp_next HS.out HV.out _ rfl rfl rfl rfl HV.out rfl rfl, by rw [e6]; exact L4.set hg 22 _ (L4.op.put_ex 3 (.int .i64 k))⟩

set_option maxHeartbeats 400000 in
theorem ew2 (w : World) (hT : TZ w) (hgT : ¬ R 2 ∧ g ≠ 2) (h : PB w g T p (exf o s)) (I : Imp o size s p) (m : Mem w R gm l st) (hg : ¬ R g) (hl : Op.Wd l) (ok : Op.chenOk o s) (hw : Op.chenAl o) (hfit : o.at_ + size ≤ l.length) (hsz : size = 1 + o.n + Op.csl o * o.width) (hov : s.over = false) (hs : s.steps ≤ 1000) (hwr : o.wr = true) (hrow : s.row = 2) :
    Calls Tryd.prog 49 #[.pointer (some ⟨g, 0, none⟩), .pointer (some ⟨gm, 0, none⟩)] w (Did R g gm T (exf o) o size (Op.chen o s l) (wrap64 (st + 1)) w) := by
  have hx : exf o s = ex4 o.n s.a 0 s.b := by simp only [exf, usedOf, newOf, hwr, if_true, Bool.false_eq_true, if_false]
  rw [hx] at h
  have hsh := m.short
  have ia := I.at_
  have is := I.steps
  obtain ⟨i1, i2⟩ := I.st hov
  have i3 := I.att hov
  obtain ⟨hu20, hab, hbb, hrd, _, ok⟩ := ok
  obtain ⟨⟨w1, w8⟩, ⟨n1, n4⟩, rdn⟩ := hw
  have hcs : Op.csl o = o.n + 2 := rfl
  have hpos : 0 < Op.csl o * o.width := Nat.mul_pos (by omega) w1
  have NN := fun w' (s' : Same w w') => none_any w' (h.same s') n4
  rw [← hcs] at NN
  have stp : 0 ≤ p.stage ∧ p.stage ≤ 100000 := by omega
  have sts : 0 ≤ p.steps ∧ p.steps ≤ 100000 := by omega
  have ats : 0 ≤ p.at_ ∧ p.at_ ≤ 100000 := by omega
  have c3 := h.head.2.2.2.1
  rw [i1, hrow] at c3
  obtain ⟨_, _, _, _, q2, _, _, _⟩ := (ok hov).2.1 hwr
  have hi := q2 hrow
  have hsl : 0 ≤ s.b ∧ s.b ≤ 15 := by omega
  have iw := I.width
  have hbn : s.b.toNat < Op.csl o := by omega
  have hk1 : Op.chenK o s.b + o.width ≤ 1 + o.n + Op.csl o * o.width := by
    unfold Op.chenK
    have := Nat.mul_le_mul_right o.width (show s.b.toNat + 1 ≤ Op.csl o by omega)
    rw [Nat.add_mul] at this
    omega
  have hk0 : 1 ≤ Op.chenK o s.b ∧ Op.chenK o s.b ≤ 1000 := by
    have : Op.csl o * o.width ≤ 16 * 8 := Nat.mul_le_mul (by omega) w8
    unfold Op.chenK at hk1 ⊢
    omega
  have PL := fun w' (s' : Same w w') => place_any w' (h.same s') o.width iw n4 hsl w8
  rw [show (1 + o.n + s.b.toNat * o.width) = Op.chenK o s.b from rfl] at PL
  have hk2 : ((Op.chenK o s.b : Nat) : Int) + (s.i : Int) = ((Op.chenK o s.b + s.i : Nat) : Int) := by omega
  have PR := fun w' (s' : Same w w') => precord_wr w' (h.same s') (m.same s') hg (Op.chenK o s.b : Nat) s.i (by rw [I.rd, hwr]; rfl) i2 (by omega) sts stp (by omega) (by omega)
  rw [toNat_at I (Op.chenK o s.b + s.i) _ hk2, I.gd s.i (by omega)] at PR
  have e5 : (Op.word o (Op.more s) l (Op.chenK o s.b) (some 3)).2 = l.set (o.at_ + (Op.chenK o s.b + s.i)) (Op.gd s.rc s.i) := by
    simp only [Op.word, hwr, if_true]
    split <;> rfl
  have im := imp_word_wr I hov hwr l (Op.chenK o s.b) 3 (by rw [hrow])
  have e6 : exf o (Op.word o (Op.more s) l (Op.chenK o s.b) (some 3)).1 = exf o s := by
    simp only [Op.word, hwr, if_true]
    split <;> rfl
  have e4 : (Op.chen o s l) = Op.word o (Op.more s) l (Op.chenK o s.b) (some 3) := by simp [Op.chen, hwr, Op.chenW, Op.more, hrow]
  rw [hx] at e6
  generalize ((Op.chenK o s.b : Nat) : Int) = K at *
  have E5 := Lib.hid e5
  have E6 := Lib.hid e6
  have HK2 := Lib.hid hk2
  clear iw e5 e6 hk2 hbn hk1 hk0 hi
  have E4 := Lib.hid e4
  have HS := Lib.hid I
  have HV := Lib.hid hov
  clear ia is i1 i2 i3 e4 I ok hov hrow hab hrd hcs
  go_enter Tryd.func49, Tryd.ntmps49
  go_wp2_with fail
  go_region_held3 (fun w' => Chg (fun i => R i ∨ i = g) w w')
    (first | assumption | exact (Chg.refl _ w).drew | exact ((Chg.refl _ w).drew).trans (hs.chg _) | exact (‹Chg (fun i => R i ∨ i = g) w _›).trans L1.chg)
    (first | (go_at_call 89; ((with_reducible refine (PL _ (Same.refl _).drew).mono ?_); rintro e w' ⟨rfl, hs⟩)) | (go_at_call 88; ((with_reducible refine (PR _ (drew_of ‹Same w.drew _›)).mono ?_); rintro e w' ⟨rfl, L1⟩)))
  go_wp2
  go_end0
  rw [E4.out]
  exact ⟨rfl, _, im, ⟨by rw [E6.out]; exact L1.op, by rw [E5.out]; exact L1.mem, ‹Chg (fun i => R i ∨ i = g) w _›⟩⟩

set_option maxHeartbeats 400000 in
theorem ew3 (w : World) (hT : TZ w) (hgT : ¬ R 2 ∧ g ≠ 2) (h : PB w g T p (exf o s)) (I : Imp o size s p) (m : Mem w R gm l st) (hg : ¬ R g) (hl : Op.Wd l) (ok : Op.chenOk o s) (hw : Op.chenAl o) (hfit : o.at_ + size ≤ l.length) (hsz : size = 1 + o.n + Op.csl o * o.width) (hov : s.over = false) (hs : s.steps ≤ 1000) (hwr : o.wr = true) (hrow : s.row = 3) :
    Calls Tryd.prog 49 #[.pointer (some ⟨g, 0, none⟩), .pointer (some ⟨gm, 0, none⟩)] w (Did R g gm T (exf o) o size (Op.chen o s l) (wrap64 (st + 1)) w) := by
  have hx : exf o s = ex4 o.n s.a 0 s.b := by simp only [exf, usedOf, newOf, hwr, if_true, Bool.false_eq_true, if_false]
  rw [hx] at h
  have hsh := m.short
  have ia := I.at_
  have is := I.steps
  obtain ⟨i1, i2⟩ := I.st hov
  have i3 := I.att hov
  obtain ⟨hu20, hab, hbb, hrd, _, ok⟩ := ok
  obtain ⟨⟨w1, w8⟩, ⟨n1, n4⟩, rdn⟩ := hw
  have hcs : Op.csl o = o.n + 2 := rfl
  have hpos : 0 < Op.csl o * o.width := Nat.mul_pos (by omega) w1
  have NN := fun w' (s' : Same w w') => none_any w' (h.same s') n4
  rw [← hcs] at NN
  have stp : 0 ≤ p.stage ∧ p.stage ≤ 100000 := by omega
  have sts : 0 ≤ p.steps ∧ p.steps ≤ 100000 := by omega
  have ats : 0 ≤ p.at_ ∧ p.at_ ≤ 100000 := by omega
  have c3 := h.head.2.2.2.1
  rw [i1, hrow] at c3
  have PR := fun w' (s' : Same w w') => pwrite w' (h.same s') (m.same s') hg 0 s.b sts (by omega) (by omega)
  rw [toNat_at I 0 0 rfl] at PR
  have e4 : Op.chen o s l = ((Op.more s).to (s.row + 1), Op.put o l 0 s.b) := by simp [Op.chen, hwr, Op.chenW, Op.more, hrow]
  have e6 : exf o ((Op.more s).to (s.row + 1)) = ex4 o.n s.a 0 s.b := by simp only [exf, usedOf, newOf, hwr, if_true]; rfl
  have f1 := u32_in s.b (by omega)
  have x22 := h.ex_ 3
  simp only [ex4, List.getElem?_cons_zero, List.getElem?_cons_succ] at x22
  have HX : Hid (∀ {w1 : World} {p1 : Pt} {l1 : List Int} {s1 : Int}, Lft R g gm T p1 (ex4 o.n s.a 0 s.b) l1 s1 w.drew w1 → w1.cell? ⟨g, 22, none⟩ = some (.int .i64 s.b)) := Lib.hid (fun L => by have := L.op.ex_ 3; simpa [ex4] using this)
  have E4 := Lib.hid e4
  have HS := Lib.hid I
  have HV := Lib.hid hov
  clear ia is i1 i2 i3 e4 I ok hov hrow hab hrd hcs
  go_enter Tryd.func49, Tryd.ntmps49
  go_wp2_with fail
  go_region_held3 (fun w' => w'.cell? ⟨g, 22, none⟩ = some (.int .i64 s.b))
    (first | assumption | exact HX.out L1)
    (first | (go_at_call 83; ((with_reducible refine (PR _ (Same.refl _).drew).mono ?_); rintro e w' ⟨rfl, L1⟩)))
  have LX := L1.drew0
  go_wp2_with fail
  refine (pnext _ LX.op LX.mem hg stp).mono ?_
  rintro e w9 ⟨rfl, L9⟩
  have L4 := LX.trans L9
  go_wp2
  go_end0
  rw [E4.out]
  exact ⟨rfl, _, imp_next HS.out HV.out _ rfl rfl rfl rfl HV.out rfl rfl, by rw [e6]; exact L4⟩

set_option maxHeartbeats 400000 in
theorem ew4 (w : World) (hT : TZ w) (hgT : ¬ R 2 ∧ g ≠ 2) (h : PB w g T p (exf o s)) (I : Imp o size s p) (m : Mem w R gm l st) (hg : ¬ R g) (hl : Op.Wd l) (ok : Op.chenOk o s) (hw : Op.chenAl o) (hfit : o.at_ + size ≤ l.length) (hsz : size = 1 + o.n + Op.csl o * o.width) (hov : s.over = false) (hs : s.steps ≤ 1000) (hwr : o.wr = true) (hrow : s.row = 4) (hlt : s.i + 1 < o.n) :
    Calls Tryd.prog 49 #[.pointer (some ⟨g, 0, none⟩), .pointer (some ⟨gm, 0, none⟩)] w (Did R g gm T (exf o) o size (Op.chen o s l) (wrap64 (st + 1)) w) := by
  have hx : exf o s = ex4 o.n s.a 0 s.b := by simp only [exf, usedOf, newOf, hwr, if_true, Bool.false_eq_true, if_false]
  rw [hx] at h
  have hsh := m.short
  have ia := I.at_
  have is := I.steps
  obtain ⟨i1, i2⟩ := I.st hov
  have i3 := I.att hov
  obtain ⟨hu20, hab, hbb, hrd, _, ok⟩ := ok
  obtain ⟨⟨w1, w8⟩, ⟨n1, n4⟩, rdn⟩ := hw
  have hcs : Op.csl o = o.n + 2 := rfl
  have hpos : 0 < Op.csl o * o.width := Nat.mul_pos (by omega) w1
  have NN := fun w' (s' : Same w w') => none_any w' (h.same s') n4
  rw [← hcs] at NN
  have stp : 0 ≤ p.stage ∧ p.stage ≤ 100000 := by omega
  have sts : 0 ≤ p.steps ∧ p.steps ≤ 100000 := by omega
  have ats : 0 ≤ p.at_ ∧ p.at_ ≤ 100000 := by omega
  have c3 := h.head.2.2.2.1
  rw [i1, hrow] at c3
  obtain ⟨_, _, _, _, _, _, q4, _⟩ := (ok hov).2.1 hwr
  have hi := q4 hrow
  have c4 := h.head.2.2.2.2.1
  rw [i2] at c4
  have f1 := i64_in (1 + (s.i : Int)) (by omega)
  have f2 := u32_in s.b (by omega)
  have PR := fun w' (s' : Same w w') => pswap w' (h.same s') (m.same s') hg (1 + (s.i : Int)) (Op.csl o : Int) s.b sts (by omega) (by omega)
  rw [toNat_at I (1 + s.i) _ (by omega), swap_eq] at PR
  have c22 := h.ex_ 3
  simp only [ex4, List.getElem?_cons_zero, List.getElem?_cons_succ] at c22
  have HC4 : Hid (∀ {w1 : World} {p1 : Pt} {u nw : Int}, PB w1 g T p1 (ex4 o.n u nw s.b) → p1.turn = p.turn → w1.cell? ⟨g, 4, none⟩ = some (.int .i64 s.i) ∧ w1.cell? ⟨g, 22, none⟩ = some (.int .i64 s.b)) := Lib.hid (fun hp ht => ⟨by have := hp.head.2.2.2.2.1; rw [ht, i2] at this; exact this, by have := hp.ex_ 3; simpa [ex4] using this⟩)
  have HTN : Hid (0 ≤ p.turn ∧ p.turn ≤ 100000) := Lib.hid (by omega)
  have HC19 : Hid (∀ {w1 w2 : World} {p1 : Pt} {u nw k : Int} {l1 : List Int} {s1 : Int}, Lft R g gm T p1 (ex4 o.n u nw k) l1 s1 w2 w1 → w1.cell? ⟨g, 19, none⟩ = some (.int .i64 o.n)) := Lib.hid (fun L => by have := L.op.ex_ 0; simpa [ex4] using this)
  have e4 : Op.chen o s l = ({ Op.more s with i := s.i + 1 }, Op.casP o l (1 + s.i) (Op.csl o) s.b) := by
    simp only [Op.chen, hwr, Op.chenW, Op.more, hrow, if_true, hlt, ↓reduceIte]
  have e6 : exf o { Op.more s with i := s.i + 1 } = ex4 o.n s.a 0 s.b := by simp only [exf, usedOf, newOf, hwr, if_true]; rfl
  have HRP : Hid (p.turn + 1 < (o.n : Int)) := Lib.hid (by omega)
  have HRD : Hid (decide ((o.n : Int) ≤ p.turn + 1) = false) := Lib.hid (decide_eq_false (by omega))
  clear hi q4 hlt
  have E4 := Lib.hid e4
  have HS := Lib.hid I
  have HV := Lib.hid hov
  clear ia is i1 i2 i3 e4 I ok hov hrow hab hrd hcs
  generalize (Op.csl o : Int) = M at *
  go_enter Tryd.func49, Tryd.ntmps49
  go_wp2_with fail
  go_region_held3 (fun w' => w'.cell? ⟨g, 4, none⟩ = some (.int .i64 s.i) ∧ w'.cell? ⟨g, 22, none⟩ = some (.int .i64 s.b) ∧ Chg (fun i => R i ∨ i = g) w w')
    (first | assumption | exact ⟨c4, c22, (Chg.refl _ w).drew⟩ | exact ⟨(HC4.out L1.op rfl).1, (HC4.out L1.op rfl).2, (Chg.refl _ w).drew.trans L1.chg⟩)
    (first | (go_at_call 84; ((with_reducible refine (NN _ (Same.refl _).drew).mono ?_); rintro e w' ⟨rfl, rfl⟩)) | (go_at_call 87; ((with_reducible refine (PR _ (Same.refl _).drew).mono ?_); rintro e w' ⟨rfl, L1⟩)))
  have L1 := L1.drew0
  have x19 := L1.op.ex_ 0
  simp only [ex4, List.getElem?_cons_zero] at x19
  go_wp2_with fail
  have RP := prepeat _ L1.op.drew (mdrew L1.mem) hg (o.n : Int) stp HTN.out
  simp only at RP
  rw [HRD.out, if_pos (by have := HRP.out; omega)] at RP
  have HRQ := Lib.hid RP
  clear RP
  go_region_held3 (fun w' => w'.cell? ⟨g, 19, none⟩ = some (.int .i64 o.n))
    (first | assumption | exact HC19.out L3)
    (first | (go_at_call 92; ((with_reducible refine HRQ.out.mono ?_); rintro e w' ⟨rfl, L3⟩)))
  have L4 := L1.trans L3.drew0
  go_wp2_with fail
  go_end0
  rw [E4.out]
  exact ⟨rfl, _, imp_on HS.out HV.out _ rfl rfl rfl rfl HV.out rfl rfl, by rw [e6]; exact L4⟩

set_option maxHeartbeats 400000 in
theorem ew4l (w : World) (hT : TZ w) (hgT : ¬ R 2 ∧ g ≠ 2) (h : PB w g T p (exf o s)) (I : Imp o size s p) (m : Mem w R gm l st) (hg : ¬ R g) (hl : Op.Wd l) (ok : Op.chenOk o s) (hw : Op.chenAl o) (hfit : o.at_ + size ≤ l.length) (hsz : size = 1 + o.n + Op.csl o * o.width) (hov : s.over = false) (hs : s.steps ≤ 1000) (hwr : o.wr = true) (hrow : s.row = 4) (hlt : ¬ s.i + 1 < o.n) :
    Calls Tryd.prog 49 #[.pointer (some ⟨g, 0, none⟩), .pointer (some ⟨gm, 0, none⟩)] w (Did R g gm T (exf o) o size (Op.chen o s l) (wrap64 (st + 1)) w) := by
  have hx : exf o s = ex4 o.n s.a 0 s.b := by simp only [exf, usedOf, newOf, hwr, if_true, Bool.false_eq_true, if_false]
  rw [hx] at h
  have hsh := m.short
  have ia := I.at_
  have is := I.steps
  obtain ⟨i1, i2⟩ := I.st hov
  have i3 := I.att hov
  obtain ⟨hu20, hab, hbb, hrd, _, ok⟩ := ok
  obtain ⟨⟨w1, w8⟩, ⟨n1, n4⟩, rdn⟩ := hw
  have hcs : Op.csl o = o.n + 2 := rfl
  have hpos : 0 < Op.csl o * o.width := Nat.mul_pos (by omega) w1
  have NN := fun w' (s' : Same w w') => none_any w' (h.same s') n4
  rw [← hcs] at NN
  have stp : 0 ≤ p.stage ∧ p.stage ≤ 100000 := by omega
  have sts : 0 ≤ p.steps ∧ p.steps ≤ 100000 := by omega
  have ats : 0 ≤ p.at_ ∧ p.at_ ≤ 100000 := by omega
  have c3 := h.head.2.2.2.1
  rw [i1, hrow] at c3
  obtain ⟨_, _, _, _, _, _, q4, _⟩ := (ok hov).2.1 hwr
  have hi := q4 hrow
  have c4 := h.head.2.2.2.2.1
  rw [i2] at c4
  have f1 := i64_in (1 + (s.i : Int)) (by omega)
  have f2 := u32_in s.b (by omega)
  have PR := fun w' (s' : Same w w') => pswap w' (h.same s') (m.same s') hg (1 + (s.i : Int)) (Op.csl o : Int) s.b sts (by omega) (by omega)
  rw [toNat_at I (1 + s.i) _ (by omega), swap_eq] at PR
  have c22 := h.ex_ 3
  simp only [ex4, List.getElem?_cons_zero, List.getElem?_cons_succ] at c22
  have HC4 : Hid (∀ {w1 : World} {p1 : Pt} {u nw : Int}, PB w1 g T p1 (ex4 o.n u nw s.b) → p1.turn = p.turn → w1.cell? ⟨g, 4, none⟩ = some (.int .i64 s.i) ∧ w1.cell? ⟨g, 22, none⟩ = some (.int .i64 s.b)) := Lib.hid (fun hp ht => ⟨by have := hp.head.2.2.2.2.1; rw [ht, i2] at this; exact this, by have := hp.ex_ 3; simpa [ex4] using this⟩)
  have HTN : Hid (0 ≤ p.turn ∧ p.turn ≤ 100000) := Lib.hid (by omega)
  have HC19 : Hid (∀ {w1 w2 : World} {p1 : Pt} {u nw k : Int} {l1 : List Int} {s1 : Int}, Lft R g gm T p1 (ex4 o.n u nw k) l1 s1 w2 w1 → w1.cell? ⟨g, 19, none⟩ = some (.int .i64 o.n)) := Lib.hid (fun L => by have := L.op.ex_ 0; simpa [ex4] using this)
  have e4 : Op.chen o s l = (({ Op.more s with i := s.i + 1 } : Op.St).fin o.wr 0, Op.casP o l (1 + s.i) (Op.csl o) s.b) := by
    simp only [Op.chen, hwr, Op.chenW, Op.more, hrow, if_true, hlt, ↓reduceIte]
  have e6 : exf o (({ Op.more s with i := s.i + 1 } : Op.St).fin o.wr 0) = ex4 o.n s.a 0 s.b := by simp only [exf, usedOf, newOf, hwr, if_true]; rfl
  have HRP : Hid (¬ p.turn + 1 < (o.n : Int)) := Lib.hid (by omega)
  have HRD : Hid (decide ((o.n : Int) ≤ p.turn + 1) = true) := Lib.hid (decide_eq_true (by omega))
  clear hi q4 hlt
  have E4 := Lib.hid e4
  have HS := Lib.hid I
  have HV := Lib.hid hov
  clear ia is i1 i2 i3 e4 I ok hov hrow hab hrd hcs
  generalize (Op.csl o : Int) = M at *
  go_enter Tryd.func49, Tryd.ntmps49
  go_wp2_with fail
  go_region_held3 (fun w' => w'.cell? ⟨g, 4, none⟩ = some (.int .i64 s.i) ∧ w'.cell? ⟨g, 22, none⟩ = some (.int .i64 s.b) ∧ Chg (fun i => R i ∨ i = g) w w')
    (first | assumption | exact ⟨c4, c22, (Chg.refl _ w).drew⟩ | exact ⟨(HC4.out L1.op rfl).1, (HC4.out L1.op rfl).2, (Chg.refl _ w).drew.trans L1.chg⟩)
    (first | (go_at_call 84; ((with_reducible refine (NN _ (Same.refl _).drew).mono ?_); rintro e w' ⟨rfl, rfl⟩)) | (go_at_call 87; ((with_reducible refine (PR _ (Same.refl _).drew).mono ?_); rintro e w' ⟨rfl, L1⟩)))
  have L1 := L1.drew0
  have x19 := L1.op.ex_ 0
  simp only [ex4, List.getElem?_cons_zero] at x19
  go_wp2_with fail
  have RP := prepeat _ L1.op.drew (mdrew L1.mem) hg (o.n : Int) stp HTN.out
  simp only at RP
  rw [HRD.out, if_neg (by have := HRP.out; omega)] at RP
  have HRQ := Lib.hid RP
  clear RP
  go_region_held3 (fun w' => w'.cell? ⟨g, 19, none⟩ = some (.int .i64 o.n))
    (first | assumption | exact HC19.out L3)
    (first | (go_at_call 92; ((with_reducible refine HRQ.out.mono ?_); rintro e w' ⟨rfl, L3⟩)))
  have L4 := L1.trans L3.drew0
  go_wp2_with fail
  refine (pend _ L4.op L4.mem hg 0).mono ?_
  rintro e w9 ⟨rfl, L9⟩
  have L5 := L4.trans L9
  go_wp2
  go_end0
  rw [E4.out]
  exact ⟨rfl, _, imp_fi (imp_fin HS.out HV.out 0), by rw [e6]; exact L5⟩

set_option maxHeartbeats 400000 in
theorem er0 (w : World) (hT : TZ w) (hgT : ¬ R 2 ∧ g ≠ 2) (h : PB w g T p (exf o s)) (I : Imp o size s p) (m : Mem w R gm l st) (hg : ¬ R g) (hl : Op.Wd l) (ok : Op.chenOk o s) (hw : Op.chenAl o) (hfit : o.at_ + size ≤ l.length) (hsz : size = 1 + o.n + Op.csl o * o.width) (hov : s.over = false) (hs : s.steps ≤ 1000) (hwr : o.wr = false) (hrow : s.row = 0) :
    Calls Tryd.prog 48 #[.pointer (some ⟨g, 0, none⟩), .pointer (some ⟨gm, 0, none⟩)] w (Did R g gm T (exf o) o size (Op.chen o s l) (wrap64 (st + 1)) w) := by
  have hx : exf o s = ex4 o.n 0 s.a s.b := by simp only [exf, usedOf, newOf, hwr, if_true, Bool.false_eq_true, if_false]
  rw [hx] at h
  have hsh := m.short
  have ia := I.at_
  have is := I.steps
  obtain ⟨i1, i2⟩ := I.st hov
  have i3 := I.att hov
  obtain ⟨hu20, hab, hbb, hrd, _, ok⟩ := ok
  obtain ⟨⟨w1, w8⟩, ⟨n1, n4⟩, rdn⟩ := hw
  have hcs : Op.csl o = o.n + 2 := rfl
  have hpos : 0 < Op.csl o * o.width := Nat.mul_pos (by omega) w1
  have NN := fun w' (s' : Same w w') => none_any w' (h.same s') n4
  rw [← hcs] at NN
  have stp : 0 ≤ p.stage ∧ p.stage ≤ 100000 := by omega
  have sts : 0 ≤ p.steps ∧ p.steps ≤ 100000 := by omega
  have ats : 0 ≤ p.at_ ∧ p.at_ ≤ 100000 := by omega
  have c3 := h.head.2.2.2.1
  rw [i1, hrow] at c3
  have c1 := h.head.2.1
  have rx := I.reader
  rw [rx] at c1
  have fm := i64_in (1 + (o.reader : Int)) (by omega)
  have PR := fun w' (s' : Same w w') => pwrite w' (h.same s') (m.same s') hg (1 + (o.reader : Int)) (Op.csl o : Int) sts (by omega) (by omega)
  rw [toNat_at I (1 + o.reader) _ (by omega)] at PR
  have e4 : Op.chen o s l = ((Op.more s).to (s.row + 1), Op.put o l (1 + o.reader) (Op.csl o)) := by simp [Op.chen, hwr, Op.chenR, Op.more, hrow]
  have e6 : exf o ((Op.more s).to (s.row + 1)) = ex4 o.n 0 s.a s.b := by simp only [exf, usedOf, newOf, hwr, Bool.false_eq_true, if_false]; rfl
  have E4 := Lib.hid e4
  have HS := Lib.hid I
  have HV := Lib.hid hov
  clear ia is i1 i2 i3 e4 I ok hov hrow hab hrd hcs
  generalize (Op.csl o : Int) = M at *
  go_enter Tryd.func48, Tryd.ntmps48
  go_wp2_with fail
  go_region_held3 (fun w' => Chg (fun i => R i ∨ i = g) w w')
    (first | assumption | exact (Chg.refl _ w).drew | exact (Chg.refl _ w).drew.trans L1.chg)
    (first | (go_at_call 84; ((with_reducible refine (NN _ (Same.refl _).drew).mono ?_); rintro e w' ⟨rfl, rfl⟩)) | (go_at_call 83; ((with_reducible refine (PR _ (Same.refl _).drew).mono ?_); rintro e w' ⟨rfl, L1⟩)))
  have LX := L1.drew0
  go_wp2_with fail
  refine (pnext _ LX.op LX.mem hg stp).mono ?_
  rintro e w9 ⟨rfl, L9⟩
  have L4 := LX.trans L9
  go_wp2
  go_end0
  rw [E4.out]
  exact ⟨rfl, _, imp_next HS.out HV.out _ rfl rfl rfl rfl HV.out rfl rfl, by rw [e6]; exact L4⟩

set_option maxHeartbeats 400000 in
theorem er1 (w : World) (hT : TZ w) (hgT : ¬ R 2 ∧ g ≠ 2) (h : PB w g T p (exf o s)) (I : Imp o size s p) (m : Mem w R gm l st) (hg : ¬ R g) (hl : Op.Wd l) (ok : Op.chenOk o s) (hw : Op.chenAl o) (hfit : o.at_ + size ≤ l.length) (hsz : size = 1 + o.n + Op.csl o * o.width) (hov : s.over = false) (hs : s.steps ≤ 1000) (hwr : o.wr = false) (hrow : s.row = 1) :
    Calls Tryd.prog 48 #[.pointer (some ⟨g, 0, none⟩), .pointer (some ⟨gm, 0, none⟩)] w (Did R g gm T (exf o) o size (Op.chen o s l) (wrap64 (st + 1)) w) := by
  have hx : exf o s = ex4 o.n 0 s.a s.b := by simp only [exf, usedOf, newOf, hwr, if_true, Bool.false_eq_true, if_false]
  rw [hx] at h
  have hsh := m.short
  have ia := I.at_
  have is := I.steps
  obtain ⟨i1, i2⟩ := I.st hov
  have i3 := I.att hov
  obtain ⟨hu20, hab, hbb, hrd, _, ok⟩ := ok
  obtain ⟨⟨w1, w8⟩, ⟨n1, n4⟩, rdn⟩ := hw
  have hcs : Op.csl o = o.n + 2 := rfl
  have hpos : 0 < Op.csl o * o.width := Nat.mul_pos (by omega) w1
  have NN := fun w' (s' : Same w w') => none_any w' (h.same s') n4
  rw [← hcs] at NN
  have stp : 0 ≤ p.stage ∧ p.stage ≤ 100000 := by omega
  have sts : 0 ≤ p.steps ∧ p.steps ≤ 100000 := by omega
  have ats : 0 ≤ p.at_ ∧ p.at_ ≤ 100000 := by omega
  have c3 := h.head.2.2.2.1
  rw [i1, hrow] at c3
  have c1 := h.head.2.1
  have rx := I.reader
  rw [rx] at c1
  have fm := i64_in (1 + (o.reader : Int)) (by omega)
  have hy := hl.get o 0
  rw [Op.get_gd] at hy
  obtain ⟨y, ey⟩ : ∃ y, y = Op.gd l (o.at_ + 0) := ⟨_, rfl⟩
  rw [← ey] at hy
  have PR := fun w' (s' : Same w w') => pread w' (h.same s') (m.same s') hg (0) sts (by omega) (by omega)
  rw [toNat_at I 0 _ (by omega), ← ey] at PR
  rw [Nat.add_zero] at ey
  have e4 : Op.chen o s l = ({ (Op.more s).to (s.row + 1) with a := y }, l) := by simp [Op.chen, hwr, Op.chenR, Op.more, hrow, ← ey, Op.get_gd]
  have e6 : exf o { (Op.more s).to (s.row + 1) with a := y } = ex4 o.n 0 y s.b := by simp only [exf, usedOf, newOf, hwr, Bool.false_eq_true, if_false]; rfl
  clear ey
  have E4 := Lib.hid e4
  have HS := Lib.hid I
  have HV := Lib.hid hov
  clear ia is i1 i2 i3 e4 I ok hov hrow hab hrd hcs
  go_enter Tryd.func48, Tryd.ntmps48
  go_wp2_with fail
  refine (PR _ (Same.refl _)).mono ?_
  rintro e w1 ⟨rfl, L1⟩
  have x21 := L1.op.ex_ 2
  simp only [ex4, List.getElem?_cons_zero, List.getElem?_cons_succ] at x21
  have k21 := L1.op.thaw 21
  have LX := L1.set hg 21 _ (L1.op.put_ex 2 (.int .u32 y))
  go_wp2_with fail
  refine (pnext _ LX.op LX.mem hg stp).mono ?_
  rintro e w9 ⟨rfl, L9⟩
  have L4 := LX.trans L9
  go_wp2
  go_end0
  rw [E4.out]
  exact ⟨rfl, _, imp_next HS.out HV.out _ rfl rfl rfl rfl HV.out rfl rfl, by rw [e6]; exact L4⟩

set_option maxHeartbeats 400000 in
theorem er2 (w : World) (hT : TZ w) (hgT : ¬ R 2 ∧ g ≠ 2) (h : PB w g T p (exf o s)) (I : Imp o size s p) (m : Mem w R gm l st) (hg : ¬ R g) (hl : Op.Wd l) (ok : Op.chenOk o s) (hw : Op.chenAl o) (hfit : o.at_ + size ≤ l.length) (hsz : size = 1 + o.n + Op.csl o * o.width) (hov : s.over = false) (hs : s.steps ≤ 1000) (hwr : o.wr = false) (hrow : s.row = 2) :
    Calls Tryd.prog 48 #[.pointer (some ⟨g, 0, none⟩), .pointer (some ⟨gm, 0, none⟩)] w (Did R g gm T (exf o) o size (Op.chen o s l) (wrap64 (st + 1)) w) := by
  have hx : exf o s = ex4 o.n 0 s.a s.b := by simp only [exf, usedOf, newOf, hwr, if_true, Bool.false_eq_true, if_false]
  rw [hx] at h
  have hsh := m.short
  have ia := I.at_
  have is := I.steps
  obtain ⟨i1, i2⟩ := I.st hov
  have i3 := I.att hov
  obtain ⟨hu20, hab, hbb, hrd, _, ok⟩ := ok
  obtain ⟨⟨w1, w8⟩, ⟨n1, n4⟩, rdn⟩ := hw
  have hcs : Op.csl o = o.n + 2 := rfl
  have hpos : 0 < Op.csl o * o.width := Nat.mul_pos (by omega) w1
  have NN := fun w' (s' : Same w w') => none_any w' (h.same s') n4
  rw [← hcs] at NN
  have stp : 0 ≤ p.stage ∧ p.stage ≤ 100000 := by omega
  have sts : 0 ≤ p.steps ∧ p.steps ≤ 100000 := by omega
  have ats : 0 ≤ p.at_ ∧ p.at_ ≤ 100000 := by omega
  have c3 := h.head.2.2.2.1
  rw [i1, hrow] at c3
  have c1 := h.head.2.1
  have rx := I.reader
  rw [rx] at c1
  have fm := i64_in (1 + (o.reader : Int)) (by omega)
  have hrd' := (hrd hwr).1
  have PR := fun w' (s' : Same w w') => pswap w' (h.same s') (m.same s') hg (1 + (o.reader : Int)) (Op.csl o : Int) s.a sts (by omega) (by omega)
  rw [toNat_at I (1 + o.reader) _ (by omega), swap_eq] at PR
  have x21 := h.ex_ 2
  simp only [ex4, List.getElem?_cons_zero, List.getElem?_cons_succ] at x21
  have HX : Hid (∀ {w1 : World} {p1 : Pt} {l1 : List Int} {s1 : Int}, Lft R g gm T p1 (ex4 o.n 0 s.a s.b) l1 s1 w.drew w1 → w1.cell? ⟨g, 21, none⟩ = some (.int .u32 s.a)) := Lib.hid (fun L => by have := L.op.ex_ 2; simpa [ex4] using this)
  have e4 : Op.chen o s l = ((Op.more s).to (s.row + 1), Op.casP o l (1 + o.reader) (Op.csl o) s.a) := by simp [Op.chen, hwr, Op.chenR, Op.more, hrow]
  have e6 : exf o ((Op.more s).to (s.row + 1)) = ex4 o.n 0 s.a s.b := by simp only [exf, usedOf, newOf, hwr, Bool.false_eq_true, if_false]; rfl
  clear hrd'
  have E4 := Lib.hid e4
  have HS := Lib.hid I
  have HV := Lib.hid hov
  clear ia is i1 i2 i3 e4 I ok hov hrow hab hrd hcs
  generalize (Op.csl o : Int) = M at *
  go_enter Tryd.func48, Tryd.ntmps48
  go_wp2_with fail
  go_region_held3 (fun w' => w'.cell? ⟨g, 21, none⟩ = some (.int .u32 s.a) ∧ Chg (fun i => R i ∨ i = g) w w')
    (first | assumption | exact ⟨x21, (Chg.refl _ w).drew⟩ | exact ⟨HX.out L1, (Chg.refl _ w).drew.trans L1.chg⟩)
    (first | (go_at_call 84; ((with_reducible refine (NN _ (Same.refl _).drew).mono ?_); rintro e w' ⟨rfl, rfl⟩)) | (go_at_call 87; ((with_reducible refine (PR _ (Same.refl _).drew).mono ?_); rintro e w' ⟨rfl, L1⟩)))
  have LX := L1.drew0
  go_wp2_with fail
  refine (pnext _ LX.op LX.mem hg stp).mono ?_
  rintro e w9 ⟨rfl, L9⟩
  have L4 := LX.trans L9
  go_wp2
  go_end0
  rw [E4.out]
  exact ⟨rfl, _, imp_next HS.out HV.out _ rfl rfl rfl rfl HV.out rfl rfl, by rw [e6]; exact L4⟩

set_option maxHeartbeats 400000 in
theorem er3 (w : World) (hT : TZ w) (hgT : ¬ R 2 ∧ g ≠ 2) (h : PB w g T p (exf o s)) (I : Imp o size s p) (m : Mem w R gm l st) (hg : ¬ R g) (hl : Op.Wd l) (ok : Op.chenOk o s) (hw : Op.chenAl o) (hfit : o.at_ + size ≤ l.length) (hsz : size = 1 + o.n + Op.csl o * o.width) (hov : s.over = false) (hs : s.steps ≤ 1000) (hwr : o.wr = false) (hrow : s.row = 3) :
    Calls Tryd.prog 48 #[.pointer (some ⟨g, 0, none⟩), .pointer (some ⟨gm, 0, none⟩)] w (Did R g gm T (exf o) o size (Op.chen o s l) (wrap64 (st + 1)) w) := by
  have hx : exf o s = ex4 o.n 0 s.a s.b := by simp only [exf, usedOf, newOf, hwr, if_true, Bool.false_eq_true, if_false]
  rw [hx] at h
  have hsh := m.short
  have ia := I.at_
  have is := I.steps
  obtain ⟨i1, i2⟩ := I.st hov
  have i3 := I.att hov
  obtain ⟨hu20, hab, hbb, hrd, _, ok⟩ := ok
  obtain ⟨⟨w1, w8⟩, ⟨n1, n4⟩, rdn⟩ := hw
  have hcs : Op.csl o = o.n + 2 := rfl
  have hpos : 0 < Op.csl o * o.width := Nat.mul_pos (by omega) w1
  have NN := fun w' (s' : Same w w') => none_any w' (h.same s') n4
  rw [← hcs] at NN
  have stp : 0 ≤ p.stage ∧ p.stage ≤ 100000 := by omega
  have sts : 0 ≤ p.steps ∧ p.steps ≤ 100000 := by omega
  have ats : 0 ≤ p.at_ ∧ p.at_ ≤ 100000 := by omega
  have c3 := h.head.2.2.2.1
  rw [i1, hrow] at c3
  have c1 := h.head.2.1
  have rx := I.reader
  rw [rx] at c1
  have fm := i64_in (1 + (o.reader : Int)) (by omega)
  have hy := hl.get o (1 + o.reader)
  rw [Op.get_gd] at hy
  obtain ⟨y, ey⟩ : ∃ y, y = Op.gd l (o.at_ + (1 + o.reader)) := ⟨_, rfl⟩
  rw [← ey] at hy
  have PR := fun w' (s' : Same w w') => pread w' (h.same s') (m.same s') hg (1 + (o.reader : Int)) sts (by omega) (by omega)
  rw [toNat_at I (1 + o.reader) _ (by omega), ← ey] at PR
  obtain ⟨M, hM⟩ : ∃ M, M = (Op.csl o : Int) := ⟨_, rfl⟩
  obtain ⟨v, ev⟩ : ∃ v, v = y % M := ⟨_, rfl⟩
  have m0 : ¬ M = 0 := by omega
  have m1 : 0 < M := by omega
  have m2 : (M == 0) = false := by simpa using m0
  have hy0 := hy.1
  have r0 := Int.emod_nonneg y m0
  have r1 := Int.emod_lt_of_pos y m1
  rw [← ev] at r0 r1
  have f7 : y.tmod M = v := (Int.tmod_eq_emod_of_nonneg (by omega)).trans ev.symm
  have f8 := u32_in v (by omega)
  have f9 := i64_in v (by omega)
  rw [← hM] at NN
  have e4 : Op.chen o s l = ({ (Op.more s).to (s.row + 1) with b := v }, l) := by simp [Op.chen, hwr, Op.chenR, Op.more, hrow, ← ey, ← ev, ← hM, Op.get_gd]
  have e6 : exf o { (Op.more s).to (s.row + 1) with b := v } = ex4 o.n 0 s.a v := by simp only [exf, usedOf, newOf, hwr, Bool.false_eq_true, if_false]; rfl
  have HN4 := Lib.hid n4
  have NX : ∀ (w1 : World) (p1 : Pt) (l1 : List Int) (s1 : Int), Lft R g gm T p1 (ex4 o.n 0 s.a s.b) l1 s1 w w1 → Calls Tryd.prog 84 #[.pointer (some ⟨g, 0, none⟩)] w1 fun e w' => e = .returned (.int .u32 M) ∧ w1 = w' := fun w1 p1 l1 s1 L => by have := none_any w1 L.op n4; rw [← hcs, ← hM] at this; exact this
  clear ey ev hM NN
  have E4 := Lib.hid e4
  have HS := Lib.hid I
  have HV := Lib.hid hov
  clear ia is i1 i2 i3 e4 I ok hov hrow hab hrd hcs
  go_enter Tryd.func48, Tryd.ntmps48
  go_wp2_with fail
  refine (PR _ (Same.refl _)).mono ?_
  rintro e w1 ⟨rfl, L1⟩
  go_wp2_with fail
  refine (NX _ _ _ _ L1).mono ?_
  rintro e w' ⟨rfl, rfl⟩
  have x22 := L1.op.ex_ 3
  simp only [ex4, List.getElem?_cons_zero, List.getElem?_cons_succ] at x22
  have k22 := L1.op.thaw 22
  have LX := L1.set hg 22 _ (L1.op.put_ex 3 (.int .i64 v))
  go_wp2_with fail
  refine (pnext _ LX.op LX.mem hg stp).mono ?_
  rintro e w9 ⟨rfl, L9⟩
  have L4 := LX.trans L9
  go_wp2
  go_end0
  rw [E4.out]
  exact ⟨rfl, _, imp_next HS.out HV.out _ rfl rfl rfl rfl HV.out rfl rfl, by rw [e6]; exact L4⟩

set_option maxHeartbeats 400000 in
theorem er4 (w : World) (hT : TZ w) (hgT : ¬ R 2 ∧ g ≠ 2) (h : PB w g T p (exf o s)) (I : Imp o size s p) (m : Mem w R gm l st) (hg : ¬ R g) (hl : Op.Wd l) (ok : Op.chenOk o s) (hw : Op.chenAl o) (hfit : o.at_ + size ≤ l.length) (hsz : size = 1 + o.n + Op.csl o * o.width) (hov : s.over = false) (hs : s.steps ≤ 1000) (hwr : o.wr = false) (hrow : s.row = 4) (hlt : s.i + 1 < o.width) :
    Calls Tryd.prog 48 #[.pointer (some ⟨g, 0, none⟩), .pointer (some ⟨gm, 0, none⟩)] w (Did R g gm T (exf o) o size (Op.chen o s l) (wrap64 (st + 1)) w) := by
  have hx : exf o s = ex4 o.n 0 s.a s.b := by simp only [exf, usedOf, newOf, hwr, if_true, Bool.false_eq_true, if_false]
  rw [hx] at h
  have hsh := m.short
  have ia := I.at_
  have is := I.steps
  obtain ⟨i1, i2⟩ := I.st hov
  have i3 := I.att hov
  obtain ⟨hu20, hab, hbb, hrd, _, ok⟩ := ok
  obtain ⟨⟨w1, w8⟩, ⟨n1, n4⟩, rdn⟩ := hw
  have hcs : Op.csl o = o.n + 2 := rfl
  have hpos : 0 < Op.csl o * o.width := Nat.mul_pos (by omega) w1
  have NN := fun w' (s' : Same w w') => none_any w' (h.same s') n4
  rw [← hcs] at NN
  have stp : 0 ≤ p.stage ∧ p.stage ≤ 100000 := by omega
  have sts : 0 ≤ p.steps ∧ p.steps ≤ 100000 := by omega
  have ats : 0 ≤ p.at_ ∧ p.at_ ≤ 100000 := by omega
  have c3 := h.head.2.2.2.1
  rw [i1, hrow] at c3
  obtain ⟨_, hrl, _, q4⟩ := (ok hov).2.2 hwr
  have hi := q4 hrow
  have hsl : 0 ≤ s.b ∧ s.b ≤ 15 := by omega
  have iw := I.width
  have hbn : s.b.toNat < Op.csl o := by omega
  have hk1 : Op.chenK o s.b + o.width ≤ 1 + o.n + Op.csl o * o.width := by
    unfold Op.chenK
    have := Nat.mul_le_mul_right o.width (show s.b.toNat + 1 ≤ Op.csl o by omega)
    rw [Nat.add_mul] at this
    omega
  have hk0 : 1 ≤ Op.chenK o s.b ∧ Op.chenK o s.b ≤ 1000 := by
    have : Op.csl o * o.width ≤ 16 * 8 := Nat.mul_le_mul (by omega) w8
    unfold Op.chenK at hk1 ⊢
    omega
  have PL := fun w' (s' : Same w w') => place_any w' (h.same s') o.width iw n4 hsl w8
  rw [show (1 + o.n + s.b.toNat * o.width) = Op.chenK o s.b from rfl] at PL
  have hk2 : ((Op.chenK o s.b : Nat) : Int) + (s.i : Int) = ((Op.chenK o s.b + s.i : Nat) : Int) := by omega
  obtain ⟨v, hv⟩ : ∃ v, v = Op.get o l (Op.chenK o s.b + s.i) := ⟨_, rfl⟩
  have PR := fun w' (s' : Same w w') => precord_rd w' (h.same s') (m.same s') hg (Op.chenK o s.b : Nat) s.i (by rw [I.rd, hwr]; rfl) i2 (by omega) sts stp (by omega) (by omega)
  rw [toNat_at I (Op.chenK o s.b + s.i) _ hk2, ← Op.get_gd, ← hv] at PR
  have e4 : (Op.chen o s l) = Op.word o (Op.more s) l (Op.chenK o s.b) none := by simp [Op.chen, hwr, Op.chenR, Op.more, hrow]
  have e5 : (Op.word o (Op.more s) l (Op.chenK o s.b) none).2 = l := by
    simp only [Op.word, hwr, Bool.false_eq_true, if_false]
    split <;> rfl
  have e6 : exf o (Op.word o (Op.more s) l (Op.chenK o s.b) none).1 = exf o s := by
    simp only [Op.word, hwr, Bool.false_eq_true, if_false]
    split <;> rfl
  have im := imp_word_on I hov hwr h.rec8 hrl (by omega) l (Op.chenK o s.b) hlt v hv
  have hd : decide (p.width ≤ (s.i : Int) + 1) = false := by simp; omega
  simp only [hd] at PR
  rw [hx] at e6
  generalize ((Op.chenK o s.b : Nat) : Int) = K at *
  have E5 := Lib.hid e5
  have E6 := Lib.hid e6
  have HK2 := Lib.hid hk2
  have c1 := h.head.2.1
  have rx := I.reader
  rw [rx] at c1
  have fm := i64_in (1 + (o.reader : Int)) (by omega)
  clear iw e5 e6 hk2 hbn hk1 hk0 hi hv hd hrl hlt
  have E4 := Lib.hid e4
  have HS := Lib.hid I
  have HV := Lib.hid hov
  clear ia is i1 i2 i3 e4 I ok hov hrow hab hrd hcs
  go_enter Tryd.func48, Tryd.ntmps48
  go_wp2_with fail
  go_region_held3 (fun w' => Chg (fun i => R i ∨ i = g) w w')
    (first | assumption | exact (Chg.refl _ w).drew | exact ((Chg.refl _ w).drew).trans (hs.chg _) | exact (‹Chg (fun i => R i ∨ i = g) w _›).trans L1.chg)
    (first | (go_at_call 89; ((with_reducible refine (PL _ (Same.refl _).drew).mono ?_); rintro e w' ⟨rfl, hs⟩)) | (go_at_call 88; ((with_reducible refine (PR _ (drew_of ‹Same w.drew _›)).mono ?_); rintro e w' ⟨rfl, L1⟩)))
  go_wp2
  go_end0
  rw [E4.out]
  exact ⟨rfl, _, im, ⟨by rw [E6.out]; exact L1.op, by rw [E5.out]; exact L1.mem, ‹Chg (fun i => R i ∨ i = g) w _›⟩⟩

set_option maxHeartbeats 400000 in
theorem er4e (w : World) (hT : TZ w) (hgT : ¬ R 2 ∧ g ≠ 2) (h : PB w g T p (exf o s)) (I : Imp o size s p) (m : Mem w R gm l st) (hg : ¬ R g) (hl : Op.Wd l) (ok : Op.chenOk o s) (hw : Op.chenAl o) (hfit : o.at_ + size ≤ l.length) (hsz : size = 1 + o.n + Op.csl o * o.width) (hov : s.over = false) (hs : s.steps ≤ 1000) (hwr : o.wr = false) (hrow : s.row = 4) (hlt : ¬ s.i + 1 < o.width) :
    Calls Tryd.prog 48 #[.pointer (some ⟨g, 0, none⟩), .pointer (some ⟨gm, 0, none⟩)] w (Did R g gm T (exf o) o size (Op.chen o s l) (wrap64 (st + 1)) w) := by
  have hx : exf o s = ex4 o.n 0 s.a s.b := by simp only [exf, usedOf, newOf, hwr, if_true, Bool.false_eq_true, if_false]
  rw [hx] at h
  have hsh := m.short
  have ia := I.at_
  have is := I.steps
  obtain ⟨i1, i2⟩ := I.st hov
  have i3 := I.att hov
  obtain ⟨hu20, hab, hbb, hrd, _, ok⟩ := ok
  obtain ⟨⟨w1, w8⟩, ⟨n1, n4⟩, rdn⟩ := hw
  have hcs : Op.csl o = o.n + 2 := rfl
  have hpos : 0 < Op.csl o * o.width := Nat.mul_pos (by omega) w1
  have NN := fun w' (s' : Same w w') => none_any w' (h.same s') n4
  rw [← hcs] at NN
  have stp : 0 ≤ p.stage ∧ p.stage ≤ 100000 := by omega
  have sts : 0 ≤ p.steps ∧ p.steps ≤ 100000 := by omega
  have ats : 0 ≤ p.at_ ∧ p.at_ ≤ 100000 := by omega
  have c3 := h.head.2.2.2.1
  rw [i1, hrow] at c3
  obtain ⟨_, hrl, _, q4⟩ := (ok hov).2.2 hwr
  have hi := q4 hrow
  have hsl : 0 ≤ s.b ∧ s.b ≤ 15 := by omega
  have iw := I.width
  have hbn : s.b.toNat < Op.csl o := by omega
  have hk1 : Op.chenK o s.b + o.width ≤ 1 + o.n + Op.csl o * o.width := by
    unfold Op.chenK
    have := Nat.mul_le_mul_right o.width (show s.b.toNat + 1 ≤ Op.csl o by omega)
    rw [Nat.add_mul] at this
    omega
  have hk0 : 1 ≤ Op.chenK o s.b ∧ Op.chenK o s.b ≤ 1000 := by
    have : Op.csl o * o.width ≤ 16 * 8 := Nat.mul_le_mul (by omega) w8
    unfold Op.chenK at hk1 ⊢
    omega
  have PL := fun w' (s' : Same w w') => place_any w' (h.same s') o.width iw n4 hsl w8
  rw [show (1 + o.n + s.b.toNat * o.width) = Op.chenK o s.b from rfl] at PL
  have hk2 : ((Op.chenK o s.b : Nat) : Int) + (s.i : Int) = ((Op.chenK o s.b + s.i : Nat) : Int) := by omega
  obtain ⟨v, hv⟩ : ∃ v, v = Op.get o l (Op.chenK o s.b + s.i) := ⟨_, rfl⟩
  have PR := fun w' (s' : Same w w') => precord_rd w' (h.same s') (m.same s') hg (Op.chenK o s.b : Nat) s.i (by rw [I.rd, hwr]; rfl) i2 (by omega) sts stp (by omega) (by omega)
  rw [toNat_at I (Op.chenK o s.b + s.i) _ hk2, ← Op.get_gd, ← hv] at PR
  have e4 : (Op.chen o s l) = Op.word o (Op.more s) l (Op.chenK o s.b) none := by simp [Op.chen, hwr, Op.chenR, Op.more, hrow]
  have e5 : (Op.word o (Op.more s) l (Op.chenK o s.b) none).2 = l := by
    simp only [Op.word, hwr, Bool.false_eq_true, if_false]
    split <;> rfl
  have e6 : exf o (Op.word o (Op.more s) l (Op.chenK o s.b) none).1 = exf o s := by
    simp only [Op.word, hwr, Bool.false_eq_true, if_false]
    split <;> rfl
  have im := imp_word_end I hov hwr h.rec8 hrl (by omega) l (Op.chenK o s.b) hlt v hv _ rfl
  have hd : decide (p.width ≤ (s.i : Int) + 1) = true := by simp; omega
  simp only [hd] at PR
  rw [hx] at e6
  generalize ((Op.chenK o s.b : Nat) : Int) = K at *
  have E5 := Lib.hid e5
  have E6 := Lib.hid e6
  have HK2 := Lib.hid hk2
  have c1 := h.head.2.1
  have rx := I.reader
  rw [rx] at c1
  have fm := i64_in (1 + (o.reader : Int)) (by omega)
  clear iw e5 e6 hk2 hbn hk1 hk0 hi hv hd hrl hlt
  have E4 := Lib.hid e4
  have HS := Lib.hid I
  have HV := Lib.hid hov
  clear ia is i1 i2 i3 e4 I ok hov hrow hab hrd hcs
  go_enter Tryd.func48, Tryd.ntmps48
  go_wp2_with fail
  go_region_held3 (fun w' => Chg (fun i => R i ∨ i = g) w w')
    (first | assumption | exact (Chg.refl _ w).drew | exact ((Chg.refl _ w).drew).trans (hs.chg _) | exact (‹Chg (fun i => R i ∨ i = g) w _›).trans L1.chg)
    (first | (go_at_call 89; ((with_reducible refine (PL _ (Same.refl _).drew).mono ?_); rintro e w' ⟨rfl, hs⟩)) | (go_at_call 88; ((with_reducible refine (PR _ (drew_of ‹Same w.drew _›)).mono ?_); rintro e w' ⟨rfl, L1⟩)))
  go_wp2_with fail
  refine (pend _ L1.op L1.mem hg 0).mono ?_
  rintro e w3 ⟨rfl, L3⟩
  go_wp2
  go_end0
  rw [E4.out]
  exact ⟨rfl, _, im, ⟨by rw [E6.out]; exact L3.op, by rw [E5.out]; exact L3.mem, (‹Chg (fun i => R i ∨ i = g) w _›).trans L3.chg⟩⟩

end

end Go.Proofs.YtejajmdmfipplabDoor.Ch
