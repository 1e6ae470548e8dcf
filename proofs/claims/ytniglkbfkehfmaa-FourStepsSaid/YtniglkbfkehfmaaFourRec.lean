/-
  Package four: the words of the record, and a step as a whole.
-/
import Derived.Test.YtniglkbfkehfmaaFourStep
import Derived.Test.YtniglkbfkehfmaaOpKeep
import Derived.Test.YtniglkbfkehfmaaPartEnd
set_option linter.unusedVariables false
namespace Go.Proofs.Ytniglkbfkehfmaa.Fo
open Go.ChangeShapes Go.WideShapes Go.ChangeAt Go.RowKit Ws Mm Pa

section
variable {R : Nat → Prop} {g gm : Nat} {T : TypeId} {p : Pt} {l : List Int} {st : Int} {o : Op.Im} {size : Nat} {s : Op.St}

set_option maxHeartbeats 400000 in
theorem fw2 (w : World) (h : PB w g T p (exf s)) (I : Imp o size s p) (m : Mem w R gm l st) (hg : ¬ R g) (hl : Op.Wd l) (ok : Op.fourOk o s) (hw : 0 < o.width ∧ o.width ≤ 8) (hfit : o.at_ + size ≤ l.length) (hsz : size = 4 + 4 * o.width) (hov : s.over = false) (hs : s.steps ≤ 1000) (hwr : o.wr = true) (hrow : s.row = 2) :
    Calls Try.prog 50 #[.pointer (some ⟨g, 0, none⟩), .pointer (some ⟨gm, 0, none⟩)] w (Did R g gm T exf o size (Op.four o s l) (wrap64 (st + 1)) w) := by
  have hsh := m.short
  have ia := I.at_
  have is := I.steps
  have iw := I.width
  obtain ⟨i1, i2⟩ := I.st hov
  have hab : Op.bit01 s.a ∧ Op.bit01 s.b := ⟨ok.1, ok.2.1⟩
  obtain ⟨⟨a1, a2⟩, ⟨b1, b2⟩, _, _, ok⟩ := ok
  have stp : 0 ≤ p.stage ∧ p.stage ≤ 100000 := by omega
  have sts : 0 ≤ p.steps ∧ p.steps ≤ 100000 := by omega
  have c3 := h.head.2.2.2.1
  rw [i1, hrow] at c3
  obtain ⟨kl, kh⟩ := Op.fourK_le o hab.1 hab.2
  have hkc : ((Op.fourK o s.a s.b : Nat) : Int) = 4 + (2 * s.a + s.b) * p.width := by
    rw [iw]
    unfold Op.fourK
    rw [Int.natCast_add, Int.natCast_mul, Int.toNat_of_nonneg (by omega)]
    rfl
  have PL := fun w' (s' : Same w w') => place_any w' (h.same s') ⟨a1, a2⟩ ⟨b1, b2⟩ (by omega)
  rw [← hkc] at PL
  have hk2 : ((Op.fourK o s.a s.b : Nat) : Int) + (s.i : Int) = ((Op.fourK o s.a s.b + s.i : Nat) : Int) := by omega
  obtain ⟨_, o2, _, o4⟩ := (ok hov).2.1 hwr
  have hi := o4 hrow
  have PR := fun w' (s' : Same w w') => precord_wr w' (h.same s') (m.same s') hg (Op.fourK o s.a s.b : Nat) s.i (by rw [I.rd, hwr]; rfl) i2 (by omega) sts stp (by omega) (by omega)
  rw [toNat_at I (Op.fourK o s.a s.b + s.i) _ hk2, I.gd s.i (by omega)] at PR
  have e4 : (Op.four o s l) = Op.word o (Op.more s) l (Op.fourK o s.a s.b) (some 3) := by simp [Op.four, hwr, Op.fourW, Op.more, hrow]
  have e5 : (Op.word o (Op.more s) l (Op.fourK o s.a s.b) (some 3)).2 = l.set (o.at_ + (Op.fourK o s.a s.b + s.i)) (Op.gd s.rc s.i) := by
    simp only [Op.word, hwr, if_true]
    split <;> rfl
  have e6 : exf (Op.word o (Op.more s) l (Op.fourK o s.a s.b) (some 3)).1 = exf s := by
    simp only [Op.word, hwr, if_true]
    split <;> rfl
  have im := imp_word_wr I hov hwr l (Op.fourK o s.a s.b) 3 (by rw [hrow])
  generalize ((Op.fourK o s.a s.b : Nat) : Int) = K at *
  have E4 := Lib.hid e4
  have E5 := Lib.hid e5
  have E6 := Lib.hid e6
  have HO := Lib.hid ok
  have HV := Lib.hid hov
  have HK := Lib.hid hkc
  have HK2 := Lib.hid hk2
  clear ia is iw i1 i2 e4 e5 e6 I ok hov hrow hkc hk2
  go_enter Try.func50, Try.ntmps50
  go_wp2_with fail
  go_region_held3 (fun w' => Chg (fun i => R i ∨ i = g) w w')
    (first | assumption | exact (Chg.refl _ w).drew | exact ((Chg.refl _ w).drew).trans (hs.chg _) | exact (‹Chg (fun i => R i ∨ i = g) w _›).trans L1.chg)
    (first | (go_at_call 95; ((with_reducible refine (PL _ (Same.refl _).drew).mono ?_); rintro e w' ⟨rfl, hs⟩)) | (go_at_call 94; ((with_reducible refine (PR _ (drew_of ‹Same w.drew _›)).mono ?_); rintro e w' ⟨rfl, L1⟩)))
  go_wp2
  go_end0
  rw [E4.out]
  exact ⟨rfl, _, im, ⟨by rw [E6.out]; exact L1.op, by rw [E5.out]; exact L1.mem, ‹Chg (fun i => R i ∨ i = g) w _›⟩⟩

set_option maxHeartbeats 400000 in
theorem fr3 (w : World) (h : PB w g T p (exf s)) (I : Imp o size s p) (m : Mem w R gm l st) (hg : ¬ R g) (hl : Op.Wd l) (ok : Op.fourOk o s) (hw : 0 < o.width ∧ o.width ≤ 8) (hfit : o.at_ + size ≤ l.length) (hsz : size = 4 + 4 * o.width) (hov : s.over = false) (hs : s.steps ≤ 1000) (hwr : o.wr = false) (hrow : s.row = 3) (hlt : s.i + 1 < o.width) :
    Calls Try.prog 49 #[.pointer (some ⟨g, 0, none⟩), .pointer (some ⟨gm, 0, none⟩)] w (Did R g gm T exf o size (Op.four o s l) (wrap64 (st + 1)) w) := by
  have hsh := m.short
  have ia := I.at_
  have is := I.steps
  have iw := I.width
  obtain ⟨i1, i2⟩ := I.st hov
  have hab : Op.bit01 s.a ∧ Op.bit01 s.b := ⟨ok.1, ok.2.1⟩
  obtain ⟨⟨a1, a2⟩, ⟨b1, b2⟩, _, _, ok⟩ := ok
  have stp : 0 ≤ p.stage ∧ p.stage ≤ 100000 := by omega
  have sts : 0 ≤ p.steps ∧ p.steps ≤ 100000 := by omega
  have c3 := h.head.2.2.2.1
  rw [i1, hrow] at c3
  obtain ⟨kl, kh⟩ := Op.fourK_le o hab.1 hab.2
  have hkc : ((Op.fourK o s.a s.b : Nat) : Int) = 4 + (2 * s.a + s.b) * p.width := by
    rw [iw]
    unfold Op.fourK
    rw [Int.natCast_add, Int.natCast_mul, Int.toNat_of_nonneg (by omega)]
    rfl
  have PL := fun w' (s' : Same w w') => place_any w' (h.same s') ⟨a1, a2⟩ ⟨b1, b2⟩ (by omega)
  rw [← hkc] at PL
  have hk2 : ((Op.fourK o s.a s.b : Nat) : Int) + (s.i : Int) = ((Op.fourK o s.a s.b + s.i : Nat) : Int) := by omega
  obtain ⟨_, o2, _, o4⟩ := (ok hov).2.2 hwr
  have hi := o4 hrow
  have h8 := h.1
  obtain ⟨v, hv⟩ : ∃ v, v = Op.get o l (Op.fourK o s.a s.b + s.i) := ⟨_, rfl⟩
  have PR := fun w' (s' : Same w w') => precord_rd w' (h.same s') (m.same s') hg (Op.fourK o s.a s.b : Nat) s.i (by rw [I.rd, hwr]; rfl) i2 (by omega) sts stp (by omega) (by omega)
  rw [toNat_at I (Op.fourK o s.a s.b + s.i) _ hk2, ← Op.get_gd, ← hv] at PR
  have e4 : (Op.four o s l) = Op.word o (Op.more s) l (Op.fourK o s.a s.b) none := by simp [Op.four, hwr, Op.fourR, Op.more, hrow]
  have e5 : (Op.word o (Op.more s) l (Op.fourK o s.a s.b) none).2 = l := by
    simp only [Op.word, hwr, Bool.false_eq_true, if_false]
    split <;> rfl
  have e6 : exf (Op.word o (Op.more s) l (Op.fourK o s.a s.b) none).1 = exf s := by
    simp only [Op.word, hwr, Bool.false_eq_true, if_false]
    split <;> rfl
  have im := imp_word_on I hov hwr h8 o2 (by omega) l (Op.fourK o s.a s.b) hlt v hv
  have hd : decide (p.width ≤ (s.i : Int) + 1) = false := by simp; omega
  simp only [hd] at PR
  generalize ((Op.fourK o s.a s.b : Nat) : Int) = K at *
  have E4 := Lib.hid e4
  have E5 := Lib.hid e5
  have E6 := Lib.hid e6
  have HO := Lib.hid ok
  have HV := Lib.hid hov
  have HK := Lib.hid hkc
  have HK2 := Lib.hid hk2
  clear ia is iw i1 i2 e4 e5 e6 I ok hov hrow hkc hk2 hv hd o2
  go_enter Try.func49, Try.ntmps49
  go_wp2_with fail
  go_region_held3 (fun w' => Chg (fun i => R i ∨ i = g) w w')
    (first | assumption | exact (Chg.refl _ w).drew | exact ((Chg.refl _ w).drew).trans (hs.chg _) | exact (‹Chg (fun i => R i ∨ i = g) w _›).trans L1.chg)
    (first | (go_at_call 95; ((with_reducible refine (PL _ (Same.refl _).drew).mono ?_); rintro e w' ⟨rfl, hs⟩)) | (go_at_call 94; ((with_reducible refine (PR _ (drew_of ‹Same w.drew _›)).mono ?_); rintro e w' ⟨rfl, L1⟩)))
  go_wp2
  go_end0
  rw [E4.out]
  exact ⟨rfl, _, im, ⟨by rw [E6.out]; exact L1.op, by rw [E5.out]; exact L1.mem, ‹Chg (fun i => R i ∨ i = g) w _›⟩⟩

set_option maxHeartbeats 400000 in
theorem fr3e (w : World) (h : PB w g T p (exf s)) (I : Imp o size s p) (m : Mem w R gm l st) (hg : ¬ R g) (hl : Op.Wd l) (ok : Op.fourOk o s) (hw : 0 < o.width ∧ o.width ≤ 8) (hfit : o.at_ + size ≤ l.length) (hsz : size = 4 + 4 * o.width) (hov : s.over = false) (hs : s.steps ≤ 1000) (hwr : o.wr = false) (hrow : s.row = 3) (hlt : ¬ s.i + 1 < o.width) :
    Calls Try.prog 49 #[.pointer (some ⟨g, 0, none⟩), .pointer (some ⟨gm, 0, none⟩)] w (Did R g gm T exf o size (Op.four o s l) (wrap64 (st + 1)) w) := by
  have hsh := m.short
  have ia := I.at_
  have is := I.steps
  have iw := I.width
  obtain ⟨i1, i2⟩ := I.st hov
  have hab : Op.bit01 s.a ∧ Op.bit01 s.b := ⟨ok.1, ok.2.1⟩
  obtain ⟨⟨a1, a2⟩, ⟨b1, b2⟩, _, _, ok⟩ := ok
  have stp : 0 ≤ p.stage ∧ p.stage ≤ 100000 := by omega
  have sts : 0 ≤ p.steps ∧ p.steps ≤ 100000 := by omega
  have c3 := h.head.2.2.2.1
  rw [i1, hrow] at c3
  obtain ⟨kl, kh⟩ := Op.fourK_le o hab.1 hab.2
  have hkc : ((Op.fourK o s.a s.b : Nat) : Int) = 4 + (2 * s.a + s.b) * p.width := by
    rw [iw]
    unfold Op.fourK
    rw [Int.natCast_add, Int.natCast_mul, Int.toNat_of_nonneg (by omega)]
    rfl
  have PL := fun w' (s' : Same w w') => place_any w' (h.same s') ⟨a1, a2⟩ ⟨b1, b2⟩ (by omega)
  rw [← hkc] at PL
  have hk2 : ((Op.fourK o s.a s.b : Nat) : Int) + (s.i : Int) = ((Op.fourK o s.a s.b + s.i : Nat) : Int) := by omega
  obtain ⟨_, o2, _, o4⟩ := (ok hov).2.2 hwr
  have hi := o4 hrow
  have h8 := h.1
  obtain ⟨v, hv⟩ : ∃ v, v = Op.get o l (Op.fourK o s.a s.b + s.i) := ⟨_, rfl⟩
  have PR := fun w' (s' : Same w w') => precord_rd w' (h.same s') (m.same s') hg (Op.fourK o s.a s.b : Nat) s.i (by rw [I.rd, hwr]; rfl) i2 (by omega) sts stp (by omega) (by omega)
  rw [toNat_at I (Op.fourK o s.a s.b + s.i) _ hk2, ← Op.get_gd, ← hv] at PR
  have e4 : (Op.four o s l) = Op.word o (Op.more s) l (Op.fourK o s.a s.b) none := by simp [Op.four, hwr, Op.fourR, Op.more, hrow]
  have e5 : (Op.word o (Op.more s) l (Op.fourK o s.a s.b) none).2 = l := by
    simp only [Op.word, hwr, Bool.false_eq_true, if_false]
    split <;> rfl
  have e6 : exf (Op.word o (Op.more s) l (Op.fourK o s.a s.b) none).1 = exf s := by
    simp only [Op.word, hwr, Bool.false_eq_true, if_false]
    split <;> rfl
  have im := imp_word_end I hov hwr h8 o2 (by omega) l (Op.fourK o s.a s.b) hlt v hv _ rfl
  have hd : decide (p.width ≤ (s.i : Int) + 1) = true := by simp; omega
  simp only [hd] at PR
  generalize ((Op.fourK o s.a s.b : Nat) : Int) = K at *
  have E4 := Lib.hid e4
  have E5 := Lib.hid e5
  have E6 := Lib.hid e6
  have HO := Lib.hid ok
  have HV := Lib.hid hov
  have HK := Lib.hid hkc
  have HK2 := Lib.hid hk2
  clear ia is iw i1 i2 e4 e5 e6 I ok hov hrow hkc hk2 hv hd o2
  go_enter Try.func49, Try.ntmps49
  go_wp2_with fail
  go_region_held3 (fun w' => Chg (fun i => R i ∨ i = g) w w')
    (first | assumption | exact (Chg.refl _ w).drew | exact ((Chg.refl _ w).drew).trans (hs.chg _) | exact (‹Chg (fun i => R i ∨ i = g) w _›).trans L1.chg)
    (first | (go_at_call 95; ((with_reducible refine (PL _ (Same.refl _).drew).mono ?_); rintro e w' ⟨rfl, hs⟩)) | (go_at_call 94; ((with_reducible refine (PR _ (drew_of ‹Same w.drew _›)).mono ?_); rintro e w' ⟨rfl, L1⟩)))
  go_wp2_with fail
  refine (pend _ L1.op L1.mem hg 0).mono ?_
  rintro e w3 ⟨rfl, L3⟩
  go_wp2
  go_end0
  rw [E4.out]
  exact ⟨rfl, _, im, ⟨by rw [E6.out]; exact L3.op, by rw [E5.out]; exact L3.mem, (‹Chg (fun i => R i ∨ i = g) w _›).trans L3.chg⟩⟩

end

end Go.Proofs.Ytniglkbfkehfmaa.Fo
