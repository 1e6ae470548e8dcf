/-

  The contracts of the methods of an operation's part (package operation): May, Record, Answer, Over, Steps.
-/
import Derived.Test.YtikjkmomokhanabGreatPartOps
import Derived.Test.YtikjkmomokhanabGreatMemMore
import Derived.Outline
set_option linter.unusedSimpArgs false
set_option linter.unusedVariables false
namespace Go.Proofs.YtikjkmomokhanabGreat.Pa
open Go.ChangeShapes Go.WideShapes Go.ChangeAt Go.RowKit Ws Mm

theorem PB.drew {w : World} {g : Nat} {T : TypeId} {p : Pt} {ex : List Value} (h : PB w g T p ex) : PB w.drew g T p ex := h.same (Same.refl _).drew
theorem Lft.drew0 {R : Nat → Prop} {g gm : Nat} {T : TypeId} {p : Pt} {ex : List Value} {l : List Int} {st : Int} {w w' : World} (h : Lft R g gm T p ex l st w.drew w') : Lft R g gm T p ex l st w w' := ⟨h.op, h.mem, ((Chg.refl _ w).drew).trans h.chg⟩
theorem mdrew {R : Nat → Prop} {w : World} {g : Nat} {l : List Int} {s : Int} (h : Mem w R g l s) : Mem w.drew R g l s := h.same (Same.refl _).drew

section
variable {R : Nat → Prop} {g gm : Nat} {T : TypeId} {p : Pt} {ex : List Value} {l : List Int} {st : Int}

/-- which stage comes behind a step that is made so many times -/
def Pt.turned (p : Pt) (n : Int) : Pt := if p.turn + 1 < n then { p with turn := p.turn + 1 } else { p with stage := p.stage + 1, turn := 0 }

theorem precord_rd (w : World) (h : PB w g T p ex) (m : Mem w R gm l st) (hg : ¬ R g) (i : Int) (t : Nat) (hrd : p.rd = true) (ht : p.turn = (t : Int)) (ht8 : t < 8) (hs : 0 ≤ p.steps ∧ p.steps ≤ 100000) (hst : 0 ≤ p.stage ∧ p.stage ≤ 100000) (hi : 0 ≤ p.at_ ∧ p.at_ ≤ 100000 ∧ 0 ≤ i ∧ i ≤ 90000) (hl : p.at_ + (i + t) < l.length) :
    Calls Tryz.prog 154 #[.pointer (some ⟨g, 0, none⟩), .pointer (some ⟨gm, 0, none⟩), .int .i64 i] w fun e w' => e = .returned (.bool (decide (p.width ≤ t + 1))) ∧
      Lft R g gm T (Pt.turned { p with steps := p.steps + 1, rc := p.rc.set t (Op.gd l (p.at_ + (i + t)).toNat) } p.width) ex l (wrap64 (st + 1)) w w' := by
  obtain ⟨c0, _, c2, _, c4, _, _⟩ := h.head
  rw [hrd] at c0
  rw [ht] at c4
  have HT := Lib.hid ht
  clear ht hrd
  have b1 : (0 : Int) ≤ t := by omega
  have b2 : (t : Int) < 8 := by omega
  obtain ⟨hi1, hi2, hi3, hi4⟩ := hi
  have f7 := h.thaw (7 + t)
  have c7 := h.rec_ t ht8
  go_enter Tryz.func154, Tryz.ntmps154
  go_wp2_with fail
  have f1 : IntKind.i64.wrap (i + (t : Int)) = i + t := Go.IntWalk.i64_in _ (by omega)
  have f2 : ((t : Int)).toNat = t := Int.toNat_natCast t
  go_region_held3 (fun w' => w'.cell? ⟨g, 4, none⟩ = some (.int .i64 t))
    (first | assumption | (rw [World.cell?_setCell_other _ _ _ _ (by simp)]; assumption) | (rcases ‹Lft _ _ _ _ _ _ _ _ _ _› with ⟨L, _, _⟩; obtain ⟨_, _, _, _, x4, _⟩ := L.head; rw [HT.out] at x4; exact x4))
    (first | (go_at_call 150; ((with_reducible refine (pread _ h.drew (mdrew m) hg _ hs (by omega) hl).mono ?_); rintro e w' ⟨rfl, L⟩; have c7' := L.op.rec_ t ht8; have f7' := L.op.thaw (7 + t))))
  have L2 := L.set hg (7 + t) _ (L.op.put_rec t ht8 (Op.gd l (p.at_ + (i + t)).toNat))
  have hsz := L2.op.head
  obtain ⟨_, _, k2, _, _, _, _⟩ := hsz
  clear c7' f7'
  generalize w'.setCell ⟨g, 7 + t, none⟩ (.int .u32 (Op.gd l (p.at_ + (i + t)).toNat)) = w2 at *
  go_wp2_with fail
  refine (prepeat _ L2.op L2.mem hg _ hst (by have := HT.out; simp only; omega)).mono ?_
  rintro e w3 ⟨rfl, L3⟩
  have L4 := L2.trans L3
  go_wp2
  go_ret
  exact ⟨ret_bool (by simp only [HT.out]), L4.drew0⟩

theorem precord_wr (w : World) (h : PB w g T p ex) (m : Mem w R gm l st) (hg : ¬ R g) (i : Int) (t : Nat) (hrd : p.rd = false) (ht : p.turn = (t : Int)) (ht8 : t < 8) (hs : 0 ≤ p.steps ∧ p.steps ≤ 100000) (hst : 0 ≤ p.stage ∧ p.stage ≤ 100000) (hi : 0 ≤ p.at_ ∧ p.at_ ≤ 100000 ∧ 0 ≤ i ∧ i ≤ 90000) (hl : p.at_ + (i + t) < l.length) :
    Calls Tryz.prog 154 #[.pointer (some ⟨g, 0, none⟩), .pointer (some ⟨gm, 0, none⟩), .int .i64 i] w fun e w' => e = .returned (.bool (decide (p.width ≤ t + 1))) ∧
      Lft R g gm T (Pt.turned { p with steps := p.steps + 1 } p.width) ex (l.set (p.at_ + (i + t)).toNat (Op.gd p.rc t)) (wrap64 (st + 1)) w w' := by
  obtain ⟨c0, _, c2, _, c4, _, _⟩ := h.head
  rw [hrd] at c0
  rw [ht] at c4
  have HT := Lib.hid ht
  clear ht hrd
  have b1 : (0 : Int) ≤ t := by omega
  have b2 : (t : Int) < 8 := by omega
  obtain ⟨hi1, hi2, hi3, hi4⟩ := hi
  have c7 := h.rec_ t ht8
  go_enter Tryz.func154, Tryz.ntmps154
  go_wp2_with fail
  have f1 : IntKind.i64.wrap (i + (t : Int)) = i + t := Go.IntWalk.i64_in _ (by omega)
  have f2 : ((t : Int)).toNat = t := Int.toNat_natCast t
  go_region_held3 (fun w' => w'.cell? ⟨g, 4, none⟩ = some (.int .i64 t) ∧ w'.cell? ⟨g, 7 + t, none⟩ = some (.int .u32 (Op.gd p.rc t)))
    (first | assumption | exact ⟨c4, c7⟩ | (rcases ‹Lft _ _ _ _ _ _ _ _ _ _› with ⟨L, _, _⟩; obtain ⟨_, _, _, _, x4, _⟩ := L.head; rw [HT.out] at x4; exact ⟨x4, L.rec_ t ht8⟩))
    (first | (go_at_call 152; ((with_reducible refine (pwrite _ h.drew (mdrew m) hg _ _ hs (by omega) hl).mono ?_); rintro e w' ⟨rfl, L2⟩)))
  have L2 := L2.drew0
  obtain ⟨_, _, j2, _⟩ := L2.op.head
  go_wp2_with fail
  refine (prepeat _ L2.op L2.mem hg _ hst (by have := HT.out; simp only; omega)).mono ?_
  rintro e w3 ⟨rfl, L3⟩
  have L4 := L2.trans L3
  go_wp2
  go_ret
  exact ⟨ret_bool (by simp only [HT.out]), L4⟩

theorem pmay_yes (w : World) (h : PB w g T p ex) (m : Mem w R gm l st) (hun : p.un = true) (b : Bool) (hb : inB l.length p.at_ p.size = b) :
    Calls Tryz.prog 145 #[.pointer (some ⟨g, 0, none⟩), .pointer (some ⟨gm, 0, none⟩)] w fun e w' => e = .returned (.bool b) ∧ Same w w' := by
  obtain ⟨c0, c1, c2, c3, c4, c5, c6⟩ := h.head
  obtain ⟨_, _, c17, _⟩ := h.last
  rw [hun] at c17
  clear hun c0 c1 c2 c3 c4
  have HB := Lib.hid hb
  clear hb
  have hsh := m.short
  have s0 : Same w w := Same.refl w
  go_enter Tryz.func145, Tryz.ntmps145
  go_wp2_with fail
  go_region_held3 (fun w' => w'.cell? ⟨g, 5, none⟩ = some (.int .i64 p.at_) ∧ w'.cell? ⟨g, 6, none⟩ = some (.int .i64 p.size) ∧ w'.cell? ⟨g, 17, none⟩ = some (.bool true) ∧ Same w w')
    (first | assumption | exact ⟨c5, c6, c17, s0.drew⟩ | (rcases ‹_ ∧ _ ∧ _ ∧ Same _ _› with ⟨x1, x2, x3, x4⟩; exact ⟨hs.cell x1, hs.cell x2, hs.cell x3, x4.trans hs⟩))
    (first | (go_at_call 62; ((with_reducible refine (len_any _ (m.same (by rcases ‹_ ∧ _ ∧ _ ∧ Same _ _› with ⟨x1, x2, x3, x4⟩; exact x4))).mono ?_); rintro e w' ⟨rfl, rfl⟩)) | (go_at_call 119; ((with_reducible refine (inside_any _ _ _ (by omega) _).mono ?_); rintro e w' ⟨rfl, hs⟩)))
  rcases ‹_ ∧ _ ∧ _ ∧ Same _ _› with ⟨x1, x2, x3, x4⟩
  clear x1 x2 x3
  go_wp2
  go_ret
  exact ⟨ret_bool HB.out, x4⟩
end

end Go.Proofs.YtikjkmomokhanabGreat.Pa
