/-
  What is read is what was written last, as long as nobody writes: of a ring; plain.
-/
import Derived.Test.YtkeohaibbadlpaaOpRing
import Derived.Test.YtkeohaibbadlpaaOpKeep
namespace Go.Proofs.Ytkeohaibbadlpaa.Op

def ringC (o : Im) (l0 : List Int) : Int := (get o l0 0 + 1) % rmod o
theorem ringK_in {o : Im} (h : ringAl o) (b : Int) : 1 ≤ ringK o b ∧ ringK o b + o.width ≤ 1 + o.slots * o.width := by
  have h1 := h.1
  have h2 := h.2.2
  have h0 := Int.emod_nonneg b (show (o.slots : Int) ≠ 0 by omega)
  have h3 := Int.emod_lt_of_pos b (show (0 : Int) < o.slots by omega)
  have := Nat.mul_le_mul_right o.width (show (b % (o.slots : Int)).toNat + 1 ≤ o.slots by omega)
  rw [Nat.add_mul] at this
  unfold ringK
  omega
/-- the object holds the record -/
structure RingHolds (o : Im) (l : List Int) (last : List Int) : Prop where
  len : o.at_ + (1 + o.slots * o.width) ≤ l.length
  is : part o l (ringK o (get o l 0)) o.width = last

def ringJ (o : Im) (l0 rec : List Int) (s : St) (l : List Int) : Prop :=
  (s.over = false ∧ s.rc = rec ∧ s.row ≤ 2 ∧ (1 ≤ s.row → s.b = ringC o l0) ∧
    ((s.row = 0 ∧ l = l0) ∨ (s.row = 1 ∧ s.i < o.width ∧ l = lay l0 (o.at_ + ringK o (ringC o l0)) (rec.take s.i)) ∨
      (s.row = 2 ∧ l = lay l0 (o.at_ + ringK o (ringC o l0)) rec))) ∨
  (s.over = true ∧ s.code = 0 ∧ s.rc = [] ∧ l = put o (lay l0 (o.at_ + ringK o (ringC o l0)) rec) 0 (ringC o l0))

theorem ringJ_step (o : Im) (l0 rec : List Int) (s : St) (l : List Int) (hwr : o.wr = true) (hrec : rec.length = o.width) (hw : 0 < o.width) (h : ringJ o l0 rec s l) (hov : s.over = false) : ringJ o l0 rec (ring o s l).1 (ring o s l).2 := by
  rcases h with ⟨_, hr, h4, ha, h⟩ | ⟨h, _⟩
  · have e : ring o s l = ringW o (more s) l := by unfold ring; rw [if_pos hwr]
    rw [e]
    obtain ⟨row, i, rc, a, b, used, tries, steps, code, over⟩ := s
    simp only at *
    subst hov
    subst hr
    rcases h with ⟨rfl, rfl⟩ | ⟨rfl, hi, rfl⟩ | ⟨rfl, rfl⟩
    · exact .inl ⟨rfl, rfl, by simp [ringW, more, St.to], fun _ => rfl, .inr (.inl ⟨rfl, hw, by simp [ringW, more, St.to, lay]⟩)⟩
    · have ha' := ha (by omega)
      subst ha'
      simp only [ringW, more, word, hwr, if_true]
      have hl : put o (lay l0 (o.at_ + ringK o (ringC o l0)) (rc.take i)) (ringK o (ringC o l0) + i) (rc.getD i 0) = lay l0 (o.at_ + ringK o (ringC o l0)) (rc.take (i + 1)) := by
        have hlt : i < rc.length := by omega
        rw [List.take_succ_eq_append_getElem hlt, lay_snoc, List.length_take, Nat.min_eq_left (by omega)]
        conv => lhs; unfold put
        rw [List.getD_eq_getElem?_getD, List.getElem?_eq_getElem hlt, Nat.add_assoc]
        rfl
      rw [hl]
      by_cases hlt : i + 1 < o.width
      · rw [if_pos hlt]
        exact .inl ⟨rfl, rfl, by simp, fun _ => rfl, .inr (.inl ⟨rfl, hlt, rfl⟩)⟩
      · rw [if_neg hlt]
        exact .inl ⟨rfl, rfl, by simp [St.to], fun _ => rfl, .inr (.inr ⟨rfl, by rw [List.take_of_length_le (by omega)]⟩)⟩
    · have ha' := ha (by omega)
      subst ha'
      exact .inr ⟨rfl, rfl, by simp [ringW, more, St.fin], rfl⟩
  · rw [hov] at h
    cases h

theorem ring_wrote (o : Im) (l0 last rec : List Int) (s : St) (l : List Int) (al : ringAl o) (h0 : RingHolds o l0 last) (hrec : rec.length = o.width) (h : ringJ o l0 rec s l) (hov : s.over = true) : s.code = 0 ∧ l.length = l0.length ∧ RingHolds o l rec := by
  rcases h with ⟨h, _⟩ | ⟨_, hc, _, hl⟩
  · rw [hov] at h
    cases h
  · have hlen := h0.len
    have hk := ringK_in al (ringC o l0)
    have hlaid := lay_length rec l0 (o.at_ + ringK o (ringC o l0))
    have hp2 := put_length o (lay l0 (o.at_ + ringK o (ringC o l0)) rec) 0 (ringC o l0)
    rw [← hl] at hp2
    have g : ∀ j, j ≠ 0 → get o l j = if ringK o (ringC o l0) ≤ j ∧ j < ringK o (ringC o l0) + o.width then rec.getD (j - ringK o (ringC o l0)) 0 else get o l0 j := by
      intro j hj
      rw [hl, get_put _ _ _ _ _ (by rw [hlaid]; omega), if_neg hj, get_lay _ _ _ _ _ (by rw [hrec]; omega), hrec]
    have g0 : get o l 0 = ringC o l0 := by rw [hl, get_put _ _ _ _ _ (by rw [hlaid]; omega), if_pos rfl]
    refine ⟨hc, by rw [hp2, hlaid], by rw [hp2, hlaid]; exact hlen, ?_⟩
    rw [g0]
    refine part_eq hrec fun j hj => ?_
    rw [g _ (by omega), if_pos (by omega)]
    congr 1
    omega

def ringJR (o : Im) (l0 : List Int) (s : St) (l : List Int) : Prop :=
  l = l0 ∧ ((s.over = false ∧ s.row ≤ 2 ∧ (1 ≤ s.row → s.b = get o l0 0) ∧ (s.row = 0 → s.rc = []) ∧ (s.row = 1 → s.i < o.width ∧ s.rc = part o l0 (ringK o (get o l0 0)) s.i) ∧ (s.row = 2 → s.rc = part o l0 (ringK o (get o l0 0)) o.width)) ∨
    (s.over = true ∧ s.code = 0 ∧ s.rc = part o l0 (ringK o (get o l0 0)) o.width))

theorem rgap_self {o : Im} (al : ringAl o) (x : Int) : rgap (rmod o) x x + 1 < (o.slots : Int) := by
  have h := rmod_bd al
  have h2 := al.2.2
  have e : rgap (rmod o) x x = 0 := by
    unfold rgap
    rw [show x % rmod o + rmod o - x % rmod o = rmod o by omega, Int.emod_self]
  rw [e]
  omega
theorem ringJR_step (o : Im) (l0 : List Int) (s : St) (l : List Int) (al : ringAl o) (hwr : o.wr = false) (h : ringJR o l0 s l) (hov : s.over = false) : ringJR o l0 (ring o s l).1 (ring o s l).2 := by
  have hw := al.1.1
  obtain ⟨rfl, ⟨_, h4, ha, h0, h1, h2⟩ | ⟨h, _⟩⟩ := h
  · have e : ring o s l = ringR o (more s) l := by unfold ring; rw [if_neg (by simp [hwr])]
    rw [e]
    obtain ⟨row, i, rc, a, b, used, tries, steps, code, over⟩ := s
    simp only at *
    subst hov
    match row, h4 with
    | 0, _ =>
      have hr0 := h0 rfl
      subst hr0
      simp only [ringR, more]
      exact ⟨rfl, .inl ⟨rfl, by simp [St.to], fun _ => rfl, by simp [St.to], fun _ => ⟨hw, by simp [St.to, part]⟩, by simp [St.to]⟩⟩
    | 1, _ =>
      have ha' := ha (by omega)
      subst ha'
      obtain ⟨hi, hr0⟩ := h1 rfl
      subst hr0
      simp only [ringR, more, word, hwr, Bool.false_eq_true, if_false]
      rw [← part_succ]
      by_cases hlt : i + 1 < o.width
      · rw [if_pos hlt]
        exact ⟨rfl, .inl ⟨rfl, by simp, fun _ => rfl, by simp, fun _ => ⟨hlt, rfl⟩, by simp⟩⟩
      · rw [if_neg hlt]
        have : i + 1 = o.width := by omega
        exact ⟨rfl, .inl ⟨rfl, by simp [St.to], fun _ => rfl, by simp [St.to], by simp [St.to], fun _ => by simp [St.to, this]⟩⟩
    | 2, _ =>
      have ha' := ha (by omega)
      subst ha'
      have hr0 := h2 rfl
      subst hr0
      have hg := rgap_self al (get o l 0)
      simp only [ringR, more, hg, ↓reduceIte]
      exact ⟨rfl, .inr ⟨rfl, rfl, by simp [St.fin]⟩⟩
  · rw [hov] at h
    cases h
theorem ring_told (o : Im) (l0 last : List Int) (s : St) (l : List Int) (h0 : RingHolds o l0 last) (h : ringJR o l0 s l) (hov : s.over = true) : s.code = 0 ∧ s.rc = last ∧ l.length = l0.length ∧ RingHolds o l last := by
  obtain ⟨rfl, ⟨h, _⟩ | ⟨_, hc, hr⟩⟩ := h
  · rw [hov] at h
    cases h
  · exact ⟨hc, hr.trans h0.is, rfl, h0⟩

end Go.Proofs.Ytkeohaibbadlpaa.Op
