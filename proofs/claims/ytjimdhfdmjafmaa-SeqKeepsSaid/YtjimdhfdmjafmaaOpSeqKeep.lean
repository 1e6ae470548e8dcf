/-
  What is read is what was written last, as long as nobody writes: of a counter and one record; plain.
-/
import Derived.Test.YtjimdhfdmjafmaaOpSeq
import Derived.Test.YtjimdhfdmjafmaaOpKeep
namespace Go.Proofs.Ytjimdhfdmjafmaa.Op

/-- the object holds the record -/
structure SeqHolds (o : Im) (l : List Int) (last : List Int) : Prop where
  len : o.at_ + (1 + o.width) ≤ l.length
  even : get o l 0 % 2 = 0
  is : part o l 1 o.width = last

def seqJ (o : Im) (l0 rec : List Int) (s : St) (l : List Int) : Prop :=
  (s.over = false ∧ s.rc = rec ∧ s.row ≤ 3 ∧ (1 ≤ s.row → s.a = get o l0 0) ∧
    ((s.row ≤ 1 ∧ l = l0) ∨ (s.row = 2 ∧ s.i < o.width ∧ l = lay (put o l0 0 (up (get o l0 0 + 1))) (o.at_ + 1) (rec.take s.i)) ∨
      (s.row = 3 ∧ l = lay (put o l0 0 (up (get o l0 0 + 1))) (o.at_ + 1) rec))) ∨
  (s.over = true ∧ s.code = 0 ∧ s.rc = [] ∧ l = put o (lay (put o l0 0 (up (get o l0 0 + 1))) (o.at_ + 1) rec) 0 (up (get o l0 0 + 2)))

theorem seqJ_step (o : Im) (l0 rec : List Int) (s : St) (l : List Int) (hwr : o.wr = true) (hrec : rec.length = o.width) (hw : 0 < o.width) (h : seqJ o l0 rec s l) (hov : s.over = false) : seqJ o l0 rec (seq o s l).1 (seq o s l).2 := by
  rcases h with ⟨_, hr, h4, ha, h⟩ | ⟨h, _⟩
  · have e : seq o s l = seqW o (more s) l := by unfold seq; rw [if_pos hwr]
    rw [e]
    obtain ⟨row, i, rc, a, b, used, tries, steps, code, over⟩ := s
    simp only at *
    subst hov
    subst hr
    rcases h with ⟨h, rfl⟩ | ⟨rfl, hi, rfl⟩ | ⟨rfl, rfl⟩
    · match row, h with
      | 0, _ => exact .inl ⟨rfl, rfl, by simp [seqW, more, St.to], fun _ => rfl, .inl ⟨by simp [seqW, more, St.to], rfl⟩⟩
      | 1, _ =>
        have ha' := ha (by omega)
        subst ha'
        exact .inl ⟨rfl, rfl, by simp [seqW, more, St.to], fun _ => rfl, .inr (.inl ⟨rfl, hw, by simp [seqW, more, St.to, lay]⟩)⟩
    · have ha' := ha (by omega)
      subst ha'
      simp only [seqW, more, word, hwr, if_true]
      have hl : put o (lay (put o l0 0 (up (get o l0 0 + 1))) (o.at_ + 1) (rc.take i)) (1 + i) (rc.getD i 0) = lay (put o l0 0 (up (get o l0 0 + 1))) (o.at_ + 1) (rc.take (i + 1)) := by
        have hlt : i < rc.length := by omega
        rw [List.take_succ_eq_append_getElem hlt, lay_snoc, List.length_take, Nat.min_eq_left (by omega)]
        conv => lhs; unfold put
        rw [List.getD_eq_getElem?_getD, List.getElem?_eq_getElem hlt, Nat.add_assoc]
        rfl
      rw [hl]
      by_cases hlt : i + 1 < o.width
      · rw [if_pos hlt]
        exact .inl ⟨rfl, rfl, by simp, fun _ => rfl, .inr (.inl ⟨rfl, hlt, rfl⟩)⟩
      · rw [if_neg hlt]
        exact .inl ⟨rfl, rfl, by simp [St.to], fun _ => rfl, .inr (.inr ⟨rfl, by rw [List.take_of_length_le (by omega)]⟩)⟩
    · have ha' := ha (by omega)
      subst ha'
      exact .inr ⟨rfl, rfl, by simp [seqW, more, St.fin], rfl⟩
  · rw [hov] at h
    cases h

theorem seq_wrote (o : Im) (l0 last rec : List Int) (s : St) (l : List Int) (h0 : SeqHolds o l0 last) (hrec : rec.length = o.width) (h : seqJ o l0 rec s l) (hov : s.over = true) : s.code = 0 ∧ l.length = l0.length ∧ SeqHolds o l rec := by
  rcases h with ⟨h, _⟩ | ⟨_, hc, _, hl⟩
  · rw [hov] at h
    cases h
  · have hlen := h0.len
    have hev := h0.even
    have hp1 := put_length o l0 0 (up (get o l0 0 + 1))
    have hlaid := lay_length rec (put o l0 0 (up (get o l0 0 + 1))) (o.at_ + 1)
    have hp2 := put_length o (lay (put o l0 0 (up (get o l0 0 + 1))) (o.at_ + 1) rec) 0 (up (get o l0 0 + 2))
    rw [← hl] at hp2
    have g : ∀ j, j ≠ 0 → get o l j = if 1 ≤ j ∧ j < 1 + o.width then rec.getD (j - 1) 0 else get o (put o l0 0 (up (get o l0 0 + 1))) j := by
      intro j hj
      rw [hl, get_put _ _ _ _ _ (by rw [hlaid, hp1]; omega), if_neg hj, get_lay _ _ _ _ _ (by rw [hp1, hrec]; omega), hrec]
    have g0 : get o l 0 = up (get o l0 0 + 2) := by rw [hl, get_put _ _ _ _ _ (by rw [hlaid, hp1]; omega), if_pos rfl]
    refine ⟨hc, by rw [hp2, hlaid, hp1], by rw [hp2, hlaid, hp1]; exact hlen, by rw [g0]; unfold up; omega, ?_⟩
    refine part_eq hrec fun j hj => ?_
    rw [g _ (by omega), if_pos (by omega)]
    congr 1
    omega

def seqJR (o : Im) (l0 : List Int) (s : St) (l : List Int) : Prop :=
  l = l0 ∧ ((s.over = false ∧ s.row ≤ 2 ∧ (1 ≤ s.row → s.a = get o l0 0) ∧ (s.row = 0 → s.rc = []) ∧ (s.row = 1 → s.i < o.width ∧ s.rc = part o l0 1 s.i) ∧ (s.row = 2 → s.rc = part o l0 1 o.width)) ∨
    (s.over = true ∧ s.code = 0 ∧ s.rc = part o l0 1 o.width))

theorem seqJR_step (o : Im) (l0 : List Int) (s : St) (l : List Int) (hwr : o.wr = false) (hw : 0 < o.width) (hev : get o l0 0 % 2 = 0) (h : seqJR o l0 s l) (hov : s.over = false) : seqJR o l0 (seq o s l).1 (seq o s l).2 := by
  obtain ⟨rfl, ⟨_, h4, ha, h0, h1, h2⟩ | ⟨h, _⟩⟩ := h
  · have e : seq o s l = seqR o (more s) l := by unfold seq; rw [if_neg (by simp [hwr])]
    rw [e]
    obtain ⟨row, i, rc, a, b, used, tries, steps, code, over⟩ := s
    simp only at *
    subst hov
    match row, h4 with
    | 0, _ =>
      have hr0 := h0 rfl
      subst hr0
      have hne : ¬ get o l 0 % 2 = 1 := by omega
      simp only [seqR, more, hne, ↓reduceIte]
      exact ⟨rfl, .inl ⟨rfl, by simp [St.to], fun _ => rfl, by simp [St.to], fun _ => ⟨hw, by simp [St.to, part]⟩, by simp [St.to]⟩⟩
    | 1, _ =>
      have ha' := ha (by omega)
      subst ha'
      obtain ⟨hi, hr0⟩ := h1 rfl
      subst hr0
      simp only [seqR, more, word, hwr, Bool.false_eq_true, if_false]
      rw [← part_succ]
      by_cases hlt : i + 1 < o.width
      · rw [if_pos hlt]
        exact ⟨rfl, .inl ⟨rfl, by simp, fun _ => rfl, by simp, fun _ => ⟨hlt, rfl⟩, by simp⟩⟩
      · rw [if_neg hlt]
        have : i + 1 = o.width := by omega
        exact ⟨rfl, .inl ⟨rfl, by simp [St.to], fun _ => rfl, by simp [St.to], by simp [St.to], fun _ => by simp [St.to, this]⟩⟩
    | 2, _ =>
      have ha' := ha (by omega)
      subst ha'
      have hr0 := h2 rfl
      subst hr0
      simp only [seqR, more, ↓reduceIte]
      exact ⟨rfl, .inr ⟨rfl, rfl, by simp [St.fin]⟩⟩
  · rw [hov] at h
    cases h
theorem seq_told (o : Im) (l0 last : List Int) (s : St) (l : List Int) (h0 : SeqHolds o l0 last) (h : seqJR o l0 s l) (hov : s.over = true) : s.code = 0 ∧ s.rc = last ∧ l.length = l0.length ∧ SeqHolds o l last := by
  obtain ⟨rfl, ⟨h, _⟩ | ⟨_, hc, hr⟩⟩ := h
  · rw [hov] at h
    cases h
  · exact ⟨hc, hr.trans h0.is, rfl, h0⟩

end Go.Proofs.Ytjimdhfdmjafmaa.Op
