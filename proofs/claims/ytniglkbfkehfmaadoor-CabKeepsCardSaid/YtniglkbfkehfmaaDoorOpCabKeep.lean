/-
  What is read is what was written last, as long as nobody writes: of a marked buffer; plain.
-/
import Derived.Test.YtniglkbfkehfmaaDoorOpCab
import Derived.Test.YtniglkbfkehfmaaDoorOpKeep
namespace Go.Proofs.YtniglkbfkehfmaaDoor.Op

theorem cabK_in {o : Im} (k : Int) (h0 : 0 ≤ k) (h1 : k < (o.slots : Int)) : 1 + o.n ≤ cabK o k ∧ cabK o k + o.width ≤ 1 + o.n + o.slots * o.width := by
  have := Nat.mul_le_mul_right o.width (show k.toNat + 1 ≤ o.slots by omega)
  rw [Nat.add_mul] at this
  unfold cabK
  omega
theorem part_same {o : Im} {l l' : List Int} {k n : Nat} (h : ∀ j, j < n → get o l (k + j) = get o l' (k + j)) : part o l k n = part o l' k n := by
  unfold part
  exact List.map_congr_left fun j hj => h j (List.mem_range.1 hj)
def cabN (o : Im) (l : List Int) : Int := get o l 0 % (o.slots : Int)
theorem cabN_in {o : Im} (al : cabAl o) (l : List Int) : 0 ≤ cabN o l ∧ cabN o l < (o.slots : Int) := by
  have := al.2.2.1
  unfold cabN
  exact ⟨Int.emod_nonneg _ (by omega), Int.emod_lt_of_pos _ (by omega)⟩
/-- the object holds the record -/
structure CabHolds (o : Im) (l : List Int) (last : List Int) : Prop where
  len : o.at_ + (1 + o.n + o.slots * o.width) ≤ l.length
  is : part o l (cabK o (cabN o l)) o.width = last

def cabJ (o : Im) (l0 rec : List Int) (s : St) (l : List Int) : Prop :=
  (s.over = false ∧ s.rc = rec ∧ s.row ≤ 3 ∧ ((s.row ≤ 1 ∧ l = l0) ∨ (s.row = 2 ∧ s.i < o.width ∧ l = lay l0 (o.at_ + cabK o s.b) (rec.take s.i)) ∨ (s.row = 3 ∧ l = lay l0 (o.at_ + cabK o s.b) rec))) ∨
  (s.over = true ∧ s.code = 0 ∧ s.rc = [] ∧ l = put o (lay l0 (o.at_ + cabK o s.b) rec) 0 s.b)

theorem cabJ_step (o : Im) (l0 rec : List Int) (s : St) (l : List Int) (hwr : o.wr = true) (hrec : rec.length = o.width) (hw : 0 < o.width) (h : cabJ o l0 rec s l) (hov : s.over = false) : cabJ o l0 rec (cab o s l).1 (cab o s l).2 := by
  rcases h with ⟨_, hr, h4, h⟩ | ⟨h, _⟩
  · have e : cab o s l = cabW o (more s) l := by unfold cab; rw [if_pos hwr]
    rw [e]
    obtain ⟨row, i, rc, a, b, used, tries, steps, code, over⟩ := s
    simp only at *
    subst hov
    subst hr
    match row, h4 with
    | 0, _ =>
      rcases h with ⟨_, rfl⟩ | ⟨h, _⟩ | ⟨h, _⟩
      · exact .inl ⟨rfl, rfl, by simp [cabW, more, St.to], .inl ⟨by simp [cabW, more, St.to], rfl⟩⟩
      · omega
      · omega
    | 1, _ =>
      rcases h with ⟨_, rfl⟩ | ⟨h, _⟩ | ⟨h, _⟩
      · by_cases hlt : i + 1 < o.n
        · simp only [cabW, more, marked, hlt, ↓reduceIte]
          exact .inl ⟨rfl, rfl, by simp, .inl ⟨by simp, rfl⟩⟩
        · simp only [cabW, more, marked, hlt, ↓reduceIte]
          exact .inl ⟨rfl, rfl, by simp [St.to], .inr (.inl ⟨by simp [St.to], by simpa [St.to] using hw, by simp [St.to, lay]⟩)⟩
      · omega
      · omega
    | 2, _ =>
      rcases h with ⟨h, _⟩ | ⟨_, hi, rfl⟩ | ⟨h, _⟩
      · omega
      · simp only [cabW, more, word, hwr, if_true]
        have hl : put o (lay l0 (o.at_ + cabK o b) (rc.take i)) (cabK o b + i) (rc.getD i 0) = lay l0 (o.at_ + cabK o b) (rc.take (i + 1)) := by
          have hlt : i < rc.length := by omega
          rw [List.take_succ_eq_append_getElem hlt, lay_snoc, List.length_take, Nat.min_eq_left (by omega)]
          conv => lhs; unfold put
          rw [List.getD_eq_getElem?_getD, List.getElem?_eq_getElem hlt, Nat.add_assoc]
          rfl
        rw [hl]
        by_cases hlt : i + 1 < o.width
        · rw [if_pos hlt]
          exact .inl ⟨rfl, rfl, by simp, .inr (.inl ⟨rfl, hlt, rfl⟩)⟩
        · rw [if_neg hlt]
          exact .inl ⟨rfl, rfl, by simp [St.to], .inr (.inr ⟨rfl, by rw [List.take_of_length_le (by omega)]; rfl⟩)⟩
      · omega
    | 3, _ =>
      rcases h with ⟨h, _⟩ | ⟨h, _⟩ | ⟨_, rfl⟩
      · omega
      · omega
      · exact .inr ⟨rfl, rfl, by simp [cabW, more, St.fin], rfl⟩
  · rw [hov] at h
    cases h

theorem cab_wrote (o : Im) (l0 last rec : List Int) (s : St) (l : List Int) (al : cabAl o) (ok : cabOk o s) (h0 : CabHolds o l0 last) (hrec : rec.length = o.width) (h : cabJ o l0 rec s l) (hov : s.over = true) : s.code = 0 ∧ l.length = l0.length ∧ CabHolds o l rec := by
  rcases h with ⟨h, _⟩ | ⟨_, hc, _, hl⟩
  · rw [hov] at h
    cases h
  · have hlen := h0.len
    have hb := ok.2.2.1
    have hk := cabK_in (o := o) s.b hb.1 hb.2
    have hlaid := lay_length rec l0 (o.at_ + cabK o s.b)
    have hp2 := put_length o (lay l0 (o.at_ + cabK o s.b) rec) 0 s.b
    rw [← hl] at hp2
    have g : ∀ j, j ≠ 0 → get o l j = if cabK o s.b ≤ j ∧ j < cabK o s.b + o.width then rec.getD (j - cabK o s.b) 0 else get o l0 j := by
      intro j hj
      rw [hl, get_put _ _ _ _ _ (by rw [hlaid]; omega), if_neg hj, get_lay _ _ _ _ _ (by rw [hrec]; omega), hrec]
    have g0 : get o l 0 = s.b := by rw [hl, get_put _ _ _ _ _ (by rw [hlaid]; omega), if_pos rfl]
    have gn : cabN o l = s.b := by
      unfold cabN
      rw [g0]
      exact Int.emod_eq_of_lt hb.1 hb.2
    refine ⟨hc, by rw [hp2, hlaid], by rw [hp2, hlaid]; exact hlen, ?_⟩
    rw [gn]
    refine part_eq hrec fun j hj => ?_
    rw [g _ (by omega), if_pos (by omega)]
    congr 1
    omega

def cabM (o : Im) (l0 : List Int) : List Int := put o l0 (1 + o.reader) (cabN o l0 + 1)
def cabJR (o : Im) (l0 : List Int) (s : St) (l : List Int) : Prop :=
  (s.over = false ∧ s.row ≤ 4 ∧ (1 ≤ s.row → s.a = cabN o l0) ∧ ((s.row ≤ 1 ∧ l = l0) ∨ (2 ≤ s.row ∧ l = cabM o l0)) ∧ (s.row ≤ 2 → s.rc = []) ∧
    (s.row = 3 → s.i < o.width ∧ s.rc = part o l0 (cabK o (cabN o l0)) s.i) ∧ (s.row = 4 → s.rc = part o l0 (cabK o (cabN o l0)) o.width)) ∨
  (s.over = true ∧ s.code = 0 ∧ l = put o (cabM o l0) (1 + o.reader) 0 ∧ s.rc = part o l0 (cabK o (cabN o l0)) o.width)

theorem cabM_get {o : Im} {l0 : List Int} (al : cabAl o) (hlen : o.at_ + (1 + o.n + o.slots * o.width) ≤ l0.length) (j : Nat) (hj : j ≠ 1 + o.reader) : get o (cabM o l0) j = get o l0 j := by
  have := al.2.2.2
  unfold cabM
  rw [get_put _ _ _ _ _ (by omega), if_neg hj]
theorem cabJR_step (o : Im) (l0 : List Int) (s : St) (l : List Int) (al : cabAl o) (hlen : o.at_ + (1 + o.n + o.slots * o.width) ≤ l0.length) (hwr : o.wr = false) (h : cabJR o l0 s l) (hov : s.over = false) : cabJR o l0 (cab o s l).1 (cab o s l).2 := by
  have hw := al.1.1
  rcases h with ⟨_, h4, ha, h, hr, hr3, hr4⟩ | ⟨h, _⟩
  · have e : cab o s l = cabR o (more s) l := by unfold cab; rw [if_neg (by simp [hwr])]
    rw [e]
    have hin := cabN_in al l0
    have hk := cabK_in (o := o) (cabN o l0) hin.1 hin.2
    have hrd := al.2.2.2
    obtain ⟨row, i, rc, a, b, used, tries, steps, code, over⟩ := s
    simp only at *
    subst hov
    match row, h4 with
    | 0, _ =>
      have hr0 := hr (by omega)
      subst hr0
      rcases h with ⟨_, rfl⟩ | ⟨h, _⟩
      · exact .inl ⟨rfl, by simp [cabR, more, St.to], fun _ => rfl, .inl ⟨by simp [cabR, more, St.to], rfl⟩, fun _ => rfl, by simp [cabR, more, St.to], by simp [cabR, more, St.to]⟩
      · omega
    | 1, _ =>
      have hr0 := hr (by omega)
      subst hr0
      have ha' := ha (by omega)
      subst ha'
      rcases h with ⟨_, rfl⟩ | ⟨h, _⟩
      · exact .inl ⟨rfl, by simp [cabR, more, St.to], fun _ => rfl, .inr ⟨by simp [cabR, more, St.to], rfl⟩, fun _ => rfl, by simp [cabR, more, St.to], by simp [cabR, more, St.to]⟩
      · omega
    | 2, _ =>
      have hr0 := hr (by omega)
      subst hr0
      have ha' := ha (by omega)
      subst ha'
      rcases h with ⟨h, _⟩ | ⟨_, rfl⟩
      · omega
      · have hg : get o (cabM o l0) 0 % (o.slots : Int) = cabN o l0 := by rw [cabM_get al hlen 0 (by omega)]; rfl
        simp only [cabR, more, hg, ↓reduceIte]
        exact .inl ⟨rfl, by simp [St.to], fun _ => rfl, .inr ⟨by simp [St.to], rfl⟩, by simp [St.to], fun _ => ⟨hw, by simp [St.to, part]⟩, by simp [St.to]⟩
    | 3, _ =>
      have ha' := ha (by omega)
      subst ha'
      obtain ⟨hi, hr0⟩ := hr3 rfl
      subst hr0
      rcases h with ⟨h, _⟩ | ⟨_, rfl⟩
      · omega
      · simp only [cabR, more, word, hwr, Bool.false_eq_true, if_false]
        rw [cabM_get al hlen (cabK o (cabN o l0) + i) (by omega), ← part_succ]
        by_cases hlt : i + 1 < o.width
        · rw [if_pos hlt]
          exact .inl ⟨rfl, by simp, fun _ => rfl, .inr ⟨by simp, rfl⟩, by simp, fun _ => ⟨hlt, rfl⟩, by simp⟩
        · rw [if_neg hlt]
          have : i + 1 = o.width := by omega
          exact .inl ⟨rfl, by simp [St.to], fun _ => rfl, .inr ⟨by simp [St.to], rfl⟩, by simp [St.to], by simp [St.to], fun _ => by simp [St.to, this]⟩
    | 4, _ =>
      have hr0 := hr4 rfl
      subst hr0
      rcases h with ⟨h, _⟩ | ⟨_, rfl⟩
      · omega
      · exact .inr ⟨rfl, rfl, rfl, by simp [cabR, more, St.fin]⟩
  · rw [hov] at h
    cases h
theorem cab_told (o : Im) (l0 last : List Int) (s : St) (l : List Int) (al : cabAl o) (h0 : CabHolds o l0 last) (h : cabJR o l0 s l) (hov : s.over = true) : s.code = 0 ∧ s.rc = last ∧ l.length = l0.length ∧ CabHolds o l last := by
  rcases h with ⟨h, _⟩ | ⟨_, hc, hl, hr⟩
  · rw [hov] at h
    cases h
  · have hlen := h0.len
    have hrd := al.2.2.2
    have hin := cabN_in al l0
    have hk := cabK_in (o := o) (cabN o l0) hin.1 hin.2
    have hl2 : l.length = l0.length := by rw [hl, put_length]; unfold cabM; rw [put_length]
    have g : ∀ j, j ≠ 1 + o.reader → get o l j = get o l0 j := by
      intro j hj
      rw [hl, get_put _ _ _ _ _ (by unfold cabM; rw [put_length]; omega), if_neg hj, cabM_get al hlen j hj]
    have gn : cabN o l = cabN o l0 := by unfold cabN; rw [g 0 (by omega)]
    refine ⟨hc, hr.trans h0.is, hl2, by rw [hl2]; exact hlen, ?_⟩
    rw [gn, ← h0.is]
    exact part_same fun j hj => g _ (by omega)

end Go.Proofs.YtniglkbfkehfmaaDoor.Op
