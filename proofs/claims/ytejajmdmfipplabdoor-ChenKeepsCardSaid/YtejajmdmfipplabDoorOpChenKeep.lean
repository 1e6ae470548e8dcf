/-
  What is read is what was written last, as long as nobody writes: of slots enough for all readers; plain.
-/
import Derived.Test.YtejajmdmfipplabDoorOpChen
import Derived.Test.YtejajmdmfipplabDoorOpKeep
set_option linter.unusedSimpArgs false
set_option linter.unusedVariables false
namespace Go.Proofs.YtejajmdmfipplabDoor.Op

theorem chenK_in {o : Im} (k : Int) (h0 : 0 ≤ k) (h1 : k < (csl o : Int)) : 1 + o.n ≤ chenK o k ∧ chenK o k + o.width ≤ 1 + o.n + csl o * o.width := by
  have := Nat.mul_le_mul_right o.width (show k.toNat + 1 ≤ csl o by omega)
  rw [Nat.add_mul] at this
  unfold chenK
  omega
theorem part_sameC {o : Im} {l l' : List Int} {k n : Nat} (h : ∀ j, j < n → get o l (k + j) = get o l' (k + j)) : part o l k n = part o l' k n := by
  unfold part
  exact List.map_congr_left fun j hj => h j (List.mem_range.1 hj)
def chenN (o : Im) (l : List Int) : Int := get o l 0 % (csl o : Int)
theorem chenN_in (o : Im) (l : List Int) : 0 ≤ chenN o l ∧ chenN o l < (csl o : Int) := by
  have : 0 < csl o := by unfold csl; omega
  unfold chenN
  exact ⟨Int.emod_nonneg _ (by omega), Int.emod_lt_of_pos _ (by omega)⟩
/-- the object holds the record -/
structure ChenHolds (o : Im) (l : List Int) (last : List Int) : Prop where
  len : o.at_ + (1 + o.n + csl o * o.width) ≤ l.length
  is : part o l (chenK o (chenN o l)) o.width = last

theorem get_casP (o : Im) (l : List Int) (k j : Nat) (was now : Int) (h : o.at_ + k < l.length) (hj : j ≠ k) : get o (casP o l k was now) j = get o l j := by
  unfold casP
  split
  · rw [get_put _ _ _ _ _ h, if_neg hj]
  · rfl
/-- the lists are alike, but for the readers' words -/
def Alike (o : Im) (l1 l : List Int) : Prop := l.length = l1.length ∧ ∀ j, j = 0 ∨ 1 + o.n ≤ j → get o l j = get o l1 j
theorem Alike.refl (o : Im) (l : List Int) : Alike o l l := ⟨rfl, fun _ _ => rfl⟩
theorem Alike.put {o : Im} {l1 l : List Int} (h : Alike o l1 l) (k : Nat) (v : Int) (hk : 1 ≤ k ∧ k < 1 + o.n) (hf : o.at_ + k < l.length) : Alike o l1 (put o l k v) :=
  ⟨(put_length _ _ _ _).trans h.1, fun j hj => by rw [get_put _ _ _ _ _ hf, if_neg (by omega)]; exact h.2 j hj⟩
theorem Alike.cas {o : Im} {l1 l : List Int} (h : Alike o l1 l) (k : Nat) (was now : Int) (hk : 1 ≤ k ∧ k < 1 + o.n) (hf : o.at_ + k < l.length) : Alike o l1 (casP o l k was now) :=
  ⟨(casP_length _ _ _ _ _).trans h.1, fun j hj => by rw [get_casP _ _ _ _ _ _ hf (by omega)]; exact h.2 j hj⟩

def chenJ (o : Im) (l0 rec : List Int) (s : St) (l : List Int) : Prop :=
  (s.over = false ∧ s.rc = rec ∧ s.row ≤ 4 ∧ ((s.row ≤ 1 ∧ l = l0) ∨ (s.row = 2 ∧ s.i < o.width ∧ l = lay l0 (o.at_ + chenK o s.b) (rec.take s.i)) ∨ (s.row = 3 ∧ l = lay l0 (o.at_ + chenK o s.b) rec) ∨
    (s.row = 4 ∧ s.i < o.n ∧ Alike o (put o (lay l0 (o.at_ + chenK o s.b) rec) 0 s.b) l))) ∨
  (s.over = true ∧ s.code = 0 ∧ s.rc = [] ∧ Alike o (put o (lay l0 (o.at_ + chenK o s.b) rec) 0 s.b) l)

theorem chenJ_step (o : Im) (l0 rec : List Int) (s : St) (l : List Int) (al : chenAl o) (hlen : o.at_ + (1 + o.n + csl o * o.width) ≤ l0.length) (hwr : o.wr = true) (hrec : rec.length = o.width) (h : chenJ o l0 rec s l) (hov : s.over = false) : chenJ o l0 rec (chen o s l).1 (chen o s l).2 := by
  have hw := al.1.1
  have hn := al.2.1
  rcases h with ⟨_, hr, h4, h⟩ | ⟨h, _⟩
  · have e : chen o s l = chenW o (more s) l := by unfold chen; rw [if_pos hwr]
    rw [e]
    obtain ⟨row, i, rc, a, b, used, tries, steps, code, over⟩ := s
    simp only at *
    subst hov
    subst hr
    match row, h4 with
    | 0, _ =>
      rcases h with ⟨_, rfl⟩ | ⟨h, _⟩ | ⟨h, _⟩ | ⟨h, _⟩
      · exact .inl ⟨rfl, rfl, by simp [chenW, more, St.to], .inl ⟨by simp [chenW, more, St.to], rfl⟩⟩
      all_goals omega
    | 1, _ =>
      rcases h with ⟨_, rfl⟩ | ⟨h, _⟩ | ⟨h, _⟩ | ⟨h, _⟩
      · by_cases hlt : i + 1 < o.n
        · simp only [chenW, more, chenM, hlt, ↓reduceIte]
          exact .inl ⟨rfl, rfl, by simp, .inl ⟨by simp, rfl⟩⟩
        · simp only [chenW, more, chenM, hlt, ↓reduceIte]
          exact .inl ⟨rfl, rfl, by simp [St.to], .inr (.inl ⟨by simp [St.to], by simpa [St.to] using hw, by simp [St.to, lay]⟩)⟩
      all_goals omega
    | 2, _ =>
      rcases h with ⟨h, _⟩ | ⟨_, hi, rfl⟩ | ⟨h, _⟩ | ⟨h, _⟩
      · omega
      · simp only [chenW, more, word, hwr, if_true]
        have hl : put o (lay l0 (o.at_ + chenK o b) (rc.take i)) (chenK o b + i) (rc.getD i 0) = lay l0 (o.at_ + chenK o b) (rc.take (i + 1)) := by
          have hlt : i < rc.length := by omega
          rw [List.take_succ_eq_append_getElem hlt, lay_snoc, List.length_take, Nat.min_eq_left (by omega)]
          conv => lhs; unfold put
          rw [List.getD_eq_getElem?_getD, List.getElem?_eq_getElem hlt, Nat.add_assoc]
          rfl
        rw [hl]
        by_cases hlt : i + 1 < o.width
        · rw [if_pos hlt]
          exact .inl ⟨rfl, rfl, by simp, .inr (.inl ⟨rfl, hlt, rfl⟩)⟩
        · rw [if_neg hlt]
          exact .inl ⟨rfl, rfl, by simp [St.to], .inr (.inr (.inl ⟨rfl, by rw [List.take_of_length_le (by omega)]; rfl⟩))⟩
      all_goals omega
    | 3, _ =>
      rcases h with ⟨h, _⟩ | ⟨h, _⟩ | ⟨_, rfl⟩ | ⟨h, _⟩
      · omega
      · omega
      · exact .inl ⟨rfl, rfl, by simp [chenW, more, St.to], .inr (.inr (.inr ⟨rfl, by simp [chenW, more, St.to]; omega, Alike.refl _ _⟩))⟩
      · omega
    | 4, _ =>
      rcases h with ⟨h, _⟩ | ⟨h, _⟩ | ⟨h, _⟩ | ⟨_, hi, hA⟩
      · omega
      · omega
      · omega
      · have hfl : l.length = l0.length := by rw [hA.1, put_length, lay_length]
        have hA2 := hA.cas (1 + i) (csl o) b (by omega) (by omega)
        simp only [chenW, more]
        by_cases hlt : i + 1 < o.n
        · simp only [hlt, ↓reduceIte]
          exact .inl ⟨rfl, rfl, by simp, .inr (.inr (.inr ⟨rfl, hlt, hA2⟩))⟩
        · simp only [hlt, ↓reduceIte]
          exact .inr ⟨rfl, rfl, by simp [St.fin], hA2⟩
  · rw [hov] at h
    cases h

theorem chen_wrote (o : Im) (l0 last rec : List Int) (s : St) (l : List Int) (al : chenAl o) (ok : chenOk o s) (h0 : ChenHolds o l0 last) (hrec : rec.length = o.width) (h : chenJ o l0 rec s l) (hov : s.over = true) : s.code = 0 ∧ l.length = l0.length ∧ ChenHolds o l rec := by
  rcases h with ⟨h, _⟩ | ⟨_, hc, _, hl⟩
  · rw [hov] at h
    cases h
  · have hlen := h0.len
    have hn := al.2.1
    have hb := ok.2.2.1
    have hk := chenK_in (o := o) s.b hb.1 hb.2
    have hlaid := lay_length rec l0 (o.at_ + chenK o s.b)
    have hp2 := put_length o (lay l0 (o.at_ + chenK o s.b) rec) 0 s.b
    have hll : l.length = l0.length := by rw [hl.1, hp2, hlaid]
    have g : ∀ j, 1 + o.n ≤ j → get o l j = if chenK o s.b ≤ j ∧ j < chenK o s.b + o.width then rec.getD (j - chenK o s.b) 0 else get o l0 j := by
      intro j hj
      rw [hl.2 j (.inr hj), get_put _ _ _ _ _ (by rw [hlaid]; omega), if_neg (by omega), get_lay _ _ _ _ _ (by rw [hrec]; omega), hrec]
    have g0 : get o l 0 = s.b := by rw [hl.2 0 (.inl rfl), get_put _ _ _ _ _ (by rw [hlaid]; omega), if_pos rfl]
    have gn : chenN o l = s.b := by
      unfold chenN
      rw [g0]
      exact Int.emod_eq_of_lt hb.1 hb.2
    refine ⟨hc, hll, by rw [hll]; exact hlen, ?_⟩
    rw [gn]
    refine part_eq hrec fun j hj => ?_
    rw [g _ (by omega), if_pos (by omega)]
    congr 1
    omega

def chenJR (o : Im) (l0 : List Int) (s : St) (l : List Int) : Prop :=
  (s.over = false ∧ s.row ≤ 4 ∧ Alike o l0 l ∧ (s.row = 1 ∨ s.row = 2 → get o l (1 + o.reader) = (csl o : Int)) ∧ (s.row = 2 → s.a = get o l0 0) ∧ (s.row = 3 → get o l (1 + o.reader) = get o l0 0) ∧ (s.row ≤ 3 → s.rc = []) ∧
    (s.row = 4 → s.b = chenN o l0 ∧ s.i < o.width ∧ s.rc = part o l0 (chenK o (chenN o l0)) s.i)) ∨
  (s.over = true ∧ s.code = 0 ∧ Alike o l0 l ∧ s.rc = part o l0 (chenK o (chenN o l0)) o.width)

theorem chenJR_step (o : Im) (l0 : List Int) (s : St) (l : List Int) (al : chenAl o) (hlen : o.at_ + (1 + o.n + csl o * o.width) ≤ l0.length) (hwr : o.wr = false) (h : chenJR o l0 s l) (hov : s.over = false) : chenJR o l0 (chen o s l).1 (chen o s l).2 := by
  have hw := al.1.1
  have hrd := al.2.2
  rcases h with ⟨_, h4, hA, h1, h2, h3, hr, hr4⟩ | ⟨h, _⟩
  · have e : chen o s l = chenR o (more s) l := by unfold chen; rw [if_neg (by simp [hwr])]
    rw [e]
    have hll := hA.1
    obtain ⟨row, i, rc, a, b, used, tries, steps, code, over⟩ := s
    simp only at *
    subst hov
    match row, h4 with
    | 0, _ =>
      have hr0 := hr (by omega)
      subst hr0
      refine .inl ⟨rfl, by simp [chenR, more, St.to], hA.put _ _ (by omega) (by omega), fun _ => ?_, by simp [chenR, more, St.to], by simp [chenR, more, St.to], fun _ => rfl, by simp [chenR, more, St.to]⟩
      show get o (put o l (1 + o.reader) (csl o)) (1 + o.reader) = _
      rw [get_put _ _ _ _ _ (by omega), if_pos rfl]
    | 1, _ =>
      have hr0 := hr (by omega)
      subst hr0
      exact .inl ⟨rfl, by simp [chenR, more, St.to], hA, fun _ => h1 (.inl rfl), fun _ => hA.2 0 (.inl rfl), by simp [chenR, more, St.to], fun _ => rfl, by simp [chenR, more, St.to]⟩
    | 2, _ =>
      have hr0 := hr (by omega)
      subst hr0
      have ha := h2 rfl
      subst ha
      have hg := h1 (.inr rfl)
      refine .inl ⟨rfl, by simp [chenR, more, St.to], hA.cas _ _ _ (by omega) (by omega), by simp [chenR, more, St.to], by simp [chenR, more, St.to], fun _ => ?_, fun _ => rfl, by simp [chenR, more, St.to]⟩
      show get o (casP o l (1 + o.reader) (csl o) (get o l0 0)) (1 + o.reader) = _
      unfold casP
      rw [if_pos hg, get_put _ _ _ _ _ (by omega), if_pos rfl]
    | 3, _ =>
      have hr0 := hr (by omega)
      subst hr0
      have hg := h3 rfl
      refine .inl ⟨rfl, by simp [chenR, more, St.to], hA, by simp [chenR, more, St.to], by simp [chenR, more, St.to], by simp [chenR, more, St.to], by simp [chenR, more, St.to], fun _ => ⟨?_, by simpa [chenR, more, St.to] using hw, by simp [chenR, more, St.to, part]⟩⟩
      show get o l (1 + o.reader) % (csl o : Int) = _
      rw [hg]
      rfl
    | 4, _ =>
      obtain ⟨hb, hi, hr0⟩ := hr4 rfl
      subst hb
      subst hr0
      have hin := chenN_in o l0
      have hk := chenK_in (o := o) (chenN o l0) hin.1 hin.2
      simp only [chenR, more, word, hwr, Bool.false_eq_true, if_false]
      rw [hA.2 (chenK o (chenN o l0) + i) (.inr (by omega)), ← part_succ]
      by_cases hlt : i + 1 < o.width
      · rw [if_pos hlt]
        exact .inl ⟨rfl, by simp, hA, by simp, by simp, by simp, by simp, fun _ => ⟨rfl, hlt, rfl⟩⟩
      · rw [if_neg hlt]
        have : i + 1 = o.width := by omega
        exact .inr ⟨rfl, rfl, hA, by simp [St.fin, this]⟩
  · rw [hov] at h
    cases h
theorem chen_told (o : Im) (l0 last : List Int) (s : St) (l : List Int) (h0 : ChenHolds o l0 last) (h : chenJR o l0 s l) (hov : s.over = true) : s.code = 0 ∧ s.rc = last ∧ l.length = l0.length ∧ ChenHolds o l last := by
  rcases h with ⟨h, _⟩ | ⟨_, hc, hl, hr⟩
  · rw [hov] at h
    cases h
  · have hlen := h0.len
    have hin := chenN_in o l0
    have hk := chenK_in (o := o) (chenN o l0) hin.1 hin.2
    have gn : chenN o l = chenN o l0 := by unfold chenN; rw [hl.2 0 (.inl rfl)]
    refine ⟨hc, hr.trans h0.is, hl.1, by rw [hl.1]; exact hlen, ?_⟩
    rw [gn, ← h0.is]
    exact part_sameC fun j hj => hl.2 _ (.inr (by omega))

end Go.Proofs.YtejajmdmfipplabDoor.Op
