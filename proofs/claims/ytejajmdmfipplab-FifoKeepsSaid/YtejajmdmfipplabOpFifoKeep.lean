/-
  Puts and takes, one behind the other, are those of a plain queue, as long as nobody else writes: plain.
-/
import Derived.Test.YtejajmdmfipplabOpFifo
import Derived.Test.YtejajmdmfipplabOpKeep
set_option linter.unusedSimpArgs false
set_option linter.unusedVariables false
namespace Go.Proofs.Ytejajmdmfipplab.Op

theorem fifoK_in {o : Im} (h : fifoAl o) (b : Int) : 2 ≤ fifoK o b ∧ fifoK o b + o.width ≤ 2 + o.slots * o.width := by
  have h1 := h.1
  have h2 := h.2
  have h0 := Int.emod_nonneg b (show (o.slots : Int) ≠ 0 by omega)
  have h3 := Int.emod_lt_of_pos b (show (0 : Int) < o.slots by omega)
  have := Nat.mul_le_mul_right o.width (show (b % (o.slots : Int)).toNat + 1 ≤ o.slots by omega)
  rw [Nat.add_mul] at this
  unfold fifoK
  omega
/-- two counts less than so many apart lead to slots apart -/
theorem fifoK_far {o : Im} (al : fifoAl o) (h : Int) (i j : Nat) (hi : i < j) (hj : j < i + o.slots) :
    fifoK o ((h + i) % fmod o) + o.width ≤ fifoK o ((h + j) % fmod o) ∨ fifoK o ((h + j) % fmod o) + o.width ≤ fifoK o ((h + i) % fmod o) := by
  have hs := al.2
  have s0 : (o.slots : Int) ≠ 0 := by omega
  have e : ∀ x : Int, x % fmod o % (o.slots : Int) = x % (o.slots : Int) := fun x => by
    unfold fmod
    exact Int.emod_emod_of_dvd _ ⟨2, by rw [Int.mul_comm]⟩
  have ne : (h + i) % (o.slots : Int) ≠ (h + j) % (o.slots : Int) := by
    intro he
    have hd := Int.emod_emod_of_dvd (h + j - (h + i)) (Int.dvd_refl (o.slots : Int))
    have h0 := Int.emod_eq_emod_iff_emod_sub_eq_zero.1 he.symm
    rw [show h + (j : Int) - (h + i) = ((j - i : Nat) : Int) by omega] at h0
    rw [Int.emod_eq_of_lt (by omega) (by omega)] at h0
    omega
  have a0 := Int.emod_nonneg (h + i) s0
  have b0 := Int.emod_nonneg (h + j) s0
  unfold fifoK
  rw [e, e]
  generalize (h + i) % (o.slots : Int) = x at *
  generalize (h + j) % (o.slots : Int) = y at *
  have hx : x.toNat < y.toNat ∨ y.toNat < x.toNat := by omega
  rcases hx with hx | hx
  · left
    have := Nat.mul_le_mul_right o.width (show x.toNat + 1 ≤ y.toNat by omega)
    rw [Nat.add_mul] at this
    omega
  · right
    have := Nat.mul_le_mul_right o.width (show y.toNat + 1 ≤ x.toNat by omega)
    rw [Nat.add_mul] at this
    omega
theorem fgap_count {m h : Int} {n : Nat} (h0 : 0 ≤ h ∧ h < m) (hn : (n : Int) < m) : fgap m h ((h + n) % m) = n := by
  unfold fgap
  rw [Int.emod_emod_of_dvd _ (Int.dvd_refl m), Int.emod_eq_of_lt h0.1 h0.2]
  by_cases hlt : h + n < m
  · rw [Int.emod_eq_of_lt (by omega) hlt, show h + (n : Int) + m - h = (n : Int) + m by omega, Int.add_emod_right, Int.emod_eq_of_lt (by omega) hn]
  · have e : (h + n) % m = h + n - m := by
      rw [← Int.sub_emod_right, Int.emod_eq_of_lt (by omega) (by omega)]
    rw [e, show h + (n : Int) - m + m - h = n by omega, Int.emod_eq_of_lt (by omega) hn]

/-- the object holds a queue of records -/
structure FifoHolds (o : Im) (l : List Int) (q : List (List Int)) : Prop where
  len : o.at_ + (2 + o.slots * o.width) ≤ l.length
  hd : 0 ≤ get o l 0 ∧ get o l 0 < fmod o
  few : q.length ≤ o.slots
  tl : get o l 1 = (get o l 0 + q.length) % fmod o
  is : ∀ (i : Nat) (h : i < q.length), part o l (fifoK o ((get o l 0 + i) % fmod o)) o.width = q[i]

theorem FifoHolds.gap {o : Im} {l : List Int} {q : List (List Int)} (al : fifoAl o) (h : FifoHolds o l q) : fgap (fmod o) (get o l 0) (get o l 1) = q.length := by
  rw [h.tl]
  exact fgap_count h.hd (by have := h.few; have := al.2; unfold fmod; omega)

/-- a put into a queue that is not full -/
def fifoJ (o : Im) (l0 rec : List Int) (s : St) (l : List Int) : Prop :=
  (s.over = false ∧ s.rc = rec ∧ s.row ≤ 3 ∧ (1 ≤ s.row → s.b = get o l0 1) ∧
    ((s.row ≤ 1 ∧ s.i = 0 ∧ l = l0) ∨ (s.row = 2 ∧ s.i < o.width ∧ l = lay l0 (o.at_ + fifoK o (get o l0 1)) (rec.take s.i)) ∨
      (s.row = 3 ∧ l = lay l0 (o.at_ + fifoK o (get o l0 1)) rec))) ∨
  (s.over = true ∧ s.code = 0 ∧ s.rc = [] ∧ l = put o (lay l0 (o.at_ + fifoK o (get o l0 1)) rec) 1 ((get o l0 1 + 1) % fmod o))
theorem fifoJ_step (o : Im) (l0 rec : List Int) (s : St) (l : List Int) (hwr : o.wr = true) (hrec : rec.length = o.width) (hw : 0 < o.width) (hnf : ¬ (o.slots : Int) ≤ fgap (fmod o) (get o l0 0) (get o l0 1)) (h : fifoJ o l0 rec s l) (hov : s.over = false) : fifoJ o l0 rec (fifo o s l).1 (fifo o s l).2 := by
  rcases h with ⟨_, hr, h4, ha, h⟩ | ⟨h, _⟩
  · have e : fifo o s l = fifoW o (more s) l := by unfold fifo; rw [if_pos hwr]
    rw [e]
    obtain ⟨row, i, rc, a, b, used, tries, steps, code, over⟩ := s
    simp only at *
    subst hov
    subst hr
    rcases h with ⟨h1, hi, rfl⟩ | ⟨rfl, hi, rfl⟩ | ⟨rfl, rfl⟩
    · subst hi
      match row, h1 with
      | 0, _ => exact .inl ⟨rfl, rfl, by simp [fifoW, more, St.to], fun _ => rfl, .inl ⟨by simp [fifoW, more, St.to], rfl, rfl⟩⟩
      | 1, _ =>
        have ha' := ha (by omega)
        subst ha'
        simp only [fifoW, more, hnf, ↓reduceIte]
        exact .inl ⟨rfl, rfl, by simp [St.to], fun _ => rfl, .inr (.inl ⟨rfl, hw, by simp [St.to, lay]⟩)⟩
    · have ha' := ha (by omega)
      subst ha'
      simp only [fifoW, more, word, hwr, if_true]
      have hl : put o (lay l0 (o.at_ + fifoK o (get o l0 1)) (rc.take i)) (fifoK o (get o l0 1) + i) (rc.getD i 0) = lay l0 (o.at_ + fifoK o (get o l0 1)) (rc.take (i + 1)) := by
        have hlt : i < rc.length := by omega
        rw [List.take_succ_eq_append_getElem hlt, lay_snoc, List.length_take, Nat.min_eq_left (by omega)]
        conv => lhs; unfold put
        rw [List.getD_eq_getElem?_getD, List.getElem?_eq_getElem hlt, Nat.add_assoc]
        rfl
      rw [hl]
      by_cases hlt : i + 1 < o.width
      · rw [if_pos hlt]
        exact .inl ⟨rfl, rfl, by simp, fun _ => rfl, .inr (.inl ⟨rfl, hlt, rfl⟩)⟩
      · rw [if_neg hlt]
        exact .inl ⟨rfl, rfl, by simp [St.to], fun _ => rfl, .inr (.inr ⟨rfl, by rw [List.take_of_length_le (by omega)]⟩)⟩
    · have ha' := ha (by omega)
      subst ha'
      exact .inr ⟨rfl, rfl, by simp [fifoW, more, St.fin], rfl⟩
  · rw [hov] at h
    cases h
/-- an operation that finds the queue full, or empty -/
def fifoJX (o : Im) (l0 : List Int) (k : Nat) (code : Int) (s : St) (l : List Int) : Prop :=
  l = l0 ∧ ((s.over = false ∧ s.row ≤ 1 ∧ s.steps = s.row ∧ (1 ≤ s.row → s.b = get o l0 k)) ∨ (s.over = true ∧ s.code = code ∧ s.rc = [] ∧ s.steps = 2))
theorem fifoJF_step (o : Im) (l0 : List Int) (s : St) (l : List Int) (hwr : o.wr = true) (hf : (o.slots : Int) ≤ fgap (fmod o) (get o l0 0) (get o l0 1)) (h : fifoJX o l0 1 2 s l) (hov : s.over = false) : fifoJX o l0 1 2 (fifo o s l).1 (fifo o s l).2 := by
  obtain ⟨rfl, ⟨_, h4, hst, ha⟩ | ⟨h, _⟩⟩ := h
  · have e : fifo o s l = fifoW o (more s) l := by unfold fifo; rw [if_pos hwr]
    rw [e]
    obtain ⟨row, i, rc, a, b, used, tries, steps, code, over⟩ := s
    simp only at *
    subst hov
    match row, h4 with
    | 0, _ => exact ⟨rfl, .inl ⟨rfl, by simp [fifoW, more, St.to], by simp [fifoW, more, St.to, hst], fun _ => rfl⟩⟩
    | 1, _ =>
      have ha' := ha (by omega)
      subst ha'
      simp only [fifoW, more, hf, ↓reduceIte]
      exact ⟨rfl, .inr ⟨rfl, rfl, by simp [St.fin], by simp [St.fin, hst]⟩⟩
  · rw [hov] at h
    cases h
theorem fifoJE_step (o : Im) (l0 : List Int) (s : St) (l : List Int) (hwr : o.wr = false) (hf : fgap (fmod o) (get o l0 0) (get o l0 1) = 0) (h : fifoJX o l0 0 3 s l) (hov : s.over = false) : fifoJX o l0 0 3 (fifo o s l).1 (fifo o s l).2 := by
  obtain ⟨rfl, ⟨_, h4, hst, ha⟩ | ⟨h, _⟩⟩ := h
  · have e : fifo o s l = fifoR o (more s) l := by unfold fifo; rw [if_neg (by simp [hwr])]
    rw [e]
    obtain ⟨row, i, rc, a, b, used, tries, steps, code, over⟩ := s
    simp only at *
    subst hov
    match row, h4 with
    | 0, _ => exact ⟨rfl, .inl ⟨rfl, by simp [fifoR, more, St.to], by simp [fifoR, more, St.to, hst], fun _ => rfl⟩⟩
    | 1, _ =>
      have ha' := ha (by omega)
      subst ha'
      simp only [fifoR, more, hf, ↓reduceIte]
      exact ⟨rfl, .inr ⟨rfl, rfl, by simp [St.fin], by simp [St.fin, hst]⟩⟩
  · rw [hov] at h
    cases h
/-- a take from a queue that is not empty -/
def fifoJR (o : Im) (l0 : List Int) (s : St) (l : List Int) : Prop :=
  (s.over = false ∧ l = l0 ∧ s.row ≤ 3 ∧ (1 ≤ s.row → s.b = get o l0 0) ∧ (s.row ≤ 1 → s.i = 0 ∧ s.rc = []) ∧ (s.row = 2 → s.i < o.width ∧ s.rc = part o l0 (fifoK o (get o l0 0)) s.i) ∧ (s.row = 3 → s.rc = part o l0 (fifoK o (get o l0 0)) o.width)) ∨
  (s.over = true ∧ s.code = 0 ∧ s.rc = part o l0 (fifoK o (get o l0 0)) o.width ∧ l = put o l0 0 ((get o l0 0 + 1) % fmod o))
theorem fifoJR_step (o : Im) (l0 : List Int) (s : St) (l : List Int) (hwr : o.wr = false) (hw : 0 < o.width) (hne : ¬ fgap (fmod o) (get o l0 0) (get o l0 1) = 0) (h : fifoJR o l0 s l) (hov : s.over = false) : fifoJR o l0 (fifo o s l).1 (fifo o s l).2 := by
  rcases h with ⟨_, rfl, h4, ha, h0, h2, h3⟩ | ⟨h, _⟩
  · have e : fifo o s l = fifoR o (more s) l := by unfold fifo; rw [if_neg (by simp [hwr])]
    rw [e]
    obtain ⟨row, i, rc, a, b, used, tries, steps, code, over⟩ := s
    simp only at *
    subst hov
    match row, h4 with
    | 0, _ =>
      obtain ⟨hi, hr0⟩ := h0 (by omega)
      subst hi hr0
      exact .inl ⟨rfl, rfl, by simp [fifoR, more, St.to], fun _ => rfl, fun _ => ⟨rfl, rfl⟩, by simp [fifoR, more, St.to], by simp [fifoR, more, St.to]⟩
    | 1, _ =>
      have ha' := ha (by omega)
      subst ha'
      obtain ⟨hi, hr0⟩ := h0 (by omega)
      subst hi hr0
      simp only [fifoR, more, hne, ↓reduceIte]
      exact .inl ⟨rfl, rfl, by simp [St.to], fun _ => rfl, by simp [St.to], fun _ => ⟨hw, by simp [St.to, part]⟩, by simp [St.to]⟩
    | 2, _ =>
      have ha' := ha (by omega)
      subst ha'
      obtain ⟨hi, hr0⟩ := h2 rfl
      subst hr0
      simp only [fifoR, more, word, hwr, Bool.false_eq_true, if_false]
      rw [← part_succ]
      by_cases hlt : i + 1 < o.width
      · rw [if_pos hlt]
        exact .inl ⟨rfl, rfl, by simp, fun _ => rfl, by simp, fun _ => ⟨hlt, rfl⟩, by simp⟩
      · rw [if_neg hlt]
        have : i + 1 = o.width := by omega
        exact .inl ⟨rfl, rfl, by simp [St.to], fun _ => rfl, by simp [St.to], by simp [St.to], fun _ => by simp [St.to, this]⟩
    | 3, _ =>
      have ha' := ha (by omega)
      subst ha'
      have hr0 := h3 rfl
      subst hr0
      exact .inr ⟨rfl, rfl, by simp [fifoR, more, St.fin], rfl⟩
  · rw [hov] at h
    cases h

theorem fifo_stored (o : Im) (l0 rec : List Int) (q : List (List Int)) (s : St) (l : List Int) (al : fifoAl o) (h0 : FifoHolds o l0 q) (hroom : q.length < o.slots) (hrec : rec.length = o.width) (h : fifoJ o l0 rec s l) (hov : s.over = true) : s.code = 0 ∧ s.rc = [] ∧ l.length = l0.length ∧ FifoHolds o l (q ++ [rec]) := by
  rcases h with ⟨h, _⟩ | ⟨_, hc, hrc, hl⟩
  · rw [hov] at h
    cases h
  · have hlen := h0.len
    have hs := al.2
    have hk := fifoK_in al (get o l0 1)
    have hlaid := lay_length rec l0 (o.at_ + fifoK o (get o l0 1))
    have hp2 := put_length o (lay l0 (o.at_ + fifoK o (get o l0 1)) rec) 1 ((get o l0 1 + 1) % fmod o)
    rw [← hl] at hp2
    have g : ∀ j, j ≠ 1 → get o l j = if fifoK o (get o l0 1) ≤ j ∧ j < fifoK o (get o l0 1) + o.width then rec.getD (j - fifoK o (get o l0 1)) 0 else get o l0 j := by
      intro j hj
      rw [hl, get_put _ _ _ _ _ (by rw [hlaid]; omega), if_neg hj, get_lay _ _ _ _ _ (by rw [hrec]; omega), hrec]
    have g0 : get o l 0 = get o l0 0 := by rw [g 0 (by omega), if_neg (by omega)]
    have g1 : get o l 1 = (get o l0 1 + 1) % fmod o := by rw [hl, get_put _ _ _ _ _ (by rw [hlaid]; omega), if_pos rfl]
    refine ⟨hc, hrc, by rw [hp2, hlaid], ⟨by rw [hp2, hlaid]; exact hlen, by rw [g0]; exact h0.hd, by simp; omega, ?_, ?_⟩⟩
    · rw [g0, g1, h0.tl, Int.emod_add_emod, List.length_append]
      congr 1
      simp
      omega
    · intro i hi
      rw [g0]
      have hi' : i < q.length + 1 := by simpa using hi
      by_cases hq : i < q.length
      · rw [List.getElem_append_left hq, ← h0.is i hq]
        have far := fifoK_far al (get o l0 0) i q.length hq (by omega)
        rw [← h0.tl] at far
        have hki := fifoK_in al ((get o l0 0 + i) % fmod o)
        refine part_eq (part_length _ _ _ _) fun j hj => ?_
        rw [g _ (by omega), if_neg (by omega)]
        unfold part
        rw [List.getD_eq_getElem?_getD, List.getElem?_map, List.getElem?_range hj]
        rfl
      · have e : i = q.length := by omega
        subst e
        rw [← h0.tl, List.getElem_append_right (Nat.le_refl _)]
        simp only [Nat.sub_self, List.getElem_cons_zero]
        refine part_eq hrec fun j hj => ?_
        rw [g _ (by omega), if_pos (by omega)]
        congr 1
        omega
theorem fifo_took (o : Im) (l0 rec : List Int) (q : List (List Int)) (s : St) (l : List Int) (al : fifoAl o) (h0 : FifoHolds o l0 (rec :: q)) (h : fifoJR o l0 s l) (hov : s.over = true) : s.code = 0 ∧ s.rc = rec ∧ l.length = l0.length ∧ FifoHolds o l q := by
  rcases h with ⟨h, _⟩ | ⟨_, hc, hrc, hl⟩
  · rw [hov] at h
    cases h
  · have hlen := h0.len
    have hs := al.2
    have hm := fmod_bd al
    have hp2 := put_length o l0 0 ((get o l0 0 + 1) % fmod o)
    rw [← hl] at hp2
    have g : ∀ j, j ≠ 0 → get o l j = get o l0 j := by
      intro j hj
      rw [hl, get_put _ _ _ _ _ (by omega), if_neg hj]
    have g0 : get o l 0 = (get o l0 0 + 1) % fmod o := by rw [hl, get_put _ _ _ _ _ (by omega), if_pos rfl]
    have few := h0.few
    rw [List.length_cons] at few
    refine ⟨hc, ?_, hp2, ⟨by rw [hp2]; exact hlen, by rw [g0]; exact ⟨Int.emod_nonneg _ (by omega), Int.emod_lt_of_pos _ hm.1⟩, by omega, ?_, ?_⟩⟩
    · have := h0.is 0 (by simp)
      rw [hrc, show (get o l0 0 : Int) = (get o l0 0 + (0 : Nat)) % fmod o by rw [show get o l0 0 + ((0 : Nat) : Int) = get o l0 0 by omega, Int.emod_eq_of_lt h0.hd.1 h0.hd.2]]
      exact this
    · rw [g 1 (by omega), h0.tl, g0, Int.emod_add_emod, List.length_cons]
      congr 1
      omega
    · intro i hi
      have := h0.is (i + 1) (by simp; omega)
      rw [List.getElem_cons_succ] at this
      rw [← this, g0, Int.emod_add_emod, show get o l0 0 + 1 + (i : Int) = get o l0 0 + ((i + 1 : Nat) : Int) by omega]
      have hki := fifoK_in al ((get o l0 0 + ((i + 1 : Nat) : Int)) % fmod o)
      refine part_eq (part_length _ _ _ _) fun j hj => ?_
      rw [g _ (by omega)]
      unfold part
      rw [List.getD_eq_getElem?_getD, List.getElem?_map, List.getElem?_range hj]
      rfl

theorem FifoHolds.put_other {o o' : Im} {l : List Int} {q : List (List Int)} (h : FifoHolds o l q) (h1 : o'.at_ = o.at_) (h2 : o'.width = o.width) (h3 : o'.slots = o.slots) : FifoHolds o' l q := by
  obtain ⟨a, w, n, s, c, r, b⟩ := o
  obtain ⟨a', w', n', s', c', r', b'⟩ := o'
  simp only at h1 h2 h3
  subst h1 h2 h3
  exact ⟨h.len, h.hd, h.few, h.tl, h.is⟩
/-- how an operation ends that nobody disturbs -/
def fifoEnd (o : Im) (rec : List Int) (q : List (List Int)) (s : St) (l : List Int) : Prop :=
  if o.wr then (if q.length = o.slots then s.code = 2 ∧ s.rc = [] ∧ s.steps = 2 ∧ FifoHolds o l q else s.code = 0 ∧ s.rc = [] ∧ FifoHolds o l (q ++ [rec]))
  else match q with | [] => s.code = 3 ∧ s.rc = [] ∧ s.steps = 2 ∧ FifoHolds o l [] | r :: q' => s.code = 0 ∧ s.rc = r ∧ FifoHolds o l q'
theorem fifo_case (o : Im) (l0 rec : List Int) (q : List (List Int)) (al : fifoAl o) (h0 : FifoHolds o l0 q) (h1 : o.wr = true → rec.length = o.width) (h2 : o.wr = false → rec = []) :
    ∃ J : St → List Int → Prop, J (start rec) l0 ∧ (∀ s l, J s l → s.over = false → J (fifo o s l).1 (fifo o s l).2) ∧ (∀ s l, J s l → s.over = true → l.length = l0.length ∧ fifoEnd o rec q s l) := by
  have hw := al.1.1
  have hs := al.2
  have hg := h0.gap al
  unfold fifoEnd
  cases hwr : o.wr
  · have hr := h2 hwr
    subst hr
    cases q with
    | nil =>
      refine ⟨fifoJX o l0 0 3, ⟨rfl, .inl ⟨rfl, by simp [start], by simp [start], by simp [start]⟩⟩, fun s l h hov => fifoJE_step o l0 s l hwr (by rw [hg]; rfl) h hov, fun s l h hov => ?_⟩
      obtain ⟨rfl, ⟨h, _⟩ | ⟨_, hc, hr, hst⟩⟩ := h
      · rw [hov] at h; cases h
      · exact ⟨rfl, by simpa using ⟨hc, hr, hst, h0⟩⟩
    | cons r q' =>
      refine ⟨fifoJR o l0, .inl ⟨rfl, rfl, by simp [start], by simp [start], fun _ => ⟨rfl, rfl⟩, by simp [start], by simp [start]⟩, fun s l h hov => fifoJR_step o l0 s l hwr hw (by rw [hg, List.length_cons]; omega) h hov, fun s l h hov => ?_⟩
      obtain ⟨k1, k2, k3, k4⟩ := fifo_took o l0 r q' s l al h0 h hov
      exact ⟨k3, by simpa using ⟨k1, k2, k4⟩⟩
  · have hr := h1 hwr
    have few := h0.few
    by_cases hf : q.length = o.slots
    · refine ⟨fifoJX o l0 1 2, ⟨rfl, .inl ⟨rfl, by simp [start], by simp [start], by simp [start]⟩⟩, fun s l h hov => fifoJF_step o l0 s l hwr (by rw [hg]; omega) h hov, fun s l h hov => ?_⟩
      obtain ⟨rfl, ⟨h, _⟩ | ⟨_, hc, hr, hst⟩⟩ := h
      · rw [hov] at h; cases h
      · refine ⟨rfl, ?_⟩
        rw [if_pos rfl, if_pos hf]
        exact ⟨hc, hr, hst, h0⟩
    · refine ⟨fifoJ o l0 rec, .inl ⟨rfl, rfl, by simp [start], by simp [start], .inl ⟨by simp [start], rfl, rfl⟩⟩, fun s l h hov => fifoJ_step o l0 rec s l hwr hr hw (by rw [hg]; omega) h hov, fun s l h hov => ?_⟩
      obtain ⟨k1, k2, k3, k4⟩ := fifo_stored o l0 rec q s l al h0 (by omega) hr h hov
      refine ⟨k3, ?_⟩
      rw [if_pos rfl, if_neg hf]
      exact ⟨k1, k2, k4⟩

end Go.Proofs.Ytejajmdmfipplab.Op
