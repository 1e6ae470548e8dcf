/-
  A queue between two counters (chapter 19), step by step: plain. (a: the count by its modulus, as the chapter tells it; b: the word that the program keeps.)
-/
import Derived.Test.YtejajmdmfipplabOpSeq
set_option linter.unusedSimpArgs false
set_option linter.unusedVariables false
namespace Go.Proofs.Ytejajmdmfipplab.Op

def fmod (o : Im) : Int := 2 * (o.slots : Int)
def fifoK (o : Im) (b : Int) : Nat := 2 + (b % (o.slots : Int)).toNat * o.width
def fgap (m x y : Int) : Int := (y % m + m - x % m) % m
def fifoW (o : Im) (s : St) (l : List Int) : St × List Int :=
  match s.row with
  | 0 => ({ s.to 1 with a := get o l 1 % fmod o, b := get o l 1 }, l)
  | 1 => if (o.slots : Int) ≤ fgap (fmod o) (get o l 0) s.b then (s.fin true 2, l) else (s.to 2, l)
  | 2 => word o s l (fifoK o s.b) (some 3)
  | _ => (s.fin true 0, put o l 1 ((s.b + 1) % fmod o))
def fifoR (o : Im) (s : St) (l : List Int) : St × List Int :=
  match s.row with
  | 0 => ({ s.to 1 with a := get o l 0 % fmod o, b := get o l 0 }, l)
  | 1 => if fgap (fmod o) s.b (get o l 1) = 0 then (s.fin false 3, l) else (s.to 2, l)
  | 2 => word o s l (fifoK o s.b) (some 3)
  | _ => (s.fin false 0, put o l 0 ((s.b + 1) % fmod o))
def fifo (o : Im) (s : St) (l : List Int) : St × List Int := if o.wr then fifoW o (more s) l else fifoR o (more s) l
def fifoOk (o : Im) (s : St) : Prop :=
  (0 ≤ s.b ∧ s.b < 4294967296) ∧ s.a = s.b % fmod o ∧ s.used = List.replicate 20 false ∧ s.tries = 0 ∧
  (s.over = false → s.code = 0 ∧ s.row ≤ 3 ∧ (s.row ≠ 2 → s.i = 0) ∧ (s.row = 2 → s.i < o.width) ∧
    (o.wr = true → s.rc.length = o.width) ∧
    (o.wr = false → (s.row ≤ 1 → s.rc = []) ∧ (s.row = 2 → s.rc.length = s.i) ∧ (s.row = 3 → s.rc.length = o.width)))
def fifoRank (o : Im) (s : St) : Nat :=
  if s.over then 0 else (match s.row with | 0 => o.width + 3 | 1 => o.width + 2 | 2 => o.width + 1 - s.i | _ => 1)
def fifoAl (o : Im) : Prop := (0 < o.width ∧ o.width ≤ 8) ∧ (1 ≤ o.slots ∧ o.slots ≤ 16)

theorem fmod_bd {o : Im} (h : fifoAl o) : 0 < fmod o ∧ fmod o ≤ 32 := by
  unfold fmod
  have := h.2
  omega
theorem fmod_in {o : Im} (h : fifoAl o) (x : Int) : 0 ≤ x % fmod o ∧ x % fmod o < 4294967296 := by
  have := fmod_bd h
  exact ⟨Int.emod_nonneg _ (by omega), by have := Int.emod_lt_of_pos x this.1; omega⟩

theorem fifoW_fine (o : Im) (s : St) (l : List Int) (al : fifoAl o) (hwr : o.wr = true) (h : fifoOk o s) (hr : Wd s.rc) (hl : Wd l) (hov : s.over = false) : Fine fifoOk fifoRank o s l (fifo o s l) := by
  have hw := al.1.1
  obtain ⟨hb, ha, hu, ht, h4⟩ := h
  obtain ⟨hc, h5, h7, h8, h6, _⟩ := h4 hov
  have h6 := h6 hwr
  have e : fifo o s l = fifoW o (more s) l := by unfold fifo; rw [if_pos hwr]
  rw [e]
  have gr := getD_wd hr s.i
  have nr : ∀ {p : Prop}, o.wr = false → p := fun h => by rw [hwr] at h; cases h
  obtain ⟨row, i, rec, a, b, used, tries, steps, code, over⟩ := s
  simp only at *
  subst hov
  match row, h5 with
  | 0, _ =>
    have hi := h7 (by omega)
    subst hi
    refine ⟨⟨hl.get o 1, rfl, hu, ht, fun _ => ⟨hc, by simp [fifoW, more, St.to], by simp [fifoW, more, St.to], by simp [fifoW, more, St.to], fun _ => h6, nr⟩⟩, hr, hl, rfl, rfl, ?_⟩
    simp [fifoW, more, St.to, fifoRank]
  | 1, _ =>
    have hi := h7 (by omega)
    subst hi
    by_cases hfull : (o.slots : Int) ≤ fgap (fmod o) (get o l 0) b
    · simp only [fifoW, more, hfull, ↓reduceIte]
      refine ⟨⟨hb, ha, hu, ht, (fun h => by cases h)⟩, ?_, hl, rfl, rfl, ?_⟩
      · simp [St.fin, Wd]
      · simp [St.fin, fifoRank]
    · simp only [fifoW, more, hfull, ↓reduceIte]
      refine ⟨⟨hb, ha, hu, ht, fun _ => ⟨hc, by simp [St.to], by simp [St.to], by simpa [St.to] using hw, fun _ => h6, nr⟩⟩, hr, hl, rfl, rfl, ?_⟩
      simp [St.to, fifoRank]
  | 2, _ =>
    have hi := h8 rfl
    simp only [fifoW, more, word, hwr, if_true]
    by_cases hlt : i + 1 < o.width
    · rw [if_pos hlt]
      refine ⟨⟨hb, ha, hu, ht, fun _ => ⟨hc, by simp, by simp, fun _ => hlt, fun _ => h6, nr⟩⟩, hr, hl.put _ _ gr, put_length _ _ _ _, rfl, ?_⟩
      simp [fifoRank]; omega
    · rw [if_neg hlt]
      refine ⟨⟨hb, ha, hu, ht, fun _ => ⟨hc, by simp [St.to], by simp [St.to], by simp [St.to], fun _ => h6, nr⟩⟩, hr, hl.put _ _ gr, put_length _ _ _ _, rfl, ?_⟩
      simp [fifoRank, St.to]; omega
  | 3, _ =>
    have hi := h7 (by omega)
    subst hi
    refine ⟨⟨hb, ha, hu, ht, (fun h => by cases h)⟩, ?_, hl.put _ _ (fmod_in al _), put_length _ _ _ _, rfl, ?_⟩
    · simp [fifoW, more, St.fin, Wd]
    · simp [fifoW, more, St.fin, fifoRank]
theorem fifoR_fine (o : Im) (s : St) (l : List Int) (al : fifoAl o) (hwr : o.wr = false) (h : fifoOk o s) (hr : Wd s.rc) (hl : Wd l) (hov : s.over = false) : Fine fifoOk fifoRank o s l (fifo o s l) := by
  have hw := al.1.1
  obtain ⟨hb, ha, hu, ht, h4⟩ := h
  obtain ⟨hc, h5, h7, h8, _, h6⟩ := h4 hov
  obtain ⟨k0, k1, k2⟩ := h6 hwr
  have e : fifo o s l = fifoR o (more s) l := by unfold fifo; rw [if_neg (by simp [hwr])]
  rw [e]
  have g := fun k => hl.get o k
  have nw : ∀ {p : Prop}, o.wr = true → p := fun h => by rw [hwr] at h; cases h
  obtain ⟨row, i, rec, a, b, used, tries, steps, code, over⟩ := s
  simp only at *
  subst hov
  match row, h5 with
  | 0, _ =>
    have hi := h7 (by omega)
    subst hi
    have hrc := k0 (by omega)
    subst hrc
    simp only [fifoR, more]
    refine ⟨⟨g 0, rfl, hu, ht, fun _ => ⟨hc, by simp [St.to], by simp [St.to], by simp [St.to], nw, fun _ => ⟨fun _ => rfl, by simp [St.to], by simp [St.to]⟩⟩⟩, hr, hl, rfl, rfl, ?_⟩
    simp [St.to, fifoRank]
  | 1, _ =>
    have hi := h7 (by omega)
    subst hi
    have hrc := k0 (by omega)
    subst hrc
    by_cases hempty : fgap (fmod o) b (get o l 1) = 0
    · simp only [fifoR, more, hempty, ↓reduceIte]
      refine ⟨⟨hb, ha, hu, ht, (fun h => by cases h)⟩, ?_, hl, rfl, rfl, ?_⟩
      · simp [St.fin, Wd]
      · simp [St.fin, fifoRank]
    · simp only [fifoR, more, hempty, ↓reduceIte]
      refine ⟨⟨hb, ha, hu, ht, fun _ => ⟨hc, by simp [St.to], by simp [St.to], by simpa [St.to] using hw, nw, fun _ => ⟨by simp [St.to], fun _ => by simp [St.to], by simp [St.to]⟩⟩⟩, hr, hl, rfl, rfl, ?_⟩
      simp [St.to, fifoRank]
  | 2, _ =>
    have hi := h8 rfl
    have hrl := k1 rfl
    have hrec : Wd (rec ++ [get o l (fifoK o b + i)]) := by
      intro x hx
      rcases List.mem_append.1 hx with hx | hx
      · exact hr x hx
      · simp at hx
        subst hx
        exact g _
    simp only [fifoR, more, word, hwr, Bool.false_eq_true, if_false]
    by_cases hlt : i + 1 < o.width
    · rw [if_pos hlt]
      refine ⟨⟨hb, ha, hu, ht, fun _ => ⟨hc, by simp, by simp, fun _ => hlt, nw, fun _ => ⟨by simp, fun _ => by simp [hrl], by simp⟩⟩⟩, hrec, hl, rfl, rfl, ?_⟩
      simp [fifoRank]; omega
    · rw [if_neg hlt]
      refine ⟨⟨hb, ha, hu, ht, fun _ => ⟨hc, by simp [St.to], by simp [St.to], by simp [St.to], nw, fun _ => ⟨by simp [St.to], by simp [St.to], fun _ => (by simp [St.to, hrl]; omega)⟩⟩⟩, by simpa [St.to] using hrec, hl, rfl, rfl, ?_⟩
      simp [fifoRank, St.to]; omega
  | 3, _ =>
    have hi := h7 (by omega)
    subst hi
    simp only [fifoR, more]
    refine ⟨⟨hb, ha, hu, ht, (fun h => by cases h)⟩, by simpa [St.fin] using hr, hl.put _ _ (fmod_in al _), put_length _ _ _ _, rfl, ?_⟩
    simp [St.fin, fifoRank]
theorem fifo_fine (o : Im) (s : St) (l : List Int) (al : fifoAl o) (h : fifoOk o s) (hr : Wd s.rc) (hl : Wd l) (hov : s.over = false) : Fine fifoOk fifoRank o s l (fifo o s l) := by
  cases hwr : o.wr
  · exact fifoR_fine o s l al hwr h hr hl hov
  · exact fifoW_fine o s l al hwr h hr hl hov
theorem fifo_start (o : Im) (rec : List Int) (h1 : o.wr = true → rec.length = o.width) (h2 : o.wr = false → rec = []) : fifoOk o (start rec) := by
  refine ⟨by simp [start], by simp [start], rfl, rfl, fun _ => ⟨rfl, by simp [start], fun _ => rfl, by simp [start], h1, fun h => ⟨fun _ => h2 h, by simp [start], by simp [start]⟩⟩⟩
theorem fifo_done (o : Im) (s : St) (l : List Int) (h : fifoOk o s) (hov : s.over = false) (hd : (fifo o s l).1.over = true) :
    (o.wr = true ∨ (fifo o s l).1.code ≠ 0 → (fifo o s l).1.rc = []) ∧ (o.wr = false → (fifo o s l).1.code = 0 → (fifo o s l).1.rc.length = o.width) := by
  obtain ⟨hb, ha, hu, ht, h4⟩ := h
  obtain ⟨hc, k1, h7, h8, h5, h6⟩ := h4 hov
  cases hwr : o.wr
  · have e : fifo o s l = fifoR o (more s) l := by unfold fifo; rw [if_neg (by simp [hwr])]
    rw [e] at hd ⊢
    obtain ⟨k0, k2, k3⟩ := h6 hwr
    obtain ⟨row, i, rec, a, b, used, tries, steps, code, over⟩ := s
    simp only at *
    subst hov
    match row, k1 with
    | 0, _ => simp [fifoR, more, St.to] at hd
    | 1, _ =>
      by_cases hempty : fgap (fmod o) b (get o l 1) = 0
      · simp only [fifoR, more, hempty, ↓reduceIte]
        simp [St.fin]
      · simp only [fifoR, more, hempty, ↓reduceIte] at hd
        simp [St.to] at hd
    | 2, _ =>
      simp only [fifoR, more, word, hwr, Bool.false_eq_true, if_false] at hd ⊢
      by_cases hlt : i + 1 < o.width
      · rw [if_pos hlt] at hd
        simp at hd
      · rw [if_neg hlt] at hd
        simp [St.to] at hd
    | 3, _ =>
      have := k3 rfl
      simp [fifoR, more, St.fin, this]
  · have e : fifo o s l = fifoW o (more s) l := by unfold fifo; rw [if_pos hwr]
    rw [e] at hd ⊢
    obtain ⟨row, i, rec, a, b, used, tries, steps, code, over⟩ := s
    simp only at *
    subst hov
    match row, k1 with
    | 0, _ => simp [fifoW, more, St.to] at hd
    | 1, _ =>
      by_cases hfull : (o.slots : Int) ≤ fgap (fmod o) (get o l 0) b
      · simp only [fifoW, more, hfull, ↓reduceIte]
        simp [St.fin]
      · simp only [fifoW, more, hfull, ↓reduceIte] at hd
        simp [St.to] at hd
    | 2, _ =>
      simp only [fifoW, more, word, hwr, if_true] at hd ⊢
      by_cases hlt : i + 1 < o.width
      · rw [if_pos hlt] at hd
        simp at hd
      · rw [if_neg hlt] at hd
        simp [St.to] at hd
    | 3, _ => simp [fifoW, more, St.fin]
theorem fifo_pos (o : Im) (s : St) (h : fifoOk o s) (hov : s.over = false) : 0 < fifoRank o s := by
  obtain ⟨_, _, _, _, h4⟩ := h
  obtain ⟨_, k1, _, k4, _⟩ := h4 hov
  obtain ⟨row, i, rec, a, b, used, tries, steps, code, over⟩ := s
  simp only at *
  subst hov
  unfold fifoRank
  match row, k1 with
  | 0, _ => simp
  | 1, _ => simp
  | 2, _ => have := k4 rfl; simp; omega
  | 3, _ => simp
theorem fifoLaw : Law fifo fifoOk fifoRank fifoAl :=
  ⟨fun o s l ha h hr hl hov => fifo_fine o s l ha h hr hl hov, fun o s l _ h hov hd => fifo_done o s l h hov hd, fun o s _ h hov => fifo_pos o s h hov⟩
def fifoMost (o : Im) : Nat := o.width + 3
theorem fifo_first (o : Im) (rec : List Int) (hr : Wd rec) (h1 : o.wr = true → rec.length = o.width) (h2 : o.wr = false → rec = []) : Live fifoOk fifoRank o (fifoMost o) (start rec) := by
  refine ⟨fifo_start o rec h1 h2, hr, fun h => (by simp [start] at h), ?_⟩
  unfold fifoRank fifoMost start
  simp

end Go.Proofs.Ytejajmdmfipplab.Op
