/-
  A ring of records behind a counter (chapter 17), step by step: plain. (a: the count by its modulus, as the chapter tells it; b: the word that the program keeps.)
-/
import Derived.Test.YtniglkbfkehfmaaOpSeq
namespace Go.Proofs.Ytniglkbfkehfmaa.Op

def rmod (o : Im) : Int := (o.slots : Int) * 1048576
def ringK (o : Im) (b : Int) : Nat := 1 + (b % (o.slots : Int)).toNat * o.width
def rgap (m x y : Int) : Int := (y % m + m - x % m) % m
def ringW (o : Im) (s : St) (l : List Int) : St × List Int :=
  match s.row with
  | 0 => ({ s.to 1 with a := (get o l 0 + 1) % rmod o, b := (get o l 0 + 1) % rmod o }, l)
  | 1 => word o s l (ringK o s.b) (some 2)
  | _ => (s.fin true 0, put o l 0 s.b)
def ringR (o : Im) (s : St) (l : List Int) : St × List Int :=
  match s.row with
  | 0 => ({ s.to 1 with a := get o l 0 % rmod o, b := get o l 0 }, l)
  | 1 => word o s l (ringK o s.b) (some 2)
  | _ => if rgap (rmod o) s.b (get o l 0) + 1 < (o.slots : Int) then (s.fin false 0, l) else (failS o s, l)
def ring (o : Im) (s : St) (l : List Int) : St × List Int := if o.wr then ringW o (more s) l else ringR o (more s) l
def ringOk (o : Im) (s : St) : Prop :=
  (0 ≤ s.b ∧ s.b < 4294967296) ∧ (s.a = s.b % rmod o ∧ (o.wr = true → 1 ≤ s.row → s.b < rmod o)) ∧ s.used = List.replicate 20 false ∧
  (s.over = false → s.code = 0 ∧ s.tries < o.cap ∧
    (o.wr = true → s.tries = 0 ∧ s.row ≤ 2 ∧ s.rc.length = o.width ∧ (s.row ≠ 1 → s.i = 0) ∧ (s.row = 1 → s.i < o.width)) ∧
    (o.wr = false → s.row ≤ 2 ∧ (s.row = 0 → s.rc = []) ∧ (s.row = 1 → s.rc.length = s.i) ∧ (s.row = 2 → s.rc.length = o.width) ∧ (s.row ≠ 1 → s.i = 0) ∧ (s.row = 1 → s.i < o.width)))
def ringRank (o : Im) (s : St) : Nat :=
  if s.over then 0 else
  if o.wr then (match s.row with | 0 => o.width + 2 | 1 => o.width + 1 - s.i | _ => 1)
  else (o.cap - s.tries - 1) * (o.width + 2) + (match s.row with | 0 => o.width + 2 | 1 => o.width + 1 - s.i | _ => 1)
def ringAl (o : Im) : Prop := (0 < o.width ∧ o.width ≤ 8) ∧ (0 < o.cap ∧ o.cap ≤ 16) ∧ (2 ≤ o.slots ∧ o.slots ≤ 16)

theorem rmod_bd {o : Im} (h : ringAl o) : 0 < rmod o ∧ rmod o ≤ 16777216 := by
  unfold rmod
  have := h.2.2
  omega
theorem rmod_in {o : Im} (h : ringAl o) (x : Int) : 0 ≤ x % rmod o ∧ x % rmod o < 4294967296 := by
  have := rmod_bd h
  exact ⟨Int.emod_nonneg _ (by omega), by have := Int.emod_lt_of_pos x this.1; omega⟩
theorem rmod_twice {o : Im} (x : Int) : x % rmod o = x % rmod o % rmod o := (Int.emod_emod_of_dvd x (Int.dvd_refl _)).symm

theorem ringW_fine (o : Im) (s : St) (l : List Int) (al : ringAl o) (hwr : o.wr = true) (h : ringOk o s) (hr : Wd s.rc) (hl : Wd l) (hov : s.over = false) : Fine ringOk ringRank o s l (ring o s l) := by
  have hw := al.1.1
  obtain ⟨hb, ha, hu, h4⟩ := h
  obtain ⟨hc, htr, h5, _⟩ := h4 hov
  obtain ⟨ht, h5, h6, h7, h8⟩ := h5 hwr
  have e : ring o s l = ringW o (more s) l := by unfold ring; rw [if_pos hwr]
  rw [e]
  have gr := getD_wd hr s.i
  obtain ⟨row, i, rec, a, b, used, tries, steps, code, over⟩ := s
  simp only at *
  subst hov
  match row, h5 with
  | 0, _ =>
    have hi := h7 (by omega)
    subst hi
    have h1 := rmod_in al (get o l 0 + 1)
    have h2 := rmod_twice (o := o) (get o l 0 + 1)
    refine ⟨?_, hr, hl, rfl, rfl, ?_⟩
    · refine ⟨h1, ⟨h2, fun _ _ => Int.emod_lt_of_pos _ (rmod_bd al).1⟩, hu, fun _ => ⟨hc, htr, fun _ => ⟨ht, by simp [ringW, more, St.to], h6, by simp [ringW, more, St.to], fun _ => by simpa [ringW, more, St.to] using hw⟩, (fun h => by rw [hwr] at h; cases h)⟩⟩
    · simp [ringW, more, St.to, ringRank, hwr]
  | 1, _ =>
    have hi := h8 rfl
    simp only [ringW, more, word, hwr, if_true]
    by_cases hlt : i + 1 < o.width
    · rw [if_pos hlt]
      refine ⟨⟨hb, ha, hu, fun _ => ⟨hc, htr, fun _ => ⟨ht, by simp, h6, by simp, fun _ => hlt⟩, (fun h => by rw [hwr] at h; cases h)⟩⟩, hr, hl.put _ _ gr, put_length _ _ _ _, rfl, ?_⟩
      simp [ringRank, hwr]; omega
    · rw [if_neg hlt]
      refine ⟨⟨hb, ⟨ha.1, fun h _ => ha.2 h (Nat.le_refl _)⟩, hu, fun _ => ⟨hc, htr, fun _ => ⟨ht, by simp [St.to], h6, by simp [St.to], by simp [St.to]⟩, (fun h => by rw [hwr] at h; cases h)⟩⟩, hr, hl.put _ _ gr, put_length _ _ _ _, rfl, ?_⟩
      simp [ringRank, St.to, hwr]; omega
  | 2, _ =>
    have hi := h7 (by omega)
    subst hi
    refine ⟨⟨hb, ha, hu, (fun h => by cases h)⟩, ?_, hl.put _ _ hb, put_length _ _ _ _, rfl, ?_⟩
    · simp [ringW, more, St.fin, Wd]
    · simp [ringW, more, St.fin, ringRank, hwr]
theorem ringR_fine (o : Im) (s : St) (l : List Int) (al : ringAl o) (hwr : o.wr = false) (h : ringOk o s) (hr : Wd s.rc) (hl : Wd l) (hov : s.over = false) : Fine ringOk ringRank o s l (ring o s l) := by
  have hw := al.1.1
  obtain ⟨hb, ha, hu, h4⟩ := h
  obtain ⟨hc, htr, _, h5⟩ := h4 hov
  obtain ⟨h5, k0, k1, k2, h7, h8⟩ := h5 hwr
  have e : ring o s l = ringR o (more s) l := by unfold ring; rw [if_neg (by simp [hwr])]
  rw [e]
  have g := fun k => hl.get o k
  have nw : ∀ {p : Prop}, o.wr = true → p := fun h => by rw [hwr] at h; cases h
  obtain ⟨row, i, rec, a, b, used, tries, steps, code, over⟩ := s
  simp only at *
  subst hov
  match row, h5 with
  | 0, _ =>
    have hi := h7 (by omega)
    subst hi
    have hg := g 0
    have hrc := k0 rfl
    subst hrc
    simp only [ringR, more]
    refine ⟨⟨hg, ⟨rfl, nw⟩, hu, fun _ => ⟨hc, htr, nw, fun _ => ⟨by simp [St.to], fun _ => rfl, by simp [St.to], by simp [St.to], by simp [St.to], fun _ => by simpa [St.to] using hw⟩⟩⟩, hr, hl, rfl, rfl, ?_⟩
    simp [St.to, ringRank, hwr]; omega
  | 1, _ =>
    have hi := h8 rfl
    have hrl := k1 rfl
    have hrec : Wd (rec ++ [get o l (ringK o b + i)]) := by
      intro x hx
      rcases List.mem_append.1 hx with hx | hx
      · exact hr x hx
      · simp at hx
        subst hx
        exact g _
    simp only [ringR, more, word, hwr, Bool.false_eq_true, if_false]
    by_cases hlt : i + 1 < o.width
    · rw [if_pos hlt]
      refine ⟨⟨hb, ⟨ha.1, nw⟩, hu, fun _ => ⟨hc, htr, nw, fun _ => ⟨by simp, by simp, fun _ => by simp [hrl], by simp, by simp, fun _ => hlt⟩⟩⟩, hrec, hl, rfl, rfl, ?_⟩
      simp [ringRank, hwr]; omega
    · rw [if_neg hlt]
      refine ⟨⟨hb, ⟨ha.1, nw⟩, hu, fun _ => ⟨hc, htr, nw, fun _ => ⟨by simp [St.to], by simp [St.to], by simp [St.to], fun _ => (by simp [St.to, hrl]; omega), by simp [St.to], by simp [St.to]⟩⟩⟩, by simpa [St.to] using hrec, hl, rfl, rfl, ?_⟩
      simp [ringRank, St.to, hwr]; omega
  | 2, _ =>
    have hi := h7 (by omega)
    subst hi
    have hrl := k2 rfl
    by_cases hfresh : rgap (rmod o) b (get o l 0) + 1 < (o.slots : Int)
    · simp only [ringR, more, hfresh, ↓reduceIte]
      refine ⟨⟨hb, ⟨ha.1, nw⟩, hu, (fun h => by cases h)⟩, by simpa [St.fin] using hr, hl, rfl, rfl, ?_⟩
      simp [St.fin, ringRank, hwr]
    · simp only [ringR, more, hfresh, ↓reduceIte]
      unfold failS
      by_cases hcap : o.cap ≤ tries + 1
      · rw [if_pos hcap]
        refine ⟨⟨hb, ⟨ha.1, nw⟩, hu, (fun h => by cases h)⟩, ?_, hl, rfl, rfl, ?_⟩
        · simp [St.fin, Wd]
        · simp [St.fin, ringRank, hwr]
      · rw [if_neg hcap]
        refine ⟨⟨hb, ⟨ha.1, nw⟩, hu, fun _ => ⟨hc, (by simp only; omega), nw, fun _ => ⟨by simp, fun _ => rfl, by simp, by simp, by simp, by simp⟩⟩⟩, (fun x hx => by cases hx), hl, rfl, rfl, ?_⟩
        have := rank_fail (W := o.width) (q := 1) htr hcap
        simp [ringRank, hwr]; omega
theorem ring_fine (o : Im) (s : St) (l : List Int) (al : ringAl o) (h : ringOk o s) (hr : Wd s.rc) (hl : Wd l) (hov : s.over = false) : Fine ringOk ringRank o s l (ring o s l) := by
  cases hwr : o.wr
  · exact ringR_fine o s l al hwr h hr hl hov
  · exact ringW_fine o s l al hwr h hr hl hov
theorem ring_start (o : Im) (rec : List Int) (hc : 0 < o.cap) (h1 : o.wr = true → rec.length = o.width) (h2 : o.wr = false → rec = []) : ringOk o (start rec) := by
  refine ⟨by simp [start], by simp [start], rfl, fun _ => ⟨rfl, hc, fun h => ⟨rfl, by simp [start], h1 h, fun _ => rfl, by simp [start]⟩, fun h => ⟨by simp [start], fun _ => h2 h, by simp [start], by simp [start], fun _ => rfl, by simp [start]⟩⟩⟩
theorem ring_done (o : Im) (s : St) (l : List Int) (h : ringOk o s) (hov : s.over = false) (hd : (ring o s l).1.over = true) :
    (o.wr = true ∨ (ring o s l).1.code ≠ 0 → (ring o s l).1.rc = []) ∧ (o.wr = false → (ring o s l).1.code = 0 → (ring o s l).1.rc.length = o.width) := by
  obtain ⟨hb, ha, hu, h4⟩ := h
  obtain ⟨hc, htr, h5, h6⟩ := h4 hov
  cases hwr : o.wr
  · have e : ring o s l = ringR o (more s) l := by unfold ring; rw [if_neg (by simp [hwr])]
    rw [e] at hd ⊢
    obtain ⟨k1, k0, k2, k3, k4, k5⟩ := h6 hwr
    obtain ⟨row, i, rec, a, b, used, tries, steps, code, over⟩ := s
    simp only at *
    subst hov
    match row, k1 with
    | 0, _ => simp [ringR, more, St.to] at hd
    | 1, _ =>
      simp only [ringR, more, word, hwr, Bool.false_eq_true, if_false] at hd ⊢
      by_cases hlt : i + 1 < o.width
      · rw [if_pos hlt] at hd
        simp at hd
      · rw [if_neg hlt] at hd
        simp [St.to] at hd
    | 2, _ =>
      have hrl := k3 rfl
      by_cases hfresh : rgap (rmod o) b (get o l 0) + 1 < (o.slots : Int)
      · simp only [ringR, more, hfresh, ↓reduceIte] at hd ⊢
        simp [St.fin, hrl]
      · simp only [ringR, more, hfresh, ↓reduceIte] at hd ⊢
        unfold failS at hd ⊢
        by_cases hcap : o.cap ≤ tries + 1
        · rw [if_pos hcap]
          simp [St.fin]
        · rw [if_neg hcap] at hd
          simp at hd
  · have e : ring o s l = ringW o (more s) l := by unfold ring; rw [if_pos hwr]
    rw [e] at hd ⊢
    obtain ⟨k0, k1, k2, k3, k4⟩ := h5 hwr
    obtain ⟨row, i, rec, a, b, used, tries, steps, code, over⟩ := s
    simp only at *
    subst hov
    match row, k1 with
    | 0, _ => simp [ringW, more, St.to] at hd
    | 1, _ =>
      simp only [ringW, more, word, hwr, if_true] at hd ⊢
      by_cases hlt : i + 1 < o.width
      · rw [if_pos hlt] at hd
        simp at hd
      · rw [if_neg hlt] at hd
        simp [St.to] at hd
    | 2, _ => simp [ringW, more, St.fin]
theorem ring_pos (o : Im) (s : St) (h : ringOk o s) (hov : s.over = false) : 0 < ringRank o s := by
  obtain ⟨_, _, _, h4⟩ := h
  obtain ⟨_, _, h5, h6⟩ := h4 hov
  obtain ⟨row, i, rec, a, b, used, tries, steps, code, over⟩ := s
  simp only at *
  subst hov
  unfold ringRank
  cases hwr : o.wr
  · obtain ⟨k1, _, _, _, _, k4⟩ := h6 hwr
    match row, k1 with
    | 0, _ => simp; omega
    | 1, _ => have := k4 rfl; simp; omega
    | 2, _ => simp
  · obtain ⟨_, k1, k2, k3, k4⟩ := h5 hwr
    match row, k1 with
    | 0, _ => simp
    | 1, _ => have := k4 rfl; simp; omega
    | 2, _ => simp
theorem ringLaw : Law ring ringOk ringRank ringAl :=
  ⟨fun o s l ha h hr hl hov => ring_fine o s l ha h hr hl hov, fun o s l _ h hov hd => ring_done o s l h hov hd, fun o s _ h hov => ring_pos o s h hov⟩
def ringMost (o : Im) : Nat := if o.wr then o.width + 2 else o.cap * (o.width + 2)
theorem ring_first (o : Im) (ha : ringAl o) (rec : List Int) (hr : Wd rec) (h1 : o.wr = true → rec.length = o.width) (h2 : o.wr = false → rec = []) : Live ringOk ringRank o (ringMost o) (start rec) := by
  refine ⟨ring_start o rec ha.2.1.1 h1 h2, hr, fun h => (by simp [start] at h), ?_⟩
  unfold ringRank ringMost start
  cases o.wr
  · have e : o.cap = (o.cap - 0 - 1) + 1 := by have := ha.2.1.1; omega
    simp only [Bool.false_eq_true, if_false]
    have : o.cap * (o.width + 2) = (o.cap - 0 - 1) * (o.width + 2) + (o.width + 2) := by
      conv => lhs; rw [e, Nat.add_mul]
      omega
    omega
  · simp

end Go.Proofs.Ytniglkbfkehfmaa.Op
