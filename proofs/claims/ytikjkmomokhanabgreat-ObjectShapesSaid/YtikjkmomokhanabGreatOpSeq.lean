/-
  A counter and one record (chapter 16), step by step: plain.
-/
import Derived.Test.YtikjkmomokhanabGreatOpRun
set_option linter.unusedSimpArgs false
set_option linter.unusedVariables false
namespace Go.Proofs.YtikjkmomokhanabGreat.Op

def up (x : Int) : Int := x % 4294967296
/-- an attempt fails -/
def failS (o : Im) (s : St) : St :=
  let s1 : St := { s with tries := s.tries + 1, rc := [], row := 0, i := 0 }
  if o.cap ≤ s1.tries then s1.fin o.wr 1 else s1
def seqW (o : Im) (s : St) (l : List Int) : St × List Int :=
  match s.row with
  | 0 => ({ s.to 1 with a := get o l 0 }, l)
  | 1 => (s.to 2, put o l 0 (up (s.a + 1)))
  | 2 => word o s l 1 (some 3)
  | _ => (s.fin true 0, put o l 0 (up (s.a + 2)))
def seqR (o : Im) (s : St) (l : List Int) : St × List Int :=
  match s.row with
  | 0 => if get o l 0 % 2 = 1 then (failS o { s with a := get o l 0 }, l) else ({ s.to 1 with a := get o l 0 }, l)
  | 1 => word o s l 1 (some 2)
  | _ => if get o l 0 = s.a then (s.fin false 0, l) else (failS o s, l)
def seq (o : Im) (s : St) (l : List Int) : St × List Int := if o.wr then seqW o (more s) l else seqR o (more s) l
def seqOk (o : Im) (s : St) : Prop :=
  (0 ≤ s.a ∧ s.a < 4294967296) ∧ s.b = 0 ∧ s.used = List.replicate 20 false ∧
  (s.over = false → s.code = 0 ∧ s.tries < o.cap ∧
    (o.wr = true → s.tries = 0 ∧ s.row ≤ 3 ∧ s.rc.length = o.width ∧ (s.row ≠ 2 → s.i = 0) ∧ (s.row = 2 → s.i < o.width)) ∧
    (o.wr = false → s.row ≤ 2 ∧ (s.row = 0 → s.rc = []) ∧ (s.row = 1 → s.rc.length = s.i) ∧ (s.row = 2 → s.rc.length = o.width) ∧ (s.row ≠ 1 → s.i = 0) ∧ (s.row = 1 → s.i < o.width)))
def seqRank (o : Im) (s : St) : Nat :=
  if s.over then 0 else
  if o.wr then (match s.row with | 0 => o.width + 3 | 1 => o.width + 2 | 2 => o.width + 1 - s.i | _ => 1)
  else (o.cap - s.tries - 1) * (o.width + 2) + (match s.row with | 0 => o.width + 2 | 1 => o.width + 1 - s.i | _ => 1)

theorem up_bd (x : Int) : 0 ≤ up x ∧ up x < 4294967296 := by unfold up; omega

theorem seqW_fine (o : Im) (s : St) (l : List Int) (hwr : o.wr = true) (h : seqOk o s) (hr : Wd s.rc) (hl : Wd l) (hw : 0 < o.width) (hov : s.over = false) : Fine seqOk seqRank o s l (seq o s l) := by
  obtain ⟨ha, hb, hu, h4⟩ := h
  obtain ⟨hc, htr, h5, _⟩ := h4 hov
  obtain ⟨ht, h5, h6, h7, h8⟩ := h5 hwr
  have e : seq o s l = seqW o (more s) l := by unfold seq; rw [if_pos hwr]
  rw [e]
  have g := fun k => hl.get o k
  have gr := getD_wd hr s.i
  obtain ⟨row, i, rec, a, b, used, tries, steps, code, over⟩ := s
  simp only at *
  subst hov
  match row, h5 with
  | 0, _ =>
    have hi := h7 (by omega)
    subst hi
    have := g 0
    refine ⟨?_, hr, hl, rfl, rfl, ?_⟩
    · simp [seqW, more, St.to, seqOk, hwr, h6, hb, hu, ht, hc]; omega
    · simp [seqW, more, St.to, seqRank, hwr]
  | 1, _ =>
    have hi := h7 (by omega)
    subst hi
    refine ⟨?_, hr, hl.put _ _ (up_bd _), put_length _ _ _ _, rfl, ?_⟩
    · simp [seqW, more, St.to, seqOk, hwr, h6, ha, hb, hu, ht, hc, hw]; omega
    · simp [seqW, more, St.to, seqRank, hwr]
  | 2, _ =>
    have hi := h8 rfl
    simp only [seqW, more, word, hwr, if_true]
    by_cases hlt : i + 1 < o.width
    · rw [if_pos hlt]
      refine ⟨?_, hr, hl.put _ _ gr, put_length _ _ _ _, rfl, ?_⟩
      · simp [seqOk, hwr, h6, ha, hb, hu, ht, hc]; omega
      · simp [seqRank, hwr]; omega
    · rw [if_neg hlt]
      refine ⟨?_, hr, hl.put _ _ gr, put_length _ _ _ _, rfl, ?_⟩
      · simp [seqOk, St.to, hwr, h6, ha, hb, hu, ht, hc]; omega
      · simp [seqRank, St.to, hwr]; omega
  | 3, _ =>
    have hi := h7 (by omega)
    subst hi
    refine ⟨?_, ?_, hl.put _ _ (up_bd _), put_length _ _ _ _, rfl, ?_⟩
    · simp [seqW, more, St.fin, seqOk, ha, hb, hu]
    · simp [seqW, more, St.fin, Wd]
    · simp [seqW, more, St.fin, seqRank, hwr]
theorem rank_fail {c t W q : Nat} (h : t < c) (h2 : ¬ c ≤ t + 1) : (c - (t + 1) - 1) * (W + 2) + (W + 2) + q ≤ (c - t - 1) * (W + 2) + q := by
  have e : c - t - 1 = (c - (t + 1) - 1) + 1 := by omega
  rw [e, Nat.add_mul]
  omega
theorem seqR_fine (o : Im) (s : St) (l : List Int) (hwr : o.wr = false) (h : seqOk o s) (hr : Wd s.rc) (hl : Wd l) (hw : 0 < o.width) (hov : s.over = false) : Fine seqOk seqRank o s l (seq o s l) := by
  obtain ⟨ha, hb, hu, h4⟩ := h
  obtain ⟨hc, htr, _, h5⟩ := h4 hov
  obtain ⟨h5, k0, k1, k2, h7, h8⟩ := h5 hwr
  have e : seq o s l = seqR o (more s) l := by unfold seq; rw [if_neg (by simp [hwr])]
  rw [e]
  have g := fun k => hl.get o k
  obtain ⟨row, i, rec, a, b, used, tries, steps, code, over⟩ := s
  simp only at *
  subst hov
  match row, h5 with
  | 0, _ =>
    have hi := h7 (by omega)
    subst hi
    have hg := g 0
    have hrc := k0 rfl
    subst hrc
    simp only [seqR, more]
    by_cases hodd : get o l 0 % 2 = 1
    · rw [if_pos hodd]
      unfold failS
      by_cases hcap : o.cap ≤ tries + 1
      · rw [if_pos hcap]
        refine ⟨?_, ?_, hl, rfl, rfl, ?_⟩
        · simp [St.fin, seqOk, hb, hu]; omega
        · simp [St.fin, Wd]
        · simp [St.fin, seqRank, hwr]; omega
      · rw [if_neg hcap]
        refine ⟨?_, ?_, hl, rfl, rfl, ?_⟩
        · simp [seqOk, hb, hu, hc, hwr]; omega
        · exact fun x hx => by cases hx
        · have := rank_fail (W := o.width) (q := 1) htr hcap
          simp [seqRank, hwr]; omega
    · rw [if_neg hodd]
      refine ⟨?_, hr, hl, rfl, rfl, ?_⟩
      · simp [St.to, seqOk, hwr, hb, hu, hc, hw]; omega
      · simp [St.to, seqRank, hwr]; omega
  | 1, _ =>
    have hi := h8 rfl
    have hrl := k1 rfl
    have hrec : Wd (rec ++ [get o l (1 + i)]) := by
      intro x hx
      rcases List.mem_append.1 hx with hx | hx
      · exact hr x hx
      · simp at hx
        subst hx
        exact g _
    simp only [seqR, more, word, hwr, Bool.false_eq_true, if_false]
    by_cases hlt : i + 1 < o.width
    · rw [if_pos hlt]
      refine ⟨?_, hrec, hl, rfl, rfl, ?_⟩
      · simp [seqOk, hwr, hrl, ha, hb, hu, hc]; omega
      · simp [seqRank, hwr]; omega
    · rw [if_neg hlt]
      refine ⟨?_, by simpa [St.to] using hrec, hl, rfl, rfl, ?_⟩
      · simp [seqOk, St.to, hwr, ha, hb, hu, hc]; omega
      · simp [seqRank, St.to, hwr]; omega
  | 2, _ =>
    have hi := h7 (by omega)
    subst hi
    have hrl := k2 rfl
    by_cases hsame : get o l 0 = a
    · simp only [seqR, more, hsame, ↓reduceIte]
      refine ⟨?_, by simpa [St.fin] using hr, hl, rfl, rfl, ?_⟩
      · simp [St.fin, seqOk, ha, hb, hu]
      · simp [St.fin, seqRank, hwr]
    · simp only [seqR, more, hsame, ↓reduceIte]
      unfold failS
      by_cases hcap : o.cap ≤ tries + 1
      · rw [if_pos hcap]
        refine ⟨?_, ?_, hl, rfl, rfl, ?_⟩
        · simp [St.fin, seqOk, ha, hb, hu]
        · simp [St.fin, Wd]
        · simp [St.fin, seqRank, hwr]
      · rw [if_neg hcap]
        refine ⟨?_, ?_, hl, rfl, rfl, ?_⟩
        · simp [seqOk, ha, hb, hu, hc, hwr]; omega
        · exact fun x hx => by cases hx
        · have := rank_fail (W := o.width) (q := 1) htr hcap
          simp [seqRank, hwr]; omega
theorem seq_fine (o : Im) (s : St) (l : List Int) (h : seqOk o s) (hr : Wd s.rc) (hl : Wd l) (hw : 0 < o.width) (hov : s.over = false) : Fine seqOk seqRank o s l (seq o s l) := by
  cases hwr : o.wr
  · exact seqR_fine o s l hwr h hr hl hw hov
  · exact seqW_fine o s l hwr h hr hl hw hov
theorem seq_start (o : Im) (rec : List Int) (hc : 0 < o.cap) (h1 : o.wr = true → rec.length = o.width) (h2 : o.wr = false → rec = []) : seqOk o (start rec) := by
  refine ⟨by simp [start], rfl, rfl, fun _ => ⟨rfl, hc, fun h => ⟨rfl, by simp [start], h1 h, fun _ => rfl, by simp [start]⟩, fun h => ⟨by simp [start], fun _ => h2 h, by simp [start], by simp [start], fun _ => rfl, by simp [start]⟩⟩⟩
theorem seq_done (o : Im) (s : St) (l : List Int) (h : seqOk o s) (hov : s.over = false) (hd : (seq o s l).1.over = true) :
    (o.wr = true ∨ (seq o s l).1.code ≠ 0 → (seq o s l).1.rc = []) ∧ (o.wr = false → (seq o s l).1.code = 0 → (seq o s l).1.rc.length = o.width) := by
  obtain ⟨ha, hb, hu, h4⟩ := h
  obtain ⟨hc, htr, h5, h6⟩ := h4 hov
  cases hwr : o.wr
  · have e : seq o s l = seqR o (more s) l := by unfold seq; rw [if_neg (by simp [hwr])]
    rw [e] at hd ⊢
    obtain ⟨k1, k0, k2, k3, k4, k5⟩ := h6 hwr
    obtain ⟨row, i, rec, a, b, used, tries, steps, code, over⟩ := s
    simp only at *
    subst hov
    match row, k1 with
    | 0, _ =>
      simp only [seqR, more] at hd ⊢
      by_cases hodd : get o l 0 % 2 = 1
      · rw [if_pos hodd] at hd ⊢
        unfold failS at hd ⊢
        by_cases hcap : o.cap ≤ tries + 1
        · rw [if_pos hcap]
          simp [St.fin]
        · rw [if_neg hcap] at hd
          simp at hd
      · rw [if_neg hodd] at hd
        simp [St.to] at hd
    | 1, _ =>
      simp only [seqR, more, word, hwr, Bool.false_eq_true, if_false] at hd ⊢
      by_cases hlt : i + 1 < o.width
      · rw [if_pos hlt] at hd
        simp at hd
      · rw [if_neg hlt] at hd
        simp [St.to] at hd
    | 2, _ =>
      have hrl := k3 rfl
      by_cases hsame : get o l 0 = a
      · simp only [seqR, more, hsame, ↓reduceIte] at hd ⊢
        simp [St.fin, hrl]
      · simp only [seqR, more, hsame, ↓reduceIte] at hd ⊢
        unfold failS at hd ⊢
        by_cases hcap : o.cap ≤ tries + 1
        · rw [if_pos hcap]
          simp [St.fin]
        · rw [if_neg hcap] at hd
          simp at hd
  · have e : seq o s l = seqW o (more s) l := by unfold seq; rw [if_pos hwr]
    rw [e] at hd ⊢
    obtain ⟨k0, k1, k2, k3, k4⟩ := h5 hwr
    obtain ⟨row, i, rec, a, b, used, tries, steps, code, over⟩ := s
    simp only at *
    subst hov
    match row, k1 with
    | 0, _ => simp [seqW, more, St.to] at hd
    | 1, _ => simp [seqW, more, St.to] at hd
    | 2, _ =>
      simp only [seqW, more, word, hwr, if_true] at hd ⊢
      by_cases hlt : i + 1 < o.width
      · rw [if_pos hlt] at hd
        simp at hd
      · rw [if_neg hlt] at hd
        simp [St.to] at hd
    | 3, _ => simp [seqW, more, St.fin]
theorem seq_pos (o : Im) (s : St) (h : seqOk o s) (hov : s.over = false) : 0 < seqRank o s := by
  obtain ⟨_, _, _, h4⟩ := h
  obtain ⟨_, _, h5, h6⟩ := h4 hov
  obtain ⟨row, i, rec, a, b, used, tries, steps, code, over⟩ := s
  simp only at *
  subst hov
  unfold seqRank
  cases hwr : o.wr
  · obtain ⟨k1, _, _, _, _, k4⟩ := h6 hwr
    match row, k1 with
    | 0, _ => simp; omega
    | 1, _ => have := k4 rfl; simp; omega
    | 2, _ => simp
  · obtain ⟨_, k1, k2, k3, k4⟩ := h5 hwr
    match row, k1 with
    | 0, _ => simp
    | 1, _ => simp
    | 2, _ => have := k4 rfl; simp; omega
    | 3, _ => simp
def seqAl (o : Im) : Prop := (0 < o.width ∧ o.width ≤ 8) ∧ (0 < o.cap ∧ o.cap ≤ 16)
theorem seqLaw : Law seq seqOk seqRank seqAl :=
  ⟨fun o s l ha h hr hl hov => seq_fine o s l h hr hl ha.1.1 hov, fun o s l _ h hov hd => seq_done o s l h hov hd, fun o s _ h hov => seq_pos o s h hov⟩
def seqMost (o : Im) : Nat := if o.wr then o.width + 3 else o.cap * (o.width + 2)
theorem seq_first (o : Im) (ha : seqAl o) (rec : List Int) (hr : Wd rec) (h1 : o.wr = true → rec.length = o.width) (h2 : o.wr = false → rec = []) : Live seqOk seqRank o (seqMost o) (start rec) := by
  refine ⟨seq_start o rec ha.2.1 h1 h2, hr, fun h => (by simp [start] at h), ?_⟩
  unfold seqRank seqMost start
  cases o.wr
  · have e : o.cap = (o.cap - 0 - 1) + 1 := by have := ha.2.1; omega
    simp only [Bool.false_eq_true, if_false]
    have : o.cap * (o.width + 2) = (o.cap - 0 - 1) * (o.width + 2) + (o.width + 2) := by
      conv => lhs; rw [e, Nat.add_mul]
      omega
    omega
  · simp

end Go.Proofs.YtikjkmomokhanabGreat.Op
