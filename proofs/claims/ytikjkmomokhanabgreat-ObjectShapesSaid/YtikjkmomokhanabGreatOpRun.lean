/-
  Steps of an operation, one behind the other, whatever its kind: plain.
-/
import Derived.Test.YtikjkmomokhanabGreatOpPure
set_option linter.unusedSimpArgs false
set_option linter.unusedVariables false
namespace Go.Proofs.YtikjkmomokhanabGreat.Op

/-- may a step be made? -/
def goes (o : Im) (size : Nat) (s : St) (l : List Int) : Bool := !s.over && decide (o.at_ + size ≤ l.length)
def stepF (F : Im → St → List Int → St × List Int) (o : Im) (size : Nat) (x : St × List Int) : St × List Int := if goes o size x.1 x.2 then F o x.1 x.2 else x
def runF (F : Im → St → List Int → St × List Int) (o : Im) (size : Nat) : Nat → St × List Int → St × List Int
  | 0, x => x
  | n + 1, x => stepF F o size (runF F o size n x)

/-- what holds of an operation at all times -/
structure Live (ok : Im → St → Prop) (rank : Im → St → Nat) (o : Im) (most : Nat) (s : St) : Prop where
  ok : ok o s
  wrc : Wd s.rc
  done : s.over = true → (o.wr = true ∨ s.code ≠ 0 → s.rc = []) ∧ (o.wr = false → s.code = 0 → s.rc.length = o.width)
  most : s.steps + rank o s ≤ most

/-- what a kind's steps are like -/
structure Law (F : Im → St → List Int → St × List Int) (ok : Im → St → Prop) (rank : Im → St → Nat) (al : Im → Prop) : Prop where
  fine : ∀ o s l, al o → ok o s → Wd s.rc → Wd l → s.over = false → Fine ok rank o s l (F o s l)
  done : ∀ o s l, al o → ok o s → s.over = false → (F o s l).1.over = true → (o.wr = true ∨ (F o s l).1.code ≠ 0 → (F o s l).1.rc = []) ∧ (o.wr = false → (F o s l).1.code = 0 → (F o s l).1.rc.length = o.width)
  pos : ∀ o s, al o → ok o s → s.over = false → 0 < rank o s

section
variable {F : Im → St → List Int → St × List Int} {ok : Im → St → Prop} {rank : Im → St → Nat} {al : Im → Prop} {o : Im} {size most : Nat}

theorem stepF_yes {x : St × List Int} (h : goes o size x.1 x.2 = true) : stepF F o size x = F o x.1 x.2 := by unfold stepF; rw [if_pos h]
theorem stepF_no {x : St × List Int} (h : goes o size x.1 x.2 = false) : stepF F o size x = x := by unfold stepF; rw [if_neg (by simp [h])]
theorem goes_over {s : St} {l : List Int} (h : goes o size s l = true) : s.over = false ∧ o.at_ + size ≤ l.length := by
  unfold goes at h
  rw [Bool.and_eq_true] at h
  exact ⟨by simpa using h.1, by simpa using h.2⟩
theorem Law.step (L : Law F ok rank al) (ha : al o) {x : St × List Int} (lv : Live ok rank o most x.1) (hl : Wd x.2) :
    Live ok rank o most (stepF F o size x).1 ∧ Wd (stepF F o size x).2 ∧ (stepF F o size x).2.length = x.2.length ∧
      (goes o size x.1 x.2 = true → (stepF F o size x).1.steps = x.1.steps + 1 ∧ rank o (stepF F o size x).1 + 1 ≤ rank o x.1) := by
  cases hg : goes o size x.1 x.2
  · rw [stepF_no hg]
    exact ⟨lv, hl, rfl, fun h => by cases h⟩
  · rw [stepF_yes hg]
    have hov := (goes_over hg).1
    have f := L.fine o x.1 x.2 ha lv.ok lv.wrc hl hov
    refine ⟨⟨f.ok, f.wrc, L.done o x.1 x.2 ha lv.ok hov, ?_⟩, f.words, f.len, fun _ => ⟨f.steps, f.rank⟩⟩
    have := f.steps
    have := f.rank
    have := lv.most
    omega
theorem Law.run (L : Law F ok rank al) (ha : al o) {x : St × List Int} (lv : Live ok rank o most x.1) (hl : Wd x.2) (n : Nat) :
    Live ok rank o most (runF F o size n x).1 ∧ Wd (runF F o size n x).2 ∧ (runF F o size n x).2.length = x.2.length := by
  induction n with
  | zero => exact ⟨lv, hl, rfl⟩
  | succ n ih =>
    obtain ⟨h1, h2, h3, _⟩ := L.step (size := size) ha ih.1 ih.2.1
    exact ⟨h1, h2, h3.trans ih.2.2⟩
theorem run_stop {x : St × List Int} {n : Nat} (h : goes o size (runF F o size n x).1 (runF F o size n x).2 = false) (m : Nat) : runF F o size (n + m) x = runF F o size n x := by
  induction m with
  | zero => rfl
  | succ m ih =>
    show stepF F o size (runF F o size (n + m) x) = _
    rw [ih]
    exact stepF_no h
theorem run_till {x : St × List Int} {n : Nat} (hn : n ≤ 130) (h : n = 130 ∨ goes o size (runF F o size n x).1 (runF F o size n x).2 = false) : runF F o size n x = runF F o size 130 x := by
  rcases h with rfl | h
  · rfl
  · have := run_stop h (130 - n)
    rw [show n + (130 - n) = 130 by omega] at this
    exact this.symm
end

/-! ### four slots -/
theorem four_done (o : Im) (s : St) (l : List Int) (h : fourOk o s) (hov : s.over = false) (hd : (four o s l).1.over = true) :
    (o.wr = true ∨ (four o s l).1.code ≠ 0 → (four o s l).1.rc = []) ∧ (o.wr = false → (four o s l).1.code = 0 → (four o s l).1.rc.length = o.width) := by
  obtain ⟨ha, hb, hu, ht, h4⟩ := h
  obtain ⟨hc, h5, h6⟩ := h4 hov
  cases hwr : o.wr
  · have e : four o s l = fourR o (more s) l := by unfold four; rw [if_neg (by simp [hwr])]
    rw [e] at hd ⊢
    obtain ⟨k1, k2, k3, k4⟩ := h6 hwr
    obtain ⟨row, i, rec, a, b, used, tries, steps, code, over⟩ := s
    simp only at *
    subst hov
    match row, k1 with
    | 0, _ => simp [fourR, more, St.to] at hd
    | 1, _ => simp [fourR, more, St.to] at hd
    | 2, _ => simp [fourR, more, St.to] at hd
    | 3, _ =>
      have hi := k4 rfl
      simp only [fourR, more, word, hwr, Bool.false_eq_true, if_false] at hd ⊢
      by_cases hlt : i + 1 < o.width
      · rw [if_pos hlt] at hd
        simp at hd
      · rw [if_neg hlt]
        simp [St.fin]
        omega
  · have e : four o s l = fourW o (more s) l := by unfold four; rw [if_pos hwr]
    rw [e] at hd ⊢
    obtain ⟨k1, k2, k3, k4⟩ := h5 hwr
    obtain ⟨row, i, rec, a, b, used, tries, steps, code, over⟩ := s
    simp only at *
    subst hov
    match row, k1 with
    | 0, _ => simp [fourW, more, St.to] at hd
    | 1, _ => simp [fourW, more, St.to] at hd
    | 2, _ =>
      simp only [fourW, more, word, hwr, if_true] at hd ⊢
      by_cases hlt : i + 1 < o.width
      · rw [if_pos hlt] at hd
        simp at hd
      · rw [if_neg hlt] at hd
        simp [St.to] at hd
    | 3, _ => simp [fourW, more, St.to] at hd
    | 4, _ => simp [fourW, more, St.fin]
theorem four_pos (o : Im) (s : St) (h : fourOk o s) (hov : s.over = false) : 0 < fourRank o s := by
  obtain ⟨_, _, _, _, h4⟩ := h
  obtain ⟨_, h5, h6⟩ := h4 hov
  obtain ⟨row, i, rec, a, b, used, tries, steps, code, over⟩ := s
  simp only at *
  subst hov
  unfold fourRank
  cases hwr : o.wr
  · obtain ⟨k1, k2, k3, k4⟩ := h6 hwr
    match row, k1 with
    | 0, _ => simp
    | 1, _ => simp
    | 2, _ => simp
    | 3, _ => have := k4 rfl; simp; omega
  · obtain ⟨k1, k2, k3, k4⟩ := h5 hwr
    match row, k1 with
    | 0, _ => simp
    | 1, _ => simp
    | 2, _ => have := k4 rfl; simp; omega
    | 3, _ => simp
    | 4, _ => simp
def fourAl (o : Im) : Prop := 0 < o.width ∧ o.width ≤ 8
theorem fourLaw : Law four fourOk fourRank fourAl :=
  ⟨fun o s l ha h hr hl hov => four_fine o s l h hr hl ha.1 hov, fun o s l _ h hov hd => four_done o s l h hov hd, fun o s _ h hov => four_pos o s h hov⟩
def fourMost (o : Im) : Nat := if o.wr then o.width + 4 else o.width + 3
theorem four_first (o : Im) (ha : fourAl o) (rec : List Int) (hr : Wd rec) (h1 : o.wr = true → rec.length = o.width) (h2 : o.wr = false → rec = []) : Live fourOk fourRank o (fourMost o) (start rec) := by
  refine ⟨four_start o rec h1 h2, hr, fun h => (by simp [start] at h), ?_⟩
  unfold fourRank fourMost start
  cases o.wr <;> simp

end Go.Proofs.YtikjkmomokhanabGreat.Op
