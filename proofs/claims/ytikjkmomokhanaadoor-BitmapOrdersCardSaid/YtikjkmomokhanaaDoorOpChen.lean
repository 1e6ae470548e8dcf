/-
  Slots enough for all readers (chapter 15), step by step: plain. (Of a write a is the set of the slots that are noted, a number whose bits they are, b the slot that is chosen; of a read a is the newest, b the slot.)
-/
import Derived.Test.YtikjkmomokhanaaDoorOpCab
set_option linter.unusedSimpArgs false
set_option linter.unusedVariables false
namespace Go.Proofs.YtikjkmomokhanaaDoor.Op

def csl (o : Im) : Nat := o.n + 2
def chenK (o : Im) (k : Int) : Nat := 1 + o.n + k.toNat * o.width
def casP (o : Im) (l : List Int) (k : Nat) (was now : Int) : List Int := if get o l k = was then put o l k now else l
def chenM (o : Im) (s : St) (v : Int) : St :=
  if s.i + 1 < o.n then { s with a := putI s.a v, used := noteL (csl o) s.used v, i := s.i + 1 }
  else { s.to 2 with a := putI s.a v, used := noteL (csl o) s.used v, b := freeL (noteL (csl o) s.used v) }
def chenW (o : Im) (s : St) (l : List Int) : St × List Int :=
  match s.row with
  | 0 => ({ s.to 1 with a := putI s.a (get o l 0), used := noteL (csl o) s.used (get o l 0) }, l)
  | 1 => (chenM o s (get o l (1 + s.i)), l)
  | 2 => word o s l (chenK o s.b) (some 3)
  | 3 => (s.to 4, put o l 0 s.b)
  | _ => (if s.i + 1 < o.n then { s with i := s.i + 1 } else ({ s with i := s.i + 1 } : St).fin true 0, casP o l (1 + s.i) (csl o) s.b)
def chenR (o : Im) (s : St) (l : List Int) : St × List Int :=
  match s.row with
  | 0 => (s.to 1, put o l (1 + o.reader) (csl o))
  | 1 => ({ s.to 2 with a := get o l 0 }, l)
  | 2 => (s.to 3, casP o l (1 + o.reader) (csl o) s.a)
  | 3 => ({ s.to 4 with b := get o l (1 + o.reader) % (csl o : Int) }, l)
  | _ => word o s l (chenK o s.b) none
def chen (o : Im) (s : St) (l : List Int) : St × List Int := if o.wr then chenW o (more s) l else chenR o (more s) l
def NotedC (o : Im) (s : St) : Prop := (∀ j, j < csl o → s.a.toNat.testBit j = s.used.getD j false) ∧ s.used.count true ≤ s.row + s.i
def chenOk (o : Im) (s : St) : Prop :=
  s.used.length = 20 ∧ (0 ≤ s.a ∧ s.a < 18446744073709551616) ∧ (0 ≤ s.b ∧ s.b < (csl o : Int)) ∧
  (o.wr = false → s.a < 4294967296 ∧ s.used = List.replicate 20 false) ∧ s.tries = 0 ∧
  (s.over = false → s.code = 0 ∧
    (o.wr = true → s.row ≤ 4 ∧ s.rc.length = o.width ∧ (s.row = 0 → s.i = 0) ∧ (s.row = 1 → s.i < o.n) ∧ (s.row = 2 → s.i < o.width) ∧ (s.row = 3 → s.i = 0) ∧ (s.row = 4 → s.i < o.n) ∧ (s.row ≤ 1 → NotedC o s)) ∧
    (o.wr = false → s.row ≤ 4 ∧ s.rc.length = s.i ∧ (s.row ≠ 4 → s.i = 0) ∧ (s.row = 4 → s.i < o.width)))
def chenRank (o : Im) (s : St) : Nat :=
  if s.over then 0 else
  if o.wr then (match s.row with | 0 => o.width + 2 * o.n + 2 | 1 => o.width + 2 * o.n + 1 - s.i | 2 => o.width + o.n + 1 - s.i | 3 => o.n + 1 | _ => o.n - s.i)
  else (match s.row with | 0 => o.width + 4 | 1 => o.width + 3 | 2 => o.width + 2 | 3 => o.width + 1 | _ => o.width - s.i)
def chenAl (o : Im) : Prop := (0 < o.width ∧ o.width ≤ 8) ∧ (1 ≤ o.n ∧ o.n ≤ 4) ∧ o.reader < o.n

theorem casP_length (o : Im) (l : List Int) (k : Nat) (was now : Int) : (casP o l k was now).length = l.length := by
  unfold casP
  split
  · exact put_length _ _ _ _
  · rfl
theorem casP_wd {o : Im} {l : List Int} (h : Wd l) (k : Nat) (was : Int) {now : Int} (hv : 0 ≤ now ∧ now < 4294967296) : Wd (casP o l k was now) := by
  unfold casP
  split
  · exact h.put _ _ hv
  · exact h
theorem notedC_more {o : Im} {s : St} (hs : csl o ≤ 16) (hu : s.used.length = 20) (h : NotedC o s) (v : Int) :
    (∀ j, j < csl o → (putI s.a v).toNat.testBit j = (noteL (csl o) s.used v).getD j false) ∧ (noteL (csl o) s.used v).count true ≤ s.row + s.i + 1 := by
  refine ⟨fun j hj => ?_, ?_⟩
  · rw [putI_bit _ _ (by omega), noteL_get hu hs _ _ hj, h.1 j hj]
  · have := noteL_count (csl o) s.used v
    have := h.2
    omega

theorem chenW_fine (o : Im) (s : St) (l : List Int) (al : chenAl o) (hwr : o.wr = true) (h : chenOk o s) (hr : Wd s.rc) (hl : Wd l) (hov : s.over = false) : Fine chenOk chenRank o s l (chen o s l) := by
  have hw := al.1.1
  obtain ⟨hn1, hn4⟩ := al.2.1
  have hcs : csl o = o.n + 2 := rfl
  obtain ⟨hu, ha, hb, _, ht, h4⟩ := h
  obtain ⟨hc, h5, _⟩ := h4 hov
  obtain ⟨h5, h6, k0, k1, k2, k3, k4, kn⟩ := h5 hwr
  have e : chen o s l = chenW o (more s) l := by unfold chen; rw [if_pos hwr]
  rw [e]
  have gr := getD_wd hr s.i
  have nr : ∀ {p : Prop}, o.wr = false → p := fun h => by rw [hwr] at h; cases h
  obtain ⟨row, i, rec, a, b, used, tries, steps, code, over⟩ := s
  simp only at *
  subst hov
  match row, h5 with
  | 0, _ =>
    have hi := k0 rfl
    subst hi
    have nm := notedC_more (s := ⟨0, 0, rec, a, b, used, tries, steps, code, false⟩) (by omega) hu (kn (by omega)) (get o l 0)
    refine ⟨⟨(noteL_length _ _ _).trans hu, putI_bd ha _, hb, nr, ht, fun _ => ⟨hc, fun _ => ⟨by simp [chenW, more, St.to], h6, by simp [chenW, more, St.to], fun _ => by simp [chenW, more, St.to]; omega, by simp [chenW, more, St.to], by simp [chenW, more, St.to], by simp [chenW, more, St.to], fun _ => nm⟩, nr⟩⟩, hr, hl, rfl, rfl, ?_⟩
    simp [chenW, more, St.to, chenRank, hwr]
  | 1, _ =>
    have hi := k1 rfl
    have nm := notedC_more (s := ⟨1, i, rec, a, b, used, tries, steps, code, false⟩) (by omega) hu (kn (by omega)) (get o l (1 + i))
    simp only at nm
    by_cases hlt : i + 1 < o.n
    · simp only [chenW, more, chenM, hlt, ↓reduceIte]
      refine ⟨⟨(noteL_length _ _ _).trans hu, putI_bd ha _, hb, nr, ht, fun _ => ⟨hc, fun _ => ⟨by simp, h6, by simp, fun _ => hlt, by simp, by simp, by simp, fun _ => ⟨nm.1, by have := nm.2; simp only; omega⟩⟩, nr⟩⟩, hr, hl, rfl, rfl, ?_⟩
      simp [chenRank, hwr]; omega
    · simp only [chenW, more, chenM, hlt, ↓reduceIte]
      have fr := free_eq ((noteL_length _ _ _).trans hu) (by omega) (by have := nm.2; omega) nm.1
      refine ⟨⟨(noteL_length _ _ _).trans hu, putI_bd ha _, ⟨by simp only; omega, by simp only; omega⟩, nr, ht, fun _ => ⟨hc, fun _ => ⟨by simp [St.to], h6, by simp [St.to], by simp [St.to], fun _ => by simpa [St.to] using hw, by simp [St.to], by simp [St.to], by simp [St.to]⟩, nr⟩⟩, hr, hl, rfl, rfl, ?_⟩
      simp [chenRank, St.to, hwr]; omega
  | 2, _ =>
    have hi := k2 rfl
    simp only [chenW, more, word, hwr, if_true]
    by_cases hlt : i + 1 < o.width
    · rw [if_pos hlt]
      refine ⟨⟨hu, ha, hb, nr, ht, fun _ => ⟨hc, fun _ => ⟨by simp, h6, by simp, by simp, fun _ => hlt, by simp, by simp, by simp⟩, nr⟩⟩, hr, hl.put _ _ gr, put_length _ _ _ _, rfl, ?_⟩
      simp [chenRank, hwr]; omega
    · rw [if_neg hlt]
      refine ⟨⟨hu, ha, hb, nr, ht, fun _ => ⟨hc, fun _ => ⟨by simp [St.to], h6, by simp [St.to], by simp [St.to], by simp [St.to], by simp [St.to], by simp [St.to], by simp [St.to]⟩, nr⟩⟩, hr, hl.put _ _ gr, put_length _ _ _ _, rfl, ?_⟩
      simp [chenRank, St.to, hwr]; omega
  | 3, _ =>
    have hi := k3 rfl
    subst hi
    refine ⟨⟨hu, ha, hb, nr, ht, fun _ => ⟨hc, fun _ => ⟨by simp [chenW, more, St.to], h6, by simp [chenW, more, St.to], by simp [chenW, more, St.to], by simp [chenW, more, St.to], by simp [chenW, more, St.to], fun _ => by simp [chenW, more, St.to]; omega, by simp [chenW, more, St.to]⟩, nr⟩⟩, hr, hl.put _ _ (by simp only [more]; omega), put_length _ _ _ _, rfl, ?_⟩
    simp [chenW, more, St.to, chenRank, hwr]
  | 4, _ =>
    have hi := k4 rfl
    simp only [chenW, more]
    by_cases hlt : i + 1 < o.n
    · simp only [hlt, ↓reduceIte]
      refine ⟨⟨hu, ha, hb, nr, ht, fun _ => ⟨hc, fun _ => ⟨by simp, h6, by simp, by simp, by simp, by simp, fun _ => hlt, by simp⟩, nr⟩⟩, hr, casP_wd hl _ _ (by omega), casP_length _ _ _ _ _, rfl, ?_⟩
      simp [chenRank, hwr]; omega
    · simp only [hlt, ↓reduceIte]
      refine ⟨⟨hu, ha, hb, nr, ht, (fun h => by cases h)⟩, ?_, casP_wd hl _ _ (by omega), casP_length _ _ _ _ _, rfl, ?_⟩
      · simp [St.fin, Wd]
      · simp [St.fin, chenRank, hwr]; omega
theorem chenR_fine (o : Im) (s : St) (l : List Int) (al : chenAl o) (hwr : o.wr = false) (h : chenOk o s) (hr : Wd s.rc) (hl : Wd l) (hov : s.over = false) : Fine chenOk chenRank o s l (chen o s l) := by
  have hw := al.1.1
  obtain ⟨hn1, hn4⟩ := al.2.1
  have hcs : csl o = o.n + 2 := rfl
  obtain ⟨hu, ha, hb, h3, ht, h4⟩ := h
  have h3 := h3 hwr
  obtain ⟨hc, _, h5⟩ := h4 hov
  obtain ⟨h5, k3, k7, k8⟩ := h5 hwr
  have e : chen o s l = chenR o (more s) l := by unfold chen; rw [if_neg (by simp [hwr])]
  rw [e]
  have g := fun k => hl.get o k
  have nw : ∀ {p : Prop}, o.wr = true → p := fun h => by rw [hwr] at h; cases h
  obtain ⟨row, i, rec, a, b, used, tries, steps, code, over⟩ := s
  simp only at *
  subst hov
  match row, h5 with
  | 0, _ =>
    have hi := k7 (by omega)
    subst hi
    simp only [chenR, more]
    refine ⟨⟨hu, ha, hb, fun _ => h3, ht, fun _ => ⟨hc, nw, fun _ => ⟨by simp [St.to], by simpa [St.to] using k3, by simp [St.to], by simp [St.to]⟩⟩⟩, hr, hl.put _ _ (by omega), put_length _ _ _ _, rfl, ?_⟩
    simp [St.to, chenRank, hwr]
  | 1, _ =>
    have hi := k7 (by omega)
    subst hi
    have g0 := g 0
    simp only [chenR, more]
    refine ⟨⟨hu, ⟨g0.1, by simp only; omega⟩, hb, fun _ => ⟨g0.2, h3.2⟩, ht, fun _ => ⟨hc, nw, fun _ => ⟨by simp [St.to], by simpa [St.to] using k3, by simp [St.to], by simp [St.to]⟩⟩⟩, hr, hl, rfl, rfl, ?_⟩
    simp [St.to, chenRank, hwr]
  | 2, _ =>
    have hi := k7 (by omega)
    subst hi
    simp only [chenR, more]
    refine ⟨⟨hu, ha, hb, fun _ => h3, ht, fun _ => ⟨hc, nw, fun _ => ⟨by simp [St.to], by simpa [St.to] using k3, by simp [St.to], by simp [St.to]⟩⟩⟩, hr, casP_wd hl _ _ ⟨ha.1, h3.1⟩, casP_length _ _ _ _ _, rfl, ?_⟩
    simp [St.to, chenRank, hwr]
  | 3, _ =>
    have hi := k7 (by omega)
    subst hi
    have q0 := Int.emod_nonneg (get o l (1 + o.reader)) (show (csl o : Int) ≠ 0 by omega)
    have q1 := Int.emod_lt_of_pos (get o l (1 + o.reader)) (show (0 : Int) < csl o by omega)
    simp only [chenR, more]
    refine ⟨⟨hu, ha, ⟨q0, q1⟩, fun _ => h3, ht, fun _ => ⟨hc, nw, fun _ => ⟨by simp [St.to], by simpa [St.to] using k3, by simp [St.to], fun _ => by simpa [St.to] using hw⟩⟩⟩, hr, hl, rfl, rfl, ?_⟩
    simp [St.to, chenRank, hwr]
  | 4, _ =>
    have hi := k8 rfl
    have hrec : Wd (rec ++ [get o l (chenK o b + i)]) := by
      intro x hx
      rcases List.mem_append.1 hx with hx | hx
      · exact hr x hx
      · simp at hx
        subst hx
        exact g _
    simp only [chenR, more, word, hwr, Bool.false_eq_true, if_false]
    by_cases hlt : i + 1 < o.width
    · rw [if_pos hlt]
      refine ⟨⟨hu, ha, hb, fun _ => h3, ht, fun _ => ⟨hc, nw, fun _ => ⟨by simp, by simp [k3], by simp, fun _ => hlt⟩⟩⟩, hrec, hl, rfl, rfl, ?_⟩
      simp [chenRank, hwr]; omega
    · rw [if_neg hlt]
      refine ⟨⟨hu, ha, hb, fun _ => h3, ht, (fun h => by cases h)⟩, by simpa [St.fin] using hrec, hl, rfl, rfl, ?_⟩
      simp [St.fin, chenRank, hwr]; omega
theorem chen_fine (o : Im) (s : St) (l : List Int) (al : chenAl o) (h : chenOk o s) (hr : Wd s.rc) (hl : Wd l) (hov : s.over = false) : Fine chenOk chenRank o s l (chen o s l) := by
  cases hwr : o.wr
  · exact chenR_fine o s l al hwr h hr hl hov
  · exact chenW_fine o s l al hwr h hr hl hov
theorem chen_start (o : Im) (rec : List Int) (h1 : o.wr = true → rec.length = o.width) (h2 : o.wr = false → rec = []) : chenOk o (start rec) := by
  have hcs : csl o = o.n + 2 := rfl
  refine ⟨by simp [start], by simp [start], ⟨by simp [start], by simp only [start]; omega⟩, fun _ => ⟨by simp [start], rfl⟩, rfl, fun _ => ⟨rfl, fun h => ⟨by simp [start], h1 h, fun _ => rfl, by simp [start], by simp [start], by simp [start], by simp [start], fun _ => ⟨?_, by simp [start]⟩⟩, fun h => ⟨by simp [start], by simp [start, h2 h], fun _ => rfl, by simp [start]⟩⟩⟩
  intro j hj
  show (0 : Nat).testBit j = (List.replicate 20 false).getD j false
  rw [Nat.zero_testBit, List.getD_eq_getElem?_getD, List.getElem?_replicate]
  split <;> rfl
theorem chen_done (o : Im) (s : St) (l : List Int) (h : chenOk o s) (hov : s.over = false) (hd : (chen o s l).1.over = true) :
    (o.wr = true ∨ (chen o s l).1.code ≠ 0 → (chen o s l).1.rc = []) ∧ (o.wr = false → (chen o s l).1.code = 0 → (chen o s l).1.rc.length = o.width) := by
  obtain ⟨hu, ha, hb, h3, ht, h4⟩ := h
  obtain ⟨hc, h5, h6⟩ := h4 hov
  cases hwr : o.wr
  · have e : chen o s l = chenR o (more s) l := by unfold chen; rw [if_neg (by simp [hwr])]
    rw [e] at hd ⊢
    obtain ⟨k1, k3, _, k8⟩ := h6 hwr
    obtain ⟨row, i, rec, a, b, used, tries, steps, code, over⟩ := s
    simp only at *
    subst hov
    match row, k1 with
    | 0, _ => simp [chenR, more, St.to] at hd
    | 1, _ => simp [chenR, more, St.to] at hd
    | 2, _ => simp [chenR, more, St.to] at hd
    | 3, _ => simp [chenR, more, St.to] at hd
    | 4, _ =>
      have hi := k8 rfl
      simp only [chenR, more, word, hwr, Bool.false_eq_true, if_false] at hd ⊢
      by_cases hlt : i + 1 < o.width
      · rw [if_pos hlt] at hd
        simp at hd
      · rw [if_neg hlt]
        simp [St.fin]
        omega
  · have e : chen o s l = chenW o (more s) l := by unfold chen; rw [if_pos hwr]
    rw [e] at hd ⊢
    obtain ⟨k1, _⟩ := h5 hwr
    obtain ⟨row, i, rec, a, b, used, tries, steps, code, over⟩ := s
    simp only at *
    subst hov
    match row, k1 with
    | 0, _ => simp [chenW, more, St.to] at hd
    | 1, _ =>
      by_cases hlt : i + 1 < o.n
      · simp only [chenW, more, chenM, hlt, ↓reduceIte] at hd
        simp at hd
      · simp only [chenW, more, chenM, hlt, ↓reduceIte] at hd
        simp [St.to] at hd
    | 2, _ =>
      simp only [chenW, more, word, hwr, if_true] at hd ⊢
      by_cases hlt : i + 1 < o.width
      · rw [if_pos hlt] at hd
        simp at hd
      · rw [if_neg hlt] at hd
        simp [St.to] at hd
    | 3, _ => simp [chenW, more, St.to] at hd
    | 4, _ =>
      by_cases hlt : i + 1 < o.n
      · simp only [chenW, more, hlt, ↓reduceIte] at hd
        simp at hd
      · simp only [chenW, more, hlt, ↓reduceIte]
        simp [St.fin]
theorem chen_pos (o : Im) (s : St) (al : chenAl o) (h : chenOk o s) (hov : s.over = false) : 0 < chenRank o s := by
  have hw := al.1.1
  obtain ⟨_, _, _, _, _, h4⟩ := h
  obtain ⟨_, h5, h6⟩ := h4 hov
  obtain ⟨row, i, rec, a, b, used, tries, steps, code, over⟩ := s
  simp only at *
  subst hov
  unfold chenRank
  cases hwr : o.wr
  · obtain ⟨k1, _, _, k8⟩ := h6 hwr
    match row, k1 with
    | 0, _ => simp
    | 1, _ => simp
    | 2, _ => simp
    | 3, _ => simp
    | 4, _ => have := k8 rfl; simp; omega
  · obtain ⟨k1, _, _, k2, k3, _, k4, _⟩ := h5 hwr
    match row, k1 with
    | 0, _ => simp
    | 1, _ => have := k2 rfl; simp; omega
    | 2, _ => have := k3 rfl; simp; omega
    | 3, _ => simp
    | 4, _ => have := k4 rfl; simp; omega
theorem chenLaw : Law chen chenOk chenRank chenAl :=
  ⟨fun o s l ha h hr hl hov => chen_fine o s l ha h hr hl hov, fun o s l _ h hov hd => chen_done o s l h hov hd, fun o s ha h hov => chen_pos o s ha h hov⟩
def chenMost (o : Im) : Nat := if o.wr then o.width + 2 * o.n + 2 else o.width + 4
theorem chen_first (o : Im) (rec : List Int) (hr : Wd rec) (h1 : o.wr = true → rec.length = o.width) (h2 : o.wr = false → rec = []) : Live chenOk chenRank o (chenMost o) (start rec) := by
  refine ⟨chen_start o rec h1 h2, hr, fun h => (by simp [start] at h), ?_⟩
  unfold chenRank chenMost start
  cases o.wr <;> simp

end Go.Proofs.YtikjkmomokhanaaDoor.Op
