/-
  What an operation of an object is, step by step, as the document's chapters tell it: plain functions on lists of words.
  Nothing here speaks of a program.
-/
import Derived.Test.YtaclphhbdfoaeaaDoorWords
set_option linter.unusedSimpArgs false
set_option linter.unusedVariables false
namespace Go.Proofs.YtaclphhbdfoaeaaDoor.Op

/-- an operation that is under way: which row of its chapter comes next (from 0 on), how often that row was made, the words that it keeps -/
structure St where
  row : Nat
  i : Nat
  rc : List Int
  a : Int
  b : Int
  used : List Bool
  tries : Nat
  steps : Nat
  code : Int
  over : Bool

/-- what does not change: where the object stands, how many words a record has, how many readers, slots and attempts there are, whose operation it is, whether it writes -/
structure Im where
  at_ : Nat
  width : Nat
  n : Nat
  slots : Nat
  cap : Nat
  reader : Nat
  wr : Bool

def start (rec : List Int) : St := ⟨0, 0, rec, 0, 0, List.replicate 20 false, 0, 0, 0, false⟩

def St.to (s : St) (r : Nat) : St := { s with row := r, i := 0 }
def St.fin (s : St) (wr : Bool) (code : Int) : St := { s with over := true, code := code, rc := if code = 0 ∧ wr = false then s.rc else [] }
/-- an element of a list, 0 behind its end -/
def gd (l : List Int) (k : Nat) : Int := l.getD k 0
/-- the word of an object that stands at a place -/
def get (o : Im) (l : List Int) (k : Nat) : Int := l.getD (o.at_ + k) 0
def put (o : Im) (l : List Int) (k : Nat) (v : Int) : List Int := l.set (o.at_ + k) v

/-- the next word of the record whose words stand from k on; behind the last one comes a row, or the end -/
def word (o : Im) (s : St) (l : List Int) (k : Nat) (next : Option Nat) : St × List Int :=
  let s1 : St := if o.wr then { s with i := s.i + 1 } else { s with i := s.i + 1, rc := s.rc ++ [get o l (k + s.i)] }
  let l1 := if o.wr then put o l (k + s.i) (s.rc.getD s.i 0) else l
  if s.i + 1 < o.width then (s1, l1) else
    match next with
    | none => (s1.fin o.wr 0, l1)
    | some r => (s1.to r, l1)

/-! ### four slots -/
def fourK (o : Im) (a b : Int) : Nat := 4 + (2 * a + b).toNat * o.width
def fourW (o : Im) (s : St) (l : List Int) : St × List Int :=
  match s.row with
  | 0 => ({ s.to 1 with a := (get o l 1 + 1) % 2 }, l)
  | 1 => ({ s.to 2 with b := (get o l (2 + s.a.toNat) + 1) % 2 }, l)
  | 2 => word o s l (fourK o s.a s.b) (some 3)
  | 3 => (s.to 4, put o l (2 + s.a.toNat) s.b)
  | _ => (s.fin true 0, put o l 0 s.a)
def fourR (o : Im) (s : St) (l : List Int) : St × List Int :=
  match s.row with
  | 0 => ({ s.to 1 with a := get o l 0 % 2 }, l)
  | 1 => (s.to 2, put o l 1 s.a)
  | 2 => ({ s.to 3 with b := get o l (2 + s.a.toNat) % 2 }, l)
  | _ => word o s l (fourK o s.a s.b) none
def more (s : St) : St := { s with steps := s.steps + 1 }
def four (o : Im) (s : St) (l : List Int) : St × List Int := if o.wr then fourW o (more s) l else fourR o (more s) l
/-- what holds ahead of each step of four slots -/
def fourOk (o : Im) (s : St) : Prop :=
  (0 ≤ s.a ∧ s.a ≤ 1) ∧ (0 ≤ s.b ∧ s.b ≤ 1) ∧ s.used = List.replicate 20 false ∧ s.tries = 0 ∧
  (s.over = false → s.code = 0 ∧
    (o.wr = true → s.row ≤ 4 ∧ s.rc.length = o.width ∧ (s.row ≠ 2 → s.i = 0) ∧ (s.row = 2 → s.i < o.width)) ∧
    (o.wr = false → s.row ≤ 3 ∧ s.rc.length = s.i ∧ (s.row ≠ 3 → s.i = 0) ∧ (s.row = 3 → s.i < o.width)))
def fourRank (o : Im) (s : St) : Nat :=
  if s.over then 0 else
  if o.wr then (match s.row with | 0 => o.width + 4 | 1 => o.width + 3 | 2 => o.width + 2 - s.i | 3 => 2 | _ => 1)
  else (match s.row with | 0 => o.width + 3 | 1 => o.width + 2 | 2 => o.width + 1 | _ => o.width - s.i)

/-- all words of a list are words -/
def Wd (l : List Int) : Prop := ∀ x ∈ l, 0 ≤ x ∧ x < 4294967296
theorem Wd.get {l : List Int} (h : Wd l) (o : Im) (k : Nat) : 0 ≤ Op.get o l k ∧ Op.get o l k < 4294967296 := by
  unfold Op.get
  by_cases hk : o.at_ + k < l.length
  · rw [List.getD_eq_getElem?_getD, List.getElem?_eq_getElem hk]
    exact h _ (List.getElem_mem hk)
  · rw [List.getD_eq_getElem?_getD, List.getElem?_eq_none (by omega)]
    simp
theorem Wd.put {l : List Int} (h : Wd l) (o : Im) (k : Nat) {v : Int} (hv : 0 ≤ v ∧ v < 4294967296) : Wd (Op.put o l k v) := by
  intro x hx
  rcases List.mem_or_eq_of_mem_set hx with hx | rfl
  · exact h x hx
  · exact hv
theorem get_gd (o : Im) (l : List Int) (k : Nat) : get o l k = gd l (o.at_ + k) := rfl
theorem put_length (o : Im) (l : List Int) (k : Nat) (v : Int) : (put o l k v).length = l.length := by unfold put; simp

theorem getD_wd {l : List Int} (h : ∀ x ∈ l, 0 ≤ x ∧ x < 4294967296) (k : Nat) : 0 ≤ l.getD k 0 ∧ l.getD k 0 < 4294967296 := by
  by_cases hk : k < l.length
  · rw [List.getD_eq_getElem?_getD, List.getElem?_eq_getElem hk]
    exact h _ (List.getElem_mem hk)
  · rw [List.getD_eq_getElem?_getD, List.getElem?_eq_none (by omega)]
    simp

/-- what a step leaves as it was meant -/
structure Fine (ok : Im → St → Prop) (rank : Im → St → Nat) (o : Im) (s : St) (l : List Int) (r : St × List Int) : Prop where
  ok : ok o r.1
  wrc : Wd r.1.rc
  words : Wd r.2
  len : r.2.length = l.length
  steps : r.1.steps = s.steps + 1
  rank : rank o r.1 + 1 ≤ rank o s

theorem fourW_fine (o : Im) (s : St) (l : List Int) (hwr : o.wr = true) (h : fourOk o s) (hr : Wd s.rc) (hl : Wd l) (hw : 0 < o.width) (hov : s.over = false) : Fine fourOk fourRank o s l (four o s l) := by
  obtain ⟨ha, hb, hu, ht, h4⟩ := h
  obtain ⟨hc, h5, _⟩ := h4 hov
  obtain ⟨h5, h6, h7, h8⟩ := h5 hwr
  have e : four o s l = fourW o (more s) l := by unfold four; rw [if_pos hwr]
  rw [e]
  have g := fun k => hl.get o k
  have gr := getD_wd hr s.i
  obtain ⟨row, i, rec, a, b, used, tries, steps, code, over⟩ := s
  simp only at *
  subst hov
  match row, h5 with
  | 0, _ =>
    have hi := h7 (by omega)
    subst hi
    have := g 1
    refine ⟨?_, hr, hl, rfl, rfl, ?_⟩
    · simp [fourW, more, St.to, fourOk, hwr, h6, hb, hu, ht, hc]; omega
    · simp [fourW, more, St.to, fourRank, hwr]
  | 1, _ =>
    have hi := h7 (by omega)
    subst hi
    have := g (2 + a.toNat)
    refine ⟨?_, hr, hl, rfl, rfl, ?_⟩
    · simp [fourW, more, St.to, fourOk, hwr, h6, ha, hu, ht, hc, hw]; omega
    · simp [fourW, more, St.to, fourRank, hwr]
  | 2, _ =>
    have hi := h8 rfl
    simp only [fourW, more, word, hwr, if_true]
    by_cases hlt : i + 1 < o.width
    · rw [if_pos hlt]
      refine ⟨?_, hr, hl.put _ _ gr, put_length _ _ _ _, rfl, ?_⟩
      · simp [fourOk, hwr, h6, ha, hb, hu, ht, hc]; omega
      · simp [fourRank, hwr]; omega
    · rw [if_neg hlt]
      refine ⟨?_, hr, hl.put _ _ gr, put_length _ _ _ _, rfl, ?_⟩
      · simp [fourOk, St.to, hwr, h6, ha, hb, hu, ht, hc]
      · simp [fourRank, St.to, hwr]; omega
  | 3, _ =>
    have hi := h7 (by omega)
    subst hi
    refine ⟨?_, hr, hl.put _ _ (by first | omega | (simp only [more]; omega)), put_length _ _ _ _, rfl, ?_⟩
    · simp [fourW, more, St.to, fourOk, hwr, h6, ha, hb, hu, ht, hc]
    · simp [fourW, more, St.to, fourRank, hwr]
  | 4, _ =>
    have hi := h7 (by omega)
    subst hi
    refine ⟨?_, ?_, hl.put _ _ (by first | omega | (simp only [more]; omega)), put_length _ _ _ _, rfl, ?_⟩
    · simp [fourW, more, St.fin, fourOk, ha, hb, hu, ht]
    · simp [fourW, more, St.fin, Wd]
    · simp [fourW, more, St.fin, fourRank, hwr]
theorem fourR_fine (o : Im) (s : St) (l : List Int) (hwr : o.wr = false) (h : fourOk o s) (hr : Wd s.rc) (hl : Wd l) (hw : 0 < o.width) (hov : s.over = false) : Fine fourOk fourRank o s l (four o s l) := by
  obtain ⟨ha, hb, hu, ht, h4⟩ := h
  obtain ⟨hc, _, h5⟩ := h4 hov
  obtain ⟨h5, h6, h7, h8⟩ := h5 hwr
  have e : four o s l = fourR o (more s) l := by unfold four; rw [if_neg (by simp [hwr])]
  rw [e]
  have g := fun k => hl.get o k
  obtain ⟨row, i, rec, a, b, used, tries, steps, code, over⟩ := s
  simp only at *
  subst hov
  match row, h5 with
  | 0, _ =>
    have hi := h7 (by omega)
    subst hi
    have := g 0
    refine ⟨?_, hr, hl, rfl, rfl, ?_⟩
    · simp [fourR, more, St.to, fourOk, hwr, h6, hb, hu, ht, hc]; omega
    · simp [fourR, more, St.to, fourRank, hwr]
  | 1, _ =>
    have hi := h7 (by omega)
    subst hi
    refine ⟨?_, hr, hl.put _ _ (by first | omega | (simp only [more]; omega)), put_length _ _ _ _, rfl, ?_⟩
    · simp [fourR, more, St.to, fourOk, hwr, h6, ha, hb, hu, ht, hc]
    · simp [fourR, more, St.to, fourRank, hwr]
  | 2, _ =>
    have hi := h7 (by omega)
    subst hi
    have := g (2 + a.toNat)
    refine ⟨?_, hr, hl, rfl, rfl, ?_⟩
    · simp [fourR, more, St.to, fourOk, hwr, h6, ha, hu, ht, hc, hw]; omega
    · simp [fourR, more, St.to, fourRank, hwr]
  | 3, _ =>
    have hi := h8 rfl
    have hrec : Wd (rec ++ [get o l (fourK o a b + i)]) := by
      intro x hx
      rcases List.mem_append.1 hx with hx | hx
      · exact hr x hx
      · simp at hx
        subst hx
        exact g _
    simp only [fourR, more, word, hwr, Bool.false_eq_true, if_false]
    by_cases hlt : i + 1 < o.width
    · rw [if_pos hlt]
      refine ⟨?_, hrec, hl, rfl, rfl, ?_⟩
      · simp [fourOk, hwr, h6, ha, hb, hu, ht, hc]; omega
      · simp [fourRank, hwr]; omega
    · rw [if_neg hlt]
      refine ⟨?_, by simpa [St.fin] using hrec, hl, rfl, rfl, ?_⟩
      · simp [fourOk, St.fin, ha, hb, hu, ht]
      · simp [fourRank, St.fin, hwr]; omega
theorem four_fine (o : Im) (s : St) (l : List Int) (h : fourOk o s) (hr : Wd s.rc) (hl : Wd l) (hw : 0 < o.width) (hov : s.over = false) : Fine fourOk fourRank o s l (four o s l) := by
  cases hwr : o.wr
  · exact fourR_fine o s l hwr h hr hl hw hov
  · exact fourW_fine o s l hwr h hr hl hw hov
theorem four_start (o : Im) (rec : List Int) (h1 : o.wr = true → rec.length = o.width) (h2 : o.wr = false → rec = []) : fourOk o (start rec) := by
  refine ⟨by simp [start], by simp [start], rfl, rfl, fun _ => ⟨rfl, fun h => ⟨by simp [start], h1 h, fun _ => rfl, by simp [start]⟩, fun h => ⟨by simp [start], by simp [start, h2 h], fun _ => rfl, by simp [start]⟩⟩⟩

end Go.Proofs.YtaclphhbdfoaeaaDoor.Op
