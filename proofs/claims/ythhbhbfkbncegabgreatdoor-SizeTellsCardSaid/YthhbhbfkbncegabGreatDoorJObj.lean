/-

  An object by value: what package operation, and the document's own layer, say of it.
-/
import Derived.Test.YthhbhbfkbncegabGreatDoorWords
import Derived.Test.YthhbhbfkbncegabGreatDoorRows
import Derived.Test.YthhbhbfkbncegabGreatDoorWordsK
import Derived.Test.YthhbhbfkbncegabGreatDoorRegionOff
import Derived.WalkKit
import Derived.WalkLawsBesides
import Derived.ProofKit
import Derived.OpenShut
import Derived.Lib.Hide
import Derived.Deep.QuietTactic
import Derived.BigQuiet
import Derived.Deep.LoopGhost
import Derived.Deep.RegionHeld3
import Derived.Deep.CutRange
import Derived.Deep.CutBlock
import Derived.StillTailTactics
section
set_option linter.unusedSimpArgs false
set_option linter.unusedVariables false
namespace Go.Proofs.YthhbhbfkbncegabGreatDoor.Op

/-- an operation that is under way: which row of its chapter comes next (from 0 on), how often that row was made, the words that it keeps -/
structure St where
  row : Nat
  i : Nat
  rc : List Int
  a : Int
  b : Int
  used : List Bool
  tries : Nat
  steps : Nat
  code : Int
  over : Bool

/-- what does not change: where the object stands, how many words a record has, how many readers, slots and attempts there are, whose operation it is, whether it writes -/
structure Im where
  at_ : Nat
  width : Nat
  n : Nat
  slots : Nat
  cap : Nat
  reader : Nat
  wr : Bool

def start (rec : List Int) : St := ⟨0, 0, rec, 0, 0, List.replicate 20 false, 0, 0, 0, false⟩

def St.to (s : St) (r : Nat) : St := { s with row := r, i := 0 }
def St.fin (s : St) (wr : Bool) (code : Int) : St := { s with over := true, code := code, rc := if code = 0 ∧ wr = false then s.rc else [] }
/-- an element of a list, 0 behind its end -/
def gd (l : List Int) (k : Nat) : Int := l.getD k 0
/-- the word of an object that stands at a place -/
def get (o : Im) (l : List Int) (k : Nat) : Int := l.getD (o.at_ + k) 0
def put (o : Im) (l : List Int) (k : Nat) (v : Int) : List Int := l.set (o.at_ + k) v

/-- the next word of the record whose words stand from k on; behind the last one comes a row, or the end -/
def word (o : Im) (s : St) (l : List Int) (k : Nat) (next : Option Nat) : St × List Int :=
  let s1 : St := if o.wr then { s with i := s.i + 1 } else { s with i := s.i + 1, rc := s.rc ++ [get o l (k + s.i)] }
  let l1 := if o.wr then put o l (k + s.i) (s.rc.getD s.i 0) else l
  if s.i + 1 < o.width then (s1, l1) else
    match next with
    | none => (s1.fin o.wr 0, l1)
    | some r => (s1.to r, l1)

/-! ### four slots -/
def fourK (o : Im) (a b : Int) : Nat := 4 + (2 * a + b).toNat * o.width
def fourW (o : Im) (s : St) (l : List Int) : St × List Int :=
  match s.row with
  | 0 => ({ s.to 1 with a := (get o l 1 + 1) % 2 }, l)
  | 1 => ({ s.to 2 with b := (get o l (2 + s.a.toNat) + 1) % 2 }, l)
  | 2 => word o s l (fourK o s.a s.b) (some 3)
  | 3 => (s.to 4, put o l (2 + s.a.toNat) s.b)
  | _ => (s.fin true 0, put o l 0 s.a)
def fourR (o : Im) (s : St) (l : List Int) : St × List Int :=
  match s.row with
  | 0 => ({ s.to 1 with a := get o l 0 % 2 }, l)
  | 1 => (s.to 2, put o l 1 s.a)
  | 2 => ({ s.to 3 with b := get o l (2 + s.a.toNat) % 2 }, l)
  | _ => word o s l (fourK o s.a s.b) none
def more (s : St) : St := { s with steps := s.steps + 1 }
def four (o : Im) (s : St) (l : List Int) : St × List Int := if o.wr then fourW o (more s) l else fourR o (more s) l
/-- what holds ahead of each step of four slots -/
def fourOk (o : Im) (s : St) : Prop :=
  (0 ≤ s.a ∧ s.a ≤ 1) ∧ (0 ≤ s.b ∧ s.b ≤ 1) ∧ s.used = List.replicate 20 false ∧ s.tries = 0 ∧
  (s.over = false → s.code = 0 ∧
    (o.wr = true → s.row ≤ 4 ∧ s.rc.length = o.width ∧ (s.row ≠ 2 → s.i = 0) ∧ (s.row = 2 → s.i < o.width)) ∧
    (o.wr = false → s.row ≤ 3 ∧ s.rc.length = s.i ∧ (s.row ≠ 3 → s.i = 0) ∧ (s.row = 3 → s.i < o.width)))
def fourRank (o : Im) (s : St) : Nat :=
  if s.over then 0 else
  if o.wr then (match s.row with | 0 => o.width + 4 | 1 => o.width + 3 | 2 => o.width + 2 - s.i | 3 => 2 | _ => 1)
  else (match s.row with | 0 => o.width + 3 | 1 => o.width + 2 | 2 => o.width + 1 | _ => o.width - s.i)

/-- all words of a list are words -/
def Wd (l : List Int) : Prop := ∀ x ∈ l, 0 ≤ x ∧ x < 4294967296
theorem Wd.get {l : List Int} (h : Wd l) (o : Im) (k : Nat) : 0 ≤ Op.get o l k ∧ Op.get o l k < 4294967296 := by
  unfold Op.get
  by_cases hk : o.at_ + k < l.length
  · rw [List.getD_eq_getElem?_getD, List.getElem?_eq_getElem hk]
    exact h _ (List.getElem_mem hk)
  · rw [List.getD_eq_getElem?_getD, List.getElem?_eq_none (by omega)]
    simp
theorem Wd.put {l : List Int} (h : Wd l) (o : Im) (k : Nat) {v : Int} (hv : 0 ≤ v ∧ v < 4294967296) : Wd (Op.put o l k v) := by
  intro x hx
  rcases List.mem_or_eq_of_mem_set hx with hx | rfl
  · exact h x hx
  · exact hv
theorem get_gd (o : Im) (l : List Int) (k : Nat) : get o l k = gd l (o.at_ + k) := rfl
theorem put_length (o : Im) (l : List Int) (k : Nat) (v : Int) : (put o l k v).length = l.length := by unfold put; simp

theorem getD_wd {l : List Int} (h : ∀ x ∈ l, 0 ≤ x ∧ x < 4294967296) (k : Nat) : 0 ≤ l.getD k 0 ∧ l.getD k 0 < 4294967296 := by
  by_cases hk : k < l.length
  · rw [List.getD_eq_getElem?_getD, List.getElem?_eq_getElem hk]
    exact h _ (List.getElem_mem hk)
  · rw [List.getD_eq_getElem?_getD, List.getElem?_eq_none (by omega)]
    simp

/-- what a step leaves as it was meant -/
structure Fine (ok : Im → St → Prop) (rank : Im → St → Nat) (o : Im) (s : St) (l : List Int) (r : St × List Int) : Prop where
  ok : ok o r.1
  wrc : Wd r.1.rc
  words : Wd r.2
  len : r.2.length = l.length
  steps : r.1.steps = s.steps + 1
  rank : rank o r.1 + 1 ≤ rank o s

theorem fourW_fine (o : Im) (s : St) (l : List Int) (hwr : o.wr = true) (h : fourOk o s) (hr : Wd s.rc) (hl : Wd l) (hw : 0 < o.width) (hov : s.over = false) : Fine fourOk fourRank o s l (four o s l) := by
  obtain ⟨ha, hb, hu, ht, h4⟩ := h
  obtain ⟨hc, h5, _⟩ := h4 hov
  obtain ⟨h5, h6, h7, h8⟩ := h5 hwr
  have e : four o s l = fourW o (more s) l := by unfold four; rw [if_pos hwr]
  rw [e]
  have g := fun k => hl.get o k
  have gr := getD_wd hr s.i
  obtain ⟨row, i, rec, a, b, used, tries, steps, code, over⟩ := s
  simp only at *
  subst hov
  match row, h5 with
  | 0, _ =>
    have hi := h7 (by omega)
    subst hi
    have := g 1
    refine ⟨?_, hr, hl, rfl, rfl, ?_⟩
    · simp [fourW, more, St.to, fourOk, hwr, h6, hb, hu, ht, hc]; omega
    · simp [fourW, more, St.to, fourRank, hwr]
  | 1, _ =>
    have hi := h7 (by omega)
    subst hi
    have := g (2 + a.toNat)
    refine ⟨?_, hr, hl, rfl, rfl, ?_⟩
    · simp [fourW, more, St.to, fourOk, hwr, h6, ha, hu, ht, hc, hw]; omega
    · simp [fourW, more, St.to, fourRank, hwr]
  | 2, _ =>
    have hi := h8 rfl
    simp only [fourW, more, word, hwr, if_true]
    by_cases hlt : i + 1 < o.width
    · rw [if_pos hlt]
      refine ⟨?_, hr, hl.put _ _ gr, put_length _ _ _ _, rfl, ?_⟩
      · simp [fourOk, hwr, h6, ha, hb, hu, ht, hc]; omega
      · simp [fourRank, hwr]; omega
    · rw [if_neg hlt]
      refine ⟨?_, hr, hl.put _ _ gr, put_length _ _ _ _, rfl, ?_⟩
      · simp [fourOk, St.to, hwr, h6, ha, hb, hu, ht, hc]
      · simp [fourRank, St.to, hwr]; omega
  | 3, _ =>
    have hi := h7 (by omega)
    subst hi
    refine ⟨?_, hr, hl.put _ _ (by first | omega | (simp only [more]; omega)), put_length _ _ _ _, rfl, ?_⟩
    · simp [fourW, more, St.to, fourOk, hwr, h6, ha, hb, hu, ht, hc]
    · simp [fourW, more, St.to, fourRank, hwr]
  | 4, _ =>
    have hi := h7 (by omega)
    subst hi
    refine ⟨?_, ?_, hl.put _ _ (by first | omega | (simp only [more]; omega)), put_length _ _ _ _, rfl, ?_⟩
    · simp [fourW, more, St.fin, fourOk, ha, hb, hu, ht]
    · simp [fourW, more, St.fin, Wd]
    · simp [fourW, more, St.fin, fourRank, hwr]
theorem fourR_fine (o : Im) (s : St) (l : List Int) (hwr : o.wr = false) (h : fourOk o s) (hr : Wd s.rc) (hl : Wd l) (hw : 0 < o.width) (hov : s.over = false) : Fine fourOk fourRank o s l (four o s l) := by
  obtain ⟨ha, hb, hu, ht, h4⟩ := h
  obtain ⟨hc, _, h5⟩ := h4 hov
  obtain ⟨h5, h6, h7, h8⟩ := h5 hwr
  have e : four o s l = fourR o (more s) l := by unfold four; rw [if_neg (by simp [hwr])]
  rw [e]
  have g := fun k => hl.get o k
  obtain ⟨row, i, rec, a, b, used, tries, steps, code, over⟩ := s
  simp only at *
  subst hov
  match row, h5 with
  | 0, _ =>
    have hi := h7 (by omega)
    subst hi
    have := g 0
    refine ⟨?_, hr, hl, rfl, rfl, ?_⟩
    · simp [fourR, more, St.to, fourOk, hwr, h6, hb, hu, ht, hc]; omega
    · simp [fourR, more, St.to, fourRank, hwr]
  | 1, _ =>
    have hi := h7 (by omega)
    subst hi
    refine ⟨?_, hr, hl.put _ _ (by first | omega | (simp only [more]; omega)), put_length _ _ _ _, rfl, ?_⟩
    · simp [fourR, more, St.to, fourOk, hwr, h6, ha, hb, hu, ht, hc]
    · simp [fourR, more, St.to, fourRank, hwr]
  | 2, _ =>
    have hi := h7 (by omega)
    subst hi
    have := g (2 + a.toNat)
    refine ⟨?_, hr, hl, rfl, rfl, ?_⟩
    · simp [fourR, more, St.to, fourOk, hwr, h6, ha, hu, ht, hc, hw]; omega
    · simp [fourR, more, St.to, fourRank, hwr]
  | 3, _ =>
    have hi := h8 rfl
    have hrec : Wd (rec ++ [get o l (fourK o a b + i)]) := by
      intro x hx
      rcases List.mem_append.1 hx with hx | hx
      · exact hr x hx
      · simp at hx
        subst hx
        exact g _
    simp only [fourR, more, word, hwr, Bool.false_eq_true, if_false]
    by_cases hlt : i + 1 < o.width
    · rw [if_pos hlt]
      refine ⟨?_, hrec, hl, rfl, rfl, ?_⟩
      · simp [fourOk, hwr, h6, ha, hb, hu, ht, hc]; omega
      · simp [fourRank, hwr]; omega
    · rw [if_neg hlt]
      refine ⟨?_, by simpa [St.fin] using hrec, hl, rfl, rfl, ?_⟩
      · simp [fourOk, St.fin, ha, hb, hu, ht]
      · simp [fourRank, St.fin, hwr]; omega
theorem four_fine (o : Im) (s : St) (l : List Int) (h : fourOk o s) (hr : Wd s.rc) (hl : Wd l) (hw : 0 < o.width) (hov : s.over = false) : Fine fourOk fourRank o s l (four o s l) := by
  cases hwr : o.wr
  · exact fourR_fine o s l hwr h hr hl hw hov
  · exact fourW_fine o s l hwr h hr hl hw hov
theorem four_start (o : Im) (rec : List Int) (h1 : o.wr = true → rec.length = o.width) (h2 : o.wr = false → rec = []) : fourOk o (start rec) := by
  refine ⟨by simp [start], by simp [start], rfl, rfl, fun _ => ⟨rfl, fun h => ⟨by simp [start], h1 h, fun _ => rfl, by simp [start]⟩, fun h => ⟨by simp [start], by simp [start, h2 h], fun _ => rfl, by simp [start]⟩⟩⟩

end Go.Proofs.YthhbhbfkbncegabGreatDoor.Op
end
section
section
set_option linter.unusedSimpArgs false
set_option linter.unusedVariables false
namespace Go.Proofs.YthhbhbfkbncegabGreatDoor.Op

/-- words laid from a place on -/
def lay (l : List Int) (k : Nat) : List Int → List Int
  | [] => l
  | w :: ws => lay (l.set k w) (k + 1) ws
theorem lay_length (ws : List Int) : ∀ (l : List Int) (k : Nat), (lay l k ws).length = l.length := by
  induction ws with
  | nil => intro l k; rfl
  | cons w ws ih => intro l k; rw [lay, ih, List.length_set]
theorem lay_snoc (ws : List Int) (u : Int) : ∀ (l : List Int) (k : Nat), lay l k (ws ++ [u]) = (lay l k ws).set (k + ws.length) u := by
  induction ws with
  | nil => intro l k; simp [lay]
  | cons w ws ih => intro l k; rw [List.cons_append, lay, ih, lay, List.length_cons]; congr 1 <;> omega
theorem set_get (l : List Int) (k j : Nat) (v : Int) (hk : k < l.length) : (l.set k v).getD j 0 = if j = k then v else l.getD j 0 := by
  simp only [List.getD_eq_getElem?_getD, List.getElem?_set]
  by_cases h : k = j
  · subst h
    simp [hk]
  · rw [if_neg h, if_neg (fun e => h e.symm)]
theorem lay_get (ws : List Int) : ∀ (l : List Int) (k j : Nat), k + ws.length ≤ l.length → (lay l k ws).getD j 0 = if k ≤ j ∧ j < k + ws.length then ws.getD (j - k) 0 else l.getD j 0 := by
  induction ws with
  | nil => intro l k j _; rw [lay, if_neg (by simp <;> omega)]
  | cons w ws ih =>
    intro l k j h
    rw [List.length_cons] at h ⊢
    rw [lay, ih _ _ _ (by rw [List.length_set]; omega), set_get _ _ _ _ (by omega)]
    by_cases h1 : j = k
    · subst h1
      rw [if_neg (by omega), if_pos rfl, if_pos (by omega), Nat.sub_self]
      rfl
    · rw [if_neg h1]
      by_cases h2 : k + 1 ≤ j ∧ j < k + 1 + ws.length
      · rw [if_pos h2, if_pos (by omega)]
        have e : j - k = (j - (k + 1)) + 1 := by omega
        rw [e]
        rfl
      · rw [if_neg h2, if_neg (by omega)]
theorem get_put (o : Im) (l : List Int) (k j : Nat) (v : Int) (h : o.at_ + k < l.length) : get o (put o l k v) j = if j = k then v else get o l j := by
  unfold get put
  rw [set_get _ _ _ _ h]
  by_cases e : j = k
  · rw [if_pos e, if_pos (by omega)]
  · rw [if_neg e, if_neg (by omega)]
theorem get_lay (o : Im) (l : List Int) (k j : Nat) (ws : List Int) (h : o.at_ + k + ws.length ≤ l.length) : get o (lay l (o.at_ + k) ws) j = if k ≤ j ∧ j < k + ws.length then ws.getD (j - k) 0 else get o l j := by
  unfold get
  rw [lay_get _ _ _ _ h]
  by_cases e : k ≤ j ∧ j < k + ws.length
  · rw [if_pos e, if_pos (by omega)]
    congr 1
    omega
  · rw [if_neg e, if_neg (by omega)]
/-- the words of an object from k on -/
def part (o : Im) (l : List Int) (k n : Nat) : List Int := (List.range n).map fun j => get o l (k + j)
theorem part_length (o : Im) (l : List Int) (k n : Nat) : (part o l k n).length = n := by simp [part]
theorem part_succ (o : Im) (l : List Int) (k n : Nat) : part o l k (n + 1) = part o l k n ++ [get o l (k + n)] := by simp [part, List.range_succ]
theorem part_eq {o : Im} {l : List Int} {k n : Nat} {ws : List Int} (hn : ws.length = n) (h : ∀ j, j < n → get o l (k + j) = ws.getD j 0) : part o l k n = ws := by
  apply List.ext_getElem
  · rw [part_length, hn]
  · intro j h1 h2
    have := h j (by omega)
    rw [List.getD_eq_getElem?_getD, List.getElem?_eq_getElem h2] at this
    simpa [part] using this

/-! ### four slots -/
def bit01 (x : Int) : Prop := 0 ≤ x ∧ x ≤ 1
/-- the object holds the record -/
structure FourHolds (o : Im) (l : List Int) (last : List Int) : Prop where
  len : o.at_ + (4 + 4 * o.width) ≤ l.length
  b0 : bit01 (get o l 0)
  b1 : bit01 (get o l 1)
  b2 : bit01 (get o l 2)
  b3 : bit01 (get o l 3)
  is : part o l (fourK o (get o l 0) (get o l (2 + (get o l 0).toNat))) o.width = last

theorem FourHolds.slot {o : Im} {l last : List Int} (h : FourHolds o l last) {a : Int} (ha : bit01 a) : bit01 (get o l (2 + a.toNat)) := by
  unfold bit01 at ha
  by_cases e : a = 0
  · subst e; exact h.b2
  · have e : a = 1 := by omega
    subst e; exact h.b3

def fourA (o : Im) (l : List Int) : Int := (get o l 1 + 1) % 2
def fourB (o : Im) (l : List Int) : Int := (get o l (2 + (fourA o l).toNat) + 1) % 2

def fourJ (o : Im) (l0 rec : List Int) (s : St) (l : List Int) : Prop :=
  (s.over = false ∧ s.rc = rec ∧ s.row ≤ 4 ∧ (1 ≤ s.row → s.a = fourA o l0) ∧ (2 ≤ s.row → s.b = fourB o l0) ∧
    ((s.row ≤ 1 ∧ l = l0) ∨ (s.row = 2 ∧ s.i < o.width ∧ l = lay l0 (o.at_ + fourK o (fourA o l0) (fourB o l0)) (rec.take s.i)) ∨
      (s.row = 3 ∧ l = lay l0 (o.at_ + fourK o (fourA o l0) (fourB o l0)) rec) ∨
      (s.row = 4 ∧ l = put o (lay l0 (o.at_ + fourK o (fourA o l0) (fourB o l0)) rec) (2 + (fourA o l0).toNat) (fourB o l0)))) ∨
  (s.over = true ∧ s.code = 0 ∧ s.rc = [] ∧ l = put o (put o (lay l0 (o.at_ + fourK o (fourA o l0) (fourB o l0)) rec) (2 + (fourA o l0).toNat) (fourB o l0)) 0 (fourA o l0))

theorem fourJ_step (o : Im) (l0 rec : List Int) (s : St) (l : List Int) (hwr : o.wr = true) (hrec : rec.length = o.width) (hw : 0 < o.width) (h : fourJ o l0 rec s l) (hov : s.over = false) : fourJ o l0 rec (four o s l).1 (four o s l).2 := by
  rcases h with ⟨_, hr, h4, ha, hb, h⟩ | ⟨h, _⟩
  · have e : four o s l = fourW o (more s) l := by unfold four; rw [if_pos hwr]
    rw [e]
    obtain ⟨row, i, rc, a, b, used, tries, steps, code, over⟩ := s
    simp only at *
    subst hov
    subst hr
    rcases h with ⟨h, rfl⟩ | ⟨rfl, hi, rfl⟩ | ⟨rfl, rfl⟩ | ⟨rfl, rfl⟩
    · match row, h with
      | 0, _ => exact .inl ⟨rfl, rfl, by simp [fourW, more, St.to], fun _ => rfl, by simp [fourW, more, St.to], .inl ⟨by simp [fourW, more, St.to], rfl⟩⟩
      | 1, _ =>
        have ha' := ha (by omega)
        subst ha'
        exact .inl ⟨rfl, rfl, by simp [fourW, more, St.to], fun _ => rfl, fun _ => rfl, .inr (.inl ⟨rfl, hw, by simp [fourW, more, St.to, lay]⟩)⟩
    · have ha' := ha (by omega)
      have hb' := hb (by omega)
      subst ha'
      subst hb'
      simp only [fourW, more, word, hwr, if_true]
      have hl : put o (lay l0 (o.at_ + fourK o (fourA o l0) (fourB o l0)) (rc.take i)) (fourK o (fourA o l0) (fourB o l0) + i) (rc.getD i 0) = lay l0 (o.at_ + fourK o (fourA o l0) (fourB o l0)) (rc.take (i + 1)) := by
        have hlt : i < rc.length := by omega
        rw [List.take_succ_eq_append_getElem hlt, lay_snoc, List.length_take, Nat.min_eq_left (by omega)]
        unfold put
        rw [List.getD_eq_getElem?_getD, List.getElem?_eq_getElem hlt, Nat.add_assoc]
        rfl
      rw [hl]
      by_cases hlt : i + 1 < o.width
      · rw [if_pos hlt]
        exact .inl ⟨rfl, rfl, by simp, fun _ => rfl, fun _ => rfl, .inr (.inl ⟨rfl, hlt, rfl⟩)⟩
      · rw [if_neg hlt]
        exact .inl ⟨rfl, rfl, by simp [St.to], fun _ => rfl, fun _ => rfl, .inr (.inr (.inl ⟨rfl, by rw [List.take_of_length_le (by omega)]⟩))⟩
    · have ha' := ha (by omega)
      have hb' := hb (by omega)
      subst ha'
      subst hb'
      exact .inl ⟨rfl, rfl, by simp [fourW, more, St.to], fun _ => rfl, fun _ => rfl, .inr (.inr (.inr ⟨rfl, rfl⟩))⟩
    · have ha' := ha (by omega)
      have hb' := hb (by omega)
      subst ha'
      subst hb'
      exact .inr ⟨rfl, rfl, by simp [fourW, more, St.fin], rfl⟩
  · rw [hov] at h
    cases h

theorem fourK_le (o : Im) {a b : Int} (ha : bit01 a) (hb : bit01 b) : 4 ≤ fourK o a b ∧ fourK o a b + o.width ≤ 4 + 4 * o.width := by
  unfold fourK bit01 at *
  have : (2 * a + b).toNat ≤ 3 := by omega
  generalize (2 * a + b).toNat = q at *
  refine ⟨by omega, ?_⟩
  have := Nat.mul_le_mul_right o.width this
  omega

theorem four_wrote (o : Im) (l0 last rec : List Int) (s : St) (l : List Int) (h0 : FourHolds o l0 last) (hrec : rec.length = o.width) (h : fourJ o l0 rec s l) (hov : s.over = true) : s.code = 0 ∧ l.length = l0.length ∧ FourHolds o l rec := by
  rcases h with ⟨h, _⟩ | ⟨_, hc, _, hl⟩
  · rw [hov] at h
    cases h
  · have hA : bit01 (fourA o l0) := by have := h0.b1; unfold fourA bit01 at *; omega
    have hB : bit01 (fourB o l0) := by have := h0.slot hA; unfold fourB bit01 at *; omega
    have hK := fourK_le o hA hB
    have hlen := h0.len
    have hlaid := lay_length rec l0 (o.at_ + fourK o (fourA o l0) (fourB o l0))
    have hp1 := put_length o (lay l0 (o.at_ + fourK o (fourA o l0) (fourB o l0)) rec) (2 + (fourA o l0).toNat) (fourB o l0)
    have hp2 := put_length o (put o (lay l0 (o.at_ + fourK o (fourA o l0) (fourB o l0)) rec) (2 + (fourA o l0).toNat) (fourB o l0)) 0 (fourA o l0)
    rw [← hl] at hp2
    have hAn : (fourA o l0).toNat ≤ 1 := by unfold bit01 at hA; omega
    have g : ∀ j, get o l j = if j = 0 then fourA o l0 else if j = 2 + (fourA o l0).toNat then fourB o l0 else if fourK o (fourA o l0) (fourB o l0) ≤ j ∧ j < fourK o (fourA o l0) (fourB o l0) + o.width then rec.getD (j - fourK o (fourA o l0) (fourB o l0)) 0 else get o l0 j := by
      intro j
      rw [hl, get_put _ _ _ _ _ (by rw [hp1, hlaid]; omega), get_put _ _ _ _ _ (by rw [hlaid]; omega), get_lay _ _ _ _ _ (by rw [hrec]; omega), hrec]
    have h2 : 2 + (fourA o l0).toNat < 4 := by omega
    have gs : get o l (2 + (fourA o l0).toNat) = fourB o l0 := by rw [g, if_neg (by omega), if_pos rfl]
    have gk : ∀ j, 0 < j → j < 4 → bit01 (get o l0 j) → bit01 (get o l j) := by
      intro j h1 h3 hb
      rw [g, if_neg (by omega)]
      split
      · exact hB
      · rw [if_neg (by omega)]
        exact hb
    have g0 : get o l 0 = fourA o l0 := by rw [g, if_pos rfl]
    refine ⟨hc, by rw [hp2, hp1, hlaid], by rw [hp2, hp1, hlaid]; exact hlen, by rw [g0]; exact hA, gk 1 (by omega) (by omega) h0.b1, gk 2 (by omega) (by omega) h0.b2, gk 3 (by omega) (by omega) h0.b3, ?_⟩
    rw [g0, gs]
    refine part_eq hrec fun j hj => ?_
    rw [g, if_neg (by omega), if_neg (by omega), if_pos (by omega)]
    congr 1
    omega

def fourA' (o : Im) (l : List Int) : Int := get o l 0 % 2
def fourB' (o : Im) (l : List Int) : Int := get o (put o l 1 (fourA' o l)) (2 + (fourA' o l).toNat) % 2
def fourJR (o : Im) (l0 : List Int) (s : St) (l : List Int) : Prop :=
  (s.over = false ∧ s.row ≤ 3 ∧ (1 ≤ s.row → s.a = fourA' o l0) ∧ (3 ≤ s.row → s.b = fourB' o l0) ∧ ((s.row ≤ 1 ∧ l = l0) ∨ (2 ≤ s.row ∧ l = put o l0 1 (fourA' o l0))) ∧
    (s.row ≤ 2 → s.rc = []) ∧ (s.row = 3 → s.i < o.width ∧ s.rc = part o l (fourK o (fourA' o l0) (fourB' o l0)) s.i)) ∨
  (s.over = true ∧ s.code = 0 ∧ l = put o l0 1 (fourA' o l0) ∧ s.rc = part o l (fourK o (fourA' o l0) (fourB' o l0)) o.width)

theorem fourJR_step (o : Im) (l0 : List Int) (s : St) (l : List Int) (hwr : o.wr = false) (hw : 0 < o.width) (h : fourJR o l0 s l) (hov : s.over = false) : fourJR o l0 (four o s l).1 (four o s l).2 := by
  rcases h with ⟨_, h4, ha, hb, h, hr, hr3⟩ | ⟨h, _⟩
  · have e : four o s l = fourR o (more s) l := by unfold four; rw [if_neg (by simp [hwr])]
    rw [e]
    obtain ⟨row, i, rc, a, b, used, tries, steps, code, over⟩ := s
    simp only at *
    subst hov
    match row, h4 with
    | 0, _ =>
      have hr0 := hr (by omega)
      subst hr0
      rcases h with ⟨_, rfl⟩ | ⟨h, _⟩
      · exact .inl ⟨rfl, by simp [fourR, more, St.to], fun _ => rfl, by simp [fourR, more, St.to], .inl ⟨by simp [fourR, more, St.to], rfl⟩, fun _ => rfl, by simp [fourR, more, St.to]⟩
      · omega
    | 1, _ =>
      have hr0 := hr (by omega)
      subst hr0
      have ha' := ha (by omega)
      subst ha'
      rcases h with ⟨_, rfl⟩ | ⟨h, _⟩
      · exact .inl ⟨rfl, by simp [fourR, more, St.to], fun _ => rfl, by simp [fourR, more, St.to], .inr ⟨by simp [fourR, more, St.to], rfl⟩, fun _ => rfl, by simp [fourR, more, St.to]⟩
      · omega
    | 2, _ =>
      have hr0 := hr (by omega)
      subst hr0
      have ha' := ha (by omega)
      subst ha'
      rcases h with ⟨h, _⟩ | ⟨_, rfl⟩
      · omega
      · exact .inl ⟨rfl, by simp [fourR, more, St.to], fun _ => rfl, fun _ => rfl, .inr ⟨by simp [fourR, more, St.to], rfl⟩, fun _ => rfl, fun _ => ⟨hw, by simp [fourR, more, St.to, part]⟩⟩
    | 3, _ =>
      have ha' := ha (by omega)
      have hb' := hb (by omega)
      subst ha'
      subst hb'
      obtain ⟨hi, hr0⟩ := hr3 rfl
      subst hr0
      rcases h with ⟨h, _⟩ | ⟨_, rfl⟩
      · omega
      · simp only [fourR, more, word, hwr, Bool.false_eq_true, if_false]
        rw [← part_succ]
        by_cases hlt : i + 1 < o.width
        · rw [if_pos hlt]
          exact .inl ⟨rfl, by simp, fun _ => rfl, fun _ => rfl, .inr ⟨by simp, rfl⟩, by simp, fun _ => ⟨hlt, rfl⟩⟩
        · rw [if_neg hlt]
          have : i + 1 = o.width := by omega
          exact .inr ⟨rfl, rfl, rfl, by simp [St.fin, this]⟩
  · rw [hov] at h
    cases h
theorem four_told (o : Im) (l0 last : List Int) (s : St) (l : List Int) (h0 : FourHolds o l0 last) (h : fourJR o l0 s l) (hov : s.over = true) : s.code = 0 ∧ s.rc = last ∧ l.length = l0.length ∧ FourHolds o l last := by
  rcases h with ⟨h, _⟩ | ⟨_, hc, hl, hr⟩
  · rw [hov] at h
    cases h
  · have eA : fourA' o l0 = get o l0 0 := by have := h0.b0; unfold fourA' bit01 at *; omega
    have hA : bit01 (fourA' o l0) := by rw [eA]; exact h0.b0
    have hlen := h0.len
    have g : ∀ j, j ≠ 1 → get o l j = get o l0 j := fun j hj => by rw [hl, get_put _ _ _ _ _ (by omega), if_neg hj]
    have g1 : get o l 1 = fourA' o l0 := by rw [hl, get_put _ _ _ _ _ (by omega), if_pos rfl]
    have eB : fourB' o l0 = get o l0 (2 + (get o l0 0).toNat) := by
      have := h0.slot h0.b0
      unfold fourB'
      rw [← hl, eA, g _ (by omega)]
      unfold bit01 at this
      omega
    have hlast : part o l (fourK o (get o l0 0) (get o l0 (2 + (get o l0 0).toNat))) o.width = last := by
      rw [← h0.is]
      refine part_eq (part_length _ _ _ _) fun j hj => ?_
      have hK := fourK_le o h0.b0 (h0.slot h0.b0)
      rw [g _ (by omega)]
      simp [part, List.getD_eq_getElem?_getD, hj]
    have hpl := put_length o l0 1 (fourA' o l0)
    rw [← hl] at hpl
    refine ⟨hc, by rw [hr, eA, eB, hlast], hpl, by omega, by rw [g 0 (by omega)]; exact h0.b0, by rw [g1]; exact hA, by rw [g 2 (by omega)]; exact h0.b2, by rw [g 3 (by omega)]; exact h0.b3, ?_⟩
    rw [g 0 (by omega), g _ (by omega)]
    exact hlast

end Go.Proofs.YthhbhbfkbncegabGreatDoor.Op
end
section
section
set_option linter.unusedSimpArgs false
set_option linter.unusedVariables false

namespace Go.Proofs.YthhbhbfkbncegabGreatDoor.Mm
theorem ret_int {k : IntKind} {a b : Int} (h : a = b) : Ending.returned (.int k a) = .returned (.int k b) := by rw [h]
theorem ret_bool {a b : Bool} (h : a = b) : Ending.returned (.bool a) = .returned (.bool b) := by rw [h]
end Go.Proofs.YthhbhbfkbncegabGreatDoor.Mm
namespace Go.Proofs.YthhbhbfkbncegabGreatDoor.Pa
theorem here : True := trivial
end Go.Proofs.YthhbhbfkbncegabGreatDoor.Pa
end
section
set_option linter.unusedSimpArgs false
set_option linter.unusedVariables false
namespace Go.Proofs.YthhbhbfkbncegabGreatDoor.Ob
open Go.ChangeShapes Go.WideShapes Go.ChangeAt Go.RowKit Ws Mm Pa

theorem and_one (x : Int) (h : 0 ≤ x ∧ x < 4294967296) : bits .and .u32 x 1 = x % 2 := by
  obtain ⟨n, rfl⟩ := Int.eq_ofNat_of_zero_le h.1
  have := u32_and_nat n 1 (by omega) (by omega)
  rw [show ((1 : Nat) : Int) = 1 from rfl] at this
  rw [this, Nat.and_one_is_mod]
  omega
theorem u32_in (x : Int) (h : 0 ≤ x ∧ x < 4294967296) : IntKind.u32.wrap x = x := by
  rw [IntKind.wrap_u32']
  omega
theorem i64_in (x : Int) (h : -9223372036854775808 ≤ x ∧ x ≤ 9223372036854775807) : IntKind.i64.wrap x = x := Go.IntWalk.i64_in _ (by omega)
def zeros (n : Nat) : Array Value := madeCells (Value.int .u32 0).cells (n * 1)
theorem zeros_list (n : Nat) : (zeros n).toList = (List.replicate n (0 : Int)).map (Value.int .u32) := by
  unfold zeros madeCells
  apply List.ext_getElem
  · simp
  · intro i h1 h2
    simp [Value.cells]
    show [Value.int IntKind.u32 0][i % 1]?.getD default = _
    rw [Nat.mod_one]
    rfl
theorem zeros_size (n : Nat) : (zeros n).size = n := by unfold zeros; rw [size_madeCells, Nat.mul_one]

theorem u32_info : (Tryz.prog.info? 40).map (fun i => (i.zero, i.size, i.bytes)) = some (some (.int .u32 0), 1, 4) := by kernel_rfl

theorem make_any (n : Nat) (hn : n ≤ 4096) (W : World) : (Instr.makeSlice 41 (.int .i64 (n : Int)) (.int .i64 (n : Int))).run Tryz.prog W = .ok (.slice (some ⟨W.heap.size, 0, none⟩) n n) (W.alloc (.cells (zeros n) 40)) := by
  obtain ⟨i0, hi, hz0, hz1, hz2⟩ := info_parts u32_info
  have h := run_make (P := Tryz.prog) W 41 40 i0 _ Tryz.underlying41 hi hz0 .i64 .i64 n n (by omega) (by omega) (by rw [hz2]; omega) (by omega)
  rw [hz1, Int.toNat_natCast] at h
  exact h
theorem words_one (l : List Int) : ∀ u ∈ l.map (Value.int .u32), u.oneCell' = true := by
  intro u hu
  obtain ⟨x, _, rfl⟩ := List.mem_map.1 hu
  rfl

theorem u32_one : (Tryz.prog.info? 40).map (·.size) = some 1 := by kernel_rfl

theorem within_any (n a b : Int) (w : World) : Calls Tryz.prog 156 #[.int .i64 n, .int .i64 a, .int .i64 b] w fun e w' => e = .returned (.bool (decide (a ≤ n ∧ n ≤ b))) ∧ w = w' := by
  go_enter Tryz.func156, Tryz.ntmps156
  go_wp2
  all_goals
    go_ret
    refine ⟨ret_bool ?_, rfl⟩
    first
      | (rw [Bool.eq_iff_iff, decide_eq_true_eq, decide_eq_true_eq]; omega)
      | (simp <;> omega)
      | (rw [decide_eq_false (by omega)])

def regB (k wd : Int) (il rl : Nat) (kind : Int) : Bool := decide (k = kind ∧ (1 ≤ wd ∧ wd ≤ 8) ∧ (il : Int) = wd ∧ (1 ≤ (rl : Int) ∧ (rl : Int) ≤ 4))

theorem within_yes (n a b : Int) (h : a ≤ n ∧ n ≤ b) (w : World) : Calls Tryz.prog 156 #[.int .i64 n, .int .i64 a, .int .i64 b] w fun e w' => e = .returned (.bool true) ∧ w = w' :=
  (within_any n a b w).mono fun e w' ⟨he, hw⟩ => ⟨by rw [he, decide_eq_true h], hw⟩
theorem within_no (n a b : Int) (h : ¬ (a ≤ n ∧ n ≤ b)) (w : World) : Calls Tryz.prog 156 #[.int .i64 n, .int .i64 a, .int .i64 b] w fun e w' => e = .returned (.bool false) ∧ w = w' :=
  (within_any n a b w).mono fun e w' ⟨he, hw⟩ => ⟨by rw [he, decide_eq_false h], hw⟩

set_option maxHeartbeats 400000 in
theorem register_any (kind k wd sl cp sa ow : Int) (ia ra : Option Addr) (il ic rl rc : Nat) (w : World) :
    Calls Tryz.prog 153 #[.agg #[.int .i64 k, .int .i64 wd, .int .i64 sl, .int .i64 cp, .int .u32 sa, .slice ia il ic, .int .i64 ow, .slice ra rl rc], .int .i64 kind] w fun e w' => e = .returned (.bool (regB k wd il rl kind)) ∧ Same w w' := by
  by_cases h1 : 1 ≤ wd ∧ wd ≤ 8
  all_goals
    by_cases h2 : 1 ≤ (rl : Int) ∧ (rl : Int) ≤ 4
    all_goals
      go_enter Tryz.func153, Tryz.ntmps153
      go_wp2_with (go_at_call 156; first | ((with_reducible refine (within_yes _ _ _ (by assumption) _).mono ?_); rintro e w' ⟨rfl, rfl⟩) | ((with_reducible refine (within_no _ _ _ (by assumption) _).mono ?_); rintro e w' ⟨rfl, rfl⟩))
      all_goals
        go_ret
        refine ⟨ret_bool ?_, (Same.refl _).alloc _⟩
        unfold regB
        first
          | (rw [Bool.eq_iff_iff, decide_eq_true_eq, decide_eq_true_eq]; omega)
          | (rw [Bool.eq_iff_iff]; simp only [beq_iff_eq, bne_iff_ne, ne_eq, beq_eq_false_iff_ne, bne_eq_false_iff_eq, decide_eq_true_eq, Bool.false_eq_true, true_iff, false_iff, and_true, true_and, and_false, false_and] at *; omega)


theorem obj_cells {w : World} {q : Nat} {T : TypeId} {k wd sl cp sa ow : Int} {ia ra : Option Addr} {il ic rl rc : Nat} (h : Blk w q T #[.int .i64 k, .int .i64 wd, .int .i64 sl, .int .i64 cp, .int .u32 sa, .slice ia il ic, .int .i64 ow, .slice ra rl rc]) :
    w.cell? ⟨q, 0, none⟩ = some (.int .i64 k) ∧ w.cell? ⟨q, 1, none⟩ = some (.int .i64 wd) ∧ w.cell? ⟨q, 2, none⟩ = some (.int .i64 sl) ∧ w.cell? ⟨q, 3, none⟩ = some (.int .i64 cp) ∧ w.cell? ⟨q, 4, none⟩ = some (.int .u32 sa) ∧
      w.cell? ⟨q, 5, none⟩ = some (.slice ia il ic) ∧ w.cell? ⟨q, 6, none⟩ = some (.int .i64 ow) ∧ w.cell? ⟨q, 7, none⟩ = some (.slice ra rl rc) :=
  ⟨h.cell 0, h.cell 1, h.cell 2, h.cell 3, h.cell 4, h.cell 5, h.cell 6, h.cell 7⟩

/-! ### the document's own: what hangs on the kind alone -/
theorem rwrites_reg (k : Int) (h : k ≠ 6) (w : World) : Calls Tryz.prog 77 #[.int .i64 k] w fun e w' => e = .returned (.int .i64 2) ∧ w = w' := by
  go_enter Tryz.func77, Tryz.ntmps77
  go_wp2
  go_ret
  exact ⟨rfl, rfl⟩
theorem rreads_reg (k : Int) (h : k ≠ 6) (w : World) : Calls Tryz.prog 79 #[.int .i64 k] w fun e w' => e = .returned (.int .i64 1) ∧ w = w' := by
  go_enter Tryz.func79, Tryz.ntmps79
  go_wp2
  go_ret
  exact ⟨rfl, rfl⟩
theorem ops_reg (k : Int) (h : k = 1 ∨ k = 2 ∨ k = 3 ∨ k = 4 ∨ k = 5) (w : World) : Calls Tryz.prog 83 #[.int .i64 k] w fun e w' => e = .returned (.tuple #[.int .i64 2, .int .i64 1, .bool true]) ∧ w = w' := by
  rcases h with rfl | rfl | rfl | rfl | rfl
  all_goals
    go_enter Tryz.func83, Tryz.ntmps83
    go_wp2
    go_ret3
    exact ⟨rfl, rfl⟩

end Go.Proofs.YthhbhbfkbncegabGreatDoor.Ob
end
end
end
