/-

  How an operation's part stands to the operation that the document's chapters tell.
-/
import Derived.Test.YtikjkmomokhanabGreatPartRec
set_option linter.unusedSimpArgs false
set_option linter.unusedVariables false
namespace Go.Proofs.YtikjkmomokhanabGreat.Pa
open Go.ChangeShapes Go.WideShapes Go.ChangeAt Go.RowKit Ws Mm
open Go.Proofs.YtikjkmomokhanabGreat.Op (Im St more word get)

/-- the part p is that of the operation s -/
structure Imp (o : Im) (size : Nat) (s : St) (p : Pt) : Prop where
  rd : p.rd = !o.wr
  reader : p.reader = o.reader
  width : p.width = o.width
  at_ : p.at_ = o.at_
  size : p.size = size
  rc : p.rc.take s.rc.length = s.rc
  rcl : s.rc.length ≤ 8
  steps : p.steps = s.steps
  un : p.un = !s.over
  code : p.code = s.code
  st : s.over = false → p.stage = s.row + 1 ∧ p.turn = s.i
  att : s.over = false → p.att + s.tries = o.cap

/-- a step was made -/
def Did (R : Nat → Prop) (g gm : Nat) (T : TypeId) (exf : St → List Value) (o : Im) (size : Nat) (r : St × List Int) (st : Int) (w : World) (e : Ending) (w' : World) : Prop :=
  e = .returned (.tuple #[]) ∧ ∃ p', Imp o size r.1 p' ∧ Lft R g gm T p' (exf r.1) r.2 st w w'

theorem Imp.gd {o : Im} {size : Nat} {s : St} {p : Pt} (h : Imp o size s p) (i : Nat) (hi : i < s.rc.length) : Op.gd p.rc i = Op.gd s.rc i := by
  have hr := h.rc
  have e : s.rc[i]? = p.rc[i]? := by
    rw [← hr, List.getElem?_take, if_pos hi]
  unfold Op.gd
  rw [List.getD_eq_getElem?_getD, List.getD_eq_getElem?_getD, e]

theorem set_take (l r : List Int) (v : Int) (h : l.take r.length = r) (hl : r.length < l.length) : (l.set r.length v).take (r ++ [v]).length = r ++ [v] := by
  apply List.ext_getElem?
  intro i
  rw [List.getElem?_take]
  simp only [List.length_append, List.length_cons, List.length_nil]
  by_cases h1 : i < r.length
  · rw [if_pos (by omega), List.getElem?_set_ne (by omega), List.getElem?_append_left h1]
    have : (l.take r.length)[i]? = l[i]? := by rw [List.getElem?_take, if_pos h1]
    rw [← this, h]
  · by_cases h2 : i = r.length
    · subst h2
      rw [if_pos (by omega), List.getElem?_set_self hl]
      simp
    · rw [if_neg (by omega), List.getElem?_eq_none (by simp; omega)]

/-- what a word of the record leaves, of a write -/
theorem imp_word_wr {o : Im} {size : Nat} {s : St} {p : Pt} (h : Imp o size s p) (hov : s.over = false) (hwr : o.wr = true) (l : List Int) (k r : Nat) (hr : r = s.row + 1) :
    Imp o size (word o (more s) l k (some r)).1 (Pt.turned { p with steps := p.steps + 1 } p.width) := by
  obtain ⟨h1, h2, h3, h4, h5, h6, h7, h8, h9, h10, h11, h12⟩ := h
  obtain ⟨h13, h14⟩ := h11 hov
  have h15 := h12 hov
  simp only [word, more, hwr, if_true, Pt.turned]
  by_cases hlt : s.i + 1 < o.width
  · rw [if_pos hlt, if_pos (by omega)]
    exact ⟨h1, h2, h3, h4, h5, h6, h7, by simp only; omega, h9, h10, fun _ => ⟨h13, by simp only; omega⟩, fun _ => h15⟩
  · rw [if_neg hlt, if_neg (by omega)]
    exact ⟨h1, h2, h3, h4, h5, h6, h7, by simp only [St.to]; omega, h9, h10, fun _ => ⟨by simp only [St.to]; omega, rfl⟩, fun _ => h15⟩
/-- of a read that goes on behind it -/
theorem imp_word_rd {o : Im} {size : Nat} {s : St} {p : Pt} (h : Imp o size s p) (hov : s.over = false) (hwr : o.wr = false) (h8' : p.rc.length = 8) (hi : s.rc.length = s.i) (hi8 : s.i < 8) (l : List Int) (k r : Nat) (hr : r = s.row + 1) (v : Int) (hv : v = get o l (k + s.i)) :
    Imp o size (word o (more s) l k (some r)).1 (Pt.turned { p with steps := p.steps + 1, rc := p.rc.set s.i v } p.width) := by
  obtain ⟨h1, h2, h3, h4, h5, h6, h7, h8, h9, h10, h11, h12⟩ := h
  obtain ⟨h13, h14⟩ := h11 hov
  have h15 := h12 hov
  simp only [word, more, hwr, Bool.false_eq_true, if_false, Pt.turned]
  rw [← hv]
  have ht : (p.rc.set s.i v).take (s.rc ++ [v]).length = s.rc ++ [v] := by
    have := set_take p.rc s.rc v h6 (by omega)
    rw [hi] at this
    exact this
  by_cases hlt : s.i + 1 < o.width
  · rw [if_pos hlt, if_pos (by omega)]
    exact ⟨h1, h2, h3, h4, h5, ht, by simp; omega, by simp only; omega, h9, h10, fun _ => ⟨h13, by simp only; omega⟩, fun _ => h15⟩
  · rw [if_neg hlt, if_neg (by omega)]
    exact ⟨h1, h2, h3, h4, h5, ht, by simp [St.to]; omega, by simp only [St.to]; omega, h9, h10, fun _ => ⟨by simp only [St.to]; omega, rfl⟩, fun _ => h15⟩
/-- of a read that ends with it: behind the last word -/
theorem imp_word_end {o : Im} {size : Nat} {s : St} {p : Pt} (h : Imp o size s p) (hov : s.over = false) (hwr : o.wr = false) (h8' : p.rc.length = 8) (hi : s.rc.length = s.i) (hi8 : s.i < 8) (l : List Int) (k : Nat) (hlt : ¬ s.i + 1 < o.width) (v : Int) (hv : v = get o l (k + s.i)) (q : Pt) (hq : q = { Pt.turned { p with steps := p.steps + 1, rc := p.rc.set s.i v } p.width with un := false, code := 0 }) :
    Imp o size (word o (more s) l k none).1 q := by
  subst hq
  obtain ⟨h1, h2, h3, h4, h5, h6, h7, h8, h9, h10, h11, h12⟩ := h
  obtain ⟨h13, h14⟩ := h11 hov
  simp only [word, more, hwr, Bool.false_eq_true, if_false, Pt.turned]
  rw [← hv]
  have ht : (p.rc.set s.i v).take (s.rc ++ [v]).length = s.rc ++ [v] := by
    have := set_take p.rc s.rc v h6 (by omega)
    rw [hi] at this
    exact this
  rw [if_neg hlt, if_neg (by omega)]
  exact ⟨h1, h2, h3, h4, h5, by simpa [St.fin] using ht, by simp [St.fin]; omega, by simp only [St.fin]; omega, rfl, rfl, fun h => (by cases h), fun h => (by cases h)⟩
/-- one that goes on within it -/
theorem imp_word_on {o : Im} {size : Nat} {s : St} {p : Pt} (h : Imp o size s p) (hov : s.over = false) (hwr : o.wr = false) (h8' : p.rc.length = 8) (hi : s.rc.length = s.i) (hi8 : s.i < 8) (l : List Int) (k : Nat) (hlt : s.i + 1 < o.width) (v : Int) (hv : v = get o l (k + s.i)) :
    Imp o size (word o (more s) l k none).1 (Pt.turned { p with steps := p.steps + 1, rc := p.rc.set s.i v } p.width) := by
  have := imp_word_rd h hov hwr h8' hi hi8 l k (s.row + 1) rfl v hv
  simp only [word, more, hwr, Bool.false_eq_true, if_false, if_pos hlt] at this ⊢
  exact this

/-- the next row -/
theorem imp_next {o : Im} {size : Nat} {s : St} {p : Pt} (h : Imp o size s p) (hov : s.over = false) (s' : St) (k1 : s'.rc = s.rc) (k2 : s'.steps = s.steps + 1) (k3 : s'.row = s.row + 1) (k4 : s'.i = 0) (k5 : s'.over = false) (k6 : s'.code = s.code) (k7 : s'.tries = s.tries) :
    Imp o size s' { p with steps := p.steps + 1, stage := p.stage + 1, turn := 0 } := by
  obtain ⟨h1, h2, h3, h4, h5, h6, h7, h8, h9, h10, h11, h12⟩ := h
  obtain ⟨h13, h14⟩ := h11 hov
  have h15 := h12 hov
  exact ⟨h1, h2, h3, h4, h5, by rw [k1]; exact h6, by rw [k1]; exact h7, by simp only; omega, by rw [k5, ← hov]; exact h9, by rw [k6]; exact h10, fun _ => ⟨by simp only; omega, by simp only; omega⟩, fun _ => by rw [k7]; exact h15⟩
/-- the end -/
theorem imp_end {o : Im} {size : Nat} {s : St} {p : Pt} (h : Imp o size s p) (hov : s.over = false) (c : Int) :
    Imp o size ((more s).fin o.wr c) { p with steps := p.steps + 1, un := false, code := c } := by
  obtain ⟨h1, h2, h3, h4, h5, h6, h7, h8, h9, h10, h11, h12⟩ := h
  refine ⟨h1, h2, h3, h4, h5, ?_, ?_, by simp only [more, Op.St.fin]; omega, rfl, rfl, fun h => (by cases h), fun h => (by cases h)⟩
  · simp only [more, Op.St.fin]
    split
    · exact h6
    · simp
  · simp only [more, Op.St.fin]
    split
    · exact h7
    · simp
end Go.Proofs.YtikjkmomokhanabGreat.Pa
