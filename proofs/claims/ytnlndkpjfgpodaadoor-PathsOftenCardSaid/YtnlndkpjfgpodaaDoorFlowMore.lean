/-
  Where one may go in a program that may be, and what is reached (chapter 10): plain.
-/
import Derived.Test.YtnlndkpjfgpodaaDoorWords
section
set_option linter.unusedSimpArgs false
set_option linter.unusedVariables false
namespace Go.Proofs.YtnlndkpjfgpodaaDoor.Fp

/-- an instruction, as five numbers -/
structure Ins where
  op : Int
  a : Int
  b : Int
  c : Int
  n : Int
def Ins.ok (i : Ins) : Prop := 0 ≤ i.n ∧ i.n < 4294967296
def zero : Ins := ⟨0, 0, 0, 0, 0⟩
def at_ (p : List Ins) (k : Nat) : Ins := p.getD k zero
theorem at_eq {p : List Ins} {k : Nat} {x : Ins} (h : p[k]? = some x) : at_ p k = x := by
  unfold at_
  rw [List.getD_eq_getElem?_getD, h]
  rfl
theorem at_some {p : List Ins} {k : Nat} (h : k < p.length) : p[k]? = some (at_ p k) := by
  unfold at_
  rw [List.getD_eq_getElem?_getD, List.getElem?_eq_getElem h]
  rfl

/-- the first number below n of which f says yes -/
def first (n : Nat) (f : Nat → Bool) : Option Nat := (List.range n).find? f
theorem first_some {n k : Nat} {f : Nat → Bool} (hk : k < n) (hf : f k = true) (hn : ∀ j, j < k → f j = false) : first n f = some k := by
  unfold first
  rw [List.find?_range_eq_some]
  exact ⟨hf, List.mem_range.2 hk, fun j hj => by rw [hn j hj]; rfl⟩
theorem first_none {n : Nat} {f : Nat → Bool} (h : ∀ j, j < n → f j = false) : first n f = none := by
  unfold first
  rw [List.find?_eq_none]
  intro j hj
  rw [h j (List.mem_range.1 hj)]
  exact Bool.false_ne_true
theorem first_yes {n k : Nat} {f : Nat → Bool} (h : first n f = some k) : k < n ∧ f k = true ∧ ∀ j, j < k → f j = false := by
  unfold first at h
  rw [List.find?_range_eq_some] at h
  exact ⟨List.mem_range.1 h.2.1, h.1, fun j hj => by have := h.2.2 j hj; simpa using this⟩
theorem first_no {n : Nat} {f : Nat → Bool} (h : first n f = none) : ∀ j, j < n → f j = false := by
  unfold first at h
  rw [List.find?_eq_none] at h
  intro j hj
  have := h j (List.mem_range.2 hj)
  simpa using this
theorem first_congr {n : Nat} {f g : Nat → Bool} (h : ∀ j, j < n → f j = g j) : first n f = first n g := by
  cases hf : first n f with
  | none => exact (first_none fun j hj => by rw [← h j hj]; exact first_no hf j hj).symm
  | some k =>
    obtain ⟨h1, h2, h3⟩ := first_yes hf
    exact (first_some h1 (by rw [← h k h1]; exact h2) fun j hj => by rw [← h j (by omega)]; exact h3 j hj).symm

/-- the instruction at k leads to where none of its kind may -/
def strayB (p : List Ins) (k : Nat) : Bool :=
  if (at_ p k).op = 16 then decide ((k : Int) ≤ (at_ p k).n) else
  if (at_ p k).op = 14 ∨ (at_ p k).op = 15 then decide ((at_ p k).n ≤ (k : Int) ∨ (p.length : Int) ≤ (at_ p k).n) else false
/-- the loops whose Backs stand below k -/
def loopsTo (p : List Ins) : Nat → List (Int × Int)
  | 0 => []
  | k + 1 => loopsTo p k ++ (if (at_ p k).op = 16 then [((at_ p k).n, (k : Int))] else [])
def loopsL (p : List Ins) : List (Int × Int) := loopsTo p p.length
def hasB (s : Int × Int) (x : Int) : Bool := decide (s.1 ≤ x ∧ x ≤ s.2)
def overB (a l : Int × Int) : Bool := decide ((a.1 ≤ l.1 ∧ l.1 ≤ a.2) ∧ a.1 < l.1)
def lp (l : List (Int × Int)) (k : Nat) : Int × Int := l.getD k (0, 0)
def overAt (l : List (Int × Int)) (k : Nat) : Bool := (List.range k).any fun j => overB (lp l j) (lp l k)
def crossAt (p : List Ins) (l : List (Int × Int)) (k : Nat) : Bool :=
  decide ((at_ p k).op = 14 ∨ (at_ p k).op = 15) && (List.range l.length).any fun j => hasB (lp l j) (k : Int) != hasB (lp l j) (at_ p k).n

/-- what is wrong of a program first, and where; 'right' tells whether an instruction is right -/
def check (right : Ins → Bool) (p : List Ins) : Int × Int :=
  if p.length < 1 ∨ 64 < p.length then (0, 1) else
  match first p.length (fun k => !right (at_ p k)) with
  | some k => ((k : Int), 4)
  | none =>
  match first p.length (strayB p) with
  | some k => ((k : Int), 7)
  | none =>
  match first (loopsL p).length (overAt (loopsL p)) with
  | some k => ((lp (loopsL p) k).2, 8)
  | none =>
  match first p.length (crossAt p (loopsL p)) with
  | some k => ((k : Int), 8)
  | none => if (at_ p (p.length - 1)).op = 21 then (0, 0) else ((p.length : Int) - 1, 7)

section
variable {right : Ins → Bool} {p : List Ins}
theorem check_size (h : p.length < 1 ∨ 64 < p.length) : check right p = (0, 1) := by unfold check; rw [if_pos h]
theorem check_form (h : 1 ≤ p.length ∧ p.length ≤ 64) {k : Nat} (hk : k < p.length) (hf : right (at_ p k) = false) (hn : ∀ j, j < k → right (at_ p j) = true) : check right p = ((k : Int), 4) := by
  unfold check
  rw [if_neg (by omega), first_some hk (by rw [hf]; rfl) (fun j hj => by rw [hn j hj]; rfl)]
theorem check_flow (h : 1 ≤ p.length ∧ p.length ≤ 64) (h1 : ∀ j, j < p.length → right (at_ p j) = true) {k : Nat} (hk : k < p.length) (hf : strayB p k = true) (hn : ∀ j, j < k → strayB p j = false) : check right p = ((k : Int), 7) := by
  unfold check
  rw [if_neg (by omega), first_none (fun j hj => by rw [h1 j hj]; rfl), first_some hk hf hn]
theorem check_over (h : 1 ≤ p.length ∧ p.length ≤ 64) (h1 : ∀ j, j < p.length → right (at_ p j) = true) (h2 : ∀ j, j < p.length → strayB p j = false) {k : Nat} (hk : k < (loopsL p).length) (hf : overAt (loopsL p) k = true) (hn : ∀ j, j < k → overAt (loopsL p) j = false) :
    check right p = ((lp (loopsL p) k).2, 8) := by
  unfold check
  rw [if_neg (by omega), first_none (fun j hj => by rw [h1 j hj]; rfl), first_none h2, first_some hk hf hn]
theorem check_cross (h : 1 ≤ p.length ∧ p.length ≤ 64) (h1 : ∀ j, j < p.length → right (at_ p j) = true) (h2 : ∀ j, j < p.length → strayB p j = false) (h3 : ∀ j, j < (loopsL p).length → overAt (loopsL p) j = false)
    {k : Nat} (hk : k < p.length) (hf : crossAt p (loopsL p) k = true) (hn : ∀ j, j < k → crossAt p (loopsL p) j = false) : check right p = ((k : Int), 8) := by
  unfold check
  rw [if_neg (by omega), first_none (fun j hj => by rw [h1 j hj]; rfl), first_none h2, first_none h3, first_some hk hf hn]
theorem check_last (h : 1 ≤ p.length ∧ p.length ≤ 64) (h1 : ∀ j, j < p.length → right (at_ p j) = true) (h2 : ∀ j, j < p.length → strayB p j = false) (h3 : ∀ j, j < (loopsL p).length → overAt (loopsL p) j = false)
    (h4 : ∀ j, j < p.length → crossAt p (loopsL p) j = false) : check right p = if (at_ p (p.length - 1)).op = 21 then (0, 0) else ((p.length : Int) - 1, 7) := by
  unfold check
  rw [if_neg (by omega), first_none (fun j hj => by rw [h1 j hj]; rfl), first_none h2, first_none h3, first_none h4]
/-- a program that may be -/
structure Fine (right : Ins → Bool) (p : List Ins) : Prop where
  size : 1 ≤ p.length ∧ p.length ≤ 64
  right : ∀ j, j < p.length → right (at_ p j) = true
  stray : ∀ j, j < p.length → strayB p j = false
  over : ∀ j, j < (loopsL p).length → overAt (loopsL p) j = false
  cross : ∀ j, j < p.length → crossAt p (loopsL p) j = false
  last : (at_ p (p.length - 1)).op = 21
theorem fine_of (h : (check right p).2 = 0) : Fine right p := by
  unfold check at h
  by_cases hs : p.length < 1 ∨ 64 < p.length
  · rw [if_pos hs] at h; cases h
  · rw [if_neg hs] at h
    cases h1 : first p.length (fun k => !right (at_ p k)) with
    | some k => rw [h1] at h; cases h
    | none =>
      rw [h1] at h
      cases h2 : first p.length (strayB p) with
      | some k => rw [h2] at h; cases h
      | none =>
        rw [h2] at h
        cases h3 : first (loopsL p).length (overAt (loopsL p)) with
        | some k => rw [h3] at h; cases h
        | none =>
          rw [h3] at h
          cases h4 : first p.length (crossAt p (loopsL p)) with
          | some k => rw [h4] at h; cases h
          | none =>
            rw [h4] at h
            by_cases h5 : (at_ p (p.length - 1)).op = 21
            · exact ⟨by omega, fun j hj => by have := first_no h1 j hj; simpa using this, first_no h2, first_no h3, first_no h4, h5⟩
            · simp only [if_neg h5] at h; cases h
theorem of_fine (h : Fine right p) : check right p = (0, 0) := by rw [check_last h.size h.right h.stray h.over h.cross, if_pos h.last]
end

/-! ### loops -/
theorem loopsTo_mem {p : List Ins} : ∀ {k : Nat} {x : Int × Int}, x ∈ loopsTo p k → ∃ j, j < k ∧ (at_ p j).op = 16 ∧ x = ((at_ p j).n, (j : Int)) := by
  intro k
  induction k with
  | zero => intro x h; cases h
  | succ k ih =>
    intro x h
    rw [loopsTo, List.mem_append] at h
    rcases h with h | h
    · obtain ⟨j, h1, h2, h3⟩ := ih h
      exact ⟨j, by omega, h2, h3⟩
    · split at h
      · rename_i hb
        simp at h
        exact ⟨k, by omega, hb, h⟩
      · cases h
theorem loopsTo_has {p : List Ins} {k j : Nat} (hj : j < k) (hb : (at_ p j).op = 16) : ((at_ p j).n, (j : Int)) ∈ loopsTo p k := by
  induction k with
  | zero => omega
  | succ k ih =>
    rw [loopsTo, List.mem_append]
    by_cases h : j < k
    · exact .inl (ih h)
    · have : j = k := by omega
      subst this
      rw [if_pos hb]
      exact .inr (by simp)
theorem loopsTo_sorted {p : List Ins} (k : Nat) : (loopsTo p k).Pairwise fun a b => a.2 < b.2 := by
  induction k with
  | zero => exact List.Pairwise.nil
  | succ k ih =>
    rw [loopsTo, List.pairwise_append]
    refine ⟨ih, ?_, ?_⟩
    · split <;> simp
    · intro a ha b hb
      obtain ⟨j, h1, _, rfl⟩ := loopsTo_mem ha
      split at hb
      · simp at hb
        subst hb
        simp only
        omega
      · cases hb
theorem loopsTo_len {p : List Ins} (k : Nat) : (loopsTo p k).length ≤ k := by
  induction k with
  | zero => exact Nat.le_refl _
  | succ k ih =>
    rw [loopsTo, List.length_append]
    split <;> simp <;> omega
theorem lp_mem {l : List (Int × Int)} {k : Nat} (h : k < l.length) : lp l k ∈ l := by
  unfold lp
  rw [List.getD_eq_getElem?_getD, List.getElem?_eq_getElem h]
  exact List.getElem_mem h
theorem lp_some {l : List (Int × Int)} {k : Nat} {x : Int × Int} (h : l[k]? = some x) : lp l k = x := by
  unfold lp
  rw [List.getD_eq_getElem?_getD, h]
  rfl
theorem lp_get {l : List (Int × Int)} {k : Nat} (h : k < l.length) : l[k]? = some (lp l k) := by
  unfold lp
  rw [List.getD_eq_getElem?_getD, List.getElem?_eq_getElem h]
  rfl
theorem lp_lt {p : List Ins} {j k : Nat} (hjk : j < k) (hk : k < (loopsL p).length) : (lp (loopsL p) j).2 < (lp (loopsL p) k).2 := by
  have hj : j < (loopsL p).length := by omega
  have := List.pairwise_iff_getElem.1 (loopsTo_sorted (p := p) p.length) j k hj hk hjk
  have e1 := lp_get (l := loopsL p) (k := j) (by omega)
  have e2 := lp_get (l := loopsL p) (k := k) hk
  rw [List.getElem?_eq_getElem hj] at e1
  rw [List.getElem?_eq_getElem hk] at e2
  injection e1 with e1
  injection e2 with e2
  rw [← e1, ← e2]
  exact this
/-- of a program without strays: where loops lie -/
theorem loop_in {p : List Ins} (hs : ∀ j, j < p.length → strayB p j = false) (hn : ∀ j, j < p.length → 0 ≤ (at_ p j).n) {x : Int × Int} (hx : x ∈ loopsL p) : 0 ≤ x.1 ∧ x.1 < x.2 ∧ x.2 < p.length := by
  obtain ⟨j, h1, h2, rfl⟩ := loopsTo_mem hx
  have h3 := hs j h1
  have h4 := hn j h1
  unfold strayB at h3
  rw [if_pos h2] at h3
  simp at h3
  exact ⟨h4, h3, by simp only; omega⟩

/-! ### the document's Overlap: place by place -/
def cnt (f : Nat → Bool) : Nat → Nat
  | 0 => 0
  | n + 1 => cnt f n + if f n then 1 else 0
theorem cnt_le (f : Nat → Bool) (n : Nat) : cnt f n ≤ n := by
  induction n with
  | zero => exact Nat.le_refl _
  | succ n ih => rw [cnt]; split <;> omega
theorem cnt_pos {f : Nat → Bool} {n : Nat} : 0 < cnt f n ↔ ∃ k, k < n ∧ f k = true := by
  induction n with
  | zero => simp [cnt]
  | succ n ih =>
    rw [cnt]
    cases h : f n
    · simp only [Bool.false_eq_true, if_false, Nat.add_zero]
      rw [ih]
      constructor
      · rintro ⟨k, h1, h2⟩; exact ⟨k, by omega, h2⟩
      · rintro ⟨k, h1, h2⟩
        rcases Nat.lt_or_ge k n with h3 | h3
        · exact ⟨k, h3, h2⟩
        · have : k = n := by omega
          subst this
          rw [h] at h2
          cases h2
    · simp only [if_true]
      exact ⟨fun _ => ⟨n, by omega, h⟩, fun _ => by omega⟩
def bothF (a b : Int × Int) (k : Nat) : Bool := hasB a k && hasB b k
def justF (a b : Int × Int) (k : Nat) : Bool := hasB a k && !hasB b k
def otherF (a b : Int × Int) (k : Nat) : Bool := !hasB a k && hasB b k
def overR (a b : Int × Int) : Bool := decide (0 < cnt (bothF a b) 64 ∧ 0 < cnt (justF a b) 64 ∧ 0 < cnt (otherF a b) 64)
theorem overR_eq {a b : Int × Int} (ha : 0 ≤ a.1 ∧ a.1 < a.2) (hb : 0 ≤ b.1 ∧ b.1 < b.2 ∧ b.2 < 64) (hab : a.2 < b.2) : overR a b = overB a b := by
  unfold overR overB
  rw [decide_eq_decide, cnt_pos, cnt_pos, cnt_pos]
  simp only [bothF, justF, otherF, hasB, Bool.and_eq_true, Bool.not_eq_true', decide_eq_true_eq, decide_eq_false_iff_not]
  constructor
  · rintro ⟨⟨x, hx, h1, h2⟩, ⟨y, hy, h3, h4⟩, _⟩
    omega
  · rintro ⟨⟨h1, h2⟩, h3⟩
    refine ⟨⟨b.1.toNat, by omega, by omega, by omega⟩, ⟨a.1.toNat, by omega, by omega, by omega⟩, ⟨b.2.toNat, by omega, by omega, by omega⟩⟩

end Go.Proofs.YtnlndkpjfgpodaaDoor.Fp
end
section
set_option linter.unusedSimpArgs false
set_option linter.unusedVariables false
namespace Go.Proofs.YtnlndkpjfgpodaaDoor.Fp

/-- the places to which one may come -/
def nextL (p : List Ins) (k : Nat) : List Int :=
  if (at_ p k).op = 21 then [] else
  if (at_ p k).op = 14 then [(at_ p k).n] else
  if (at_ p k).op = 15 then (if (k : Int) + 1 < (at_ p k).n then [(k : Int) + 1, (at_ p k).n] else [(k : Int) + 1]) else
  if (at_ p k).op = 16 then [(at_ p k).n, (k : Int) + 1] else [(k : Int) + 1]
/-- may one come from k to t? -/
def mayB (p : List Ins) (k : Nat) (t : Int) : Bool :=
  !decide ((at_ p k).op = 21) && ((decide ((at_ p k).op = 14 ∨ (at_ p k).op = 15 ∨ (at_ p k).op = 16) && decide (t = (at_ p k).n)) || (!decide ((at_ p k).op = 14) && decide (t = (k : Int) + 1)))
theorem may_next (p : List Ins) (k : Nat) (t : Int) (hs : (at_ p k).op = 15 → (k : Int) < (at_ p k).n) : mayB p k t = true ↔ t ∈ nextL p k := by
  unfold mayB nextL
  by_cases h1 : (at_ p k).op = 21
  · simp [h1]
  · by_cases h2 : (at_ p k).op = 14
    · simp [h2]
    · by_cases h3 : (at_ p k).op = 15
      · have := hs h3
        by_cases h4 : (k : Int) + 1 < (at_ p k).n
        · simp [h3, h4]
          omega
        · simp [h3, h4]
          omega
      · by_cases h4 : (at_ p k).op = 16
        · simp [h4]
        · simp [h1, h2, h3, h4]

section
variable {right : Ins → Bool} {p : List Ins}
theorem Fine.lead (h : Fine right p) {k : Nat} (hk : k < p.length) (ho : (at_ p k).op = 14 ∨ (at_ p k).op = 15) : (k : Int) < (at_ p k).n ∧ (at_ p k).n < p.length := by
  have := h.stray k hk
  unfold strayB at this
  rw [if_neg (by omega), if_pos ho] at this
  simp at this
  omega
theorem Fine.back (h : Fine right p) {k : Nat} (hk : k < p.length) (ho : (at_ p k).op = 16) : (at_ p k).n < k := by
  have := h.stray k hk
  unfold strayB at this
  rw [if_pos ho] at this
  simpa using this
theorem Fine.goes (h : Fine right p) {k : Nat} (hk : k < p.length) (ho : (at_ p k).op ≠ 21) : k + 1 < p.length := by
  rcases Nat.lt_or_ge (k + 1) p.length with h1 | h1
  · exact h1
  · have : k = p.length - 1 := by omega
    rw [this, h.last] at ho
    exact absurd rfl ho
/-- where an edge leads -/
theorem Fine.edge (h : Fine right p) (hn : ∀ j, j < p.length → 0 ≤ (at_ p j).n) {k : Nat} (hk : k < p.length) {t : Int} (ht : t ∈ nextL p k) :
    (0 ≤ t ∧ t < p.length) ∧ (((at_ p k).op = 14 ∨ (at_ p k).op = 15) ∧ t = (at_ p k).n ∧ (k : Int) < t ∨ t = (k : Int) + 1 ∨ (at_ p k).op = 16 ∧ t = (at_ p k).n ∧ t < k) := by
  have hn0 := hn k hk
  unfold nextL at ht
  by_cases h1 : (at_ p k).op = 21
  · rw [if_pos h1] at ht; cases ht
  · have hg := h.goes hk h1
    rw [if_neg h1] at ht
    by_cases h2 : (at_ p k).op = 14
    · rw [if_pos h2] at ht
      have := h.lead hk (.inl h2)
      simp at ht
      subst ht
      exact ⟨by omega, .inl ⟨.inl h2, rfl, this.1⟩⟩
    · rw [if_neg h2] at ht
      by_cases h3 : (at_ p k).op = 15
      · rw [if_pos h3] at ht
        have := h.lead hk (.inr h3)
        split at ht
        · simp at ht
          rcases ht with rfl | rfl
          · exact ⟨by omega, .inr (.inl rfl)⟩
          · exact ⟨by omega, .inl ⟨.inr h3, rfl, this.1⟩⟩
        · simp at ht
          subst ht
          exact ⟨by omega, .inr (.inl rfl)⟩
      · rw [if_neg h3] at ht
        by_cases h4 : (at_ p k).op = 16
        · rw [if_pos h4] at ht
          have := h.back hk h4
          simp at ht
          rcases ht with rfl | rfl
          · exact ⟨by omega, .inr (.inr ⟨h4, rfl, this⟩)⟩
          · exact ⟨by omega, .inr (.inl rfl)⟩
        · rw [if_neg h4] at ht
          simp at ht
          subst ht
          exact ⟨by omega, .inr (.inl rfl)⟩
theorem has_iff {s : Int × Int} {x : Int} : hasB s x = true ↔ s.1 ≤ x ∧ x ≤ s.2 := by unfold hasB; simp
theorem Fine.crosses (h : Fine right p) {k : Nat} (hk : k < p.length) (ho : (at_ p k).op = 14 ∨ (at_ p k).op = 15) {s : Int × Int} (hs : s ∈ loopsL p) : hasB s (k : Int) = hasB s (at_ p k).n := by
  have := h.cross k hk
  unfold crossAt at this
  rw [decide_eq_true ho, Bool.true_and, List.any_eq_false] at this
  obtain ⟨j, hj, he⟩ := List.getElem_of_mem hs
  have h2 := this j (List.mem_range.2 hj)
  have e : lp (loopsL p) j = s := lp_some (by rw [List.getElem?_eq_getElem hj, he])
  rw [e] at h2
  simpa using h2
theorem Fine.nest (h : Fine right p) {a b : Int × Int} (ha : a ∈ loopsL p) (hb : b ∈ loopsL p) (hab : a.2 < b.2) : overB a b = false := by
  obtain ⟨j, hj, rfl⟩ := List.getElem_of_mem ha
  obtain ⟨k, hk, rfl⟩ := List.getElem_of_mem hb
  have ej : lp (loopsL p) j = (loopsL p)[j] := lp_some (List.getElem?_eq_getElem hj)
  have ek : lp (loopsL p) k = (loopsL p)[k] := lp_some (List.getElem?_eq_getElem hk)
  have hjk : j < k := by
    rcases Nat.lt_trichotomy j k with h1 | h1 | h1
    · exact h1
    · subst h1; omega
    · have := lp_lt h1 hj
      rw [ej, ek] at this
      omega
  have := h.over k hk
  unfold overAt at this
  rw [List.any_eq_false] at this
  have h2 := this j (List.mem_range.2 hjk)
  rw [ej, ek] at h2
  simpa using h2
theorem Fine.loop (h : Fine right p) (hn : ∀ j, j < p.length → 0 ≤ (at_ p j).n) {s : Int × Int} (hs : s ∈ loopsL p) : 0 ≤ s.1 ∧ s.1 < s.2 ∧ s.2 < p.length := loop_in h.stray hn hs
/-- of two loops that have a place the one ahead is the shorter one -/
theorem Fine.short (h : Fine right p) {a b : Int × Int} (ha : a ∈ loopsL p) (hb : b ∈ loopsL p) (hab : a.2 < b.2) {x : Int} (hx : hasB a x = true) (hy : hasB b x = true) : a.2 - a.1 < b.2 - b.1 := by
  have := h.nest ha hb hab
  unfold overB at this
  have h1 := has_iff.1 hx
  have h2 := has_iff.1 hy
  simp at this
  omega
theorem same_loop {a b : Int × Int} (ha : a ∈ loopsL p) (hb : b ∈ loopsL p) (h : a.2 = b.2) : a = b := by
  obtain ⟨j, _, _, rfl⟩ := loopsTo_mem ha
  obtain ⟨k, _, _, rfl⟩ := loopsTo_mem hb
  simp only at h
  have : j = k := by omega
  subst this
  rfl
/-- one comes into a loop by its first place alone, and out of it by its Back alone -/
theorem Fine.ways (h : Fine right p) (hn : ∀ j, j < p.length → 0 ≤ (at_ p j).n) {k : Nat} (hk : k < p.length) {t : Int} (ht : t ∈ nextL p k) {s : Int × Int} (hs : s ∈ loopsL p) :
    (hasB s t = true → hasB s k = false → t = s.1) ∧ (hasB s k = true → hasB s t = false → (k : Int) = s.2) := by
  obtain ⟨hb, he⟩ := h.edge hn hk ht
  have hl := h.loop hn hs
  have F : ∀ {x : Int}, hasB s x = false ↔ ¬ (s.1 ≤ x ∧ x ≤ s.2) := fun {x} => by unfold hasB; simp
  rcases he with ⟨ho, rfl, _⟩ | rfl | ⟨ho, rfl, hlt⟩
  · have := h.crosses hk ho hs
    constructor
    · intro h1 h2; rw [this, h1] at h2; cases h2
    · intro h1 h2; rw [this, h2] at h1; cases h1
  · constructor
    · intro h1 h2
      have := has_iff.1 h1
      have := F.1 h2
      omega
    · intro h1 h2
      have := has_iff.1 h1
      have := F.1 h2
      omega
  · have hs' : ((at_ p k).n, (k : Int)) ∈ loopsL p := loopsTo_has hk ho
    constructor
    · intro h1 h2
      have h1 := has_iff.1 h1
      have h2 := F.1 h2
      have := h.nest hs hs' (by simp only; omega)
      unfold overB at this
      simp at this
      omega
    · intro h1 h2
      have h1 := has_iff.1 h1
      have h2 := F.1 h2
      rcases Int.lt_or_le (k : Int) s.2 with h3 | h3
      · have := h.nest hs' hs h3
        unfold overB at this
        simp at this
        omega
      · omega

/-! ### what is reached -/
def R (p : List Ins) : Nat → Nat → Bool
  | 0, x => decide (x = 0)
  | k + 1, x => R p k x || (R p k k && decide ((x : Int) ∈ nextL p k))
theorem R_mono {k m x : Nat} (hkm : k ≤ m) (h : R p k x = true) : R p m x = true := by
  induction m with
  | zero =>
    have : k = 0 := by omega
    subst this
    exact h
  | succ m ih =>
    rcases Nat.lt_or_ge m k with h1 | h1
    · have : k = m + 1 := by omega
      subst this
      exact h
    · rw [R, ih h1]
      rfl
theorem R_of {k x : Nat} (h : R p k x = true) : x = 0 ∨ ∃ y, y < k ∧ R p y y = true ∧ (x : Int) ∈ nextL p y := by
  induction k with
  | zero => exact .inl (of_decide_eq_true h)
  | succ k ih =>
    rw [R, Bool.or_eq_true, Bool.and_eq_true] at h
    rcases h with h | ⟨h1, h2⟩
    · rcases ih h with h | ⟨y, h1, h2⟩
      · exact .inl h
      · exact .inr ⟨y, by omega, h2⟩
    · exact .inr ⟨k, by omega, h1, of_decide_eq_true h2⟩
theorem R_zero (k : Nat) : R p k 0 = true := R_mono (Nat.zero_le k) (by simp [R])
theorem R_first (h : Fine right p) (hn : ∀ j, j < p.length → 0 ≤ (at_ p j).n) : ∀ x, x < p.length → R p x x = true → ∀ s, s ∈ loopsL p → hasB s x = true → R p s.1.toNat s.1.toNat = true := by
  intro x
  induction x using Nat.strongRecOn with
  | ind x ih =>
    intro hx hr s hs hsx
    have hl := h.loop hn hs
    have hi := has_iff.1 hsx
    rcases R_of hr with rfl | ⟨y, hy, hry, hm⟩
    · have : s.1.toNat = 0 := by omega
      rw [this]
      exact R_zero 0
    · have hyl : y < p.length := by omega
      cases hsy : hasB s y
      · have := (h.ways hn hyl hm hs).1 hsx hsy
        have e : s.1.toNat = x := by omega
        rw [e]
        exact hr
      · exact ih y hy hyl hry s hs hsy
theorem R_back (h : Fine right p) (hn : ∀ j, j < p.length → 0 ≤ (at_ p j).n) {x : Nat} (hr : R p p.length x = true) : R p x x = true := by
  rcases R_of hr with rfl | ⟨y, hy, hry, hm⟩
  · exact R_zero 0
  · rcases (h.edge hn hy hm).2 with ⟨_, _, hlt⟩ | he | ⟨ho, he, hlt⟩
    · exact R_mono (k := y + 1) (by omega) (by rw [R, hry, decide_eq_true hm]; simp)
    · exact R_mono (k := y + 1) (by omega) (by rw [R, hry, decide_eq_true hm]; simp)
    · have := R_first h hn y hy hry _ (loopsTo_has hy ho) (has_iff.2 ⟨by simp only; omega, by simp only; omega⟩)
      simp only at this
      have e : (at_ p y).n.toNat = x := by omega
      rw [e] at this
      exact this
/-- once is enough -/
theorem R_closed (h : Fine right p) (hn : ∀ j, j < p.length → 0 ≤ (at_ p j).n) {y : Nat} (hy : y < p.length) (hr : R p p.length y = true) {t : Int} (ht : t ∈ nextL p y) : R p p.length t.toNat = true := by
  have h0 := (h.edge hn hy ht).1
  have h1 := R_back h hn hr
  exact R_mono (k := y + 1) (by omega) (by rw [R, h1]; have e : ((t.toNat : Nat) : Int) = t := by omega
                                           rw [e, decide_eq_true ht]; simp)
end

/-! ### the places below, in order -/
theorem fil0 {n : Nat} {f : Nat → Bool} (h : ∀ j, j < n → f j = false) : (List.range n).filter f = [] := by
  rw [List.filter_eq_nil_iff]
  intro j hj
  rw [h j (List.mem_range.1 hj)]
  exact Bool.false_ne_true
theorem fil1 {n a : Nat} {f : Nat → Bool} (ha : a < n) (h : ∀ j, j < n → (f j = true ↔ j = a)) : (List.range n).filter f = [a] := by
  induction n with
  | zero => omega
  | succ n ih =>
    rw [List.range_succ, List.filter_append]
    by_cases e : a = n
    · subst e
      rw [fil0 (fun j hj => by cases hf : f j; rfl; have := (h j (by omega)).1 hf; omega)]
      have : f a = true := (h a (by omega)).2 rfl
      simp [this]
    · rw [ih (by omega) (fun j hj => h j (by omega))]
      have : f n = false := by cases hf : f n; rfl; have := (h n (by omega)).1 hf; omega
      simp [this]
theorem fil2 {n a b : Nat} {f : Nat → Bool} (hab : a < b) (hb : b < n) (h : ∀ j, j < n → (f j = true ↔ j = a ∨ j = b)) : (List.range n).filter f = [a, b] := by
  induction n with
  | zero => omega
  | succ n ih =>
    rw [List.range_succ, List.filter_append]
    by_cases e : b = n
    · subst e
      rw [fil1 (a := a) hab (fun j hj => by rw [h j (by omega)]; omega)]
      have : f b = true := (h b (by omega)).2 (.inr rfl)
      simp [this]
    · rw [ih (by omega) (fun j hj => h j (by omega))]
      have : f n = false := by cases hf : f n; rfl; have := (h n (by omega)).1 hf; omega
      simp [this]
def rnextL (p : List Ins) (k : Nat) : List Int := ((List.range p.length).filter fun t : Nat => mayB p k (t : Int)).map fun t : Nat => (t : Int)
theorem rnext_eq {right : Ins → Bool} {p : List Ins} (h : Fine right p) (hn : ∀ j, j < p.length → 0 ≤ (at_ p j).n) {k : Nat} (hk : k < p.length) : rnextL p k = nextL p k := by
  have hm : ∀ t : Nat, mayB p k (t : Int) = true ↔ (t : Int) ∈ nextL p k := fun t => may_next p k t fun ho => (h.lead hk (.inr ho)).1
  have hn0 := hn k hk
  unfold rnextL
  by_cases h1 : (at_ p k).op = 21
  · have e : nextL p k = [] := by unfold nextL; rw [if_pos h1]
    rw [fil0 (fun j hj => by cases hf : mayB p k j; rfl; have := (hm j).1 hf; rw [e] at this; cases this), e]
    rfl
  · have hg := h.goes hk h1
    by_cases h2 : (at_ p k).op = 14
    · have e : nextL p k = [(at_ p k).n] := by unfold nextL; rw [if_neg h1, if_pos h2]
      have := h.lead hk (.inl h2)
      rw [fil1 (a := (at_ p k).n.toNat) (by omega) (fun j hj => by rw [hm j, e]; simp; omega), e]
      simp
      omega
    · by_cases h3 : (at_ p k).op = 15
      · have := h.lead hk (.inr h3)
        by_cases h4 : (k : Int) + 1 < (at_ p k).n
        · have e : nextL p k = [(k : Int) + 1, (at_ p k).n] := by unfold nextL; rw [if_neg h1, if_neg h2, if_pos h3, if_pos h4]
          rw [fil2 (a := k + 1) (b := (at_ p k).n.toNat) (by omega) (by omega) (fun j hj => by rw [hm j, e]; simp; omega), e]
          simp
          omega
        · have e : nextL p k = [(k : Int) + 1] := by unfold nextL; rw [if_neg h1, if_neg h2, if_pos h3, if_neg h4]
          rw [fil1 (a := k + 1) (by omega) (fun j hj => by rw [hm j, e]; simp; omega), e]
          simp
      · by_cases h4 : (at_ p k).op = 16
        · have := h.back hk h4
          have e : nextL p k = [(at_ p k).n, (k : Int) + 1] := by unfold nextL; rw [if_neg h1, if_neg h2, if_neg h3, if_pos h4]
          rw [fil2 (a := (at_ p k).n.toNat) (b := k + 1) (by omega) (by omega) (fun j hj => by rw [hm j, e]; simp; omega), e]
          simp
          omega
        · have e : nextL p k = [(k : Int) + 1] := by unfold nextL; rw [if_neg h1, if_neg h2, if_neg h3, if_neg h4]
          rw [fil1 (a := k + 1) (by omega) (fun j hj => by rw [hm j, e]; simp; omega), e]
          simp

end Go.Proofs.YtnlndkpjfgpodaaDoor.Fp
end
