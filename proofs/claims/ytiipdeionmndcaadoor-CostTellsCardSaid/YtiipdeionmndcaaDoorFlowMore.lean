/-
  Where one may go in a program that may be, and what is reached (chapter 10): plain.
-/
import Derived.Test.YtiipdeionmndcaaDoorFlowPure
set_option linter.unusedSimpArgs false
set_option linter.unusedVariables false
namespace Go.Proofs.YtiipdeionmndcaaDoor.Fp

/-- the places to which one may come -/
def nextL (p : List Ins) (k : Nat) : List Int :=
  if (at_ p k).op = 21 then [] else
  if (at_ p k).op = 14 then [(at_ p k).n] else
  if (at_ p k).op = 15 then (if (k : Int) + 1 < (at_ p k).n then [(k : Int) + 1, (at_ p k).n] else [(k : Int) + 1]) else
  if (at_ p k).op = 16 then [(at_ p k).n, (k : Int) + 1] else [(k : Int) + 1]
/-- may one come from k to t? -/
def mayB (p : List Ins) (k : Nat) (t : Int) : Bool :=
  !decide ((at_ p k).op = 21) && ((decide ((at_ p k).op = 14 ∨ (at_ p k).op = 15 ∨ (at_ p k).op = 16) && decide (t = (at_ p k).n)) || (!decide ((at_ p k).op = 14) && decide (t = (k : Int) + 1)))
theorem may_next (p : List Ins) (k : Nat) (t : Int) (hs : (at_ p k).op = 15 → (k : Int) < (at_ p k).n) : mayB p k t = true ↔ t ∈ nextL p k := by
  unfold mayB nextL
  by_cases h1 : (at_ p k).op = 21
  · simp [h1]
  · by_cases h2 : (at_ p k).op = 14
    · simp [h2]
    · by_cases h3 : (at_ p k).op = 15
      · have := hs h3
        by_cases h4 : (k : Int) + 1 < (at_ p k).n
        · simp [h3, h4]
          omega
        · simp [h3, h4]
          omega
      · by_cases h4 : (at_ p k).op = 16
        · simp [h4]
        · simp [h1, h2, h3, h4]

section
variable {right : Ins → Bool} {p : List Ins}
theorem Fine.lead (h : Fine right p) {k : Nat} (hk : k < p.length) (ho : (at_ p k).op = 14 ∨ (at_ p k).op = 15) : (k : Int) < (at_ p k).n ∧ (at_ p k).n < p.length := by
  have := h.stray k hk
  unfold strayB at this
  rw [if_neg (by omega), if_pos ho] at this
  simp at this
  omega
theorem Fine.back (h : Fine right p) {k : Nat} (hk : k < p.length) (ho : (at_ p k).op = 16) : (at_ p k).n < k := by
  have := h.stray k hk
  unfold strayB at this
  rw [if_pos ho] at this
  simpa using this
theorem Fine.goes (h : Fine right p) {k : Nat} (hk : k < p.length) (ho : (at_ p k).op ≠ 21) : k + 1 < p.length := by
  rcases Nat.lt_or_ge (k + 1) p.length with h1 | h1
  · exact h1
  · have : k = p.length - 1 := by omega
    rw [this, h.last] at ho
    exact absurd rfl ho
/-- where an edge leads -/
theorem Fine.edge (h : Fine right p) (hn : ∀ j, j < p.length → 0 ≤ (at_ p j).n) {k : Nat} (hk : k < p.length) {t : Int} (ht : t ∈ nextL p k) :
    (0 ≤ t ∧ t < p.length) ∧ (((at_ p k).op = 14 ∨ (at_ p k).op = 15) ∧ t = (at_ p k).n ∧ (k : Int) < t ∨ t = (k : Int) + 1 ∨ (at_ p k).op = 16 ∧ t = (at_ p k).n ∧ t < k) := by
  have hn0 := hn k hk
  unfold nextL at ht
  by_cases h1 : (at_ p k).op = 21
  · rw [if_pos h1] at ht; cases ht
  · have hg := h.goes hk h1
    rw [if_neg h1] at ht
    by_cases h2 : (at_ p k).op = 14
    · rw [if_pos h2] at ht
      have := h.lead hk (.inl h2)
      simp at ht
      subst ht
      exact ⟨by omega, .inl ⟨.inl h2, rfl, this.1⟩⟩
    · rw [if_neg h2] at ht
      by_cases h3 : (at_ p k).op = 15
      · rw [if_pos h3] at ht
        have := h.lead hk (.inr h3)
        split at ht
        · simp at ht
          rcases ht with rfl | rfl
          · exact ⟨by omega, .inr (.inl rfl)⟩
          · exact ⟨by omega, .inl ⟨.inr h3, rfl, this.1⟩⟩
        · simp at ht
          subst ht
          exact ⟨by omega, .inr (.inl rfl)⟩
      · rw [if_neg h3] at ht
        by_cases h4 : (at_ p k).op = 16
        · rw [if_pos h4] at ht
          have := h.back hk h4
          simp at ht
          rcases ht with rfl | rfl
          · exact ⟨by omega, .inr (.inr ⟨h4, rfl, this⟩)⟩
          · exact ⟨by omega, .inr (.inl rfl)⟩
        · rw [if_neg h4] at ht
          simp at ht
          subst ht
          exact ⟨by omega, .inr (.inl rfl)⟩
theorem has_iff {s : Int × Int} {x : Int} : hasB s x = true ↔ s.1 ≤ x ∧ x ≤ s.2 := by unfold hasB; simp
theorem Fine.crosses (h : Fine right p) {k : Nat} (hk : k < p.length) (ho : (at_ p k).op = 14 ∨ (at_ p k).op = 15) {s : Int × Int} (hs : s ∈ loopsL p) : hasB s (k : Int) = hasB s (at_ p k).n := by
  have := h.cross k hk
  unfold crossAt at this
  rw [decide_eq_true ho, Bool.true_and, List.any_eq_false] at this
  obtain ⟨j, hj, he⟩ := List.getElem_of_mem hs
  have h2 := this j (List.mem_range.2 hj)
  have e : lp (loopsL p) j = s := lp_some (by rw [List.getElem?_eq_getElem hj, he])
  rw [e] at h2
  simpa using h2
theorem Fine.nest (h : Fine right p) {a b : Int × Int} (ha : a ∈ loopsL p) (hb : b ∈ loopsL p) (hab : a.2 < b.2) : overB a b = false := by
  obtain ⟨j, hj, rfl⟩ := List.getElem_of_mem ha
  obtain ⟨k, hk, rfl⟩ := List.getElem_of_mem hb
  have ej : lp (loopsL p) j = (loopsL p)[j] := lp_some (List.getElem?_eq_getElem hj)
  have ek : lp (loopsL p) k = (loopsL p)[k] := lp_some (List.getElem?_eq_getElem hk)
  have hjk : j < k := by
    rcases Nat.lt_trichotomy j k with h1 | h1 | h1
    · exact h1
    · subst h1; omega
    · have := lp_lt h1 hj
      rw [ej, ek] at this
      omega
  have := h.over k hk
  unfold overAt at this
  rw [List.any_eq_false] at this
  have h2 := this j (List.mem_range.2 hjk)
  rw [ej, ek] at h2
  simpa using h2
theorem Fine.loop (h : Fine right p) (hn : ∀ j, j < p.length → 0 ≤ (at_ p j).n) {s : Int × Int} (hs : s ∈ loopsL p) : 0 ≤ s.1 ∧ s.1 < s.2 ∧ s.2 < p.length := loop_in h.stray hn hs
/-- of two loops that have a place the one ahead is the shorter one -/
theorem Fine.short (h : Fine right p) {a b : Int × Int} (ha : a ∈ loopsL p) (hb : b ∈ loopsL p) (hab : a.2 < b.2) {x : Int} (hx : hasB a x = true) (hy : hasB b x = true) : a.2 - a.1 < b.2 - b.1 := by
  have := h.nest ha hb hab
  unfold overB at this
  have h1 := has_iff.1 hx
  have h2 := has_iff.1 hy
  simp at this
  omega
theorem same_loop {a b : Int × Int} (ha : a ∈ loopsL p) (hb : b ∈ loopsL p) (h : a.2 = b.2) : a = b := by
  obtain ⟨j, _, _, rfl⟩ := loopsTo_mem ha
  obtain ⟨k, _, _, rfl⟩ := loopsTo_mem hb
  simp only at h
  have : j = k := by omega
  subst this
  rfl
/-- one comes into a loop by its first place alone, and out of it by its Back alone -/
theorem Fine.ways (h : Fine right p) (hn : ∀ j, j < p.length → 0 ≤ (at_ p j).n) {k : Nat} (hk : k < p.length) {t : Int} (ht : t ∈ nextL p k) {s : Int × Int} (hs : s ∈ loopsL p) :
    (hasB s t = true → hasB s k = false → t = s.1) ∧ (hasB s k = true → hasB s t = false → (k : Int) = s.2) := by
  obtain ⟨hb, he⟩ := h.edge hn hk ht
  have hl := h.loop hn hs
  have F : ∀ {x : Int}, hasB s x = false ↔ ¬ (s.1 ≤ x ∧ x ≤ s.2) := fun {x} => by unfold hasB; simp
  rcases he with ⟨ho, rfl, _⟩ | rfl | ⟨ho, rfl, hlt⟩
  · have := h.crosses hk ho hs
    constructor
    · intro h1 h2; rw [this, h1] at h2; cases h2
    · intro h1 h2; rw [this, h2] at h1; cases h1
  · constructor
    · intro h1 h2
      have := has_iff.1 h1
      have := F.1 h2
      omega
    · intro h1 h2
      have := has_iff.1 h1
      have := F.1 h2
      omega
  · have hs' : ((at_ p k).n, (k : Int)) ∈ loopsL p := loopsTo_has hk ho
    constructor
    · intro h1 h2
      have h1 := has_iff.1 h1
      have h2 := F.1 h2
      have := h.nest hs hs' (by simp only; omega)
      unfold overB at this
      simp at this
      omega
    · intro h1 h2
      have h1 := has_iff.1 h1
      have h2 := F.1 h2
      rcases Int.lt_or_le (k : Int) s.2 with h3 | h3
      · have := h.nest hs' hs h3
        unfold overB at this
        simp at this
        omega
      · omega

/-! ### what is reached -/
def R (p : List Ins) : Nat → Nat → Bool
  | 0, x => decide (x = 0)
  | k + 1, x => R p k x || (R p k k && decide ((x : Int) ∈ nextL p k))
theorem R_mono {k m x : Nat} (hkm : k ≤ m) (h : R p k x = true) : R p m x = true := by
  induction m with
  | zero =>
    have : k = 0 := by omega
    subst this
    exact h
  | succ m ih =>
    rcases Nat.lt_or_ge m k with h1 | h1
    · have : k = m + 1 := by omega
      subst this
      exact h
    · rw [R, ih h1]
      rfl
theorem R_of {k x : Nat} (h : R p k x = true) : x = 0 ∨ ∃ y, y < k ∧ R p y y = true ∧ (x : Int) ∈ nextL p y := by
  induction k with
  | zero => exact .inl (of_decide_eq_true h)
  | succ k ih =>
    rw [R, Bool.or_eq_true, Bool.and_eq_true] at h
    rcases h with h | ⟨h1, h2⟩
    · rcases ih h with h | ⟨y, h1, h2⟩
      · exact .inl h
      · exact .inr ⟨y, by omega, h2⟩
    · exact .inr ⟨k, by omega, h1, of_decide_eq_true h2⟩
theorem R_zero (k : Nat) : R p k 0 = true := R_mono (Nat.zero_le k) (by simp [R])
theorem R_first (h : Fine right p) (hn : ∀ j, j < p.length → 0 ≤ (at_ p j).n) : ∀ x, x < p.length → R p x x = true → ∀ s, s ∈ loopsL p → hasB s x = true → R p s.1.toNat s.1.toNat = true := by
  intro x
  induction x using Nat.strongRecOn with
  | ind x ih =>
    intro hx hr s hs hsx
    have hl := h.loop hn hs
    have hi := has_iff.1 hsx
    rcases R_of hr with rfl | ⟨y, hy, hry, hm⟩
    · have : s.1.toNat = 0 := by omega
      rw [this]
      exact R_zero 0
    · have hyl : y < p.length := by omega
      cases hsy : hasB s y
      · have := (h.ways hn hyl hm hs).1 hsx hsy
        have e : s.1.toNat = x := by omega
        rw [e]
        exact hr
      · exact ih y hy hyl hry s hs hsy
theorem R_back (h : Fine right p) (hn : ∀ j, j < p.length → 0 ≤ (at_ p j).n) {x : Nat} (hr : R p p.length x = true) : R p x x = true := by
  rcases R_of hr with rfl | ⟨y, hy, hry, hm⟩
  · exact R_zero 0
  · rcases (h.edge hn hy hm).2 with ⟨_, _, hlt⟩ | he | ⟨ho, he, hlt⟩
    · exact R_mono (k := y + 1) (by omega) (by rw [R, hry, decide_eq_true hm]; simp)
    · exact R_mono (k := y + 1) (by omega) (by rw [R, hry, decide_eq_true hm]; simp)
    · have := R_first h hn y hy hry _ (loopsTo_has hy ho) (has_iff.2 ⟨by simp only; omega, by simp only; omega⟩)
      simp only at this
      have e : (at_ p y).n.toNat = x := by omega
      rw [e] at this
      exact this
/-- once is enough -/
theorem R_closed (h : Fine right p) (hn : ∀ j, j < p.length → 0 ≤ (at_ p j).n) {y : Nat} (hy : y < p.length) (hr : R p p.length y = true) {t : Int} (ht : t ∈ nextL p y) : R p p.length t.toNat = true := by
  have h0 := (h.edge hn hy ht).1
  have h1 := R_back h hn hr
  exact R_mono (k := y + 1) (by omega) (by rw [R, h1]; have e : ((t.toNat : Nat) : Int) = t := by omega
                                           rw [e, decide_eq_true ht]; simp)
end

/-! ### the places below, in order -/
theorem fil0 {n : Nat} {f : Nat → Bool} (h : ∀ j, j < n → f j = false) : (List.range n).filter f = [] := by
  rw [List.filter_eq_nil_iff]
  intro j hj
  rw [h j (List.mem_range.1 hj)]
  exact Bool.false_ne_true
theorem fil1 {n a : Nat} {f : Nat → Bool} (ha : a < n) (h : ∀ j, j < n → (f j = true ↔ j = a)) : (List.range n).filter f = [a] := by
  induction n with
  | zero => omega
  | succ n ih =>
    rw [List.range_succ, List.filter_append]
    by_cases e : a = n
    · subst e
      rw [fil0 (fun j hj => by cases hf : f j; rfl; have := (h j (by omega)).1 hf; omega)]
      have : f a = true := (h a (by omega)).2 rfl
      simp [this]
    · rw [ih (by omega) (fun j hj => h j (by omega))]
      have : f n = false := by cases hf : f n; rfl; have := (h n (by omega)).1 hf; omega
      simp [this]
theorem fil2 {n a b : Nat} {f : Nat → Bool} (hab : a < b) (hb : b < n) (h : ∀ j, j < n → (f j = true ↔ j = a ∨ j = b)) : (List.range n).filter f = [a, b] := by
  induction n with
  | zero => omega
  | succ n ih =>
    rw [List.range_succ, List.filter_append]
    by_cases e : b = n
    · subst e
      rw [fil1 (a := a) hab (fun j hj => by rw [h j (by omega)]; omega)]
      have : f b = true := (h b (by omega)).2 (.inr rfl)
      simp [this]
    · rw [ih (by omega) (fun j hj => h j (by omega))]
      have : f n = false := by cases hf : f n; rfl; have := (h n (by omega)).1 hf; omega
      simp [this]
def rnextL (p : List Ins) (k : Nat) : List Int := ((List.range p.length).filter fun t : Nat => mayB p k (t : Int)).map fun t : Nat => (t : Int)
theorem rnext_eq {right : Ins → Bool} {p : List Ins} (h : Fine right p) (hn : ∀ j, j < p.length → 0 ≤ (at_ p j).n) {k : Nat} (hk : k < p.length) : rnextL p k = nextL p k := by
  have hm : ∀ t : Nat, mayB p k (t : Int) = true ↔ (t : Int) ∈ nextL p k := fun t => may_next p k t fun ho => (h.lead hk (.inr ho)).1
  have hn0 := hn k hk
  unfold rnextL
  by_cases h1 : (at_ p k).op = 21
  · have e : nextL p k = [] := by unfold nextL; rw [if_pos h1]
    rw [fil0 (fun j hj => by cases hf : mayB p k j; rfl; have := (hm j).1 hf; rw [e] at this; cases this), e]
    rfl
  · have hg := h.goes hk h1
    by_cases h2 : (at_ p k).op = 14
    · have e : nextL p k = [(at_ p k).n] := by unfold nextL; rw [if_neg h1, if_pos h2]
      have := h.lead hk (.inl h2)
      rw [fil1 (a := (at_ p k).n.toNat) (by omega) (fun j hj => by rw [hm j, e]; simp; omega), e]
      simp
      omega
    · by_cases h3 : (at_ p k).op = 15
      · have := h.lead hk (.inr h3)
        by_cases h4 : (k : Int) + 1 < (at_ p k).n
        · have e : nextL p k = [(k : Int) + 1, (at_ p k).n] := by unfold nextL; rw [if_neg h1, if_neg h2, if_pos h3, if_pos h4]
          rw [fil2 (a := k + 1) (b := (at_ p k).n.toNat) (by omega) (by omega) (fun j hj => by rw [hm j, e]; simp; omega), e]
          simp
          omega
        · have e : nextL p k = [(k : Int) + 1] := by unfold nextL; rw [if_neg h1, if_neg h2, if_pos h3, if_neg h4]
          rw [fil1 (a := k + 1) (by omega) (fun j hj => by rw [hm j, e]; simp; omega), e]
          simp
      · by_cases h4 : (at_ p k).op = 16
        · have := h.back hk h4
          have e : nextL p k = [(at_ p k).n, (k : Int) + 1] := by unfold nextL; rw [if_neg h1, if_neg h2, if_neg h3, if_pos h4]
          rw [fil2 (a := (at_ p k).n.toNat) (b := k + 1) (by omega) (by omega) (fun j hj => by rw [hm j, e]; simp; omega), e]
          simp
          omega
        · have e : nextL p k = [(k : Int) + 1] := by unfold nextL; rw [if_neg h1, if_neg h2, if_neg h3, if_neg h4]
          rw [fil1 (a := k + 1) (by omega) (fun j hj => by rw [hm j, e]; simp; omega), e]
          simp

end Go.Proofs.YtiipdeionmndcaaDoor.Fp
