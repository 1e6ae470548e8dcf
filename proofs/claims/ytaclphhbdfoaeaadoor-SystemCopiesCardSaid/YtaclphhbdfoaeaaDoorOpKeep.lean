/-
  What is read is what was written last, as long as nobody writes: of four slots; plain.
-/
import Derived.Test.YtaclphhbdfoaeaaDoorOpPure
set_option linter.unusedSimpArgs false
set_option linter.unusedVariables false
namespace Go.Proofs.YtaclphhbdfoaeaaDoor.Op

/-- words laid from a place on -/
def lay (l : List Int) (k : Nat) : List Int → List Int
  | [] => l
  | w :: ws => lay (l.set k w) (k + 1) ws
theorem lay_length (ws : List Int) : ∀ (l : List Int) (k : Nat), (lay l k ws).length = l.length := by
  induction ws with
  | nil => intro l k; rfl
  | cons w ws ih => intro l k; rw [lay, ih, List.length_set]
theorem lay_snoc (ws : List Int) (u : Int) : ∀ (l : List Int) (k : Nat), lay l k (ws ++ [u]) = (lay l k ws).set (k + ws.length) u := by
  induction ws with
  | nil => intro l k; simp [lay]
  | cons w ws ih => intro l k; rw [List.cons_append, lay, ih, lay, List.length_cons]; congr 1 <;> omega
theorem set_get (l : List Int) (k j : Nat) (v : Int) (hk : k < l.length) : (l.set k v).getD j 0 = if j = k then v else l.getD j 0 := by
  simp only [List.getD_eq_getElem?_getD, List.getElem?_set]
  by_cases h : k = j
  · subst h
    simp [hk]
  · rw [if_neg h, if_neg (fun e => h e.symm)]
theorem lay_get (ws : List Int) : ∀ (l : List Int) (k j : Nat), k + ws.length ≤ l.length → (lay l k ws).getD j 0 = if k ≤ j ∧ j < k + ws.length then ws.getD (j - k) 0 else l.getD j 0 := by
  induction ws with
  | nil => intro l k j _; rw [lay, if_neg (by simp <;> omega)]
  | cons w ws ih =>
    intro l k j h
    rw [List.length_cons] at h ⊢
    rw [lay, ih _ _ _ (by rw [List.length_set]; omega), set_get _ _ _ _ (by omega)]
    by_cases h1 : j = k
    · subst h1
      rw [if_neg (by omega), if_pos rfl, if_pos (by omega), Nat.sub_self]
      rfl
    · rw [if_neg h1]
      by_cases h2 : k + 1 ≤ j ∧ j < k + 1 + ws.length
      · rw [if_pos h2, if_pos (by omega)]
        have e : j - k = (j - (k + 1)) + 1 := by omega
        rw [e]
        rfl
      · rw [if_neg h2, if_neg (by omega)]
theorem get_put (o : Im) (l : List Int) (k j : Nat) (v : Int) (h : o.at_ + k < l.length) : get o (put o l k v) j = if j = k then v else get o l j := by
  unfold get put
  rw [set_get _ _ _ _ h]
  by_cases e : j = k
  · rw [if_pos e, if_pos (by omega)]
  · rw [if_neg e, if_neg (by omega)]
theorem get_lay (o : Im) (l : List Int) (k j : Nat) (ws : List Int) (h : o.at_ + k + ws.length ≤ l.length) : get o (lay l (o.at_ + k) ws) j = if k ≤ j ∧ j < k + ws.length then ws.getD (j - k) 0 else get o l j := by
  unfold get
  rw [lay_get _ _ _ _ h]
  by_cases e : k ≤ j ∧ j < k + ws.length
  · rw [if_pos e, if_pos (by omega)]
    congr 1
    omega
  · rw [if_neg e, if_neg (by omega)]
/-- the words of an object from k on -/
def part (o : Im) (l : List Int) (k n : Nat) : List Int := (List.range n).map fun j => get o l (k + j)
theorem part_length (o : Im) (l : List Int) (k n : Nat) : (part o l k n).length = n := by simp [part]
theorem part_succ (o : Im) (l : List Int) (k n : Nat) : part o l k (n + 1) = part o l k n ++ [get o l (k + n)] := by simp [part, List.range_succ]
theorem part_eq {o : Im} {l : List Int} {k n : Nat} {ws : List Int} (hn : ws.length = n) (h : ∀ j, j < n → get o l (k + j) = ws.getD j 0) : part o l k n = ws := by
  apply List.ext_getElem
  · rw [part_length, hn]
  · intro j h1 h2
    have := h j (by omega)
    rw [List.getD_eq_getElem?_getD, List.getElem?_eq_getElem h2] at this
    simpa [part] using this

/-! ### four slots -/
def bit01 (x : Int) : Prop := 0 ≤ x ∧ x ≤ 1
/-- the object holds the record -/
structure FourHolds (o : Im) (l : List Int) (last : List Int) : Prop where
  len : o.at_ + (4 + 4 * o.width) ≤ l.length
  b0 : bit01 (get o l 0)
  b1 : bit01 (get o l 1)
  b2 : bit01 (get o l 2)
  b3 : bit01 (get o l 3)
  is : part o l (fourK o (get o l 0) (get o l (2 + (get o l 0).toNat))) o.width = last

theorem FourHolds.slot {o : Im} {l last : List Int} (h : FourHolds o l last) {a : Int} (ha : bit01 a) : bit01 (get o l (2 + a.toNat)) := by
  unfold bit01 at ha
  by_cases e : a = 0
  · subst e; exact h.b2
  · have e : a = 1 := by omega
    subst e; exact h.b3

def fourA (o : Im) (l : List Int) : Int := (get o l 1 + 1) % 2
def fourB (o : Im) (l : List Int) : Int := (get o l (2 + (fourA o l).toNat) + 1) % 2

def fourJ (o : Im) (l0 rec : List Int) (s : St) (l : List Int) : Prop :=
  (s.over = false ∧ s.rc = rec ∧ s.row ≤ 4 ∧ (1 ≤ s.row → s.a = fourA o l0) ∧ (2 ≤ s.row → s.b = fourB o l0) ∧
    ((s.row ≤ 1 ∧ l = l0) ∨ (s.row = 2 ∧ s.i < o.width ∧ l = lay l0 (o.at_ + fourK o (fourA o l0) (fourB o l0)) (rec.take s.i)) ∨
      (s.row = 3 ∧ l = lay l0 (o.at_ + fourK o (fourA o l0) (fourB o l0)) rec) ∨
      (s.row = 4 ∧ l = put o (lay l0 (o.at_ + fourK o (fourA o l0) (fourB o l0)) rec) (2 + (fourA o l0).toNat) (fourB o l0)))) ∨
  (s.over = true ∧ s.code = 0 ∧ s.rc = [] ∧ l = put o (put o (lay l0 (o.at_ + fourK o (fourA o l0) (fourB o l0)) rec) (2 + (fourA o l0).toNat) (fourB o l0)) 0 (fourA o l0))

theorem fourJ_step (o : Im) (l0 rec : List Int) (s : St) (l : List Int) (hwr : o.wr = true) (hrec : rec.length = o.width) (hw : 0 < o.width) (h : fourJ o l0 rec s l) (hov : s.over = false) : fourJ o l0 rec (four o s l).1 (four o s l).2 := by
  rcases h with ⟨_, hr, h4, ha, hb, h⟩ | ⟨h, _⟩
  · have e : four o s l = fourW o (more s) l := by unfold four; rw [if_pos hwr]
    rw [e]
    obtain ⟨row, i, rc, a, b, used, tries, steps, code, over⟩ := s
    simp only at *
    subst hov
    subst hr
    rcases h with ⟨h, rfl⟩ | ⟨rfl, hi, rfl⟩ | ⟨rfl, rfl⟩ | ⟨rfl, rfl⟩
    · match row, h with
      | 0, _ => exact .inl ⟨rfl, rfl, by simp [fourW, more, St.to], fun _ => rfl, by simp [fourW, more, St.to], .inl ⟨by simp [fourW, more, St.to], rfl⟩⟩
      | 1, _ =>
        have ha' := ha (by omega)
        subst ha'
        exact .inl ⟨rfl, rfl, by simp [fourW, more, St.to], fun _ => rfl, fun _ => rfl, .inr (.inl ⟨rfl, hw, by simp [fourW, more, St.to, lay]⟩)⟩
    · have ha' := ha (by omega)
      have hb' := hb (by omega)
      subst ha'
      subst hb'
      simp only [fourW, more, word, hwr, if_true]
      have hl : put o (lay l0 (o.at_ + fourK o (fourA o l0) (fourB o l0)) (rc.take i)) (fourK o (fourA o l0) (fourB o l0) + i) (rc.getD i 0) = lay l0 (o.at_ + fourK o (fourA o l0) (fourB o l0)) (rc.take (i + 1)) := by
        have hlt : i < rc.length := by omega
        rw [List.take_succ_eq_append_getElem hlt, lay_snoc, List.length_take, Nat.min_eq_left (by omega)]
        unfold put
        rw [List.getD_eq_getElem?_getD, List.getElem?_eq_getElem hlt, Nat.add_assoc]
        rfl
      rw [hl]
      by_cases hlt : i + 1 < o.width
      · rw [if_pos hlt]
        exact .inl ⟨rfl, rfl, by simp, fun _ => rfl, fun _ => rfl, .inr (.inl ⟨rfl, hlt, rfl⟩)⟩
      · rw [if_neg hlt]
        exact .inl ⟨rfl, rfl, by simp [St.to], fun _ => rfl, fun _ => rfl, .inr (.inr (.inl ⟨rfl, by rw [List.take_of_length_le (by omega)]⟩))⟩
    · have ha' := ha (by omega)
      have hb' := hb (by omega)
      subst ha'
      subst hb'
      exact .inl ⟨rfl, rfl, by simp [fourW, more, St.to], fun _ => rfl, fun _ => rfl, .inr (.inr (.inr ⟨rfl, rfl⟩))⟩
    · have ha' := ha (by omega)
      have hb' := hb (by omega)
      subst ha'
      subst hb'
      exact .inr ⟨rfl, rfl, by simp [fourW, more, St.fin], rfl⟩
  · rw [hov] at h
    cases h

theorem fourK_le (o : Im) {a b : Int} (ha : bit01 a) (hb : bit01 b) : 4 ≤ fourK o a b ∧ fourK o a b + o.width ≤ 4 + 4 * o.width := by
  unfold fourK bit01 at *
  have : (2 * a + b).toNat ≤ 3 := by omega
  generalize (2 * a + b).toNat = q at *
  refine ⟨by omega, ?_⟩
  have := Nat.mul_le_mul_right o.width this
  omega

theorem four_wrote (o : Im) (l0 last rec : List Int) (s : St) (l : List Int) (h0 : FourHolds o l0 last) (hrec : rec.length = o.width) (h : fourJ o l0 rec s l) (hov : s.over = true) : s.code = 0 ∧ l.length = l0.length ∧ FourHolds o l rec := by
  rcases h with ⟨h, _⟩ | ⟨_, hc, _, hl⟩
  · rw [hov] at h
    cases h
  · have hA : bit01 (fourA o l0) := by have := h0.b1; unfold fourA bit01 at *; omega
    have hB : bit01 (fourB o l0) := by have := h0.slot hA; unfold fourB bit01 at *; omega
    have hK := fourK_le o hA hB
    have hlen := h0.len
    have hlaid := lay_length rec l0 (o.at_ + fourK o (fourA o l0) (fourB o l0))
    have hp1 := put_length o (lay l0 (o.at_ + fourK o (fourA o l0) (fourB o l0)) rec) (2 + (fourA o l0).toNat) (fourB o l0)
    have hp2 := put_length o (put o (lay l0 (o.at_ + fourK o (fourA o l0) (fourB o l0)) rec) (2 + (fourA o l0).toNat) (fourB o l0)) 0 (fourA o l0)
    rw [← hl] at hp2
    have hAn : (fourA o l0).toNat ≤ 1 := by unfold bit01 at hA; omega
    have g : ∀ j, get o l j = if j = 0 then fourA o l0 else if j = 2 + (fourA o l0).toNat then fourB o l0 else if fourK o (fourA o l0) (fourB o l0) ≤ j ∧ j < fourK o (fourA o l0) (fourB o l0) + o.width then rec.getD (j - fourK o (fourA o l0) (fourB o l0)) 0 else get o l0 j := by
      intro j
      rw [hl, get_put _ _ _ _ _ (by rw [hp1, hlaid]; omega), get_put _ _ _ _ _ (by rw [hlaid]; omega), get_lay _ _ _ _ _ (by rw [hrec]; omega), hrec]
    have h2 : 2 + (fourA o l0).toNat < 4 := by omega
    have gs : get o l (2 + (fourA o l0).toNat) = fourB o l0 := by rw [g, if_neg (by omega), if_pos rfl]
    have gk : ∀ j, 0 < j → j < 4 → bit01 (get o l0 j) → bit01 (get o l j) := by
      intro j h1 h3 hb
      rw [g, if_neg (by omega)]
      split
      · exact hB
      · rw [if_neg (by omega)]
        exact hb
    have g0 : get o l 0 = fourA o l0 := by rw [g, if_pos rfl]
    refine ⟨hc, by rw [hp2, hp1, hlaid], by rw [hp2, hp1, hlaid]; exact hlen, by rw [g0]; exact hA, gk 1 (by omega) (by omega) h0.b1, gk 2 (by omega) (by omega) h0.b2, gk 3 (by omega) (by omega) h0.b3, ?_⟩
    rw [g0, gs]
    refine part_eq hrec fun j hj => ?_
    rw [g, if_neg (by omega), if_neg (by omega), if_pos (by omega)]
    congr 1
    omega

def fourA' (o : Im) (l : List Int) : Int := get o l 0 % 2
def fourB' (o : Im) (l : List Int) : Int := get o (put o l 1 (fourA' o l)) (2 + (fourA' o l).toNat) % 2
def fourJR (o : Im) (l0 : List Int) (s : St) (l : List Int) : Prop :=
  (s.over = false ∧ s.row ≤ 3 ∧ (1 ≤ s.row → s.a = fourA' o l0) ∧ (3 ≤ s.row → s.b = fourB' o l0) ∧ ((s.row ≤ 1 ∧ l = l0) ∨ (2 ≤ s.row ∧ l = put o l0 1 (fourA' o l0))) ∧
    (s.row ≤ 2 → s.rc = []) ∧ (s.row = 3 → s.i < o.width ∧ s.rc = part o l (fourK o (fourA' o l0) (fourB' o l0)) s.i)) ∨
  (s.over = true ∧ s.code = 0 ∧ l = put o l0 1 (fourA' o l0) ∧ s.rc = part o l (fourK o (fourA' o l0) (fourB' o l0)) o.width)

theorem fourJR_step (o : Im) (l0 : List Int) (s : St) (l : List Int) (hwr : o.wr = false) (hw : 0 < o.width) (h : fourJR o l0 s l) (hov : s.over = false) : fourJR o l0 (four o s l).1 (four o s l).2 := by
  rcases h with ⟨_, h4, ha, hb, h, hr, hr3⟩ | ⟨h, _⟩
  · have e : four o s l = fourR o (more s) l := by unfold four; rw [if_neg (by simp [hwr])]
    rw [e]
    obtain ⟨row, i, rc, a, b, used, tries, steps, code, over⟩ := s
    simp only at *
    subst hov
    match row, h4 with
    | 0, _ =>
      have hr0 := hr (by omega)
      subst hr0
      rcases h with ⟨_, rfl⟩ | ⟨h, _⟩
      · exact .inl ⟨rfl, by simp [fourR, more, St.to], fun _ => rfl, by simp [fourR, more, St.to], .inl ⟨by simp [fourR, more, St.to], rfl⟩, fun _ => rfl, by simp [fourR, more, St.to]⟩
      · omega
    | 1, _ =>
      have hr0 := hr (by omega)
      subst hr0
      have ha' := ha (by omega)
      subst ha'
      rcases h with ⟨_, rfl⟩ | ⟨h, _⟩
      · exact .inl ⟨rfl, by simp [fourR, more, St.to], fun _ => rfl, by simp [fourR, more, St.to], .inr ⟨by simp [fourR, more, St.to], rfl⟩, fun _ => rfl, by simp [fourR, more, St.to]⟩
      · omega
    | 2, _ =>
      have hr0 := hr (by omega)
      subst hr0
      have ha' := ha (by omega)
      subst ha'
      rcases h with ⟨h, _⟩ | ⟨_, rfl⟩
      · omega
      · exact .inl ⟨rfl, by simp [fourR, more, St.to], fun _ => rfl, fun _ => rfl, .inr ⟨by simp [fourR, more, St.to], rfl⟩, fun _ => rfl, fun _ => ⟨hw, by simp [fourR, more, St.to, part]⟩⟩
    | 3, _ =>
      have ha' := ha (by omega)
      have hb' := hb (by omega)
      subst ha'
      subst hb'
      obtain ⟨hi, hr0⟩ := hr3 rfl
      subst hr0
      rcases h with ⟨h, _⟩ | ⟨_, rfl⟩
      · omega
      · simp only [fourR, more, word, hwr, Bool.false_eq_true, if_false]
        rw [← part_succ]
        by_cases hlt : i + 1 < o.width
        · rw [if_pos hlt]
          exact .inl ⟨rfl, by simp, fun _ => rfl, fun _ => rfl, .inr ⟨by simp, rfl⟩, by simp, fun _ => ⟨hlt, rfl⟩⟩
        · rw [if_neg hlt]
          have : i + 1 = o.width := by omega
          exact .inr ⟨rfl, rfl, rfl, by simp [St.fin, this]⟩
  · rw [hov] at h
    cases h
theorem four_told (o : Im) (l0 last : List Int) (s : St) (l : List Int) (h0 : FourHolds o l0 last) (h : fourJR o l0 s l) (hov : s.over = true) : s.code = 0 ∧ s.rc = last ∧ l.length = l0.length ∧ FourHolds o l last := by
  rcases h with ⟨h, _⟩ | ⟨_, hc, hl, hr⟩
  · rw [hov] at h
    cases h
  · have eA : fourA' o l0 = get o l0 0 := by have := h0.b0; unfold fourA' bit01 at *; omega
    have hA : bit01 (fourA' o l0) := by rw [eA]; exact h0.b0
    have hlen := h0.len
    have g : ∀ j, j ≠ 1 → get o l j = get o l0 j := fun j hj => by rw [hl, get_put _ _ _ _ _ (by omega), if_neg hj]
    have g1 : get o l 1 = fourA' o l0 := by rw [hl, get_put _ _ _ _ _ (by omega), if_pos rfl]
    have eB : fourB' o l0 = get o l0 (2 + (get o l0 0).toNat) := by
      have := h0.slot h0.b0
      unfold fourB'
      rw [← hl, eA, g _ (by omega)]
      unfold bit01 at this
      omega
    have hlast : part o l (fourK o (get o l0 0) (get o l0 (2 + (get o l0 0).toNat))) o.width = last := by
      rw [← h0.is]
      refine part_eq (part_length _ _ _ _) fun j hj => ?_
      have hK := fourK_le o h0.b0 (h0.slot h0.b0)
      rw [g _ (by omega)]
      simp [part, List.getD_eq_getElem?_getD, hj]
    have hpl := put_length o l0 1 (fourA' o l0)
    rw [← hl] at hpl
    refine ⟨hc, by rw [hr, eA, eB, hlast], hpl, by omega, by rw [g 0 (by omega)]; exact h0.b0, by rw [g1]; exact hA, by rw [g 2 (by omega)]; exact h0.b2, by rw [g 3 (by omega)]; exact h0.b3, ?_⟩
    rw [g 0 (by omega), g _ (by omega)]
    exact hlast

end Go.Proofs.YtaclphhbdfoaeaaDoor.Op
