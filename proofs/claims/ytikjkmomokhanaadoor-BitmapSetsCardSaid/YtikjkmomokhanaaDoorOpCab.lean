/-
  A buffer whose use is marked by each reader (chapter 18), step by step: plain. (Of a write a is the set of the slots that are noted, a number whose bits they are, b the slot that is chosen; of a read a is the slot.)
-/
import Derived.Test.YtikjkmomokhanaaDoorOpSeq
set_option linter.unusedSimpArgs false
set_option linter.unusedVariables false
namespace Go.Proofs.YtikjkmomokhanaaDoor.Op

def bitI (i : Int) : Nat := if 0 ≤ i ∧ i ≤ 63 then 2 ^ i.toNat else 0
def putI (m i : Int) : Int := ((m.toNat ||| bitI i : Nat) : Int)
def noteL (n : Nat) (u : List Bool) (v : Int) : List Bool := if 0 ≤ v ∧ v < (n : Int) then u.set v.toNat true else u
def freeL (u : List Bool) : Nat := u.findIdx (fun b => !b)
def freeI (m : Int) : Nat := (List.range 64).findIdx (fun j => !m.toNat.testBit j)
def cabK (o : Im) (k : Int) : Nat := 1 + o.n + k.toNat * o.width
def failC (o : Im) (s : St) : St := { s with tries := s.tries + 1, rc := [], row := if o.cap ≤ s.tries + 1 then 5 else 0, i := 0 }
def marked (o : Im) (s : St) (v : Int) : St :=
  if s.i + 1 < o.n then { s with a := putI s.a v, used := noteL o.slots s.used v, i := s.i + 1 }
  else { s.to 2 with a := putI s.a v, used := noteL o.slots s.used v, b := freeL (noteL o.slots s.used v) }
def cabW (o : Im) (s : St) (l : List Int) : St × List Int :=
  match s.row with
  | 0 => ({ s.to 1 with a := putI s.a (get o l 0 % (o.slots : Int)), used := noteL o.slots s.used (get o l 0 % (o.slots : Int)) }, l)
  | 1 => (marked o s (get o l (1 + s.i) - 1), l)
  | 2 => word o s l (cabK o s.b) (some 3)
  | _ => (s.fin true 0, put o l 0 s.b)
def cabR (o : Im) (s : St) (l : List Int) : St × List Int :=
  match s.row with
  | 0 => ({ s.to 1 with a := get o l 0 % (o.slots : Int) }, l)
  | 1 => (s.to 2, put o l (1 + o.reader) (s.a + 1))
  | 2 => if get o l 0 % (o.slots : Int) = s.a then (s.to 3, l) else (failC o s, l)
  | 3 => word o s l (cabK o s.a) (some 4)
  | 4 => (s.fin false 0, put o l (1 + o.reader) 0)
  | _ => (s.fin false 1, put o l (1 + o.reader) 0)
def cab (o : Im) (s : St) (l : List Int) : St × List Int := if o.wr then cabW o (more s) l else cabR o (more s) l
def Noted (o : Im) (s : St) : Prop := (∀ j, j < o.slots → s.a.toNat.testBit j = s.used.getD j false) ∧ s.used.count true ≤ s.row + s.i
def cabOk (o : Im) (s : St) : Prop :=
  s.used.length = 20 ∧ (0 ≤ s.a ∧ s.a < 18446744073709551616) ∧ (0 ≤ s.b ∧ s.b < (o.slots : Int)) ∧
  (o.wr = false → s.a < (o.slots : Int) ∧ s.b = 0 ∧ s.used = List.replicate 20 false) ∧
  (s.over = false → s.code = 0 ∧
    (o.wr = true → s.tries = 0 ∧ s.row ≤ 3 ∧ s.rc.length = o.width ∧ (s.row = 0 → s.i = 0) ∧ (s.row = 1 → s.i < o.n) ∧ (s.row = 2 → s.i < o.width) ∧ (s.row = 3 → s.i = 0) ∧ (s.row ≤ 1 → Noted o s)) ∧
    (o.wr = false → s.row ≤ 5 ∧ (s.row = 5 → s.tries = o.cap) ∧ (s.row ≠ 5 → s.tries < o.cap) ∧ (s.row ≤ 2 → s.rc = []) ∧ (s.row = 3 → s.rc.length = s.i) ∧ (s.row = 4 → s.rc.length = o.width) ∧ (s.row ≠ 3 → s.i = 0) ∧ (s.row = 3 → s.i < o.width)))
def cabRank (o : Im) (s : St) : Nat :=
  if s.over then 0 else
  if o.wr then (match s.row with | 0 => o.width + o.n + 2 | 1 => o.width + o.n + 1 - s.i | 2 => o.width + 1 - s.i | _ => 1)
  else (match s.row with | 0 => 3 * (o.cap - s.tries) + o.width + 1 | 1 => 3 * (o.cap - s.tries) + o.width | 2 => 3 * (o.cap - s.tries) + o.width - 1 | 3 => o.width + 1 - s.i | _ => 1)
def cabAl (o : Im) : Prop := (0 < o.width ∧ o.width ≤ 8) ∧ (0 < o.cap ∧ o.cap ≤ 16) ∧ (1 ≤ o.n ∧ o.n ≤ 4 ∧ o.n + 2 ≤ o.slots ∧ o.slots ≤ 16) ∧ o.reader < o.n

theorem bitI_lt (i : Int) : bitI i < 18446744073709551616 := by
  unfold bitI
  split
  · exact Nat.pow_lt_pow_right (by decide) (by omega : i.toNat < 64)
  · decide
theorem bitI_bit (x : Int) (j : Nat) : (bitI x).testBit j = decide (j < 64 ∧ (j : Int) = x) := by
  unfold bitI
  by_cases h : 0 ≤ x ∧ x ≤ 63
  · rw [if_pos h, Nat.testBit_two_pow]
    rw [Bool.eq_iff_iff]
    simp
    omega
  · rw [if_neg h]
    simp
    omega
theorem putI_bd {m : Int} (h : 0 ≤ m ∧ m < 18446744073709551616) (i : Int) : 0 ≤ putI m i ∧ putI m i < 18446744073709551616 := by
  unfold putI
  have := Nat.or_lt_two_pow (n := 64) (x := m.toNat) (y := bitI i) (by omega) (bitI_lt i)
  omega
theorem putI_bit {m : Int} (i : Int) (j : Nat) (hj : j < 64) : (putI m i).toNat.testBit j = (m.toNat.testBit j || decide ((j : Int) = i)) := by
  unfold putI
  rw [Int.toNat_natCast, Nat.testBit_or, bitI_bit]
  simp [hj]
theorem noteL_length (n : Nat) (u : List Bool) (v : Int) : (noteL n u v).length = u.length := by
  unfold noteL
  split <;> simp
theorem noteL_get {n : Nat} {u : List Bool} (hu : u.length = 20) (hn : n ≤ 16) (v : Int) (j : Nat) (hj : j < n) : (noteL n u v).getD j false = (u.getD j false || decide ((j : Int) = v)) := by
  unfold noteL
  split
  · rename_i h
    rw [List.getD_eq_getElem?_getD, List.getElem?_set, List.getD_eq_getElem?_getD]
    by_cases e : (j : Int) = v
    · rw [if_pos (by omega), if_pos (by omega)]
      simp [e]
    · rw [if_neg (by omega)]
      simp [e]
  · have e : ¬ (j : Int) = v := by omega
    simp [e]
theorem count_set (u : List Bool) : ∀ k, (u.set k true).count true ≤ u.count true + 1 := by
  induction u with
  | nil => intro k; simp
  | cons b u ih =>
    intro k
    cases k with
    | zero => cases b <;> simp
    | succ k =>
      have := ih k
      cases b <;> simp <;> omega
theorem noteL_count (n : Nat) (u : List Bool) (v : Int) : (noteL n u v).count true ≤ u.count true + 1 := by
  unfold noteL
  split
  · exact count_set u _
  · omega
theorem some_free {n : Nat} {u : List Bool} (hu : u.length = 20) (hn : n ≤ 16) (hc : u.count true < n) : ∃ j, j < n ∧ u.getD j false = false := by
  apply Classical.byContradiction
  intro hno
  have h1 : (u.take n).count true = (u.take n).length := by
    rw [List.count_eq_length]
    intro b hb
    obtain ⟨j, hj, rfl⟩ := List.getElem_of_mem hb
    rw [List.length_take] at hj
    rw [List.getElem_take]
    cases hx : u[j]
    · exact absurd ⟨j, by omega, by rw [List.getD_eq_getElem?_getD, List.getElem?_eq_getElem (by omega), hx]; rfl⟩ hno
    · rfl
  have h2 := (List.take_sublist n u).count_le true
  rw [h1, List.length_take] at h2
  omega
theorem free_eq {n : Nat} {u : List Bool} {m : Int} (hu : u.length = 20) (hn : n ≤ 16) (hc : u.count true < n) (ha : ∀ j, j < n → m.toNat.testBit j = u.getD j false) : freeI m = freeL u ∧ freeL u < n := by
  obtain ⟨j, hj, hf⟩ := some_free hu hn hc
  have hju : j < u.length := by omega
  rw [List.getD_eq_getElem?_getD, List.getElem?_eq_getElem hju] at hf
  have hlt : freeL u < u.length := List.findIdx_lt_length_of_exists ⟨u[j], List.getElem_mem hju, by simpa using hf⟩
  have hle : freeL u ≤ j := by
    apply Nat.le_of_not_lt
    intro h
    have := List.not_of_lt_findIdx h
    simp at this
    simp at hf
    rw [hf] at this
    cases this
  have h0 : (!u[freeL u]) = true := List.findIdx_getElem (p := fun b : Bool => !b) (w := hlt)
  refine ⟨?_, by omega⟩
  unfold freeI
  have e : freeL u < (List.range 64).length := by rw [List.length_range]; omega
  rw [List.findIdx_eq e]
  have q : ∀ i, i ≤ freeL u → m.toNat.testBit i = u.getD i false := fun i hi => ha i (by omega)
  refine ⟨?_, ?_⟩
  · rw [List.getElem_range, q _ (Nat.le_refl _), List.getD_eq_getElem?_getD, List.getElem?_eq_getElem hlt]
    exact h0
  · intro i hi
    have hiu : i < u.length := by omega
    have := List.not_of_lt_findIdx (show i < u.findIdx (fun b => !b) from hi)
    rw [List.getElem_range, q _ (by omega), List.getD_eq_getElem?_getD, List.getElem?_eq_getElem hiu]
    simpa using this
theorem noted_more {o : Im} {s : St} (hs : o.slots ≤ 16) (hu : s.used.length = 20) (h : Noted o s) (v : Int) :
    (∀ j, j < o.slots → (putI s.a v).toNat.testBit j = (noteL o.slots s.used v).getD j false) ∧ (noteL o.slots s.used v).count true ≤ s.row + s.i + 1 := by
  refine ⟨fun j hj => ?_, ?_⟩
  · rw [putI_bit _ _ (by omega), noteL_get hu hs _ _ hj, h.1 j hj]
  · have := noteL_count o.slots s.used v
    have := h.2
    omega

theorem cabW_fine (o : Im) (s : St) (l : List Int) (al : cabAl o) (hwr : o.wr = true) (h : cabOk o s) (hr : Wd s.rc) (hl : Wd l) (hov : s.over = false) : Fine cabOk cabRank o s l (cab o s l) := by
  have hw := al.1.1
  obtain ⟨hn1, hn4, hns, hs16⟩ := al.2.2.1
  obtain ⟨hu, ha, hb, _, h4⟩ := h
  obtain ⟨hc, h5, _⟩ := h4 hov
  obtain ⟨ht, h5, h6, k0, k1, k2, k3, kn⟩ := h5 hwr
  have e : cab o s l = cabW o (more s) l := by unfold cab; rw [if_pos hwr]
  rw [e]
  have gr := getD_wd hr s.i
  have nr : ∀ {p : Prop}, o.wr = false → p := fun h => by rw [hwr] at h; cases h
  obtain ⟨row, i, rec, a, b, used, tries, steps, code, over⟩ := s
  simp only at *
  subst hov
  match row, h5 with
  | 0, _ =>
    have hi := k0 rfl
    subst hi
    have nm := noted_more (s := ⟨0, 0, rec, a, b, used, tries, steps, code, false⟩) hs16 hu (kn (by omega)) (get o l 0 % (o.slots : Int))
    refine ⟨⟨(noteL_length _ _ _).trans hu, putI_bd ha _, hb, nr, fun _ => ⟨hc, fun _ => ⟨ht, by simp [cabW, more, St.to], h6, by simp [cabW, more, St.to], fun _ => by simp [cabW, more, St.to]; omega, by simp [cabW, more, St.to], by simp [cabW, more, St.to], fun _ => nm⟩, nr⟩⟩, hr, hl, rfl, rfl, ?_⟩
    simp [cabW, more, St.to, cabRank, hwr]
  | 1, _ =>
    have hi := k1 rfl
    have nm := noted_more (s := ⟨1, i, rec, a, b, used, tries, steps, code, false⟩) hs16 hu (kn (by omega)) (get o l (1 + i) - 1)
    simp only at nm
    by_cases hlt : i + 1 < o.n
    · simp only [cabW, more, marked, hlt, ↓reduceIte]
      refine ⟨⟨(noteL_length _ _ _).trans hu, putI_bd ha _, hb, nr, fun _ => ⟨hc, fun _ => ⟨ht, by simp, h6, by simp, fun _ => hlt, by simp, by simp, fun _ => ⟨nm.1, by have := nm.2; simp only; omega⟩⟩, nr⟩⟩, hr, hl, rfl, rfl, ?_⟩
      simp [cabRank, hwr]; omega
    · simp only [cabW, more, marked, hlt, ↓reduceIte]
      have fr := free_eq ((noteL_length _ _ _).trans hu) hs16 (by have := nm.2; omega) nm.1
      refine ⟨⟨(noteL_length _ _ _).trans hu, putI_bd ha _, ⟨by simp only; omega, by simp only; omega⟩, nr, fun _ => ⟨hc, fun _ => ⟨ht, by simp [St.to], h6, by simp [St.to], by simp [St.to], fun _ => by simpa [St.to] using hw, by simp [St.to], by simp [St.to]⟩, nr⟩⟩, hr, hl, rfl, rfl, ?_⟩
      simp [cabRank, St.to, hwr]; omega
  | 2, _ =>
    have hi := k2 rfl
    simp only [cabW, more, word, hwr, if_true]
    by_cases hlt : i + 1 < o.width
    · rw [if_pos hlt]
      refine ⟨⟨hu, ha, hb, nr, fun _ => ⟨hc, fun _ => ⟨ht, by simp, h6, by simp, by simp, fun _ => hlt, by simp, by simp⟩, nr⟩⟩, hr, hl.put _ _ gr, put_length _ _ _ _, rfl, ?_⟩
      simp [cabRank, hwr]; omega
    · rw [if_neg hlt]
      refine ⟨⟨hu, ha, hb, nr, fun _ => ⟨hc, fun _ => ⟨ht, by simp [St.to], h6, by simp [St.to], by simp [St.to], by simp [St.to], by simp [St.to], by simp [St.to]⟩, nr⟩⟩, hr, hl.put _ _ gr, put_length _ _ _ _, rfl, ?_⟩
      simp [cabRank, St.to, hwr]; omega
  | 3, _ =>
    have hi := k3 rfl
    subst hi
    refine ⟨⟨hu, ha, hb, nr, (fun h => by cases h)⟩, ?_, hl.put _ _ (by simp only [more]; omega), put_length _ _ _ _, rfl, ?_⟩
    · simp [cabW, more, St.fin, Wd]
    · simp [cabW, more, St.fin, cabRank, hwr]
theorem cabR_fine (o : Im) (s : St) (l : List Int) (al : cabAl o) (hwr : o.wr = false) (h : cabOk o s) (hr : Wd s.rc) (hl : Wd l) (hov : s.over = false) : Fine cabOk cabRank o s l (cab o s l) := by
  have hw := al.1.1
  obtain ⟨hn1, hn4, hns, hs16⟩ := al.2.2.1
  obtain ⟨hu, ha, hb, h3, h4⟩ := h
  have h3 := h3 hwr
  obtain ⟨hc, _, h5⟩ := h4 hov
  obtain ⟨h5, k5, k6, k2, k3, k4, k7, k8⟩ := h5 hwr
  have e : cab o s l = cabR o (more s) l := by unfold cab; rw [if_neg (by simp [hwr])]
  rw [e]
  have g := fun k => hl.get o k
  have nw : ∀ {p : Prop}, o.wr = true → p := fun h => by rw [hwr] at h; cases h
  obtain ⟨row, i, rec, a, b, used, tries, steps, code, over⟩ := s
  simp only at *
  subst hov
  match row, h5 with
  | 0, _ =>
    have hi := k7 (by omega)
    subst hi
    have hrc := k2 (by omega)
    subst hrc
    have ht := k6 (by omega)
    have q0 := Int.emod_nonneg (get o l 0) (show (o.slots : Int) ≠ 0 by omega)
    have q1 := Int.emod_lt_of_pos (get o l 0) (show (0 : Int) < o.slots by omega)
    simp only [cabR, more]
    refine ⟨⟨hu, ⟨q0, by simp only; omega⟩, hb, fun _ => ⟨q1, h3.2⟩, fun _ => ⟨hc, nw, fun _ => ⟨by simp [St.to], by simp [St.to], fun _ => by simpa [St.to] using ht, fun _ => rfl, by simp [St.to], by simp [St.to], by simp [St.to], by simp [St.to]⟩⟩⟩, hr, hl, rfl, rfl, ?_⟩
    simp [St.to, cabRank, hwr]
  | 1, _ =>
    have hi := k7 (by omega)
    subst hi
    have hrc := k2 (by omega)
    subst hrc
    have ht := k6 (by omega)
    simp only [cabR, more]
    refine ⟨⟨hu, ha, hb, fun _ => h3, fun _ => ⟨hc, nw, fun _ => ⟨by simp [St.to], by simp [St.to], fun _ => by simpa [St.to] using ht, fun _ => rfl, by simp [St.to], by simp [St.to], by simp [St.to], by simp [St.to]⟩⟩⟩, hr, hl.put _ _ (by omega), put_length _ _ _ _, rfl, ?_⟩
    simp [St.to, cabRank, hwr]; omega
  | 2, _ =>
    have hi := k7 (by omega)
    subst hi
    have hrc := k2 (by omega)
    subst hrc
    have ht := k6 (by omega)
    by_cases hsame : get o l 0 % (o.slots : Int) = a
    · simp only [cabR, more, hsame, ↓reduceIte]
      refine ⟨⟨hu, ha, hb, fun _ => h3, fun _ => ⟨hc, nw, fun _ => ⟨by simp [St.to], by simp [St.to], fun _ => by simpa [St.to] using ht, fun _ => rfl, by simp [St.to], by simp [St.to], by simp [St.to], by simpa [St.to] using hw⟩⟩⟩, hr, hl, rfl, rfl, ?_⟩
      simp [St.to, cabRank, hwr]; omega
    · simp only [cabR, more, hsame, ↓reduceIte]
      unfold failC
      by_cases hcap : o.cap ≤ tries + 1
      · simp only [if_pos hcap]
        refine ⟨⟨hu, ha, hb, fun _ => h3, fun _ => ⟨hc, nw, fun _ => ⟨by simp, fun _ => (by simp only; omega), by simp, fun _ => rfl, by simp, by simp, by simp, by simp⟩⟩⟩, (fun x hx => by cases hx), hl, rfl, rfl, ?_⟩
        simp [cabRank, hwr]; omega
      · simp only [if_neg hcap]
        refine ⟨⟨hu, ha, hb, fun _ => h3, fun _ => ⟨hc, nw, fun _ => ⟨by simp, by simp, fun _ => (by simp only; omega), fun _ => rfl, by simp, by simp, by simp, by simp⟩⟩⟩, (fun x hx => by cases hx), hl, rfl, rfl, ?_⟩
        simp [cabRank, hwr]; omega
  | 3, _ =>
    have hi := k8 rfl
    have hrl := k3 rfl
    have ht := k6 (by omega)
    have hrec : Wd (rec ++ [get o l (cabK o a + i)]) := by
      intro x hx
      rcases List.mem_append.1 hx with hx | hx
      · exact hr x hx
      · simp at hx
        subst hx
        exact g _
    simp only [cabR, more, word, hwr, Bool.false_eq_true, if_false]
    by_cases hlt : i + 1 < o.width
    · rw [if_pos hlt]
      refine ⟨⟨hu, ha, hb, fun _ => h3, fun _ => ⟨hc, nw, fun _ => ⟨by simp, by simp, fun _ => ht, by simp, fun _ => by simp [hrl], by simp, by simp, fun _ => hlt⟩⟩⟩, hrec, hl, rfl, rfl, ?_⟩
      simp [cabRank, hwr]; omega
    · rw [if_neg hlt]
      refine ⟨⟨hu, ha, hb, fun _ => h3, fun _ => ⟨hc, nw, fun _ => ⟨by simp [St.to], by simp [St.to], fun _ => by simpa [St.to] using ht, by simp [St.to], by simp [St.to], fun _ => (by simp [St.to, hrl]; omega), by simp [St.to], by simp [St.to]⟩⟩⟩, by simpa [St.to] using hrec, hl, rfl, rfl, ?_⟩
      simp [cabRank, St.to, hwr]; omega
  | 4, _ =>
    have hi := k7 (by omega)
    subst hi
    simp only [cabR, more]
    refine ⟨⟨hu, ha, hb, fun _ => h3, (fun h => by cases h)⟩, by simpa [St.fin] using hr, hl.put _ _ (by omega), put_length _ _ _ _, rfl, ?_⟩
    simp [St.fin, cabRank, hwr]
  | 5, _ =>
    have hi := k7 (by omega)
    subst hi
    simp only [cabR, more]
    refine ⟨⟨hu, ha, hb, fun _ => h3, (fun h => by cases h)⟩, ?_, hl.put _ _ (by omega), put_length _ _ _ _, rfl, ?_⟩
    · simp [St.fin, Wd]
    · simp [St.fin, cabRank, hwr]
theorem cab_fine (o : Im) (s : St) (l : List Int) (al : cabAl o) (h : cabOk o s) (hr : Wd s.rc) (hl : Wd l) (hov : s.over = false) : Fine cabOk cabRank o s l (cab o s l) := by
  cases hwr : o.wr
  · exact cabR_fine o s l al hwr h hr hl hov
  · exact cabW_fine o s l al hwr h hr hl hov
theorem cab_start (o : Im) (rec : List Int) (al : cabAl o) (h1 : o.wr = true → rec.length = o.width) (h2 : o.wr = false → rec = []) : cabOk o (start rec) := by
  have hc := al.2.1.1
  have hn := al.2.2.1
  refine ⟨by simp [start], by simp [start], ⟨by simp [start], by simp only [start]; omega⟩, fun _ => ⟨by simp only [start]; omega, rfl, rfl⟩, fun _ => ⟨rfl, fun h => ⟨rfl, by simp [start], h1 h, fun _ => rfl, by simp [start], by simp [start], by simp [start], fun _ => ⟨?_, by simp [start]⟩⟩, fun h => ⟨by simp [start], by simp [start], fun _ => hc, fun _ => h2 h, by simp [start], by simp [start], fun _ => rfl, by simp [start]⟩⟩⟩
  intro j hj
  show (0 : Nat).testBit j = (List.replicate 20 false).getD j false
  rw [Nat.zero_testBit, List.getD_eq_getElem?_getD, List.getElem?_replicate]
  split <;> rfl
theorem cab_done (o : Im) (s : St) (l : List Int) (h : cabOk o s) (hov : s.over = false) (hd : (cab o s l).1.over = true) :
    (o.wr = true ∨ (cab o s l).1.code ≠ 0 → (cab o s l).1.rc = []) ∧ (o.wr = false → (cab o s l).1.code = 0 → (cab o s l).1.rc.length = o.width) := by
  obtain ⟨hu, ha, hb, h3, h4⟩ := h
  obtain ⟨hc, h5, h6⟩ := h4 hov
  cases hwr : o.wr
  · have e : cab o s l = cabR o (more s) l := by unfold cab; rw [if_neg (by simp [hwr])]
    rw [e] at hd ⊢
    obtain ⟨k1, _, _, _, k3, k4, _, _⟩ := h6 hwr
    obtain ⟨row, i, rec, a, b, used, tries, steps, code, over⟩ := s
    simp only at *
    subst hov
    match row, k1 with
    | 0, _ => simp [cabR, more, St.to] at hd
    | 1, _ => simp [cabR, more, St.to] at hd
    | 2, _ =>
      by_cases hsame : get o l 0 % (o.slots : Int) = a
      · simp only [cabR, more, hsame, ↓reduceIte] at hd
        simp [St.to] at hd
      · simp only [cabR, more, hsame, ↓reduceIte] at hd
        simp [failC] at hd
    | 3, _ =>
      simp only [cabR, more, word, hwr, Bool.false_eq_true, if_false] at hd ⊢
      by_cases hlt : i + 1 < o.width
      · rw [if_pos hlt] at hd
        simp at hd
      · rw [if_neg hlt] at hd
        simp [St.to] at hd
    | 4, _ =>
      have := k4 rfl
      simp [cabR, more, St.fin, this]
    | 5, _ => simp [cabR, more, St.fin]
  · have e : cab o s l = cabW o (more s) l := by unfold cab; rw [if_pos hwr]
    rw [e] at hd ⊢
    obtain ⟨_, k1, _⟩ := h5 hwr
    obtain ⟨row, i, rec, a, b, used, tries, steps, code, over⟩ := s
    simp only at *
    subst hov
    match row, k1 with
    | 0, _ => simp [cabW, more, St.to] at hd
    | 1, _ =>
      by_cases hlt : i + 1 < o.n
      · simp only [cabW, more, marked, hlt, ↓reduceIte] at hd
        simp at hd
      · simp only [cabW, more, marked, hlt, ↓reduceIte] at hd
        simp [St.to] at hd
    | 2, _ =>
      simp only [cabW, more, word, hwr, if_true] at hd ⊢
      by_cases hlt : i + 1 < o.width
      · rw [if_pos hlt] at hd
        simp at hd
      · rw [if_neg hlt] at hd
        simp [St.to] at hd
    | 3, _ => simp [cabW, more, St.fin]
theorem cab_pos (o : Im) (s : St) (al : cabAl o) (h : cabOk o s) (hov : s.over = false) : 0 < cabRank o s := by
  have hw := al.1.1
  obtain ⟨_, _, _, _, h4⟩ := h
  obtain ⟨_, h5, h6⟩ := h4 hov
  obtain ⟨row, i, rec, a, b, used, tries, steps, code, over⟩ := s
  simp only at *
  subst hov
  unfold cabRank
  cases hwr : o.wr
  · obtain ⟨k1, _, k6, _, _, _, _, k8⟩ := h6 hwr
    match row, k1 with
    | 0, _ => simp
    | 1, _ => simp; omega
    | 2, _ => have := k6 (by omega); simp; omega
    | 3, _ => have := k8 rfl; simp; omega
    | 4, _ => simp
    | 5, _ => simp
  · obtain ⟨_, k1, _, _, k2, k3, _, _⟩ := h5 hwr
    match row, k1 with
    | 0, _ => simp
    | 1, _ => have := k2 rfl; simp; omega
    | 2, _ => have := k3 rfl; simp; omega
    | 3, _ => simp
theorem cabLaw : Law cab cabOk cabRank cabAl :=
  ⟨fun o s l ha h hr hl hov => cab_fine o s l ha h hr hl hov, fun o s l _ h hov hd => cab_done o s l h hov hd, fun o s ha h hov => cab_pos o s ha h hov⟩
def cabMost (o : Im) : Nat := if o.wr then o.width + o.n + 2 else 3 * o.cap + o.width + 1
theorem cab_first (o : Im) (ha : cabAl o) (rec : List Int) (hr : Wd rec) (h1 : o.wr = true → rec.length = o.width) (h2 : o.wr = false → rec = []) : Live cabOk cabRank o (cabMost o) (start rec) := by
  refine ⟨cab_start o rec ha h1 h2, hr, fun h => (by simp [start] at h), ?_⟩
  unfold cabRank cabMost start
  cases o.wr <;> simp

end Go.Proofs.YtikjkmomokhanaaDoor.Op
