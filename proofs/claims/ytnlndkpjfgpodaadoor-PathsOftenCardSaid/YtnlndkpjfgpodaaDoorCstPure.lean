/-
  What the best walk through a program weighs (chapter 12): plain; and that nothing weighs less where weights are no less.
-/
import Derived.Test.YtnlndkpjfgpodaaDoorFlowMore
set_option linter.unusedSimpArgs false
set_option linter.unusedVariables false
namespace Go.Proofs.YtnlndkpjfgpodaaDoor.Cs
open Fp (Ins at_ Fine check loopsL hasB nextL)

def clI (n : Int) : Int := max 0 (min n 1099511627776)
def adI (a b : Int) : Int := min (max 0 (min a 1099511627776) + max 0 (min b 1099511627776)) 1099511627776
/-- what a part weighs: gone through, and ended within -/
structure Wy where
  thru : Int
  fin : Int
def bestI (bt : Int → Int → Bool) (a b : Int) : Int := if b = -1 ∨ (a ≠ -1 ∧ bt a b = true) then a else b
def bothI (a b : Int) : Int := if a = -1 ∨ b = -1 then -1 else adI a b
def leadI (bt : Int → Int → Bool) (come : List Int) (t n : Int) : List Int := come.set t.toNat (bestI bt (come.getD t.toNat 0) n)
abbrev Known := List ((Int × Int) × Wy)
/-- of the loops that have a place the last one -/
def lastIn (ls : Known) (k : Int) : Option ((Int × Int) × Wy) := ls.reverse.find? fun l => hasB l.1 k
def hereI (w come : List Int) (k : Nat) : Int := bothI (come.getD k 0) (clI (w.getD k 0))
structure St where
  come : List Int
  all : Wy
def onceS (bt : Int → Int → Bool) (p : List Ins) (w : List Int) (ls : Known) (last : Int) (s : St) (k : Nat) : St :=
  match lastIn ls k with
  | some l => if (k : Int) = l.1.1 then ⟨leadI bt s.come (l.1.2 + 1) (bothI (s.come.getD k 0) l.2.thru), ⟨s.all.thru, bestI bt s.all.fin (bothI (s.come.getD k 0) l.2.fin)⟩⟩ else s
  | none =>
    if (at_ p k).op = 21 then ⟨s.come, ⟨s.all.thru, bestI bt s.all.fin (hereI w s.come k)⟩⟩
    else if (k : Int) = last then ⟨s.come, ⟨hereI w s.come k, s.all.fin⟩⟩
    else ⟨(nextL p k).foldl (fun c t => leadI bt c t (hereI w s.come k)) s.come, s.all⟩
def come0 (n : Nat) (k : Nat) : List Int := (List.replicate (n + 1) (-1)).set k 0
/-- so many places from the first one on -/
def onceT (bt : Int → Int → Bool) (p : List Ins) (w : List Int) (ls : Known) (a : Nat) (last : Int) : Nat → St
  | 0 => ⟨come0 p.length a, ⟨-1, -1⟩⟩
  | n + 1 => onceS bt p w ls last (onceT bt p w ls a last n) (a + n)
def onceW (bt : Int → Int → Bool) (p : List Ins) (w : List Int) (ls : Known) (s : Int × Int) : Wy := (onceT bt p w ls s.1.toNat s.2 (s.2 + 1 - s.1).toNat).all
def repW (bt : Int → Int → Bool) (x : Wy) : Nat → Wy
  | 0 => ⟨0, -1⟩
  | n + 1 => ⟨bothI (repW bt x n).thru x.thru, bestI bt (repW bt x n).fin (bothI (repW bt x n).thru x.fin)⟩
def knownT (bt : Int → Int → Bool) (p : List Ins) (w : List Int) : Nat → Known
  | 0 => []
  | n + 1 => knownT bt p w n ++ [(((loopsL p).getD n (0, 0)), repW bt (onceW bt p w (knownT bt p w n) ((loopsL p).getD n (0, 0))) ((at_ p ((loopsL p).getD n (0, 0)).2.toNat).c + 1).toNat)]
def weighW (bt : Int → Int → Bool) (p : List Ins) (w : List Int) : Int := (onceW bt p w (knownT bt p w (loopsL p).length) (0, (p.length : Int) - 1)).fin

/-- weights that are no less: none is none, and one is no less than the other -/
def Le (a b : Int) : Prop := (a = -1 ∧ b = -1) ∨ (0 ≤ a ∧ a ≤ b)
structure Mono (bt : Int → Int → Bool) : Prop where
  best : ∀ a a' b b', Le a a' → Le b b' → Le (bestI bt a b) (bestI bt a' b')
theorem mono_gt : Mono (fun a b => decide (a > b)) := ⟨fun a a' b b' h1 h2 => by
  unfold Le at *
  unfold bestI
  simp only [decide_eq_true_eq]
  split <;> split <;> omega⟩
theorem mono_lt : Mono (fun a b => decide (a < b)) := ⟨fun a a' b b' h1 h2 => by
  unfold Le at *
  unfold bestI
  simp only [decide_eq_true_eq]
  split <;> split <;> omega⟩
theorem le_both {a a' b b' : Int} (h1 : Le a a') (h2 : Le b b') : Le (bothI a b) (bothI a' b') := by
  unfold Le at *
  unfold bothI adI
  split <;> split <;> omega
theorem le_refl0 : Le 0 0 := .inr ⟨Int.le_refl _, Int.le_refl _⟩
theorem le_none : Le (-1) (-1) := .inl ⟨rfl, rfl⟩
theorem le_cl {a b : Int} (h : a ≤ b) : Le (clI a) (clI b) := by unfold Le clI; omega
def LeL (a b : List Int) : Prop := a.length = b.length ∧ ∀ k, Le (a.getD k 0) (b.getD k 0)
theorem leL_set {a b : List Int} (h : LeL a b) {k : Nat} {x y : Int} (hx : Le x y) : LeL (a.set k x) (b.set k y) := by
  refine ⟨by simp [h.1], fun j => ?_⟩
  simp only [List.getD_eq_getElem?_getD, List.getElem?_set]
  by_cases hj : k = j
  · subst hj
    rw [if_pos rfl, if_pos rfl]
    by_cases hk : k < a.length
    · rw [if_pos hk, if_pos (h.1 ▸ hk)]; exact hx
    · rw [if_neg hk, if_neg (h.1 ▸ hk)]; exact le_refl0
  · rw [if_neg hj, if_neg hj, ← List.getD_eq_getElem?_getD, ← List.getD_eq_getElem?_getD]
    exact h.2 j
theorem leL_lead {bt : Int → Int → Bool} (hm : Mono bt) {a b : List Int} (h : LeL a b) {t x y : Int} (hx : Le x y) : LeL (leadI bt a t x) (leadI bt b t y) := leL_set h (hm.best _ _ _ _ (h.2 _) hx)
structure LeW (x y : Wy) : Prop where
  t : Le x.thru y.thru
  f : Le x.fin y.fin
structure LeS (x y : St) : Prop where
  c : LeL x.come y.come
  w : LeW x.all y.all
inductive LeK : Known → Known → Prop where
  | nil : LeK [] []
  | cons {a b : (Int × Int) × Wy} {x y : Known} : (a.1 = b.1 ∧ LeW a.2 b.2) → LeK x y → LeK (a :: x) (b :: y)
theorem leK_snoc {x y : Known} {a b : (Int × Int) × Wy} (h : LeK x y) (h1 : a.1 = b.1) (h2 : LeW a.2 b.2) : LeK (x ++ [a]) (y ++ [b]) := by
  induction h with
  | nil => exact .cons ⟨h1, h2⟩ .nil
  | cons hd _ ih => exact .cons hd ih
theorem leK_rev {x y : Known} (h : LeK x y) : LeK x.reverse y.reverse := by
  induction h with
  | nil => exact .nil
  | cons hd _ ih =>
    rw [List.reverse_cons, List.reverse_cons]
    exact leK_snoc ih hd.1 hd.2
theorem leK_find {x y : Known} (h : LeK x y) (f : Int × Int → Bool) : (x.find? (fun l => f l.1) = none ∧ y.find? (fun l => f l.1) = none) ∨ ∃ a b, x.find? (fun l => f l.1) = some a ∧ y.find? (fun l => f l.1) = some b ∧ a.1 = b.1 ∧ LeW a.2 b.2 := by
  induction h with
  | nil => exact .inl ⟨rfl, rfl⟩
  | @cons a b x y hd _ ih =>
    rw [List.find?_cons, List.find?_cons, ← hd.1]
    cases f a.1 with
    | true => exact .inr ⟨a, b, rfl, rfl, hd⟩
    | false => exact ih
theorem le_onceS {bt : Int → Int → Bool} (hm : Mono bt) {p : List Ins} {w v : List Int} (hw : ∀ k, w.getD k 0 ≤ v.getD k 0) {x y : Known} (hk : LeK x y) (last : Int) {s t : St} (hs : LeS s t) (k : Nat) :
    LeS (onceS bt p w x last s k) (onceS bt p v y last t k) := by
  have hh : Le (hereI w s.come k) (hereI v t.come k) := le_both (hs.c.2 k) (le_cl (hw k))
  unfold onceS lastIn
  rcases leK_find (leK_rev hk) (fun s => hasB s k) with ⟨h1, h2⟩ | ⟨a, b, h1, h2, h3, h4⟩
  · rw [h1, h2]
    simp only
    split
    · exact ⟨hs.c, ⟨hs.w.t, hm.best _ _ _ _ hs.w.f hh⟩⟩
    · split
      · exact ⟨hs.c, ⟨hh, hs.w.f⟩⟩
      · refine ⟨?_, hs.w⟩
        show LeL ((nextL p k).foldl _ s.come) ((nextL p k).foldl _ t.come)
        generalize nextL p k = l
        have hc := hs.c
        generalize s.come = a at *
        generalize t.come = b at *
        generalize hereI w a k = x at *
        generalize hereI v b k = y at *
        induction l generalizing a b with
        | nil => exact hc
        | cons u l ih => exact ih _ _ (leL_lead hm hc hh)
  · rw [h1, h2]
    simp only
    rw [h3]
    split
    · exact ⟨leL_lead hm hs.c (le_both (hs.c.2 k) h4.t), ⟨hs.w.t, hm.best _ _ _ _ hs.w.f (le_both (hs.c.2 k) h4.f)⟩⟩
    · exact hs
theorem le_once {bt : Int → Int → Bool} (hm : Mono bt) {p : List Ins} {w v : List Int} (hw : ∀ k, w.getD k 0 ≤ v.getD k 0) {x y : Known} (hk : LeK x y) (s : Int × Int) : LeW (onceW bt p w x s) (onceW bt p v y s) := by
  have h : ∀ n, LeS (onceT bt p w x s.1.toNat s.2 n) (onceT bt p v y s.1.toNat s.2 n) := by
    intro n
    induction n with
    | zero =>
      refine ⟨⟨rfl, fun k => ?_⟩, ⟨le_none, le_none⟩⟩
      show Le ((come0 p.length s.1.toNat).getD k 0) ((come0 p.length s.1.toNat).getD k 0)
      unfold come0
      simp only [List.getD_eq_getElem?_getD, List.getElem?_set, List.getElem?_replicate]
      unfold Le
      repeat' split
      all_goals simp
    | succ n ih => exact le_onceS hm hw hk _ ih _
  exact (h _).w
theorem le_rep {bt : Int → Int → Bool} (hm : Mono bt) {x y : Wy} (h : LeW x y) (n : Nat) : LeW (repW bt x n) (repW bt y n) := by
  induction n with
  | zero => exact ⟨le_refl0, le_none⟩
  | succ n ih => exact ⟨le_both ih.t h.t, hm.best _ _ _ _ ih.f (le_both ih.t h.f)⟩
theorem le_known {bt : Int → Int → Bool} (hm : Mono bt) {p : List Ins} {w v : List Int} (hw : ∀ k, w.getD k 0 ≤ v.getD k 0) (n : Nat) : LeK (knownT bt p w n) (knownT bt p v n) := by
  induction n with
  | zero => exact .nil
  | succ n ih => exact leK_snoc ih rfl (le_rep hm (le_once hm hw ih _) _)
theorem le_weigh {bt : Int → Int → Bool} (hm : Mono bt) {p : List Ins} {w v : List Int} (hw : ∀ k, w.getD k 0 ≤ v.getD k 0) : weighW bt p w ≤ weighW bt p v := by
  rcases (le_once hm hw (le_known hm (p := p) hw (loopsL p).length) (0, (p.length : Int) - 1)).f with ⟨h1, h2⟩ | ⟨_, h2⟩
  · unfold weighW; rw [h1, h2]; exact Int.le_refl _
  · exact h2
end Go.Proofs.YtnlndkpjfgpodaaDoor.Cs
