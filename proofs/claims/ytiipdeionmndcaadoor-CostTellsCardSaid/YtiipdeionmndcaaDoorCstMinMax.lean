/-
  The cheapest walk weighs no more than the dearest (chapter 12): plain.
-/
import Derived.Test.YtiipdeionmndcaaDoorCstPure
set_option linter.unusedSimpArgs false
set_option linter.unusedVariables false
namespace Go.Proofs.YtiipdeionmndcaaDoor.Cs
open Fp (Ins at_ Fine check loopsL hasB nextL)

/-- the better one of two in the one sense is no more than the better one in the other -/
structure Mono2 (bt bt' : Int → Int → Bool) : Prop where
  best : ∀ a a' b b', Le a a' → Le b b' → Le (bestI bt a b) (bestI bt' a' b')
theorem mono_lg : Mono2 (fun a b => decide (a < b)) (fun a b => decide (a > b)) := ⟨fun a a' b b' h1 h2 => by
  unfold Le at *
  unfold bestI
  simp only [decide_eq_true_eq]
  split <;> split <;> omega⟩
theorem lf_lead {bt bt' : Int → Int → Bool} (hm : Mono2 bt bt') {a b : List Int} (h : LeL a b) {t x y : Int} (hx : Le x y) : LeL (leadI bt a t x) (leadI bt' b t y) := leL_set h (hm.best _ _ _ _ (h.2 _) hx)
theorem lf_onceS {bt bt' : Int → Int → Bool} (hm : Mono2 bt bt') {p : List Ins} {w : List Int} {x y : Known} (hk : LeK x y) (last : Int) {s t : St} (hs : LeS s t) (k : Nat) :
    LeS (onceS bt p w x last s k) (onceS bt' p w y last t k) := by
  have hh : Le (hereI w s.come k) (hereI w t.come k) := le_both (hs.c.2 k) (le_cl (Int.le_refl _))
  unfold onceS lastIn
  rcases leK_find (leK_rev hk) (fun s => hasB s k) with ⟨h1, h2⟩ | ⟨a, b, h1, h2, h3, h4⟩
  · rw [h1, h2]
    simp only
    split
    · exact ⟨hs.c, ⟨hs.w.t, hm.best _ _ _ _ hs.w.f hh⟩⟩
    · split
      · exact ⟨hs.c, ⟨hh, hs.w.f⟩⟩
      · refine ⟨?_, hs.w⟩
        show LeL ((nextL p k).foldl _ s.come) ((nextL p k).foldl _ t.come)
        generalize nextL p k = l
        have hc := hs.c
        generalize s.come = a at *
        generalize t.come = b at *
        generalize hereI w a k = x at *
        generalize hereI w b k = y at *
        induction l generalizing a b with
        | nil => exact hc
        | cons u l ih => exact ih _ _ (lf_lead hm hc hh)
  · rw [h1, h2]
    simp only
    rw [h3]
    split
    · exact ⟨lf_lead hm hs.c (le_both (hs.c.2 k) h4.t), ⟨hs.w.t, hm.best _ _ _ _ hs.w.f (le_both (hs.c.2 k) h4.f)⟩⟩
    · exact hs
theorem lf_once {bt bt' : Int → Int → Bool} (hm : Mono2 bt bt') {p : List Ins} {w : List Int} {x y : Known} (hk : LeK x y) (s : Int × Int) : LeW (onceW bt p w x s) (onceW bt' p w y s) := by
  have h : ∀ n, LeS (onceT bt p w x s.1.toNat s.2 n) (onceT bt' p w y s.1.toNat s.2 n) := by
    intro n
    induction n with
    | zero =>
      refine ⟨⟨rfl, fun k => ?_⟩, ⟨le_none, le_none⟩⟩
      show Le ((come0 p.length s.1.toNat).getD k 0) ((come0 p.length s.1.toNat).getD k 0)
      unfold come0
      simp only [List.getD_eq_getElem?_getD, List.getElem?_set, List.getElem?_replicate]
      unfold Le
      repeat' split
      all_goals simp
    | succ n ih => exact lf_onceS hm hk _ ih _
  exact (h _).w
theorem lf_rep {bt bt' : Int → Int → Bool} (hm : Mono2 bt bt') {x y : Wy} (h : LeW x y) (n : Nat) : LeW (repW bt x n) (repW bt' y n) := by
  induction n with
  | zero => exact ⟨le_refl0, le_none⟩
  | succ n ih => exact ⟨le_both ih.t h.t, hm.best _ _ _ _ ih.f (le_both ih.t h.f)⟩
theorem lf_known {bt bt' : Int → Int → Bool} (hm : Mono2 bt bt') {p : List Ins} {w : List Int} (n : Nat) : LeK (knownT bt p w n) (knownT bt' p w n) := by
  induction n with
  | zero => exact .nil
  | succ n ih => exact leK_snoc ih rfl (lf_rep hm (lf_once hm ih _) _)
theorem lf_weigh {bt bt' : Int → Int → Bool} (hm : Mono2 bt bt') {p : List Ins} {w : List Int} : weighW bt p w ≤ weighW bt' p w := by
  rcases (lf_once hm (lf_known hm (p := p) (w := w) (loopsL p).length) (0, (p.length : Int) - 1)).f with ⟨h1, h2⟩ | ⟨_, h2⟩
  · unfold weighW; rw [h1, h2]; exact Int.le_refl _
  · exact h2
end Go.Proofs.YtiipdeionmndcaaDoor.Cs
