/-
  A region that draws its order, inside a round of a range over a function: what is shown of it outside of one holds there.
  Nothing here speaks of a program of the seat.
-/
import Derived.Deep.RegionHeld3
import Derived.StillTailTactics
import Derived.RangeFuncCalls
import Derived.OrdersIn
import Derived.OwnWalkIn
set_option linter.unusedSimpArgs false
set_option linter.unusedVariables false
namespace Go.Proofs.YtnlndkpjfgpodaaDoor.Rr
open Go

section
variable {P : Program} {Q : Exit → Act → World → Prop}
theorem oper_lift {o : Oper} {a : Act} {w : World} {K : Act → World → Prop} (l n : Nat) (hd : ∀ c, o.op ≠ .defer c) (h : o.wp P a w K Q) : o.wpIn (Fence.wide.inRound l) n P a w K Q := by
  refine ⟨fun _ _ => trivial, ?_⟩
  rw [show (Fence.wide.inRound l).round = some l from rfl, Oper.semAt_eq _ _ _ hd]
  unfold Oper.wp at h
  generalize (execOp a.eval o).run P w = r at *
  cases r with
  | ok x w' =>
    cases x with
    | value v => exact h
    | skip => exact h
    | defer d => exact h
    | enter f args => exact ⟨(fun hh => by cases hh), CallsIn.inRound l (callsIn_wide.2 h)⟩
    | row r args =>
      refine ⟨(fun hh => by cases hh), ?_⟩
      intro c cs _
      obtain ⟨v, w2, h1, h2⟩ := h c cs
      exact ⟨v, w2, h1, stepsIn_wide.2 h2⟩
    | _ => exact h.elim
  | halt x w' => cases x <;> first | exact h | exact h.elim
theorem op_lift {ops : Array Oper} {i : Nat} {K K' : Act → World → Prop} {a : Act} {w : World} (l n : Nat) (hd : ∀ (j : Nat) (o : Oper), ops[j]? = some o → ∀ c, o.op ≠ .defer c) (hQ : ¬ LetsOut Q) (hK : ∀ a w, K a w → K' a w) (h : wpOp P ops Q i K a w) : wpOpIn (Fence.wide.inRound l) n P ops Q i K' a w := by
  unfold wpOp at h
  unfold wpOpIn
  cases ho : ops[i]? with
  | none => rw [ho] at h; exact hK _ _ h
  | some o =>
    rw [ho] at h
    simp only at h ⊢
    by_cases hw : Region.wanted o (yielded ops a.tmps) = true
    · rw [if_pos hw] at h ⊢
      rcases h with h | h
      · exact Oper.wpIn_mono hK (oper_lift l n (hd i o ho) h)
      · exact absurd h.2 hQ
    · rw [if_neg hw] at h ⊢
      exact ⟨fun _ _ => trivial, hK _ _ h⟩
theorem any_lift {ops : Array Oper} {md : Region.Mode} (l n : Nat) (hd : ∀ (j : Nat) (o : Oper), ops[j]? = some o → ∀ c, o.op ≠ .defer c) (hQ : ¬ LetsOut Q) : ∀ (fuel : Nat) (listed : Array Bool) (a : Act) (w : World), wpAny P md ops Q fuel listed a w → wpAnyIn (Fence.wide.inRound l) n P md ops Q fuel listed a w
  | 0, _, _, _, h => h
  | fuel + 1, listed, a, w, h => ⟨h.1, fun i hi => op_lift l n hd hQ (fun a w h => any_lift l n hd hQ fuel _ a w h) (h.2 i hi)⟩
def noDefer : List Oper → Bool
  | [] => true
  | o :: l => (match o.op with | .defer _ => false | _ => true) && noDefer l
theorem noDefer_get : ∀ {l : List Oper}, noDefer l = true → ∀ (j : Nat) (o : Oper), l.toArray[j]? = some o → ∀ c, o.op ≠ .defer c
  | [], _, j, o, h, _ => by simp at h
  | x :: l, hn, 0, o, h, c => by
    simp at h
    subst h
    intro hc
    unfold noDefer at hn
    rw [hc] at hn
    simp at hn
  | x :: l, hn, j + 1, o, h, c => by
    unfold noDefer at hn
    rw [Bool.and_eq_true] at hn
    exact noDefer_get hn.2 j o (by simpa using h) c
/-- a region that draws, in a round: S is what stands all the while -/
theorem round_held {id : Nat} {a : Act} {w : World} {ops : List Oper} {S : World → Prop} {l n : Nat} (hm : P.follows .mixedOrders = true) (hd : noDefer ops = true) (hQ : ¬ LetsOut Q) (hS : S w.drew)
    (h : S w.drew → wpAnyH P .any ops.toArray Q S ops.toArray.size (Array.replicate ops.toArray.size false) a w.drew) : (Code.region id ops.toArray true).wpIn (Fence.wide.inRound l) n P Q a w :=
  wpIn_region_any hm (any_lift l n (noDefer_get hd) hQ _ _ _ _ (wpAny_of_held _ _ _ _ (h hS)))
/-- a region of which all but the tail reads alone, the tail being forced -/
theorem any_tail {a : Act} {w : World} {l : List Oper} (n : Nat) (hB : Region.lexTailB .any l.toArray n = true)
    (h : wpStill P l.toArray w (fun a' => wpList P l.toArray Q (l.drop n) a' w) (l.take n) a) : wpAny P .any l.toArray Q l.toArray.size (Array.replicate l.toArray.size false) a w := by
  simp only [Region.lexTailB, Bool.and_eq_true, decide_eq_true_eq] at hB
  obtain ⟨⟨⟨⟨h1, h2⟩, h3⟩, h4⟩, h5⟩ := hB
  have ht : (l.take n).length = n := by simp at h2; simp; omega
  have hd : (l.drop n).length = l.toArray.size - n := by simp
  have hL := wpAnyL_lex (md := .any) (g := l.toArray.size - n) h1 h3 h4 h2 (l.take n) 0 _ a
    (fun j hj => by
      rw [ht] at hj
      simp [hj]) (by simpa using ht)
    (show HeadInv .any l.toArray n (Array.replicate l.toArray.size false) from ⟨by simp, fun j oj _ hl => (by rw [getD_replicate_false] at hl; cases hl), fun t _ ht => getD_in (by simpa using ht) (getD_replicate_false _ _)⟩) (by rw [ht]; exact h5) h
  have := wpAny_of_head (Q' := Q) (g := l.toArray.size - n) (fun listed a' hl => by
    have := wpAny_of_seq (md := .any) (Q' := Q) (l.drop n) n listed a' w (fun j => by simp [List.getElem?_drop]) (by rw [hd]; exact hl.1) hl.2
    rwa [hd] at this) _ _ _ hL
  rw [ht, show n + (l.toArray.size - n) = l.toArray.size by omega] at this
  exact this
theorem round_tail {id : Nat} {a : Act} {w : World} {ops : List Oper} {l n : Nat} (k : Nat) (hm : P.follows .mixedOrders = true) (hd : noDefer ops = true) (hQ : ¬ LetsOut Q) (hB : Region.lexTailB .any ops.toArray k = true)
    (h : wpStill P ops.toArray w.drew (fun a' => wpList P ops.toArray Q (ops.drop k) a' w.drew) (ops.take k) a) : (Code.region id ops.toArray true).wpIn (Fence.wide.inRound l) n P Q a w :=
  wpIn_region_any hm (any_lift l n (noDefer_get hd) hQ _ _ _ _ (any_tail k hB h))
end
end Go.Proofs.YtnlndkpjfgpodaaDoor.Rr
