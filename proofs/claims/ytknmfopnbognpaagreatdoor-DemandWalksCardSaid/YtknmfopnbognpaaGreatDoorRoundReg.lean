/-
  A region that draws its order, inside a round of a range over a function: what is shown of it outside of one holds there.
  Nothing here speaks of a program of the seat.
-/
import Derived.RangeFuncWrites
import Derived.RangeFuncKeeps
import Derived.Deep.RegionHeld3
import Derived.StillTailTactics
import Derived.RangeFuncCalls
import Derived.OrdersIn
import Derived.OwnWalkIn
section
set_option linter.unusedSimpArgs false
set_option linter.unusedVariables false
namespace Go.Proofs.YtknmfopnbognpaaGreatDoor.Rr
open Go Go.RowKit

section
variable {P : Program} {n : Nat}
/-- the record of a range: its state and the jump that is pending -/
abbrev recOf (fn : FuncId) (a : Act) (ps : Array Tmp) (assign body : Code) (k : Nat) (st : LoopState) (pe : Option Code) : Loop :=
  { state := st, pending := pe, fn, tmps := a.tmps, params := ps, assign, body, defers := k }
/-- the two blocks of a range: its record, and the one for what rounds defer -/
structure Two (fn : FuncId) (a : Act) (ps : Array Tmp) (assign body : Code) (k : Nat) (st : LoopState) (pe : Option Code) (W : World) : Prop where
  rec_ : W.heap[k + 1]? = some (.loop (recOf fn a ps assign body k st pe))
  coll : W.heap[k]? = some (.deferred (some []))
theorem Two.keep {fn : FuncId} {a : Act} {ps : Array Tmp} {assign body : Code} {k : Nat} {st : LoopState} {pe : Option Code} {W W' : World} (h : Two fn a ps assign body k st pe W) (hk : KeepsFrom k W W') : Two fn a ps assign body k st pe W' :=
  ⟨hk.same _ _ (by omega) h.rec_ rfl, hk.same _ _ (Nat.le_refl _) h.coll rfl⟩
theorem Two.lt {fn : FuncId} {a : Act} {ps : Array Tmp} {assign body : Code} {k : Nat} {st : LoopState} {pe : Option Code} {W : World} (h : Two fn a ps assign body k st pe W) : k + 1 < W.heap.size := (Array.getElem?_eq_some_iff.1 h.rec_).1
theorem Two.put {fn : FuncId} {a : Act} {ps : Array Tmp} {assign body : Code} {k : Nat} {st : LoopState} {pe : Option Code} {W : World} (h : Two fn a ps assign body k st pe W) (st' : LoopState) (pe' : Option Code) :
    Two fn a ps assign body k st' pe' (W.putObj (k + 1) (.loop (recOf fn a ps assign body k st' pe'))) :=
  ⟨World.putObj_heap_same h.lt, (World.putObj_heap_other (by omega)).trans h.coll⟩
theorem range_box {α : Type} {g : Operand} {ps : Array Tmp} {assign body : Code} {Q : Exit → Act → World → Prop} {a : Act} {w : World} (h1 : 1 ≤ n) {gf : Nat} {lb : Array Value} (hg : a.eval g = .func (.func gf) #[] lb)
    (eg : ∀ args w, (callFunc gf args).run P w = .ok (.enter gf args) w) {encs : α → Array Value} {n₀ : Nat} {S Sp : List α → Prop} {N : Nat} (hseq : SeqStopsK Fence.wide (n - 1) P gf lb encs (Below n₀) S Sp N w) (hn : n₀ ≤ w.heap.size) (hps : ∀ x, (encs x).size = ps.size)
    (I : List α → World → Prop) (Ix : Code → List α → World → Prop) (a₁ : α → Nat → Act) (A : List α × α × Nat → World → Prop) (hI : OwnFrom w.heap.size I) (hIx : ∀ c, OwnFrom w.heap.size (Ix c)) (hA : OwnFrom w.heap.size A) (h0 : I [] w)
    (hassign : ∀ (l : Nat) (pre : List α) (x : α) (W : World), I pre W → pre.length < N → ∀ K : Act → World → Prop, (∀ b W₁, KeepsFrom w.heap.size W W₁ → Below n₀ W W₁ → A (pre, x, b) W₁ → K (a₁ x b) W₁) →
      assign.wpIn (Fence.wide.inRound l) (n - 1 - 1) P (Exit.then K (fun _ _ _ => False)) { tmps := (ps.zip (encs x)).foldl (fun t (p, v) => t.setIfInBounds p v) a.tmps, defers := [] } W)
    (hbody : ∀ (l : Nat) (pre : List α) (x : α) (b : Nat) (W : World), A (pre, x, b) W → pre.length < N → body.wpIn (Fence.wide.inRound l) (n - 1 - 1) P (ownPostG w.heap.size (Below n₀) I Ix (pre ++ [x]) W) (a₁ x b) W)
    (hdone : ∀ (D : Nat) (xs : List α) (W : World), w.heap.size ≤ D → S xs → I xs W → W.heap[D]? = some (.deferred (some [])) → Q .normal { a with defers := { target := .collected D, args := #[] } :: a.defers } W)
    (hstop : ∀ (D : Nat) (c : Code) (pre : List α) (W : World), w.heap.size ≤ D → Sp pre → Ix c pre W → W.heap[D]? = some (.deferred (some [])) → c.wpIn Fence.wide n P Q { a with defers := { target := .collected D, args := #[] } :: a.defers } W) :
    (Code.rangeFunc g ps assign body).wpIn Fence.wide n P Q a w := by
  refine wpIn_rangeFunc fun fn _ => ?_
  have hT : Two fn a ps assign body w.heap.size .ready none ((w.alloc (.deferred (some []))).alloc (.loop (recOf fn a ps assign body w.heap.size .ready none))) :=
    ⟨by have h := World.alloc_heap_new (w.alloc (.deferred (some []))) (.loop (recOf fn a ps assign body w.heap.size .ready none)); rwa [World.size_alloc] at h,
      (Below.heap_alloc _ _ _ (by simp)).trans (World.alloc_heap_new w _)⟩
  have hIn := hI.alloc (.loop (recOf fn a ps assign body w.heap.size .ready none)) (hI.alloc (.deferred (some [])) h0)
  have hBn : Below w.heap.size w ((w.alloc (.deferred (some []))).alloc (.loop (recOf fn a ps assign body w.heap.size .ready none))) := ((Below.refl _ w).alloc (Nat.le_refl _) _).alloc (by simp) _
  have hsz : ((w.alloc (.deferred (some []))).alloc (.loop (recOf fn a ps assign body w.heap.size .ready none))).heap.size = w.heap.size + 2 := by simp
  refine ⟨w.heap.size + 1, [{ target := .collected w.heap.size, args := #[] }], ((w.alloc (.deferred (some []))).alloc (.loop (recOf fn a ps assign body w.heap.size .ready none))), { target := .fn (.func gf) lb, args := #[.func (.yield (w.heap.size + 1)) #[] #[]] }, ((w.alloc (.deferred (some []))).alloc (.loop (recOf fn a ps assign body w.heap.size .ready none))), gf,
    #[.func (.yield (w.heap.size + 1)) #[] #[]] ++ lb, ((w.alloc (.deferred (some []))).alloc (.loop (recOf fn a ps assign body w.heap.size .ready none))), run_enterLoop_outer _ _ _ _ _, ?_, ?_, ?_, fun _ => h1, ?_⟩
  · simp only [resolve, hg]
    simp [go_sem]
  · exact fun _ _ => trivial
  · simp [invoke, go_sem, eg]
  · generalize ((w.alloc (.deferred (some []))).alloc (.loop (recOf fn a ps assign body w.heap.size .ready none))) = W1 at *
    have hrow : ∀ {X Y : World} {row : Option Nat}, X.grownBy Y row → (∀ r, row = some r → W1.heap.size ≤ r ∧ ∃ o : Obj, X.heap[r]? = some o ∧ o.isWalk = true) →
        (∀ r, row = some r → w.heap.size ≤ r ∧ ∃ o : Obj, X.heap[r]? = some o ∧ o.isCells = false) ∧ (∀ st pe, Two fn a ps assign body w.heap.size st pe X → Two fn a ps assign body w.heap.size st pe Y) := by
      intro X Y row hXY hr
      refine ⟨fun r e => ?_, fun st pe hT => ⟨(grownBy_keeps hXY (fun r e => (hr r e).2) hT.rec_ rfl).trans hT.rec_, (grownBy_keeps hXY (fun r e => (hr r e).2) hT.coll rfl).trans hT.coll⟩⟩
      obtain ⟨hB, o, ho, hw⟩ := hr r e
      exact ⟨by omega, o, ho, Obj.not_cells_of_walk hw⟩
    have hput : ∀ {X : World} {st st' : LoopState} {pe pe' : Option Code}, Two fn a ps assign body w.heap.size st pe X → Below n₀ X (X.putObj (w.heap.size + 1) (.loop (recOf fn a ps assign body w.heap.size st' pe'))) :=
      fun hT => belowK_b (w := w) hn _ _ _ _ (by omega) hT.rec_ rfl rfl
    refine (hseq (w.heap.size + 1) (fun pre W => I pre W ∧ Two fn a ps assign body w.heap.size .ready none W) (fun pre W => ∃ c, Ix c pre W ∧ Two fn a ps assign body w.heap.size .done (some c) W) W1 hBn
      (fun s X Y row hs hXY hr => ⟨hI s X Y row hs.1 hXY (hrow hXY hr).1, (hrow hXY hr).2 _ _ hs.2⟩)
      (fun s X Y row ⟨c, h2, h3⟩ hXY hr => ⟨c, hIx c s X Y row h2 hXY (hrow hXY hr).1, (hrow hXY hr).2 _ _ h3⟩) ?_ ⟨hIn, hT⟩).mono ?_
    · rintro pre x W ⟨hi, hW⟩ hlen
      refine ⟨fn, _, assign, body, run_yield (P := P) (args := encs x) hW.rec_ (hps x), roundIn_of_wpIn trivial (hassign _ pre x W hi hlen _ fun b W₁ k1 b1 ha => ⟨_, run_beginRound (hW.keep k1).rec_ rfl, ?_⟩)⟩
      have hW1 := hW.keep k1
      have hW2 := hW1.put .busy none
      have hb2 := b1.trans (hput (st' := .busy) (pe' := none) hW1)
      refine wpIn_mono (hbody _ pre x b _ (hA.putObj _ ha (by omega) hW1.rec_ rfl) hlen) ?_
      have fin : ∀ (jump : Option Code) (W3 : World), KeepsFrom w.heap.size (W₁.putObj (w.heap.size + 1) (.loop (recOf fn a ps assign body w.heap.size .busy none))) W3 →
          (Instr.endRound (w.heap.size + 1) jump).run P W3 = .ok (.bool jump.isNone) (W3.putObj (w.heap.size + 1) (.loop (recOf fn a ps assign body w.heap.size (if jump.isNone then .ready else .done) jump))) ∧ Two fn a ps assign body w.heap.size .busy none W3 :=
        fun jump W3 k3 => ⟨run_endRound (P := P) jump (hW2.keep k3).rec_, hW2.keep k3⟩
      rintro e a3 W3 hp
      cases e with
      | normal =>
        obtain ⟨k3, b3, hi3⟩ := hp
        obtain ⟨hr, h3⟩ := fin none W3 k3
        exact ⟨_, _, hr, .inl ⟨rfl, ⟨hI.putObj _ hi3 (by omega) h3.rec_ rfl, h3.put .ready none⟩, (hb2.trans b3).trans (hput h3)⟩⟩
      | ret =>
        obtain ⟨k3, hi3⟩ := hp
        obtain ⟨hr, h3⟩ := fin (some .ret) W3 k3
        exact ⟨_, _, hr, .inr ⟨rfl, .ret, (hIx _).putObj _ hi3 (by omega) h3.rec_ rfl, h3.put .done (some .ret)⟩⟩
      | exit id =>
        obtain ⟨k3, hi3⟩ := hp
        obtain ⟨hr, h3⟩ := fin (some (.exit id)) W3 k3
        exact ⟨_, _, hr, .inr ⟨rfl, .exit id, (hIx _).putObj _ hi3 (by omega) h3.rec_ rfl, h3.put .done (some (.exit id))⟩⟩
      | goto t =>
        obtain ⟨k3, hi3⟩ := hp
        obtain ⟨hr, h3⟩ := fin (some (.goto t)) W3 k3
        exact ⟨_, _, hr, .inr ⟨rfl, .goto t, (hIx _).putObj _ hi3 (by omega) h3.rec_ rfl, h3.put .done (some (.goto t))⟩⟩
      | panic ch => exact hp.elim
      | outgrown => exact hp.elim
    · rintro e W2 ⟨⟨v, rfl⟩, (⟨xs, hS, hi, h2⟩ | ⟨pre, hSp, c, hi, h2⟩)⟩
      · exact ⟨none, _, run_endLoop (P := P) h2.rec_ (by simp), hdone _ xs _ (Nat.le_refl _) hS (hI.putObj _ hi (by omega) h2.rec_ rfl) ((World.putObj_heap_other (by omega)).trans h2.coll)⟩
      · exact ⟨some c, _, run_endLoop (P := P) h2.rec_ (by simp), hstop _ c pre _ (Nat.le_refl _) hSp ((hIx c).putObj _ hi (by omega) h2.rec_ rfl) ((World.putObj_heap_other (by omega)).trans h2.coll)⟩
end
end Go.Proofs.YtknmfopnbognpaaGreatDoor.Rr
end
section
set_option linter.unusedSimpArgs false
set_option linter.unusedVariables false
namespace Go.Proofs.YtknmfopnbognpaaGreatDoor.Rr
open Go

section
variable {P : Program} {Q : Exit → Act → World → Prop}
theorem oper_lift {o : Oper} {a : Act} {w : World} {K : Act → World → Prop} (l n : Nat) (hd : ∀ c, o.op ≠ .defer c) (h : o.wp P a w K Q) : o.wpIn (Fence.wide.inRound l) n P a w K Q := by
  refine ⟨fun _ _ => trivial, ?_⟩
  rw [show (Fence.wide.inRound l).round = some l from rfl, Oper.semAt_eq _ _ _ hd]
  unfold Oper.wp at h
  generalize (execOp a.eval o).run P w = r at *
  cases r with
  | ok x w' =>
    cases x with
    | value v => exact h
    | skip => exact h
    | defer d => exact h
    | enter f args => exact ⟨(fun hh => by cases hh), CallsIn.inRound l (callsIn_wide.2 h)⟩
    | row r args =>
      refine ⟨(fun hh => by cases hh), ?_⟩
      intro c cs _
      obtain ⟨v, w2, h1, h2⟩ := h c cs
      exact ⟨v, w2, h1, stepsIn_wide.2 h2⟩
    | _ => exact h.elim
  | halt x w' => cases x <;> first | exact h | exact h.elim
theorem op_lift {ops : Array Oper} {i : Nat} {K K' : Act → World → Prop} {a : Act} {w : World} (l n : Nat) (hd : ∀ (j : Nat) (o : Oper), ops[j]? = some o → ∀ c, o.op ≠ .defer c) (hQ : ¬ LetsOut Q) (hK : ∀ a w, K a w → K' a w) (h : wpOp P ops Q i K a w) : wpOpIn (Fence.wide.inRound l) n P ops Q i K' a w := by
  unfold wpOp at h
  unfold wpOpIn
  cases ho : ops[i]? with
  | none => rw [ho] at h; exact hK _ _ h
  | some o =>
    rw [ho] at h
    simp only at h ⊢
    by_cases hw : Region.wanted o (yielded ops a.tmps) = true
    · rw [if_pos hw] at h ⊢
      rcases h with h | h
      · exact Oper.wpIn_mono hK (oper_lift l n (hd i o ho) h)
      · exact absurd h.2 hQ
    · rw [if_neg hw] at h ⊢
      exact ⟨fun _ _ => trivial, hK _ _ h⟩
theorem any_lift {ops : Array Oper} {md : Region.Mode} (l n : Nat) (hd : ∀ (j : Nat) (o : Oper), ops[j]? = some o → ∀ c, o.op ≠ .defer c) (hQ : ¬ LetsOut Q) : ∀ (fuel : Nat) (listed : Array Bool) (a : Act) (w : World), wpAny P md ops Q fuel listed a w → wpAnyIn (Fence.wide.inRound l) n P md ops Q fuel listed a w
  | 0, _, _, _, h => h
  | fuel + 1, listed, a, w, h => ⟨h.1, fun i hi => op_lift l n hd hQ (fun a w h => any_lift l n hd hQ fuel _ a w h) (h.2 i hi)⟩
def noDefer : List Oper → Bool
  | [] => true
  | o :: l => (match o.op with | .defer _ => false | _ => true) && noDefer l
theorem noDefer_get : ∀ {l : List Oper}, noDefer l = true → ∀ (j : Nat) (o : Oper), l.toArray[j]? = some o → ∀ c, o.op ≠ .defer c
  | [], _, j, o, h, _ => by simp at h
  | x :: l, hn, 0, o, h, c => by
    simp at h
    subst h
    intro hc
    unfold noDefer at hn
    rw [hc] at hn
    simp at hn
  | x :: l, hn, j + 1, o, h, c => by
    unfold noDefer at hn
    rw [Bool.and_eq_true] at hn
    exact noDefer_get hn.2 j o (by simpa using h) c
/-- a region that draws, in a round: S is what stands all the while -/
theorem round_held {id : Nat} {a : Act} {w : World} {ops : List Oper} {S : World → Prop} {l n : Nat} (hm : P.follows .mixedOrders = true) (hd : noDefer ops = true) (hQ : ¬ LetsOut Q) (hS : S w.drew)
    (h : S w.drew → wpAnyH P .any ops.toArray Q S ops.toArray.size (Array.replicate ops.toArray.size false) a w.drew) : (Code.region id ops.toArray true).wpIn (Fence.wide.inRound l) n P Q a w :=
  wpIn_region_any hm (any_lift l n (noDefer_get hd) hQ _ _ _ _ (wpAny_of_held _ _ _ _ (h hS)))
/-- a region of which all but the tail reads alone, the tail being forced -/
theorem any_tail {a : Act} {w : World} {l : List Oper} (n : Nat) (hB : Region.lexTailB .any l.toArray n = true)
    (h : wpStill P l.toArray w (fun a' => wpList P l.toArray Q (l.drop n) a' w) (l.take n) a) : wpAny P .any l.toArray Q l.toArray.size (Array.replicate l.toArray.size false) a w := by
  simp only [Region.lexTailB, Bool.and_eq_true, decide_eq_true_eq] at hB
  obtain ⟨⟨⟨⟨h1, h2⟩, h3⟩, h4⟩, h5⟩ := hB
  have ht : (l.take n).length = n := by simp at h2; simp; omega
  have hd : (l.drop n).length = l.toArray.size - n := by simp
  have hL := wpAnyL_lex (md := .any) (g := l.toArray.size - n) h1 h3 h4 h2 (l.take n) 0 _ a
    (fun j hj => by
      rw [ht] at hj
      simp [hj]) (by simpa using ht)
    (show HeadInv .any l.toArray n (Array.replicate l.toArray.size false) from ⟨by simp, fun j oj _ hl => (by rw [getD_replicate_false] at hl; cases hl), fun t _ ht => getD_in (by simpa using ht) (getD_replicate_false _ _)⟩) (by rw [ht]; exact h5) h
  have := wpAny_of_head (Q' := Q) (g := l.toArray.size - n) (fun listed a' hl => by
    have := wpAny_of_seq (md := .any) (Q' := Q) (l.drop n) n listed a' w (fun j => by simp [List.getElem?_drop]) (by rw [hd]; exact hl.1) hl.2
    rwa [hd] at this) _ _ _ hL
  rw [ht, show n + (l.toArray.size - n) = l.toArray.size by omega] at this
  exact this
theorem round_tail {id : Nat} {a : Act} {w : World} {ops : List Oper} {l n : Nat} (k : Nat) (hm : P.follows .mixedOrders = true) (hd : noDefer ops = true) (hQ : ¬ LetsOut Q) (hB : Region.lexTailB .any ops.toArray k = true)
    (h : wpStill P ops.toArray w.drew (fun a' => wpList P ops.toArray Q (ops.drop k) a' w.drew) (ops.take k) a) : (Code.region id ops.toArray true).wpIn (Fence.wide.inRound l) n P Q a w :=
  wpIn_region_any hm (any_lift l n (noDefer_get hd) hQ _ _ _ _ (any_tail k hB h))
end
end Go.Proofs.YtknmfopnbognpaaGreatDoor.Rr
end
