/-
  A range over a function whose variables are boxed: each round lays new blocks ahead of its body.
  Nothing here speaks of a program of the seat.
-/
import Derived.RangeFuncWrites
import Derived.RangeFuncKeeps
set_option linter.unusedSimpArgs false
set_option linter.unusedVariables false
namespace Go.Proofs.Ytnlndkpjfgpodab.Rr
open Go Go.RowKit

section
variable {P : Program} {n : Nat}
/-- the record of a range: its state and the jump that is pending -/
abbrev recOf (fn : FuncId) (a : Act) (ps : Array Tmp) (assign body : Code) (k : Nat) (st : LoopState) (pe : Option Code) : Loop :=
  { state := st, pending := pe, fn, tmps := a.tmps, params := ps, assign, body, defers := k }
/-- the two blocks of a range: its record, and the one for what rounds defer -/
structure Two (fn : FuncId) (a : Act) (ps : Array Tmp) (assign body : Code) (k : Nat) (st : LoopState) (pe : Option Code) (W : World) : Prop where
  rec_ : W.heap[k + 1]? = some (.loop (recOf fn a ps assign body k st pe))
  coll : W.heap[k]? = some (.deferred (some []))
theorem Two.keep {fn : FuncId} {a : Act} {ps : Array Tmp} {assign body : Code} {k : Nat} {st : LoopState} {pe : Option Code} {W W' : World} (h : Two fn a ps assign body k st pe W) (hk : KeepsFrom k W W') : Two fn a ps assign body k st pe W' :=
  ⟨hk.same _ _ (by omega) h.rec_ rfl, hk.same _ _ (Nat.le_refl _) h.coll rfl⟩
theorem Two.lt {fn : FuncId} {a : Act} {ps : Array Tmp} {assign body : Code} {k : Nat} {st : LoopState} {pe : Option Code} {W : World} (h : Two fn a ps assign body k st pe W) : k + 1 < W.heap.size := (Array.getElem?_eq_some_iff.1 h.rec_).1
theorem Two.put {fn : FuncId} {a : Act} {ps : Array Tmp} {assign body : Code} {k : Nat} {st : LoopState} {pe : Option Code} {W : World} (h : Two fn a ps assign body k st pe W) (st' : LoopState) (pe' : Option Code) :
    Two fn a ps assign body k st' pe' (W.putObj (k + 1) (.loop (recOf fn a ps assign body k st' pe'))) :=
  ⟨World.putObj_heap_same h.lt, (World.putObj_heap_other (by omega)).trans h.coll⟩
theorem range_box {α : Type} {g : Operand} {ps : Array Tmp} {assign body : Code} {Q : Exit → Act → World → Prop} {a : Act} {w : World} (h1 : 1 ≤ n) {gf : Nat} {lb : Array Value} (hg : a.eval g = .func (.func gf) #[] lb)
    (eg : ∀ args w, (callFunc gf args).run P w = .ok (.enter gf args) w) {encs : α → Array Value} {n₀ : Nat} {S Sp : List α → Prop} {N : Nat} (hseq : SeqStopsK Fence.wide (n - 1) P gf lb encs (Below n₀) S Sp N w) (hn : n₀ ≤ w.heap.size) (hps : ∀ x, (encs x).size = ps.size)
    (I : List α → World → Prop) (Ix : Code → List α → World → Prop) (a₁ : α → Nat → Act) (A : List α × α × Nat → World → Prop) (hI : OwnFrom w.heap.size I) (hIx : ∀ c, OwnFrom w.heap.size (Ix c)) (hA : OwnFrom w.heap.size A) (h0 : I [] w)
    (hassign : ∀ (l : Nat) (pre : List α) (x : α) (W : World), I pre W → pre.length < N → ∀ K : Act → World → Prop, (∀ b W₁, KeepsFrom w.heap.size W W₁ → Below n₀ W W₁ → A (pre, x, b) W₁ → K (a₁ x b) W₁) →
      assign.wpIn (Fence.wide.inRound l) (n - 1 - 1) P (Exit.then K (fun _ _ _ => False)) { tmps := (ps.zip (encs x)).foldl (fun t (p, v) => t.setIfInBounds p v) a.tmps, defers := [] } W)
    (hbody : ∀ (l : Nat) (pre : List α) (x : α) (b : Nat) (W : World), A (pre, x, b) W → pre.length < N → body.wpIn (Fence.wide.inRound l) (n - 1 - 1) P (ownPostG w.heap.size (Below n₀) I Ix (pre ++ [x]) W) (a₁ x b) W)
    (hdone : ∀ (D : Nat) (xs : List α) (W : World), w.heap.size ≤ D → S xs → I xs W → W.heap[D]? = some (.deferred (some [])) → Q .normal { a with defers := { target := .collected D, args := #[] } :: a.defers } W)
    (hstop : ∀ (D : Nat) (c : Code) (pre : List α) (W : World), w.heap.size ≤ D → Sp pre → Ix c pre W → W.heap[D]? = some (.deferred (some [])) → c.wpIn Fence.wide n P Q { a with defers := { target := .collected D, args := #[] } :: a.defers } W) :
    (Code.rangeFunc g ps assign body).wpIn Fence.wide n P Q a w := by
  refine wpIn_rangeFunc fun fn _ => ?_
  have hT : Two fn a ps assign body w.heap.size .ready none ((w.alloc (.deferred (some []))).alloc (.loop (recOf fn a ps assign body w.heap.size .ready none))) :=
    ⟨by have h := World.alloc_heap_new (w.alloc (.deferred (some []))) (.loop (recOf fn a ps assign body w.heap.size .ready none)); rwa [World.size_alloc] at h,
      (Below.heap_alloc _ _ _ (by simp)).trans (World.alloc_heap_new w _)⟩
  have hIn := hI.alloc (.loop (recOf fn a ps assign body w.heap.size .ready none)) (hI.alloc (.deferred (some [])) h0)
  have hBn : Below w.heap.size w ((w.alloc (.deferred (some []))).alloc (.loop (recOf fn a ps assign body w.heap.size .ready none))) := ((Below.refl _ w).alloc (Nat.le_refl _) _).alloc (by simp) _
  have hsz : ((w.alloc (.deferred (some []))).alloc (.loop (recOf fn a ps assign body w.heap.size .ready none))).heap.size = w.heap.size + 2 := by simp
  refine ⟨w.heap.size + 1, [{ target := .collected w.heap.size, args := #[] }], ((w.alloc (.deferred (some []))).alloc (.loop (recOf fn a ps assign body w.heap.size .ready none))), { target := .fn (.func gf) lb, args := #[.func (.yield (w.heap.size + 1)) #[] #[]] }, ((w.alloc (.deferred (some []))).alloc (.loop (recOf fn a ps assign body w.heap.size .ready none))), gf,
    #[.func (.yield (w.heap.size + 1)) #[] #[]] ++ lb, ((w.alloc (.deferred (some []))).alloc (.loop (recOf fn a ps assign body w.heap.size .ready none))), run_enterLoop_outer _ _ _ _ _, ?_, ?_, ?_, fun _ => h1, ?_⟩
  · simp only [resolve, hg]
    simp [go_sem]
  · exact fun _ _ => trivial
  · simp [invoke, go_sem, eg]
  · generalize ((w.alloc (.deferred (some []))).alloc (.loop (recOf fn a ps assign body w.heap.size .ready none))) = W1 at *
    have hrow : ∀ {X Y : World} {row : Option Nat}, X.grownBy Y row → (∀ r, row = some r → W1.heap.size ≤ r ∧ ∃ o : Obj, X.heap[r]? = some o ∧ o.isWalk = true) →
        (∀ r, row = some r → w.heap.size ≤ r ∧ ∃ o : Obj, X.heap[r]? = some o ∧ o.isCells = false) ∧ (∀ st pe, Two fn a ps assign body w.heap.size st pe X → Two fn a ps assign body w.heap.size st pe Y) := by
      intro X Y row hXY hr
      refine ⟨fun r e => ?_, fun st pe hT => ⟨(grownBy_keeps hXY (fun r e => (hr r e).2) hT.rec_ rfl).trans hT.rec_, (grownBy_keeps hXY (fun r e => (hr r e).2) hT.coll rfl).trans hT.coll⟩⟩
      obtain ⟨hB, o, ho, hw⟩ := hr r e
      exact ⟨by omega, o, ho, Obj.not_cells_of_walk hw⟩
    have hput : ∀ {X : World} {st st' : LoopState} {pe pe' : Option Code}, Two fn a ps assign body w.heap.size st pe X → Below n₀ X (X.putObj (w.heap.size + 1) (.loop (recOf fn a ps assign body w.heap.size st' pe'))) :=
      fun hT => belowK_b (w := w) hn _ _ _ _ (by omega) hT.rec_ rfl rfl
    refine (hseq (w.heap.size + 1) (fun pre W => I pre W ∧ Two fn a ps assign body w.heap.size .ready none W) (fun pre W => ∃ c, Ix c pre W ∧ Two fn a ps assign body w.heap.size .done (some c) W) W1 hBn
      (fun s X Y row hs hXY hr => ⟨hI s X Y row hs.1 hXY (hrow hXY hr).1, (hrow hXY hr).2 _ _ hs.2⟩)
      (fun s X Y row ⟨c, h2, h3⟩ hXY hr => ⟨c, hIx c s X Y row h2 hXY (hrow hXY hr).1, (hrow hXY hr).2 _ _ h3⟩) ?_ ⟨hIn, hT⟩).mono ?_
    · rintro pre x W ⟨hi, hW⟩ hlen
      refine ⟨fn, _, assign, body, run_yield (P := P) (args := encs x) hW.rec_ (hps x), roundIn_of_wpIn trivial (hassign _ pre x W hi hlen _ fun b W₁ k1 b1 ha => ⟨_, run_beginRound (hW.keep k1).rec_ rfl, ?_⟩)⟩
      have hW1 := hW.keep k1
      have hW2 := hW1.put .busy none
      have hb2 := b1.trans (hput (st' := .busy) (pe' := none) hW1)
      refine wpIn_mono (hbody _ pre x b _ (hA.putObj _ ha (by omega) hW1.rec_ rfl) hlen) ?_
      have fin : ∀ (jump : Option Code) (W3 : World), KeepsFrom w.heap.size (W₁.putObj (w.heap.size + 1) (.loop (recOf fn a ps assign body w.heap.size .busy none))) W3 →
          (Instr.endRound (w.heap.size + 1) jump).run P W3 = .ok (.bool jump.isNone) (W3.putObj (w.heap.size + 1) (.loop (recOf fn a ps assign body w.heap.size (if jump.isNone then .ready else .done) jump))) ∧ Two fn a ps assign body w.heap.size .busy none W3 :=
        fun jump W3 k3 => ⟨run_endRound (P := P) jump (hW2.keep k3).rec_, hW2.keep k3⟩
      rintro e a3 W3 hp
      cases e with
      | normal =>
        obtain ⟨k3, b3, hi3⟩ := hp
        obtain ⟨hr, h3⟩ := fin none W3 k3
        exact ⟨_, _, hr, .inl ⟨rfl, ⟨hI.putObj _ hi3 (by omega) h3.rec_ rfl, h3.put .ready none⟩, (hb2.trans b3).trans (hput h3)⟩⟩
      | ret =>
        obtain ⟨k3, hi3⟩ := hp
        obtain ⟨hr, h3⟩ := fin (some .ret) W3 k3
        exact ⟨_, _, hr, .inr ⟨rfl, .ret, (hIx _).putObj _ hi3 (by omega) h3.rec_ rfl, h3.put .done (some .ret)⟩⟩
      | exit id =>
        obtain ⟨k3, hi3⟩ := hp
        obtain ⟨hr, h3⟩ := fin (some (.exit id)) W3 k3
        exact ⟨_, _, hr, .inr ⟨rfl, .exit id, (hIx _).putObj _ hi3 (by omega) h3.rec_ rfl, h3.put .done (some (.exit id))⟩⟩
      | goto t =>
        obtain ⟨k3, hi3⟩ := hp
        obtain ⟨hr, h3⟩ := fin (some (.goto t)) W3 k3
        exact ⟨_, _, hr, .inr ⟨rfl, .goto t, (hIx _).putObj _ hi3 (by omega) h3.rec_ rfl, h3.put .done (some (.goto t))⟩⟩
      | panic ch => exact hp.elim
      | outgrown => exact hp.elim
    · rintro e W2 ⟨⟨v, rfl⟩, (⟨xs, hS, hi, h2⟩ | ⟨pre, hSp, c, hi, h2⟩)⟩
      · exact ⟨none, _, run_endLoop (P := P) h2.rec_ (by simp), hdone _ xs _ (Nat.le_refl _) hS (hI.putObj _ hi (by omega) h2.rec_ rfl) ((World.putObj_heap_other (by omega)).trans h2.coll)⟩
      · exact ⟨some c, _, run_endLoop (P := P) h2.rec_ (by simp), hstop _ c pre _ (Nat.le_refl _) hSp ((hIx c).putObj _ hi (by omega) h2.rec_ rfl) ((World.putObj_heap_other (by omega)).trans h2.coll)⟩
end
end Go.Proofs.Ytnlndkpjfgpodab.Rr
