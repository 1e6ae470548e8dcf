/-
  A range over a function whose iterator itself ranges over another one: its records turn while the caller's invariant stands.
  Kc S: the cells outside S stay as they were.
  Nothing here speaks of a program of the seat.
-/
import Derived.RangeFuncWrites
import Derived.Test.YtnlndkpjfgpodabRangeBox
import Derived.RangeFuncBox
import Derived.RangeFuncFrom
import Derived.Deep.RegionHeld
set_option linter.unusedSimpArgs false
set_option linter.unusedVariables false
namespace Go.Proofs.Ytnlndkpjfgpodab.Rr
open Go Go.RowKit

section
variable {P : Program} {n : Nat}
/-- the contract of an iterator that may range over another one: J abides the turns of what is no cells, from where the call began -/
def SeqO {α : Type} (n : Nat) (P : Program) (g : Nat) (lb : Array Value) (encs : α → Array Value) (Kp : World → World → Prop) (S Sp : List α → Prop) (w : World) : Prop :=
  ∀ (l : Nat) (J Jx : List α → World → Prop) (W : World), Below w.heap.size w W → OwnFrom W.heap.size J → OwnFrom W.heap.size Jx →
    (∀ pre x W1, J pre W1 → Sp (pre ++ [x]) → YieldAt Fence.wide (n - 1) P l (encs x) W1 fun e W' => KeepsFrom W.heap.size W1 W' ∧
      ((e = .returned (.bool true) ∧ J (pre ++ [x]) W' ∧ Kp W1 W') ∨ (e = .returned (.bool false) ∧ Jx (pre ++ [x]) W'))) →
    J [] W →
    CallsIn Fence.wide n P g (#[.func (.yield l) #[] #[]] ++ lb) W fun e W' => (∃ v, e = .returned v) ∧ ((∃ xs, S xs ∧ J xs W') ∨ (∃ pre, Sp pre ∧ Jx pre W'))
theorem kfm {B B' : Nat} {X Y : World} (h : B ≤ B') (k : KeepsFrom B X Y) : KeepsFrom B' X Y := ⟨k.size, fun i o hi ho hc => k.same i o (by omega) ho hc⟩
theorem kfm_trans {B : Nat} {X Y Z : World} (h : KeepsFrom B X Y) (k : KeepsFrom B Y Z) : KeepsFrom B X Z := ⟨Nat.le_trans h.size k.size, fun i o hi ho hc => k.same i o hi (h.same i o hi ho hc) hc⟩
theorem kfput {B l : Nat} (h : l < B) (X : World) (o : Obj) : KeepsFrom B X (X.putObj l o) := ⟨by simp, fun i o' hi ho hc => (World.putObj_heap_other (by omega)).trans ho⟩
/-- in a fence that lets all in, room is no matter -/
theorem yield_any {n n' : Nat} {P : Program} {l : Nat} {args : Array Value} {W : World} {R : Ending → World → Prop} (h : YieldAt Fence.wide n P l args W R) : YieldAt Fence.wide n' P l args W R := by
  obtain ⟨fn, tmps, assign, body, h1, h2, h3⟩ := h
  exact ⟨fn, tmps, assign, body, h1, h2, fun c cs _ => h3 c cs (room_wide _)⟩
/-- the cells outside S stay as they were -/
structure Kc (S : Nat → Prop) (X Y : World) : Prop where
  size : X.heap.size ≤ Y.heap.size
  cell : ∀ (p : Addr) (v : Value), X.cell? p = some v → ¬ S p.block → Y.cell? p = some v
theorem Kc.refl (S : Nat → Prop) (X : World) : Kc S X X := ⟨Nat.le_refl _, fun _ _ h _ => h⟩
theorem Kc.trans {S : Nat → Prop} {A B C : World} (h : Kc S A B) (k : Kc S B C) : Kc S A C := ⟨Nat.le_trans h.size k.size, fun p v hp hS => k.cell p v (h.cell p v hp hS) hS⟩
theorem Kc.grown {S : Nat → Prop} {X Y : World} {row : Option Nat} (h : X.grownBy Y row) (hr : ∀ r, row = some r → S r ∨ ∃ o : Obj, X.heap[r]? = some o ∧ o.isCells = false) : Kc S X Y :=
  ⟨h.size, fun p v hp hS => by
    obtain ⟨o, ho, hc⟩ := cells_of_cell hp
    refine (World.cell?_of_block (h.block p.block (Array.getElem?_eq_some_iff.1 ho).1 (fun e => ?_))).trans hp
    rcases hr _ e.symm with h1 | ⟨o', ho', hc'⟩
    · exact hS h1
    · rw [ho] at ho'; cases ho'; rw [hc] at hc'; cases hc'⟩
theorem Kc.put {S : Nat → Prop} (W : World) (l : Nat) (o o' : Obj) (h : W.heap[l]? = some o) (hc : o.isCells = false) : Kc S W (W.putObj l o') :=
  Kc.grown (grownBy_putObj' W l o') (fun r e => by cases e; exact .inr ⟨o, h, hc⟩)
theorem Kc.set {S : Nat → Prop} (W : World) (b : Nat) (v : Value) (h : S b) : Kc S W (W.setCell ⟨b, 0, none⟩ v) :=
  Kc.grown (grownBy_setCell' W b v) (fun r e => by cases e; exact .inl h)
theorem Kc.alloc {S : Nat → Prop} {X Y : World} (h : Kc S X Y) (o : Obj) : Kc S X (Y.alloc o) := h.trans ⟨by simp, fun p v hp _ => World.cell?_alloc_some Y p o (by rw [hp]; rfl) ▸ hp⟩
theorem Kc.mono {S T : Nat → Prop} {X Y : World} (h : Kc S X Y) (hst : ∀ i, S i → T i) : Kc T X Y := ⟨h.size, fun p v hp hS => h.cell p v hp (fun f => hS (hst _ f))⟩
theorem range_ob {α : Type} {g : Operand} {ps : Array Tmp} {assign body : Code} {Q : Exit → Act → World → Prop} {a : Act} {w : World} (h1 : 1 ≤ n) {gf : Nat} {lb : Array Value} (hg : a.eval g = .func (.func gf) #[] lb)
    (eg : ∀ args w, (callFunc gf args).run P w = .ok (.enter gf args) w) {encs : α → Array Value} {Kp : World → World → Prop} {S Sp : List α → Prop} (hseq : SeqO (n - 1) P gf lb encs Kp S Sp w)
    (hKt : ∀ {A B C : World}, Kp A B → Kp B C → Kp A C) (hKb : ∀ (W : World) (l : Nat) (o o' : Obj), W.heap[l]? = some o → o.isCells = false → Kp W (W.putObj l o')) (hps : ∀ x, (encs x).size = ps.size)
    (I : List α → World → Prop) (Ix : Code → List α → World → Prop) (a₁ : α → Nat → Act) (A : List α × α × Nat → World → Prop) (hI : OwnFrom w.heap.size I) (hIx : ∀ c, OwnFrom w.heap.size (Ix c)) (hA : OwnFrom w.heap.size A) (h0 : I [] w)
    (hassign : ∀ (l : Nat) (pre : List α) (x : α) (W : World), I pre W → Sp (pre ++ [x]) → ∀ K : Act → World → Prop, (∀ b W₁, KeepsFrom w.heap.size W W₁ → Kp W W₁ → A (pre, x, b) W₁ → K (a₁ x b) W₁) →
      assign.wpIn (Fence.wide.inRound l) (n - 1 - 1) P (Exit.then K (fun _ _ _ => False)) { tmps := (ps.zip (encs x)).foldl (fun t (p, v) => t.setIfInBounds p v) a.tmps, defers := [] } W)
    (hbody : ∀ (l : Nat) (pre : List α) (x : α) (b : Nat) (W : World), A (pre, x, b) W → Sp (pre ++ [x]) → body.wpIn (Fence.wide.inRound l) (n - 1 - 1) P (ownPostG w.heap.size Kp I Ix (pre ++ [x]) W) (a₁ x b) W)
    (hdone : ∀ (D : Nat) (xs : List α) (W : World), w.heap.size ≤ D → S xs → I xs W → W.heap[D]? = some (.deferred (some [])) → Q .normal { a with defers := { target := .collected D, args := #[] } :: a.defers } W)
    (hstop : ∀ (D : Nat) (c : Code) (pre : List α) (W : World), w.heap.size ≤ D → Sp pre → Ix c pre W → W.heap[D]? = some (.deferred (some [])) → c.wpIn Fence.wide n P Q { a with defers := { target := .collected D, args := #[] } :: a.defers } W) :
    (Code.rangeFunc g ps assign body).wpIn Fence.wide n P Q a w := by
  refine wpIn_rangeFunc fun fn _ => ?_
  have hT : Two fn a ps assign body w.heap.size .ready none ((w.alloc (.deferred (some []))).alloc (.loop (recOf fn a ps assign body w.heap.size .ready none))) :=
    ⟨by have h := World.alloc_heap_new (w.alloc (.deferred (some []))) (.loop (recOf fn a ps assign body w.heap.size .ready none)); rwa [World.size_alloc] at h,
      (Below.heap_alloc _ _ _ (by simp)).trans (World.alloc_heap_new w _)⟩
  have hIn := hI.alloc (.loop (recOf fn a ps assign body w.heap.size .ready none)) (hI.alloc (.deferred (some [])) h0)
  have hBn : Below w.heap.size w ((w.alloc (.deferred (some []))).alloc (.loop (recOf fn a ps assign body w.heap.size .ready none))) := ((Below.refl _ w).alloc (Nat.le_refl _) _).alloc (by simp) _
  have hsz : ((w.alloc (.deferred (some []))).alloc (.loop (recOf fn a ps assign body w.heap.size .ready none))).heap.size = w.heap.size + 2 := by simp
  refine ⟨w.heap.size + 1, [{ target := .collected w.heap.size, args := #[] }], ((w.alloc (.deferred (some []))).alloc (.loop (recOf fn a ps assign body w.heap.size .ready none))), { target := .fn (.func gf) lb, args := #[.func (.yield (w.heap.size + 1)) #[] #[]] }, ((w.alloc (.deferred (some []))).alloc (.loop (recOf fn a ps assign body w.heap.size .ready none))), gf,
    #[.func (.yield (w.heap.size + 1)) #[] #[]] ++ lb, ((w.alloc (.deferred (some []))).alloc (.loop (recOf fn a ps assign body w.heap.size .ready none))), run_enterLoop_outer _ _ _ _ _, ?_, ?_, ?_, fun _ => h1, ?_⟩
  · simp only [resolve, hg]
    simp [go_sem]
  · exact fun _ _ => trivial
  · simp [invoke, go_sem, eg]
  · generalize ((w.alloc (.deferred (some []))).alloc (.loop (recOf fn a ps assign body w.heap.size .ready none))) = W1 at *
    have hrow : ∀ {X Y : World} {row : Option Nat}, X.grownBy Y row → (∀ r, row = some r → W1.heap.size ≤ r ∧ ∃ o : Obj, X.heap[r]? = some o ∧ o.isCells = false) →
        (∀ r, row = some r → w.heap.size ≤ r ∧ ∃ o : Obj, X.heap[r]? = some o ∧ o.isCells = false) ∧ (∀ st pe, Two fn a ps assign body w.heap.size st pe X → Two fn a ps assign body w.heap.size st pe Y) := by
      intro X Y row hXY hr
      refine ⟨fun r e => ?_, fun st pe hT => ⟨(hXY.block _ hT.lt (fun e => ?_)).trans hT.rec_, (hXY.block _ (by have := hT.lt; omega) (fun e => ?_)).trans hT.coll⟩⟩
      · obtain ⟨hB, o, ho, hw⟩ := hr r e
        exact ⟨by omega, o, ho, hw⟩
      · obtain ⟨hB, _⟩ := hr _ e.symm
        omega
      · obtain ⟨hB, _⟩ := hr _ e.symm
        omega
    have hput : ∀ {X : World} {st st' : LoopState} {pe pe' : Option Code}, Two fn a ps assign body w.heap.size st pe X → Kp X (X.putObj (w.heap.size + 1) (.loop (recOf fn a ps assign body w.heap.size st' pe'))) :=
      fun hT => hKb _ _ _ _ hT.rec_ rfl
    refine (hseq (w.heap.size + 1) (fun pre W => I pre W ∧ Two fn a ps assign body w.heap.size .ready none W) (fun pre W => ∃ c, Ix c pre W ∧ Two fn a ps assign body w.heap.size .done (some c) W) W1 hBn
      (fun s X Y row hs hXY hr => ⟨hI s X Y row hs.1 hXY (hrow hXY hr).1, (hrow hXY hr).2 _ _ hs.2⟩)
      (fun s X Y row ⟨c, h2, h3⟩ hXY hr => ⟨c, hIx c s X Y row h2 hXY (hrow hXY hr).1, (hrow hXY hr).2 _ _ h3⟩) ?_ ⟨hIn, hT⟩).mono ?_
    · rintro pre x W ⟨hi, hW⟩ hlen
      refine ⟨fn, _, assign, body, run_yield (P := P) (args := encs x) hW.rec_ (hps x), roundIn_of_wpIn trivial (hassign _ pre x W hi hlen _ fun b W₁ k1 b1 ha => ⟨_, run_beginRound (hW.keep k1).rec_ rfl, ?_⟩)⟩
      have hW1 := hW.keep k1
      have hW2 := hW1.put .busy none
      have hb2 := hKt b1 (hput (st' := .busy) (pe' := none) hW1)
      refine wpIn_mono (hbody _ pre x b _ (hA.putObj _ ha (by omega) hW1.rec_ rfl) hlen) ?_
      have fin : ∀ (jump : Option Code) (W3 : World), KeepsFrom w.heap.size (W₁.putObj (w.heap.size + 1) (.loop (recOf fn a ps assign body w.heap.size .busy none))) W3 →
          (Instr.endRound (w.heap.size + 1) jump).run P W3 = .ok (.bool jump.isNone) (W3.putObj (w.heap.size + 1) (.loop (recOf fn a ps assign body w.heap.size (if jump.isNone then .ready else .done) jump))) ∧ Two fn a ps assign body w.heap.size .busy none W3 :=
        fun jump W3 k3 => ⟨run_endRound (P := P) jump (hW2.keep k3).rec_, hW2.keep k3⟩
      have kf : ∀ (W3 : World) (o' : Obj), KeepsFrom w.heap.size (W₁.putObj (w.heap.size + 1) (.loop (recOf fn a ps assign body w.heap.size .busy none))) W3 → KeepsFrom W1.heap.size W (W3.putObj (w.heap.size + 1) o') :=
        fun W3 o' k3 => kfm_trans (kfm_trans (kfm (by omega) k1) (kfput (by omega) _ _)) (kfm_trans (kfm (by omega) k3) (kfput (by omega) _ _))
      rintro e a3 W3 hp
      cases e with
      | normal =>
        obtain ⟨k3, b3, hi3⟩ := hp
        obtain ⟨hr, h3⟩ := fin none W3 k3
        exact ⟨_, _, hr, kf W3 _ k3, .inl ⟨rfl, ⟨hI.putObj _ hi3 (by omega) h3.rec_ rfl, h3.put .ready none⟩, hKt (hKt hb2 b3) (hput h3)⟩⟩
      | ret =>
        obtain ⟨k3, hi3⟩ := hp
        obtain ⟨hr, h3⟩ := fin (some .ret) W3 k3
        exact ⟨_, _, hr, kf W3 _ k3, .inr ⟨rfl, .ret, (hIx _).putObj _ hi3 (by omega) h3.rec_ rfl, h3.put .done (some .ret)⟩⟩
      | exit id =>
        obtain ⟨k3, hi3⟩ := hp
        obtain ⟨hr, h3⟩ := fin (some (.exit id)) W3 k3
        exact ⟨_, _, hr, kf W3 _ k3, .inr ⟨rfl, .exit id, (hIx _).putObj _ hi3 (by omega) h3.rec_ rfl, h3.put .done (some (.exit id))⟩⟩
      | goto t =>
        obtain ⟨k3, hi3⟩ := hp
        obtain ⟨hr, h3⟩ := fin (some (.goto t)) W3 k3
        exact ⟨_, _, hr, kf W3 _ k3, .inr ⟨rfl, .goto t, (hIx _).putObj _ hi3 (by omega) h3.rec_ rfl, h3.put .done (some (.goto t))⟩⟩
      | panic ch => exact hp.elim
      | outgrown => exact hp.elim
    · rintro e W2 ⟨⟨v, rfl⟩, (⟨xs, hS, hi, h2⟩ | ⟨pre, hSp, c, hi, h2⟩)⟩
      · exact ⟨none, _, run_endLoop (P := P) h2.rec_ (by simp), hdone _ xs _ (Nat.le_refl _) hS (hI.putObj _ hi (by omega) h2.rec_ rfl) ((World.putObj_heap_other (by omega)).trans h2.coll)⟩
      · exact ⟨some c, _, run_endLoop (P := P) h2.rec_ (by simp), hstop _ c pre _ (Nat.le_refl _) hSp ((hIx c).putObj _ hi (by omega) h2.rec_ rfl) ((World.putObj_heap_other (by omega)).trans h2.coll)⟩
end
end Go.Proofs.Ytnlndkpjfgpodab.Rr
