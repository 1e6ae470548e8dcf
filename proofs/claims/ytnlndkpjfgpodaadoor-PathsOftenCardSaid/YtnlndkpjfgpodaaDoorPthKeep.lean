/-

  What a round may turn that appends to a row of its own alone: the row that the variable in the block tb names; plain.
-/
import Derived.Test.YtnlndkpjfgpodaaDoorWords
import Derived.Test.YtnlndkpjfgpodaaDoorRangeBox
import Derived.RangeFuncWrites
import Derived.RangeFuncNested
set_option linter.unusedSimpArgs false
set_option linter.unusedVariables false
namespace Go.Proofs.YtnlndkpjfgpodaaDoor.Pk
open Go Go.RowKit Ws

/-- the variable in the block tb names the block i -/
def Nm (tb : Nat) (W : World) (i : Nat) : Prop := ∃ o n c, W.cell? ⟨tb, 0, none⟩ = some (.slice (some ⟨i, o, none⟩) n c)
def NoC (W : World) (i : Nat) : Prop := ∃ o : Obj, W.heap[i]? = some o ∧ o.isCells = false
structure KpR (tb n₀ : Nat) (W1 W2 : World) : Prop where
  chg : Chg (fun i => i = tb ∨ Nm tb W1 i ∨ (n₀ ≤ i ∧ NoC W1 i)) W1 W2
  has : ∃ v, W2.cell? ⟨tb, 0, none⟩ = some v
  nm : ∀ i, i < W1.heap.size → Nm tb W2 i → Nm tb W1 i
def KpT (tb n₀ : Nat) (W1 W2 : World) : Prop := (∃ v, W1.cell? ⟨tb, 0, none⟩ = some v) → KpR tb n₀ W1 W2
theorem noC_cell {W : World} {a : Addr} {v : Value} (h : W.cell? a = some v) : ¬ NoC W a.block := by
  rintro ⟨o, h1, h2⟩
  obtain ⟨o', h3, h4⟩ := cells_of_cell h
  rw [h1] at h3
  cases h3
  rw [h2] at h4
  cases h4
theorem KpT.refl (tb n₀ : Nat) (W : World) : KpT tb n₀ W W := fun h => ⟨Chg.refl _ _, h, fun _ _ h => h⟩
theorem KpT.trans {tb n₀ : Nat} {A B C : World} (h : KpT tb n₀ A B) (k : KpT tb n₀ B C) : KpT tb n₀ A C := fun ha => by
  have h1 := h ha
  have h2 := k h1.has
  refine ⟨⟨h2.chg.os.trans h1.chg.os, h2.chg.tape.trans h1.chg.tape, h2.chg.output.trans h1.chg.output, Nat.le_trans h1.chg.size h2.chg.size, fun i hi hn => ?_⟩, h2.has, fun i hi hnm => h1.nm i hi (h2.nm i (Nat.lt_of_lt_of_le hi h1.chg.size) hnm)⟩
  have e := h1.chg.block i hi hn
  refine (h2.chg.block i (Nat.lt_of_lt_of_le hi h1.chg.size) fun hs => hn ?_).trans e
  rcases hs with hs | hs | ⟨hs1, o, hs2, hs3⟩
  · exact .inl hs
  · exact .inr (.inl (h1.nm i hi hs))
  · exact .inr (.inr ⟨hs1, o, by rw [← e]; exact hs2, hs3⟩)
theorem KpT.putObj (tb n₀ : Nat) (W : World) (l : Nat) (o o' : Obj) (hl : n₀ ≤ l) (h : W.heap[l]? = some o) (ho : o.isCells = false) : KpT tb n₀ W (W.putObj l o') := by
  rintro ⟨v, hv⟩
  have hne : tb ≠ l := fun e => noC_cell hv ⟨o, by rw [e]; exact h, ho⟩
  have hb : (W.putObj l o').heap[tb]? = W.heap[tb]? := World.putObj_heap_other hne
  have hc : (W.putObj l o').cell? ⟨tb, 0, none⟩ = W.cell? ⟨tb, 0, none⟩ := World.cell?_of_block hb
  refine ⟨⟨rfl, rfl, rfl, by simp, fun i hi hn => World.putObj_heap_other fun e => hn (.inr (.inr ⟨by omega, o, by rw [e]; exact h, ho⟩))⟩, ⟨v, hc.trans hv⟩, fun i _ hn => ?_⟩
  obtain ⟨a, b, c, h1⟩ := hn
  exact ⟨a, b, c, by rw [← hc]; exact h1⟩
/-- nothing that the variable may name -/
theorem nm_old {tb : Nat} {W W' : World} {i : Nat} (h : ¬ Nm tb W i) (e : W'.cell? ⟨tb, 0, none⟩ = W.cell? ⟨tb, 0, none⟩) : ¬ Nm tb W' i := by
  rintro ⟨a, b, c, h1⟩
  exact h ⟨a, b, c, by rw [← e]; exact h1⟩
/-- what a round keeps that appended: the variable alone, its row, and what is new were written to -/
theorem KpT.of_chg {tb n₀ : Nat} {W1 W2 : World} (hc : Chg (fun i => i = tb ∨ Nm tb W1 i) W1 W2) {v : Value} (hv : W2.cell? ⟨tb, 0, none⟩ = some v) (hn : ∀ i o n c, v = .slice (some ⟨i, o, none⟩) n c → i < W1.heap.size → Nm tb W1 i) : KpT tb n₀ W1 W2 := fun _ =>
  ⟨hc.weak fun i _ h => h.elim .inl fun h => .inr (.inl h), ⟨v, hv⟩, fun i hi ⟨o, n, c, h⟩ => by
    rw [hv] at h
    injection h with h
    exact hn i o n c h hi⟩

/-! ### a range over a function that has memory of its own -/
section
variable {P : Program} {n : Nat}
open Rr
/-- the iterator turns blocks of its own: St; what a round keeps of them: Kp -/
theorem range_kp {α : Type} {g : Operand} {ps : Array Tmp} {assign body : Code} {Q : Exit → Act → World → Prop} {a : Act} {w : World} (h1 : 1 ≤ n) {gf : Nat} {lb : Array Value} (hg : a.eval g = .func (.func gf) #[] lb)
    (eg : ∀ args w, (callFunc gf args).run P w = .ok (.enter gf args) w) {encs : α → Array Value} {Kp St : World → World → Prop} {S Sp : List α → Prop} {N : Nat}
    (hseq : ∀ (l : Nat) (J Jx : List α → World → Prop) (W : World), Below w.heap.size w W → AbidesFrom W.heap.size J → AbidesFrom W.heap.size Jx → (∀ pre X Y, J pre X → St X Y → J pre Y) →
      (∀ pre x W1, J pre W1 → pre.length < N → YieldAt Fence.wide (n - 1 - 1) P l (encs x) W1 fun e W' => (e = .returned (.bool true) ∧ J (pre ++ [x]) W' ∧ Kp W1 W') ∨ (e = .returned (.bool false) ∧ Jx (pre ++ [x]) W')) → J [] W →
      CallsIn Fence.wide (n - 1) P gf (#[.func (.yield l) #[] #[]] ++ lb) W fun e W' => (∃ v, e = .returned v) ∧ ((∃ xs, S xs ∧ J xs W') ∨ (∃ pre, Sp pre ∧ Jx pre W')))
    (hKt : ∀ {A B C : World}, Kp A B → Kp B C → Kp A C) (hKb : ∀ (W : World) (l : Nat) (o o' : Obj), w.heap.size ≤ l → W.heap[l]? = some o → o.isCells = false → Kp W (W.putObj l o'))
    (hSt : ∀ X Y, St X Y → ∀ (i : Nat) (o : Obj), X.heap[i]? = some o → o.isCells = false → Y.heap[i]? = some o) (hps : ∀ x, (encs x).size = ps.size)
    (I : List α → World → Prop) (Ix : Code → List α → World → Prop) (a₁ : α → Act) (hI : OwnFrom w.heap.size I) (hIx : ∀ c, OwnFrom w.heap.size (Ix c)) (hIs : ∀ pre X Y, I pre X → St X Y → I pre Y) (h0 : I [] w)
    (hassign : ∀ (l : Nat) (x : α) (W : World) (K : Act → World → Prop), K (a₁ x) W → assign.wpIn (Fence.wide.inRound l) (n - 1 - 1) P (Exit.then K (fun _ _ _ => False)) { tmps := (ps.zip (encs x)).foldl (fun t (p, v) => t.setIfInBounds p v) a.tmps, defers := [] } W)
    (hbody : ∀ (l : Nat) (pre : List α) (x : α) (W : World), I pre W → pre.length < N → body.wpIn (Fence.wide.inRound l) (n - 1 - 1) P (ownPostG w.heap.size Kp I Ix (pre ++ [x]) W) (a₁ x) W)
    (hdone : ∀ (D : Nat) (xs : List α) (W : World), w.heap.size ≤ D → S xs → I xs W → W.heap[D]? = some (.deferred (some [])) → Q .normal { a with defers := { target := .collected D, args := #[] } :: a.defers } W)
    (hstop : ∀ (D : Nat) (c : Code) (pre : List α) (W : World), w.heap.size ≤ D → Sp pre → Ix c pre W → W.heap[D]? = some (.deferred (some [])) → c.wpIn Fence.wide n P Q { a with defers := { target := .collected D, args := #[] } :: a.defers } W) :
    (Code.rangeFunc g ps assign body).wpIn Fence.wide n P Q a w := by
  refine wpIn_rangeFunc fun fn _ => ?_
  have hT : Two fn a ps assign body w.heap.size .ready none ((w.alloc (.deferred (some []))).alloc (.loop (recOf fn a ps assign body w.heap.size .ready none))) :=
    ⟨by have h := World.alloc_heap_new (w.alloc (.deferred (some []))) (.loop (recOf fn a ps assign body w.heap.size .ready none)); rwa [World.size_alloc] at h,
      (Below.heap_alloc _ _ _ (by simp)).trans (World.alloc_heap_new w _)⟩
  have hIn := hI.alloc (.loop (recOf fn a ps assign body w.heap.size .ready none)) (hI.alloc (.deferred (some [])) h0)
  have hBn : Below w.heap.size w ((w.alloc (.deferred (some []))).alloc (.loop (recOf fn a ps assign body w.heap.size .ready none))) := ((Below.refl _ w).alloc (Nat.le_refl _) _).alloc (by simp) _
  have hsz : ((w.alloc (.deferred (some []))).alloc (.loop (recOf fn a ps assign body w.heap.size .ready none))).heap.size = w.heap.size + 2 := by simp
  refine ⟨w.heap.size + 1, [{ target := .collected w.heap.size, args := #[] }], ((w.alloc (.deferred (some []))).alloc (.loop (recOf fn a ps assign body w.heap.size .ready none))), { target := .fn (.func gf) lb, args := #[.func (.yield (w.heap.size + 1)) #[] #[]] }, ((w.alloc (.deferred (some []))).alloc (.loop (recOf fn a ps assign body w.heap.size .ready none))), gf,
    #[.func (.yield (w.heap.size + 1)) #[] #[]] ++ lb, ((w.alloc (.deferred (some []))).alloc (.loop (recOf fn a ps assign body w.heap.size .ready none))), run_enterLoop_outer _ _ _ _ _, ?_, ?_, ?_, fun _ => h1, ?_⟩
  · simp only [resolve, hg]
    simp [go_sem]
  · exact fun _ _ => trivial
  · simp [invoke, go_sem, eg]
  · generalize ((w.alloc (.deferred (some []))).alloc (.loop (recOf fn a ps assign body w.heap.size .ready none))) = W1 at *
    have hrow : ∀ {X Y : World} {row : Option Nat}, X.grownBy Y row → (∀ r, row = some r → W1.heap.size ≤ r ∧ ∃ o : Obj, X.heap[r]? = some o ∧ o.isWalk = true) →
        (∀ r, row = some r → w.heap.size ≤ r ∧ ∃ o : Obj, X.heap[r]? = some o ∧ o.isCells = false) ∧ (∀ st pe, Two fn a ps assign body w.heap.size st pe X → Two fn a ps assign body w.heap.size st pe Y) := by
      intro X Y row hXY hr
      refine ⟨fun r e => ?_, fun st pe hT => ⟨(grownBy_keeps hXY (fun r e => (hr r e).2) hT.rec_ rfl).trans hT.rec_, (grownBy_keeps hXY (fun r e => (hr r e).2) hT.coll rfl).trans hT.coll⟩⟩
      obtain ⟨hB, o, ho, hw⟩ := hr r e
      exact ⟨by omega, o, ho, Obj.not_cells_of_walk hw⟩
    have hput : ∀ {X : World} {st st' : LoopState} {pe pe' : Option Code}, Two fn a ps assign body w.heap.size st pe X → Kp X (X.putObj (w.heap.size + 1) (.loop (recOf fn a ps assign body w.heap.size st' pe'))) :=
      fun hT => hKb _ _ _ _ (by omega) hT.rec_ rfl
    refine (hseq (w.heap.size + 1) (fun pre W => I pre W ∧ Two fn a ps assign body w.heap.size .ready none W) (fun pre W => ∃ c, Ix c pre W ∧ Two fn a ps assign body w.heap.size .done (some c) W) W1 hBn
      (fun s X Y row hs hXY hr => ⟨hI s X Y row hs.1 hXY (hrow hXY hr).1, (hrow hXY hr).2 _ _ hs.2⟩)
      (fun s X Y row ⟨c, h2, h3⟩ hXY hr => ⟨c, hIx c s X Y row h2 hXY (hrow hXY hr).1, (hrow hXY hr).2 _ _ h3⟩)
      (fun pre X Y hs hst => ⟨hIs pre X Y hs.1 hst, ⟨hSt X Y hst _ _ hs.2.rec_ rfl, hSt X Y hst _ _ hs.2.coll rfl⟩⟩) ?_ ⟨hIn, hT⟩).mono ?_
    · rintro pre x W ⟨hi, hW⟩ hlen
      refine ⟨fn, _, assign, body, run_yield (P := P) (args := encs x) hW.rec_ (hps x), roundIn_of_wpIn trivial (hassign _ x W _ ⟨_, run_beginRound hW.rec_ rfl, ?_⟩)⟩
      have hW2 := hW.put .busy none
      have hb2 := hput (st' := .busy) (pe' := none) hW
      refine wpIn_mono (hbody _ pre x _ (hI.putObj _ hi (by omega) hW.rec_ rfl) hlen) ?_
      have fin : ∀ (jump : Option Code) (W3 : World), KeepsFrom w.heap.size (W.putObj (w.heap.size + 1) (.loop (recOf fn a ps assign body w.heap.size .busy none))) W3 →
          (Instr.endRound (w.heap.size + 1) jump).run P W3 = .ok (.bool jump.isNone) (W3.putObj (w.heap.size + 1) (.loop (recOf fn a ps assign body w.heap.size (if jump.isNone then .ready else .done) jump))) ∧ Two fn a ps assign body w.heap.size .busy none W3 :=
        fun jump W3 k3 => ⟨run_endRound (P := P) jump (hW2.keep k3).rec_, hW2.keep k3⟩
      rintro e a3 W3 hp
      cases e with
      | normal =>
        obtain ⟨k3, b3, hi3⟩ := hp
        obtain ⟨hr, h3⟩ := fin none W3 k3
        exact ⟨_, _, hr, .inl ⟨rfl, ⟨hI.putObj _ hi3 (by omega) h3.rec_ rfl, h3.put .ready none⟩, hKt (hKt hb2 b3) (hput h3)⟩⟩
      | ret =>
        obtain ⟨k3, hi3⟩ := hp
        obtain ⟨hr, h3⟩ := fin (some .ret) W3 k3
        exact ⟨_, _, hr, .inr ⟨rfl, .ret, (hIx _).putObj _ hi3 (by omega) h3.rec_ rfl, h3.put .done (some .ret)⟩⟩
      | exit id =>
        obtain ⟨k3, hi3⟩ := hp
        obtain ⟨hr, h3⟩ := fin (some (.exit id)) W3 k3
        exact ⟨_, _, hr, .inr ⟨rfl, .exit id, (hIx _).putObj _ hi3 (by omega) h3.rec_ rfl, h3.put .done (some (.exit id))⟩⟩
      | goto t =>
        obtain ⟨k3, hi3⟩ := hp
        obtain ⟨hr, h3⟩ := fin (some (.goto t)) W3 k3
        exact ⟨_, _, hr, .inr ⟨rfl, .goto t, (hIx _).putObj _ hi3 (by omega) h3.rec_ rfl, h3.put .done (some (.goto t))⟩⟩
      | panic ch => exact hp.elim
      | outgrown => exact hp.elim
    · rintro e W2 ⟨⟨v, rfl⟩, (⟨xs, hS, hi, h2⟩ | ⟨pre, hSp, c, hi, h2⟩)⟩
      · exact ⟨none, _, run_endLoop (P := P) h2.rec_ (by simp), hdone _ xs _ (Nat.le_refl _) hS (hI.putObj _ hi (by omega) h2.rec_ rfl) ((World.putObj_heap_other (by omega)).trans h2.coll)⟩
      · exact ⟨some c, _, run_endLoop (P := P) h2.rec_ (by simp), hstop _ c pre _ (Nat.le_refl _) hSp ((hIx c).putObj _ hi (by omega) h2.rec_ rfl) ((World.putObj_heap_other (by omega)).trans h2.coll)⟩
end
end Go.Proofs.YtnlndkpjfgpodaaDoor.Pk
