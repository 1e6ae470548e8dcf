/-
  Words of this seat on memory: a slice that reads as a list ('Row'), and what a call may have changed ('Chg').
  Nothing here speaks of a program: plain lemmas.
-/
import Derived.WalkKit
import Derived.Laws.OwnMore
import Derived.Deep.Draws
import Derived.Below
import Derived.OwnWalk
import Derived.Laws.MakeOwn
import Derived.RowKit3
import Derived.Maps.AppendAt
import Derived.Deep.AppendLies
import Derived.Laws.CopyOwn
set_option linter.unusedSimpArgs false
set_option linter.unusedVariables false
namespace Go.Proofs.Ytnlndkpjfgpodab.Ws
open Go.RowKit

/-- the slice at A holds the cells l, one behind the other; of an empty one nothing is asked -/
def Row (w : World) (A : Option Addr) (l : List Value) : Prop :=
  ∀ (j : Nat) (u : Value), l[j]? = some u → ∃ b o, A = some ⟨b, o, none⟩ ∧ w.cell? ⟨b, o + j, none⟩ = some u

theorem Row.nil (w : World) (A : Option Addr) : Row w A [] := fun j u h => by simp at h
theorem Row.at_ {w : World} {A : Option Addr} {l : List Value} (h : Row w A l) {k : Nat} (hk : k < l.length) :
    ∃ b o, A = some ⟨b, o, none⟩ ∧ w.cell? ⟨b, o + k, none⟩ = some l[k] := h k _ (List.getElem?_eq_getElem hk)
theorem Row.drewN {w : World} {A : Option Addr} {l : List Value} (h : Row w A l) (n : Nat) : Row (w.drewN n) A l := h
theorem Row.drew {w : World} {A : Option Addr} {l : List Value} (h : Row w A l) : Row w.drew A l := h

/-- w' is w, but for new blocks and for the blocks that S names -/
structure Chg (S : Nat → Prop) (w w' : World) : Prop where
  os : w'.os = w.os
  tape : w'.tape = w.tape
  output : w'.output = w.output
  size : w.heap.size ≤ w'.heap.size
  block : ∀ i, i < w.heap.size → ¬ S i → w'.heap[i]? = w.heap[i]?

theorem Chg.refl (S : Nat → Prop) (w : World) : Chg S w w := ⟨rfl, rfl, rfl, Nat.le_refl _, fun _ _ _ => rfl⟩
theorem Chg.trans {S : Nat → Prop} {a b c : World} (h : Chg S a b) (k : Chg S b c) : Chg S a c :=
  ⟨k.os.trans h.os, k.tape.trans h.tape, k.output.trans h.output, Nat.le_trans h.size k.size,
    fun i hi hn => (k.block i (Nat.lt_of_lt_of_le hi h.size) hn).trans (h.block i hi hn)⟩
theorem Chg.weak {S T : Nat → Prop} {a b : World} (h : Chg S a b) (hs : ∀ i, i < a.heap.size → S i → T i) : Chg T a b :=
  ⟨h.os, h.tape, h.output, h.size, fun i hi hn => h.block i hi fun hS => hn (hs i hi hS)⟩
theorem Chg.drewN {S : Nat → Prop} {a b : World} (h : Chg S a b) (n : Nat) : Chg S a (b.drewN n) := ⟨h.os, h.tape, h.output, h.size, h.block⟩
theorem Chg.drew {S : Nat → Prop} {a b : World} (h : Chg S a b) : Chg S a b.drew := ⟨h.os, h.tape, h.output, h.size, h.block⟩
theorem Chg.alloc {S : Nat → Prop} {a b : World} (h : Chg S a b) (o : Obj) : Chg S a (b.alloc o) :=
  ⟨h.os, h.tape, h.output, Nat.le_trans h.size (by simp), fun i hi hn => (Below.heap_alloc b o i (Nat.lt_of_lt_of_le hi h.size)).trans (h.block i hi hn)⟩
theorem Chg.set {S : Nat → Prop} {a b : World} (h : Chg S a b) {p : Addr} (hp : S p.block ∨ a.heap.size ≤ p.block) (u : Value) : Chg S a (b.setCell p u) :=
  ⟨h.os, h.tape, h.output, by simpa [World.setCell] using h.size, fun i hi hn => (Below.heap_setCell b p u i (by
    rintro rfl
    rcases hp with hp | hp
    · exact hn hp
    · omega)).trans (h.block i hi hn)⟩
theorem Chg.of_grown {w w' : World} {row : Option Nat} (h : w.grownBy w' row) : Chg (fun i => some i = row) w w' := ⟨h.os, h.tape, h.output, h.size, fun i hi hn => h.block i hi hn⟩
theorem Chg.of_below {w w' : World} {B : Nat} (h : Below B w w') : Chg (fun i => B ≤ i) w w' :=
  ⟨h.os, h.tape, h.output, h.size, fun i _ hn => h.block i (by omega)⟩
theorem Chg.below {S : Nat → Prop} {w w' : World} {B : Nat} (h : Chg S w w') (hB : B ≤ w.heap.size) (hs : ∀ i, S i → B ≤ i) : Below B w w' :=
  ⟨h.os, h.tape, h.output, h.size, fun i hi => h.block i (by omega) fun hS => by have := hs i hS; omega⟩
/-- nothing that was there has turned -/
def Same (w w' : World) : Prop := Chg (fun _ => False) w w'
theorem Same.refl (w : World) : Same w w := Chg.refl _ w
theorem Same.trans {a b c : World} (h : Same a b) (k : Same b c) : Same a c := Chg.trans h k
theorem Same.chg {w w' : World} (h : Same w w') (S : Nat → Prop) : Chg S w w' := h.weak fun _ _ f => f.elim
theorem Same.below {w w' : World} (h : Same w w') : Below w.heap.size w w' := Chg.below h (Nat.le_refl _) fun _ f => f.elim
theorem Same.of_below {w w' : World} (h : Below w.heap.size w w') : Same w w' := ⟨h.os, h.tape, h.output, h.size, fun i hi _ => h.block i hi⟩
theorem Same.drewN {a b : World} (h : Same a b) (n : Nat) : Same a (b.drewN n) := Chg.drewN h n
theorem Same.drew {a b : World} (h : Same a b) : Same a b.drew := Chg.drew h
theorem Same.alloc {a b : World} (h : Same a b) (o : Obj) : Same a (b.alloc o) := Chg.alloc h o

theorem Same.more {S : Nat → Prop} {a b c : World} (h : Same a b) (k : Chg S b c) (hn : ∀ i, S i → a.heap.size ≤ i) : Same a c :=
  ⟨k.os.trans h.os, k.tape.trans h.tape, k.output.trans h.output, Nat.le_trans h.size k.size,
    fun i hi _ => (k.block i (Nat.lt_of_lt_of_le hi h.size) (fun hS => by have := hn i hS; omega)).trans (h.block i hi id)⟩
theorem Chg.cell {S : Nat → Prop} {w w' : World} (h : Chg S w w') {a : Addr} {u : Value} (hc : w.cell? a = some u) (hn : ¬ S a.block) : w'.cell? a = some u :=
  (World.cell?_of_block (h.block a.block (World.block_lt_of_cell? w a hc) hn)).trans hc
theorem Same.cell {w w' : World} (h : Same w w') {a : Addr} {u : Value} (hc : w.cell? a = some u) : w'.cell? a = some u := Chg.cell h hc id
theorem Same.new {w w' : World} {cs : Array Value} {t : TypeId} (h : Same (w.alloc (.cells cs t)) w') {i : Nat} {u : Value} (hi : cs[i]? = some u) : w'.cell? ⟨w.heap.size, i, none⟩ = some u :=
  h.cell ((cell_of_row _ w.heap.size i cs t (0, 0) (heap_alloc_new w _)).trans hi)

theorem Row.chg {S : Nat → Prop} {w w' : World} {A : Option Addr} {l : List Value} (h : Row w A l) (hc : Chg S w w') (hn : ∀ b o, A = some ⟨b, o, none⟩ → l ≠ [] → ¬ S b) : Row w' A l := by
  intro j u hj
  obtain ⟨b, o, hA, hcell⟩ := h j u hj
  refine ⟨b, o, hA, (World.cell?_of_block (hc.block b (World.block_lt_of_cell? w _ hcell) (hn b o hA ?_))).trans hcell⟩
  rintro rfl
  simp at hj
theorem Row.same {w w' : World} {A : Option Addr} {l : List Value} (h : Row w A l) (hc : Same w w') : Row w' A l := h.chg hc fun _ _ _ _ f => f
theorem Row.cut {w : World} {A : Option Addr} {l : List Value} (h : Row w A l) (n : Nat) : Row w A (l.take n) := by
  intro j u hj
  rw [List.getElem?_take] at hj
  split at hj
  · exact h j u hj
  · cases hj

theorem Row.sub {w : World} {b o : Nat} {l : List Value} (h : Row w (some ⟨b, o, none⟩) l) (k : Nat) : Row w (some ⟨b, o + k, none⟩) (l.drop k) := by
  intro j u hj
  rw [List.getElem?_drop] at hj
  obtain ⟨b', o', hA, hc⟩ := h (k + j) u hj
  injection hA with hA
  injection hA with h1 h2
  subst h1
  subst h2
  exact ⟨b, o + k, rfl, by rw [Nat.add_assoc]; exact hc⟩

/-- block g is just the cells cs of type t, none frozen -/
def Blk (w : World) (g : Nat) (t : TypeId) (cs : Array Value) : Prop := w.heap[g]? = some (.cells cs t (0, 0))
theorem Blk.lt {w : World} {g : Nat} {t : TypeId} {cs : Array Value} (h : Blk w g t cs) : g < w.heap.size := by
  rcases Nat.lt_or_ge g w.heap.size with hl | hl
  · exact hl
  · unfold Blk at h
    rw [Array.getElem?_eq_none hl] at h
    cases h
theorem Blk.cell {w : World} {g : Nat} {t : TypeId} {cs : Array Value} (h : Blk w g t cs) (i : Nat) : w.cell? ⟨g, i, none⟩ = cs[i]? := cell_of_row w g i cs t (0, 0) h
theorem Blk.thaw {w : World} {g : Nat} {t : TypeId} {cs : Array Value} (h : Blk w g t cs) (i : Nat) : w.frozen? ⟨g, i, none⟩ = false := by
  unfold Blk at h
  simp [World.frozen?, h]
theorem Blk.new (w : World) (t : TypeId) (cs : Array Value) : Blk (w.alloc (.cells cs t)) w.heap.size t cs := heap_alloc_new w _
theorem Blk.put {w : World} {g : Nat} {t : TypeId} {cs : Array Value} (h : Blk w g t cs) (i : Nat) (u : Value) : Blk (w.setCell ⟨g, i, none⟩ u) g t (cs.setIfInBounds i u) := by
  unfold Blk at h ⊢
  simp [World.setCell, Array.getElem?_modify, h]
theorem Blk.chg {S : Nat → Prop} {w w' : World} {g : Nat} {t : TypeId} {cs : Array Value} (h : Blk w g t cs) (hc : Chg S w w') (hn : ¬ S g) : Blk w' g t cs := (hc.block g h.lt hn).trans h
theorem Blk.same {w w' : World} {g : Nat} {t : TypeId} {cs : Array Value} (h : Blk w g t cs) (hc : Same w w') : Blk w' g t cs := h.chg hc id
theorem Blk.ne {w : World} {g g' : Nat} {t t' : TypeId} {cs cs' : Array Value} (h : Blk w g t cs) (h' : Blk w g' t' cs') (hne : t ≠ t') : g ≠ g' := by
  rintro rfl
  unfold Blk at h h'
  rw [h] at h'
  injection h' with h'
  injection h' with _ ht
  exact hne ht

/-- a slice of the call's own: its row is a block from its head on; or it is empty and leads nowhere -/
def Own (w : World) (B : Nat) (e : TypeId) (A : Option Addr) (c : Nat) (l : List Value) : Prop :=
  w.ownsRow B e 1 (.slice A l.length c) l.length l
theorem Own.row {w : World} {B : Nat} {e : TypeId} {A : Option Addr} {c : Nat} {l : List Value} (h : Own w B e A c l) : Row w A l := by
  intro j u hj
  have hlt : j < l.length := by
    rcases Nat.lt_or_ge j l.length with hl | hl
    · exact hl
    · rw [List.getElem?_eq_none hl] at hj; cases hj
  have hA : ∃ g, A = some ⟨g, 0, none⟩ := by
    rcases h.2 with ⟨_, hz⟩ | ⟨g, cap, cur, hv, _⟩
    · omega
    · exact ⟨g, by injection hv⟩
  obtain ⟨g, rfl⟩ := hA
  refine ⟨g, 0, rfl, ?_⟩
  have hc := World.ownsRow.cells h (g := g) rfl j u hj
  rw [Nat.zero_add]
  cases j with
  | zero => simpa [Addr.add] using hc
  | succ j => simpa [Addr.add] using hc
theorem Own.chg {S : Nat → Prop} {w w' : World} {B : Nat} {e : TypeId} {A : Option Addr} {c : Nat} {l : List Value} (h : Own w B e A c l) (hc : Chg S w w')
    (hn : ∀ g, A = some ⟨g, 0, none⟩ → ¬ S g) : Own w' B e A c l := by
  refine ⟨h.1, ?_⟩
  rcases h.2 with h2 | ⟨g, cap, cur, hv, hb, hg, rest⟩
  · exact .inl h2
  · refine .inr ⟨g, cap, cur, hv, hb, ?_, rest⟩
    have hA : A = some ⟨g, 0, none⟩ := by injection hv
    exact Blk.chg (t := e) hg hc (hn g hA)
theorem Own.same {w w' : World} {B : Nat} {e : TypeId} {A : Option Addr} {c : Nat} {l : List Value} (h : Own w B e A c l) (hc : Same w w') : Own w' B e A c l := h.chg hc fun _ _ f => f
theorem Own.thaw {w : World} {B : Nat} {e : TypeId} {A : Option Addr} {c : Nat} {l : List Value} (h : Own w B e A c l) (h0 : 0 < l.length) : ∃ g, A = some ⟨g, 0, none⟩ ∧ B ≤ g ∧ g < w.heap.size ∧ (∀ j, w.frozen? ⟨g, j, none⟩ = false) := by
  rcases h.2 with ⟨_, hz⟩ | ⟨g, cap, cur, hv, hb, hg, rest⟩
  · omega
  · have hA : A = some ⟨g, 0, none⟩ := by injection hv
    exact ⟨g, hA, hb, Blk.lt (t := e) hg, fun j => Blk.thaw (t := e) hg j⟩
theorem Own.ne {w : World} {B : Nat} {e t : TypeId} {A : Option Addr} {c : Nat} {l : List Value} {g' : Nat} {cs : Array Value} (h : Own w B e A c l) (hb : Blk w g' t cs) (hne : e ≠ t) :
    ∀ g, A = some ⟨g, 0, none⟩ → g ≠ g' := by
  intro g hA
  rcases h.2 with ⟨h2, hz⟩ | ⟨g2, cap, cur, hv, _, hg, rest⟩
  · injection h2 with h2
    rw [hA] at h2
    cases h2
  · have : A = some ⟨g2, 0, none⟩ := by injection hv
    rw [hA] at this
    injection this with this
    injection this with this
    subst this
    exact Blk.ne (t := e) hg hb hne
theorem Own.put {w : World} {B : Nat} {e : TypeId} {g c : Nat} {l : List Value} (h : Own w B e (some ⟨g, 0, none⟩) c l) (j : Nat) (u : Value) :
    Own (w.setCell ⟨g, j, none⟩ u) B e (some ⟨g, 0, none⟩) c (l.set j u) := by
  have := (World.ownsRow.stored h j u).1
  unfold Own
  rw [List.length_set]
  exact this
theorem Own.base {w : World} {B B' : Nat} {e : TypeId} {A : Option Addr} {c : Nat} {l : List Value} (h : Own w B e A c l) (hB : B' ≤ B) : Own w B' e A c l := by
  refine ⟨h.1, ?_⟩
  rcases h.2 with h2 | ⟨g, cap, cur, hv, hb, hg, rest⟩
  · exact .inl h2
  · exact .inr ⟨g, cap, cur, hv, by omega, hg, rest⟩

/-- one step of append onto a row of the call's own, whatever the source is: nil, empty or not -/
theorem run_app {P : Program} (w : World) (base : Nat) (t ty e : TypeId) (i : TypeInfo) (z : Value) (bytes : Nat) (ht : P.underlying t = some (.slice e)) (hi : P.info? e = some i) (hz : i.zero = some z)
    (hsize : i.size = 1) (hby : i.bytes = bytes) (hzs : z.cells.size = 1)
    (A : Option Addr) (c : Nat) (xs : List Value) (hown : Own w base e A c xs) (C : Option Addr) (d : Nat) (ys : List Value) (hr : Row w C ys) (h1 : ∀ u ∈ ys, u.oneCell' = true)
    (h63 : xs.length + ys.length ≤ 4294967296) (hby2 : bytes ≤ 16) (hbase : base ≤ w.heap.size) :
    ∃ A' c' w', (Builtin.append_ #[t, t] ty #[.slice A xs.length c, .slice C ys.length d]).run P w = .ok (.slice A' (xs ++ ys).length c') w' ∧ Own w' base e A' c' (xs ++ ys) ∧
      Chg (fun g => A = some ⟨g, 0, none⟩) w w' ∧ (A' = A ∨ A' = some ⟨w.heap.size, 0, none⟩) := by
  cases C with
  | none =>
    have hy : ys = [] := by
      cases ys with
      | nil => rfl
      | cons y r =>
        obtain ⟨b, o, hA, _⟩ := hr 0 y rfl
        cases hA
    subst hy
    refine ⟨A, c, w, ?_, by simpa using hown, Chg.refl _ _, .inl rfl⟩
    rcases hown.2 with ⟨h2, hl⟩ | ⟨g, cap, cur, hv, _, _, hnc, _⟩
    · injection h2 with hA hl2 hc
      subst hA
      subst hc
      have hx : xs = [] := List.eq_nil_of_length_eq_zero hl2
      subst hx
      simp [Builtin.append_, run_underlying ht, sizeOf, typeInfo, hi, Builtin.lenOf, Builtin.firstCells]
    · injection hv with hA hl2 hc
      subst hA
      subst hc
      simp [Builtin.append_, run_underlying ht, sizeOf, typeInfo, hi, Builtin.lenOf, Builtin.firstCells, hnc, storeCells]
  | some ad =>
    have hnews : ∀ j u, ys[j]? = some u → w.cell? (ad.add j) = some u := by
      intro j u hj
      obtain ⟨b, o, hA, hc⟩ := hr j u hj
      injection hA with hA
      subst hA
      cases j with
      | zero => simpa [Addr.add] using hc
      | succ j => simpa [Addr.add] using hc
    obtain ⟨v', w', hrun, h2, h3, _, h5⟩ := run_append_own_at (P := P) w base t ty e i z 1 bytes ht hi hz hsize hby hzs (by omega) (.slice A xs.length c) xs.length xs hown ad ys.length d ys (by omega) hnews h1
      (by unfold maxLen; omega) (Nat.le_trans (Nat.mul_le_mul_left _ hby2) (by omega)) hbase
    have hv : ∃ A' c', v' = .slice A' (xs ++ ys).length c' := by
      rcases h2.2 with ⟨rfl, hl⟩ | ⟨g, cap, cur, rfl, _⟩
      · exact ⟨none, 0, by rw [List.length_append, hl]⟩
      · exact ⟨_, cap, by rw [List.length_append]⟩
    obtain ⟨A', c', rfl⟩ := hv
    have hown' : Own w' base e A' c' (xs ++ ys) := by
      unfold Own
      have hl : xs.length + ys.length = (xs ++ ys).length := by rw [List.length_append]
      rw [hl] at h2
      exact h2
    have ob : ∀ {w0 : World} {A0 : Option Addr} {c0 : Nat} {l0 : List Value}, Own w0 base e A0 c0 l0 → ∀ g, (Value.slice A0 l0.length c0).ownBlock = some g ↔ A0 = some ⟨g, 0, none⟩ := by
      intro w0 A0 c0 l0 ho g
      rcases ho.2 with ⟨hn, _⟩ | ⟨g', cap, cur, hv, _⟩
      · injection hn with hn
        subst hn
        simp [Value.ownBlock]
      · injection hv with hv
        subst hv
        simp [Value.ownBlock]
    refine ⟨A', c', w', hrun, hown', (Chg.of_grown h3).weak fun g _ hg => (ob hown g).1 hg.symm, ?_⟩
    rcases h5 with h5 | h5
    · cases hA : (Value.slice A xs.length c).ownBlock with
      | none =>
        left
        rw [hA] at h5
        rcases hown'.2 with ⟨hn, _⟩ | ⟨g', cap, cur, hv, _⟩
        · injection hn with hn
          rcases hown.2 with ⟨hn2, _⟩ | ⟨g2, _, _, hv2, _⟩
          · injection hn2 with hn2
            rw [hn, hn2]
          · injection hv2 with hv2
            subst hv2
            simp [Value.ownBlock] at hA
        · injection hv with hv
          subst hv
          simp [Value.ownBlock] at h5
      | some g =>
        left
        rw [hA] at h5
        rw [(ob hown g).1 hA, (ob hown' g).1 h5]
    · exact .inr ((ob hown' _).1 h5)

theorem wpList_app {P : Program} {w : World} {ops : Array Oper} {rest : List Oper} {o : Oper} {a : Act} {Q : Exit → Act → World → Prop} (hgd : o.guard = none) (s x : Operand) (t : TypeId)
    (ho : o.op = .call { callee := .builtin .append, args := #[s, x], argTypes := #[t, t] })
    (base : Nat) (e : TypeId) (i : TypeInfo) (z : Value) (bytes : Nat) (ht : P.underlying t = some (.slice e)) (hi : P.info? e = some i) (hz : i.zero = some z)
    (hsize : i.size = 1) (hby : i.bytes = bytes) (hzs : z.cells.size = 1)
    (A : Option Addr) (n c : Nat) (xs : List Value) (hs : a.eval s = .slice A n c) (hn : xs.length = n) (hown : Own w base e A c xs)
    (C : Option Addr) (m d : Nat) (ys : List Value) (hx : a.eval x = .slice C m d) (hm : ys.length = m) (hr : Row w C ys) (h1 : ∀ u ∈ ys, u.oneCell' = true)
    (h63 : xs.length + ys.length ≤ 4294967296) (hby2 : bytes ≤ 16) (hbase : base ≤ w.heap.size)
    (h : ∀ A' c' w', Own w' base e A' c' (xs ++ ys) → Chg (fun g => A = some ⟨g, 0, none⟩) w w' → (A' = A ∨ A' = some ⟨w.heap.size, 0, none⟩) → wpList P ops Q rest (a.put o.dst (.slice A' (n + m) c')) w') :
    wpList P ops Q (o :: rest) a w := by
  subst hn
  subst hm
  refine wpList_plain hgd fun K hK => ?_
  obtain ⟨A', c', w', hr, h2, h3, h4⟩ := run_app (P := P) w base t o.type e i z bytes ht hi hz hsize hby hzs A c xs hown C d ys hr h1 h63 hby2 hbase
  rw [List.length_append] at hr
  unfold Oper.wp execOp
  simp only [ho, resolve, invoke, builtin, Sem.run_bind, Sem.run_pure, Result.andThen_ok, List.map_toArray, List.map_cons, List.map_nil, hs, hx, hr]
  exact hK _ _ (h A' c' w' h2 h3 h4)

/-- copy into a row of the call's own, from its head on -/
theorem wpList_cp {P : Program} {w : World} {ops : Array Oper} {rest : List Oper} {o : Oper} {a : Act} {Q : Exit → Act → World → Prop} (hgd : o.guard = none) (d s : Operand) (dT sT : TypeId)
    (ho : o.op = .call { callee := .builtin .copy, args := #[d, s], argTypes := #[dT, sT] }) (e : TypeId) (hu : P.underlying dT = some (.slice e)) (hsz : (P.info? e).map (·.size) = some 1)
    (base : Nat) (A : Option Addr) (n c c0 : Nat) (xs : List Value) (hd : a.eval d = .slice A n c0) (hn : xs.length = n) (hown : Own w base e A c xs)
    (C : Option Addr) (m d2 : Nat) (ys : List Value) (hs : a.eval s = .slice C m d2) (hm : ys.length = m) (hr : Row w C ys) (h1 : ∀ u ∈ ys, u.oneCell' = true)
    (h : ∀ w', Own w' base e A c (ys.take n ++ xs.drop m) → Chg (fun g => A = some ⟨g, 0, none⟩) w w' → wpList P ops Q rest (a.put o.dst (goInt (Nat.min m n))) w') :
    wpList P ops Q (o :: rest) a w := by
  by_cases h0 : Nat.min m n = 0
  · have hl : ys.take n ++ xs.drop m = xs := by
      have : m = 0 ∨ n = 0 := by
        have h0' : min m n = 0 := h0
        omega
      rcases this with h2 | h2
      · have hy : ys = [] := List.eq_nil_of_length_eq_zero (by omega)
        rw [hy, h2]
        simp
      · have hx : xs = [] := List.eq_nil_of_length_eq_zero (by omega)
        rw [hx, h2]
        simp
    refine wpList_copy_nothing hgd d s dT sT ho e hu hsz A C n c0 m d2 hd hs h0 ?_
    have := h w (by rw [hl]; exact hown) (Chg.refl _ _)
    rw [h0] at this
    exact this
  · have h0' : ¬ (m = 0 ∨ n = 0) := by
      intro h2
      apply h0
      show min m n = 0
      omega
    rcases hown.2 with ⟨_, hl⟩ | ⟨g, cap, cur, hv, hb, hg, hnc, hcm, hcs, htk⟩
    · omega
    · injection hv with hA hl hc
      subst hA
      subst hc
      obtain ⟨ad, rfl⟩ : ∃ ad, C = some ad := by
        obtain ⟨b, o, hA, _⟩ := hr.at_ (k := 0) (by omega)
        exact ⟨_, hA⟩
      have hsrc : ∀ j u, (ys.take n)[j]? = some u → w.cell? (ad.add j) = some u := by
        intro j u hj
        obtain ⟨b, o, hA, hcl⟩ := (hr.cut n) j u hj
        injection hA with hA
        subst hA
        cases j with
        | zero => simpa [Addr.add] using hcl
        | succ j => simpa [Addr.add] using hcl
      have hk : (ys.take n).length = Nat.min m n := by
        rw [List.length_take, hm]
        exact Nat.min_comm n m
      rw [Nat.mul_one] at htk hcs
      rw [hn] at htk hnc
      refine wpList_copy_own hgd d s dT sT ho e hu hsz g 0 n c0 ad m d2 hd hs cur e hg (ys.take n) hk hsrc ?_ (fun u hu => h1 u (List.mem_of_mem_take hu)) ?_
      · rw [Nat.zero_add, hk, hcs]
        exact Nat.le_trans (Nat.min_le_right _ _) hnc
      · rw [hk]
        refine h _ ?_ ?_
        · have hlen : (ys.take n ++ xs.drop m).length = n := by
            rw [List.length_append, hk, List.length_drop, hn]
            show min m n + (n - m) = n
            omega
          refine ⟨by rw [Nat.mul_one], .inr ⟨g, c, _, rfl, hb, setRow_heap w g _ _ e _ hg, by omega, hcm, ?_, ?_⟩⟩
          · have hcl : cur.toList.length = c := by rw [Array.length_toList, hcs]
            simp only [List.take_zero, List.nil_append, List.size_toArray, List.length_append, List.length_drop, hk, hcl, Nat.zero_add, Nat.mul_one]
            show min m n + (c - min m n) = c
            omega
          · rw [hlen, Nat.mul_one]
            simp only [List.take_zero, List.nil_append, Nat.zero_add]
            rw [List.take_append, List.take_of_length_le (by rw [hk]; exact Nat.min_le_right _ _)]
            congr 1
            rw [hk, ← htk, List.drop_take]
            rcases Nat.le_total m n with h2 | h2
            · have : Nat.min m n = m := Nat.min_eq_left h2
              rw [this]
            · have : Nat.min m n = n := Nat.min_eq_right h2
              have z : n - m = 0 := by omega
              rw [this, z]
              simp
        · exact ⟨rfl, rfl, rfl, by simp [World.setRow], fun i _ hn2 => setRow_other w g i _ (fun he => hn2 (by rw [he]))⟩

end Go.Proofs.Ytnlndkpjfgpodab.Ws
