/-

  Events (layer 46): how often a task's job went on behind others' steps: Preempts, with its map.
-/
import Derived.Test.YtnlndkpjfgpodabObsBest
import Derived.Maps.OwnIn
set_option linter.unusedVariables false
set_option linter.unusedSimpArgs false
namespace Go.Proofs.Ytnlndkpjfgpodab.Ob
open Go.ChangeShapes Go.WideShapes Go.ChangeAt Go.RowKit Ws
open Go.Shelf Rr Go.Maps
attribute [local go_sem] Oper.semAt_some

/-! ### plain -/
theorem snoc_ind {α : Type} {P : List α → Prop} (h0 : P []) (h1 : ∀ t x, P t → P (t ++ [x])) (l : List α) : P l := by
  have h : ∀ r : List α, P r.reverse := by
    intro r
    induction r with
    | nil => exact h0
    | cons x t ih => rw [List.reverse_cons]; exact h1 _ _ ih
  have := h l.reverse
  rwa [List.reverse_reverse] at this
/-- where the last step of job a of task i is, in a list of steps; -1: nowhere -/
def lastX (i a : Int) (l : List Ev) : Int := l.zipIdx.foldl (fun r p => if p.1.k = 5 ∧ p.1.s = i ∧ p.1.a = a then ((p.2 : Nat) : Int) else r) (-1)
theorem lastX_snoc (i a : Int) (l : List Ev) (x : Ev) : lastX i a (l ++ [x]) = if x.k = 5 ∧ x.s = i ∧ x.a = a then ((l.length : Nat) : Int) else lastX i a l := by
  unfold lastX
  rw [List.zipIdx_append, List.foldl_append]
  simp [List.zipIdx]
theorem lastX_bd (i a : Int) (l : List Ev) : -1 ≤ lastX i a l ∧ lastX i a l < l.length := by
  refine snoc_ind (P := fun l => -1 ≤ lastX i a l ∧ lastX i a l < l.length) ⟨by unfold lastX; simp, by unfold lastX; simp⟩ (fun t x ih => ?_) l
  rw [lastX_snoc, List.length_append, List.length_singleton]
  split <;> omega
/-- a step counts if the job's last one is not the step just ahead of it -/
def ppS (i : Int) (st : List Ev × Nat) (e : Ev) : List Ev × Nat := (st.1 ++ [e], st.2 + if (e.k = 5 ∧ e.s = i) ∧ 0 ≤ lastX i e.a st.1 ∧ lastX i e.a st.1 + 1 ≠ (st.1.length : Nat) then 1 else 0)
def ppN (i : Int) (l : List Ev) : Nat := (l.foldl (ppS i) ([], 0)).2
theorem pp_fst (i : Int) (l : List Ev) : (l.foldl (ppS i) ([], 0)).1 = l := by
  refine snoc_ind (P := fun l => (l.foldl (ppS i) ([], 0)).1 = l) rfl (fun t x ih => ?_) l
  rw [List.foldl_append, List.foldl_cons, List.foldl_nil]
  show (t.foldl (ppS i) ([], 0)).1 ++ [x] = t ++ [x]
  rw [ih]
theorem ppN_snoc (i : Int) (l : List Ev) (x : Ev) : ppN i (l ++ [x]) = ppN i l + if (x.k = 5 ∧ x.s = i) ∧ 0 ≤ lastX i x.a l ∧ lastX i x.a l + 1 ≠ (l.length : Nat) then 1 else 0 := by
  have h := pp_fst i l
  unfold ppN
  rw [List.foldl_append, List.foldl_cons, List.foldl_nil]
  generalize l.foldl (ppS i) ([], 0) = st at *
  obtain ⟨a, b⟩ := st
  simp only at h
  subst h
  rfl
theorem ppN_le (i : Int) (l : List Ev) : ppN i l ≤ l.length := by
  refine snoc_ind (P := fun l => ppN i l ≤ l.length) (Nat.le_refl _) (fun t x ih => ?_) l
  rw [ppN_snoc, List.length_append, List.length_singleton]
  split <;> omega
/-! ### the map -/
theorem int_law : Keyed Try.prog 3 := int_keyed (q := .i64) (by kernel_rfl)
/-- block B is a map of at most n entries that tells of each job its last step -/
def MapR (X : World) (B n : Nat) (f : Int → Int) : Prop := ∃ D : DataW Unit, X.ownsMap Try.prog 3 (plainElem Try.prog 3) B n D ∧
  ∀ a, Maps.has D (.int .i64 a) = decide (0 ≤ f a) ∧ (0 ≤ f a → ∀ z, D.atKey (.int .i64 a) z = .lit (.int .i64 (f a + 1)))
theorem MapR.kept {X Y : World} {B n : Nat} {f : Int → Int} {row : Option Nat} (h : MapR X B n f) (hg : X.grownBy Y row) (hne : some B ≠ row) : MapR Y B n f := by
  obtain ⟨D, h1, h2⟩ := h
  exact ⟨D, h1.kept hg hne, h2⟩
theorem MapR.made (X : World) : MapR (X.alloc (.map #[] 0)) X.heap.size 0 (fun _ => -1) :=
  ⟨.map [], World.ownsMap_made _ _ _ _, fun a => ⟨rfl, fun h => absurd h (by show ¬ (0 : Int) ≤ -1; omega)⟩⟩
theorem MapR.put {X : World} {B n : Nat} {f : Int → Int} {D : DataW Unit} {a v : Int} (h : X.ownsMap Try.prog 3 (plainElem Try.prog 3) B n (D.put (.int .i64 a) (.lit (.int .i64 (v + 1))))) (hD : IsMap D)
    (h2 : ∀ a, Maps.has D (.int .i64 a) = decide (0 ≤ f a) ∧ (0 ≤ f a → ∀ z, D.atKey (.int .i64 a) z = .lit (.int .i64 (f a + 1)))) (hv : 0 ≤ v) : MapR X B n (fun b => if b = a then v else f b) := by
  refine ⟨_, h, fun b => ?_⟩
  by_cases e : b = a
  · subst e
    refine ⟨?_, fun _ z => ?_⟩
    · show has _ _ = decide (0 ≤ if b = b then v else f b)
      rw [if_pos rfl, has_put_same hD (show WideAt.IsKeyLit (Lit.int .i64 b) from trivial), decide_eq_true hv]
    · show _ = DataW.lit (Lit.int .i64 ((if b = b then v else f b) + 1))
      rw [if_pos rfl]
      exact atKey_put_same hD (show WideAt.IsKeyLit (Lit.int .i64 b) from trivial) _ _
  · have hne : Lit.int .i64 b ≠ Lit.int .i64 a := fun h => by injection h with _ h; exact e h
    refine ⟨?_, ?_⟩
    · show has _ _ = decide (0 ≤ if b = a then v else f b)
      rw [if_neg e, has_put_other hne]
      exact (h2 b).1
    · show (0 ≤ if b = a then v else f b) → ∀ z, _ = DataW.lit (Lit.int .i64 ((if b = a then v else f b) + 1))
      rw [if_neg e]
      intro h0 z
      rw [atKey_put_other hne]
      exact (h2 b).2 h0 z
/-- what the loop keeps -/
structure PreI (w W0 : World) (q : Nat) (i : Int) (pre : List Ev) (W : World) : Prop where
  below : Below q w W
  size : W0.heap.size ≤ W.heap.size
  b0 : Blk W q 3 #[.int .i64 i]
  b1 : Blk W (q + 1) 3 #[.int .i64 ((ppN i pre : Nat) : Int)]
  b2 : Blk W (q + 2) 3 #[.int .i64 ((pre.length : Nat) : Int)]
  b4 : Blk W (q + 4) 116 #[.map (some (q + 3))]
  mp : MapR W (q + 3) pre.length (fun a => lastX i a pre)
theorem PreI.own {w W0 X Y : World} {q : Nat} {i : Int} {pre : List Ev} {row : Option Nat} (h : PreI w W0 q i pre X) (hw : w.heap.size ≤ q ∧ q ≤ w.heap.size) (h0 : q + 8 ≤ W0.heap.size) (hg : X.grownBy Y row) (hr : ∀ r, row = some r → W0.heap.size ≤ r ∧ ∃ o : Obj, X.heap[r]? = some o ∧ o.isCells = false) : PreI w W0 q i pre Y :=
  ⟨ownFrom_below (β := Unit) (n₀ := q) (B := W0.heap.size) (w₀ := w) (by omega) (by omega) () X Y row h.below hg hr, Nat.le_trans h.size hg.size, blk_kept h.b0 hg hr, blk_kept h.b1 hg hr, blk_kept h.b2 hg hr, blk_kept h.b4 hg hr, h.mp.kept hg (fun e => by have := (hr _ e.symm).1; omega)⟩
theorem PreI.same_ {w W0 X Y : World} {q : Nat} {i : Int} {pre : List Ev} (h : PreI w W0 q i pre X) (hw : (w.heap.size ≤ q ∧ q ≤ w.heap.size) ∧ q + 8 ≤ W0.heap.size) (hg : X.grownBy Y none) : PreI w W0 q i pre Y :=
  h.own hw.1 hw.2 hg (fun r e => by cases e)
theorem PreI.fin {w W0 W Wc Y : World} {q : Nat} {i : Int} {pre : List Ev} {x : Ev} {D : DataW Unit} (h : PreI w W0 q i pre W) (hw : w.heap.size ≤ q ∧ q ≤ w.heap.size) (h0 : q + 8 ≤ W0.heap.size) (hc : Chg (fun j => j = q + 1 ∨ j = q + 2) W Wc) (hbW : Below q w Wc)
    (b1 : Blk Wc (q + 1) 3 #[.int .i64 ((ppN i (pre ++ [x]) : Nat) : Int)]) (b2 : Blk Wc (q + 2) 3 #[.int .i64 (((pre ++ [x]).length : Nat) : Int)]) (hg : Wc.grownBy Y (some (q + 3)))
    (hD : IsMap D) (h2 : ∀ a, Maps.has D (.int .i64 a) = decide (0 ≤ lastX i a pre) ∧ (0 ≤ lastX i a pre → ∀ z, D.atKey (.int .i64 a) z = .lit (.int .i64 (lastX i a pre + 1))))
    (hk : x.k = 5 ∧ x.s = i) (hown : Y.ownsMap Try.prog 3 (plainElem Try.prog 3) (q + 3) (pre.length + 1) (D.put (.int .i64 x.a) (.lit (.int .i64 (((pre.length : Nat) : Int) + 1))))) : PreI w W0 q i (pre ++ [x]) Y := by
  have hne : ∀ {j : Nat}, j ≠ q + 3 → ∀ r, some (q + 3) = some r → j ≠ r := fun hj r e => by cases e; exact hj
  have kb : ∀ {j : Nat} {t : TypeId} {cs : Array Value}, Blk Wc j t cs → j ≠ q + 3 → Blk Y j t cs := fun hb hj => (hg.block _ hb.lt (fun e => hj (by cases e; rfl))).trans hb
  refine ⟨hbW.grown hg (by have := hbW.size; have := h.size; have := hc.size; omega) (fun j e => by cases e; omega), Nat.le_trans h.size (Nat.le_trans hc.size hg.size), kb (h.b0.chg hc (by omega)) (by omega), kb b1 (by omega), kb b2 (by omega), kb (h.b4.chg hc (by omega)) (by omega), ?_⟩
  have h3 := MapR.put (f := fun a => lastX i a pre) (v := ((pre.length : Nat) : Int)) hown hD h2 (by omega)
  have hl : (pre ++ [x]).length = pre.length + 1 := by rw [List.length_append, List.length_singleton]
  have hf : (fun a => lastX i a (pre ++ [x])) = fun b => if b = x.a then ((pre.length : Nat) : Int) else lastX i b pre := by
    funext b
    rw [lastX_snoc]
    by_cases e : b = x.a
    · rw [if_pos e, if_pos ⟨hk.1, hk.2, e.symm⟩]
    · rw [if_neg e, if_neg (fun h => e h.2.2.symm)]
  rw [hl, hf]
  exact h3
theorem PreI.off {w W0 W : World} {q : Nat} {i : Int} {pre : List Ev} {x : Ev} (h : PreI w W0 q i pre W) (hw : w.heap.size ≤ q) (hk : ¬ (x.k = 5 ∧ x.s = i)) : PreI w W0 q i (pre ++ [x]) (W.setCell ⟨q + 1 + 1, 0, none⟩ (.int .i64 (((pre.length : Nat) : Int) + 1))) := by
  have hc := ((Chg.refl (fun j => j = q + 2) W).set (p := ⟨q + 1 + 1, 0, none⟩) (.inl rfl) (Value.int .i64 (((pre.length : Nat) : Int) + 1)))
  have e1 : ppN i (pre ++ [x]) = ppN i pre := by rw [ppN_snoc, if_neg (fun h => hk h.1)]; rfl
  have e2 : (((pre ++ [x]).length : Nat) : Int) = ((pre.length : Nat) : Int) + 1 := by rw [List.length_append, List.length_singleton, Int.natCast_add]; rfl
  have e3 : (fun a => lastX i a (pre ++ [x])) = fun a => lastX i a pre := by
    funext a
    rw [lastX_snoc, if_neg (fun h => hk ⟨h.1, h.2.1⟩)]
  refine ⟨h.below.setCell (by simp only []; omega) _, Nat.le_trans h.size hc.size, h.b0.chg hc (by omega), by rw [e1]; exact h.b1.chg hc (by omega), by rw [e2]; exact h.b2.put 0 _, h.b4.chg hc (by omega), ?_⟩
  rw [e3]
  obtain ⟨D, h1, h2⟩ := h.mp
  exact ⟨D, (h1.setCell (a := ⟨q + 1 + 1, 0, none⟩) (by simp only []; omega) _).mono (by rw [List.length_append, List.length_singleton]; omega), h2⟩
set_option maxRecDepth 100000 in
set_option maxHeartbeats 2000000 in
theorem pre_in (n : Nat) (hn1 : 6 ≤ n) (A : Option Addr) (m c : Nat) (evs : List Ev) (i : Int) (w : World) (hl : evs.length = m) (hm : m ≤ 300) (hE : Evs w A evs) :
    CallsIn Fence.wide n Try.prog 31 #[.slice A m c, .int .i64 i] w fun e w' => e = .returned (.int .i64 ((ppN i (kindsL [5, 6] evs) : Nat) : Int)) ∧ Below w.heap.size w w' := by
  have h1 : 1 ≤ n := by omega
  have hro : Fence.wide.round = none := rfl
  refine callsIn_of_wp_marks Try.func31 rfl trivial ?_ hro
  simp only [Try.ntmps31, List.size_toArray, List.length_cons, List.length_nil, Nat.reduceAdd, Nat.reduceSub, Array.replicate_succ, Array.replicate_zero, List.push_toArray, List.append_toArray, List.nil_append, List.cons_append]
  have KA := fun C n' d' W => kinds_any A m c C n' d' W
  have hmm := @run_makeMap Try.prog
  have HL := Lib.hid hl
  have HE := Lib.hid hE
  clear hl hE
  gi_wp2_with (refine ⟨trivial, ?_⟩; gi_at_call 70; refine (callsIn_wide.2 (KA _ _ _ _)).mono ?_; rintro e w' ⟨rfl, rfl⟩)
  obtain ⟨W0, hW0⟩ : ∃ W0, W0 = ((((((((w.alloc (.cells #[.int .i64 i] 3)).alloc (.cells #[.int .i64 0] 3)).alloc (.cells #[.int .i64 0] 3)).alloc (.map #[] 0)).alloc (.cells #[.map (some (w.heap.size + 1 + 1 + 1))] 116)).alloc (.cells #[.int .i64 5, .int .i64 6] 3)).alloc (.cells #[.slice A m c] 72)).alloc (.cells #[.slice (some ⟨w.heap.size + 1 + 1 + 1 + 1 + 1, 0, none⟩) 2 2] 24)) := ⟨_, rfl⟩
  rw [← hW0]
  obtain ⟨q, hq⟩ : ∃ q, q = w.heap.size := ⟨_, rfl⟩
  have hz : W0.heap.size = q + 8 := by rw [hW0, hq]; simp only [World.size_alloc]
  have hB0 : Below w.heap.size w W0 := by
    rw [hW0]
    exact ((((((((Below.refl _ w).alloc (Nat.le_refl _) _).alloc (by simp only [World.size_alloc]; omega) _).alloc (by simp only [World.size_alloc]; omega) _).alloc (by simp only [World.size_alloc]; omega) _).alloc (by simp only [World.size_alloc]; omega) _).alloc (by simp only [World.size_alloc]; omega) _).alloc (by simp only [World.size_alloc]; omega) _).alloc (by simp only [World.size_alloc]; omega) _
  obtain ⟨w1, hw1⟩ : ∃ w1, w1 = w.alloc (.cells #[.int .i64 i] 3) := ⟨_, rfl⟩
  obtain ⟨w2, hw2⟩ : ∃ w2, w2 = w1.alloc (.cells #[.int .i64 0] 3) := ⟨_, rfl⟩
  obtain ⟨w3, hw3⟩ : ∃ w3, w3 = w2.alloc (.cells #[.int .i64 0] 3) := ⟨_, rfl⟩
  obtain ⟨w4, hw4⟩ : ∃ w4, w4 = w3.alloc (.map #[] 0) := ⟨_, rfl⟩
  obtain ⟨w5, hw5⟩ : ∃ w5, w5 = w4.alloc (.cells #[.map (some (w.heap.size + 1 + 1 + 1))] 116) := ⟨_, rfl⟩
  obtain ⟨w6, hw6⟩ : ∃ w6, w6 = w5.alloc (.cells #[.int .i64 5, .int .i64 6] 3) := ⟨_, rfl⟩
  obtain ⟨w7, hw7⟩ : ∃ w7, w7 = w6.alloc (.cells #[.slice A m c] 72) := ⟨_, rfl⟩
  have z1 : w1.heap.size = q + 1 := by rw [hw1, World.size_alloc, hq]
  have z2 : w2.heap.size = q + 2 := by rw [hw2, World.size_alloc, z1]
  have z3 : w3.heap.size = q + 3 := by rw [hw3, World.size_alloc, z2]
  have z4 : w4.heap.size = q + 4 := by rw [hw4, World.size_alloc, z3]
  have z5 : w5.heap.size = q + 5 := by rw [hw5, World.size_alloc, z4]
  have z6 : w6.heap.size = q + 6 := by rw [hw6, World.size_alloc, z5]
  have z7 : w7.heap.size = q + 7 := by rw [hw7, World.size_alloc, z6]
  have hW7 : W0 = w7.alloc (.cells #[.slice (some ⟨w.heap.size + 1 + 1 + 1 + 1 + 1, 0, none⟩) 2 2] 24) := by rw [hW0, hw7, hw6, hw5, hw4, hw3, hw2, hw1]
  have s7 : Same w7 W0 := by rw [hW7]; exact (Same.refl _).alloc _
  have s6 : Same w6 W0 := Same.trans (by rw [hw7]; exact (Same.refl _).alloc _) s7
  have s5 : Same w5 W0 := Same.trans (by rw [hw6]; exact (Same.refl _).alloc _) s6
  have s4 : Same w4 W0 := Same.trans (by rw [hw5]; exact (Same.refl _).alloc _) s5
  have s3 : Same w3 W0 := Same.trans (by rw [hw4]; exact (Same.refl _).alloc _) s4
  have s2 : Same w2 W0 := Same.trans (by rw [hw3]; exact (Same.refl _).alloc _) s3
  have s1 : Same w1 W0 := Same.trans (by rw [hw2]; exact (Same.refl _).alloc _) s2
  have b0 : Blk W0 q 3 #[.int .i64 i] := by have h := Blk.new w 3 #[.int .i64 i]; rw [← hw1, ← hq] at h; exact h.same s1
  have b1 : Blk W0 (q + 1) 3 #[.int .i64 0] := by have h := Blk.new w1 3 #[.int .i64 0]; rw [← hw2, z1] at h; exact h.same s2
  have b2 : Blk W0 (q + 2) 3 #[.int .i64 0] := by have h := Blk.new w2 3 #[.int .i64 0]; rw [← hw3, z2] at h; exact h.same s3
  have hM0 : MapR W0 (q + 3) 0 (fun _ => -1) := by have h := MapR.made w3; rw [← hw4, z3] at h; exact h.kept (row := none) (grown_of_same s4) (by simp)
  have b4 : Blk W0 (q + 4) 116 #[.map (some (q + 3))] := by have h := Blk.new w4 116 #[.map (some (w.heap.size + 1 + 1 + 1))]; rw [← hw5, z4, ← hq] at h; exact h.same s5
  have b5 : Blk W0 (q + 5) 3 #[.int .i64 5, .int .i64 6] := by have h := Blk.new w5 3 #[.int .i64 5, .int .i64 6]; rw [← hw6, z5] at h; exact h.same s6
  have b6 : Blk W0 (q + 6) 72 #[.slice A m c] := by have h := Blk.new w6 72 #[.slice A m c]; rw [← hw7, z6] at h; exact h.same s7
  have b7 : Blk W0 (q + 7) 24 #[.slice (some ⟨q + 5, 0, none⟩) 2 2] := by have h := Blk.new w7 24 #[.slice (some ⟨w.heap.size + 1 + 1 + 1 + 1 + 1, 0, none⟩) 2 2]; rw [← hW7, z7, ← hq] at h; exact h
  clear hW0 hw1 hw2 hw3 hw4 hw5 hw6 hw7 hW7 s1 s2 s3 s4 s5 s6 s7 z1 z2 z3 z4 z5 z6 z7
  have hE0 : Evs W0 A evs := HE.out.same (Same.of_below hB0)
  have hK0 : Row W0 (some ⟨q + 5, 0, none⟩) ([5, 6].map (Value.int .i64)) := by
    intro j u hj
    match j, hj with
    | 0, hj => cases hj; exact ⟨_, _, rfl, b5.cell 0⟩
    | 1, hj => cases hj; exact ⟨_, _, rfl, b5.cell 1⟩
  have KS := kinds_seq (n - 1) (by omega) (q + 6) (q + 7) A m c evs (some ⟨q + 5, 0, none⟩) 2 2 [5, 6] (fun j => j = q + 1 ∨ j = q + 2) W0 HL.out (by omega) rfl (by omega) hE0 hK0 (b6.cell 0) (b7.cell 0)
    (fun b o e hne => by have := HE.out.lt b o e hne; omega) (fun b o e => by cases e; omega) (by omega)
  rw [← hq]
  have HQ := Lib.hid hq
  have hq1 : w.heap.size ≤ q := by omega
  have hq2 : q ≤ w.heap.size := by omega
  have hz1 : W0.heap.size ≤ q + 8 := by omega
  have hz2 : q + 8 ≤ W0.heap.size := by omega
  clear hq hz b5 b6 b7 hE0 hK0 hmm
  have hf0 : (fun a => lastX i a []) = fun _ => (-1 : Int) := by funext a; unfold lastX; simp
  refine Rr.range_ob (n := n) h1 (gf := 104) (lb := #[.pointer (some ⟨q + 6, 0, none⟩), .pointer (some ⟨q + 7, 0, none⟩)]) rfl (enters_of Try.func104 (by kernel_rfl) rfl) KS (fun h k => h.trans k) (fun W l o o' h1 h2 => Kc.put W l o o' h1 h2) (fun _ => rfl)
    (fun pre W => PreI w W0 q i pre W)
    (fun cd pre W => False)
    (fun (x : Ev) b => { tmps := #[Value.slice A m c, Value.int IntKind.i64 i, undef, Value.pointer (some ⟨q, 0, none⟩),
          Value.int IntKind.i64 0, Value.pointer (some ⟨q + 1, 0, none⟩), Value.pointer (some ⟨q + 1 + 1, 0, none⟩), Value.pointer (some ⟨q + 1 + 1 + 1 + 1, 0, none⟩), Value.pointer (some ⟨b, 0, none⟩), undef, undef,
          Value.map (some (q + 1 + 1 + 1)), Value.slice A m c, Value.slice (some ⟨q + 1 + 1 + 1 + 1 + 1, 0, none⟩) 2 2,
          Value.func (Fn.func 104) #[]
            #[Value.pointer (some ⟨q + 1 + 1 + 1 + 1 + 1 + 1, 0, none⟩),
              Value.pointer (some ⟨q + 1 + 1 + 1 + 1 + 1 + 1 + 1, 0, none⟩)],
          Value.agg (evC x), undef, undef, undef, undef, undef, undef, undef, undef, undef, undef, undef, undef, undef, undef, undef, undef, undef, undef, undef, undef, undef, undef, undef, undef, undef, undef, undef, undef, undef, undef, undef, undef], defers := [] })
    (fun (e : List Ev × Ev × Nat) W => PreI w W0 q i e.1 W ∧ W0.heap.size ≤ e.2.2 ∧ Blk W e.2.2 74 (evC e.2.1))
    (fun e X Y row hs hg hr => hs.own ⟨by omega, by omega⟩ (by omega) hg hr)
    (fun cd e X Y row hs hg hr => hs)
    (fun e X Y row hs hg hr => ⟨hs.1.own ⟨by omega, by omega⟩ (by omega) hg hr, hs.2.1, blk_kept hs.2.2 hg hr⟩)
    ⟨HQ.out ▸ hB0, Nat.le_refl _, b0, b1, b2, b4, by rw [hf0]; exact hM0⟩ ?assign ?body ?done ?stop
  case assign =>
    rintro l pre x W hI hlt K hK
    have HK := Lib.hid hK
    clear hK
    unfold evC
    gi_wp2
    refine HK.out _ _ ((KeepsOthers.alloc W _).from _) ((Kc.refl _ W).alloc _) ⟨hI.same_ ⟨⟨by omega, by omega⟩, by omega⟩ (grown_of_same ((Same.refl _).alloc _)), hI.size, Blk.new W _ _⟩
  case body =>
    rintro l pre x b W ⟨hI, hbz, hB⟩ hlt
    replace hbz : W0.heap.size ≤ b := hbz
    replace hI : PreI w W0 q i pre W := hI
    have d1 : W.cell? ⟨b, 1, none⟩ = some (.int .i64 x.k) := hB.cell 1
    have d2 : W.cell? ⟨b, 2, none⟩ = some (.int .i64 x.s) := hB.cell 2
    have d3 : W.cell? ⟨b, 3, none⟩ = some (.int .i64 x.a) := hB.cell 3
    have c0 : W.cell? ⟨q, 0, none⟩ = some (.int .i64 i) := hI.b0.cell 0
    have c1 : W.cell? ⟨q + 1, 0, none⟩ = some (.int .i64 ((ppN i pre : Nat) : Int)) := hI.b1.cell 0
    have f1 : W.frozen? ⟨q + 1, 0, none⟩ = false := hI.b1.thaw 0
    have c2 : W.cell? ⟨q + 1 + 1, 0, none⟩ = some (.int .i64 ((pre.length : Nat) : Int)) := hI.b2.cell 0
    have f2 : W.frozen? ⟨q + 1 + 1, 0, none⟩ = false := hI.b2.thaw 0
    have c4 : W.cell? ⟨q + 1 + 1 + 1 + 1, 0, none⟩ = some (.map (some (q + 3))) := hI.b4.cell 0
    have hlen : pre.length + 1 ≤ 300 := by
      have e4 := hlt.length_le
      rw [List.length_append, List.length_singleton] at e4
      have e2 := kinds_len [5, 6] evs
      have e3 := HL.out
      omega
    have hple := ppN_le i pre
    have hwf : (Lit.int .i64 x.a).wf = true := by
      have hx : x ∈ kindsL [5, 6] evs := hlt.subset (List.mem_append_right _ (List.mem_singleton.2 rfl))
      have hx2 : x ∈ evs := (List.mem_filter.1 hx).1
      obtain ⟨k, hk, e⟩ := List.getElem_of_mem hx2
      exact (HE.out k x (by rw [List.getElem?_eq_getElem hk, e])).1
    have HKEY := Lib.hid (keyOf_int_mk (P := Try.prog) (k := 3) (by kernel_rfl) hwf)
    have hPS := Lib.hid (ppN_snoc i pre x)
    have HI := Lib.hid hI
    have HBZ := Lib.hid hbz
    have hof := Lib.hid (fun hk : ¬ (x.k = 5 ∧ x.s = i) => hI.off hq1 hk)
    have hL := lastX_bd i x.a pre
    have hle2 : (pre.length : Int) ≤ 299 := by omega
    have hle3 : ((ppN i pre : Nat) : Int) ≤ 299 := by omega
    have hpl : pre.length ≤ 299 := by omega
    clear hI hbz hB hlt hwf hlen hple
    obtain ⟨v, hv⟩ : ∃ v, v = ((pre.length : Nat) : Int) := ⟨_, rfl⟩
    obtain ⟨u, hu⟩ : ∃ u, u = ((ppN i pre : Nat) : Int) := ⟨_, rfl⟩
    have hv0 : 0 ≤ v := by omega
    have hu0 : 0 ≤ u := by omega
    rw [← hv] at c2 hof hle2 hL
    rw [← hu] at c1 hle3
    have HV := Lib.hid hv
    have HU := Lib.hid hu
    clear hv hu
    have hkeep : ∀ (p : Addr) (z : Value), W.cell? p = some z → p.block ≠ q + 2 → (W.setCell ⟨q + 1 + 1, 0, none⟩ (.int .i64 (v + 1))).cell? p = some z := fun p z hp hn => (World.cell?_setCell_far _ _ _ _ (by simp only []; omega)).trans hp
    have g1 := hkeep _ _ d1 (by have := HBZ.out; simp only []; omega)
    have g2 := hkeep _ _ d2 (by have := HBZ.out; simp only []; omega)
    have g3 := hkeep _ _ d3 (by have := HBZ.out; simp only []; omega)
    have g0 := hkeep _ _ c0 (by simp only []; omega)
    have gn := hkeep _ _ c1 (by simp only []; omega)
    have g4 := hkeep _ _ c4 (by simp only []; omega)
    have gw : (W.setCell ⟨q + 1 + 1, 0, none⟩ (.int .i64 (v + 1))).cell? ⟨q + 1 + 1, 0, none⟩ = some (.int .i64 (v + 1)) := (HI.out.b2.put 0 (Value.int .i64 (v + 1))).cell 0
    have gf : (W.setCell ⟨q + 1 + 1, 0, none⟩ (.int .i64 (v + 1))).frozen? ⟨q + 1, 0, none⟩ = false := by rw [World.frozen?_setCell]; exact f1
    clear hkeep d1 d2 d3 c0 c1 c4
    by_cases hk : x.k = 5
    · have ek : (x.k != 5) = false := by simpa using hk
      by_cases hs : x.s = i
      · have es : (x.s != i) = false := by simpa using hs
        obtain ⟨D, hown, hD⟩ := HI.out.mp
        have HO1 := Lib.hid (hown.setCell (a := ⟨q + 1 + 1, 0, none⟩) (by simp only []; omega) (Value.int .i64 (v + 1)))
        have HO2 := Lib.hid (HO1.out.setCell (a := ⟨q + 1, 0, none⟩) (by simp only []; omega) (Value.int .i64 (u + 1)))
        have HIM := Lib.hid hown.isMap
        have hh : Maps.has D (.int .i64 x.a) = decide (0 ≤ lastX i x.a pre) := (hD x.a).1
        have HD := Lib.hid hD
        have HKS := Lib.hid (And.intro hk hs)
        clear hown hD
        obtain ⟨L, hLv⟩ : ∃ L, L = lastX i x.a pre := ⟨_, rfl⟩
        rw [← hLv] at hh hPS hL
        have HA := Lib.hid (fun (h : 0 ≤ L) (c : Int) (hc : D.atKey (Lit.int .i64 x.a) (DataW.lit (Lit.int .i64 0)) = DataW.lit (Lit.int .i64 c)) => (show c = L + 1 from by
          have h1 : D.atKey (Lit.int .i64 x.a) (DataW.lit (Lit.int .i64 0)) = .lit (.int .i64 (lastX i x.a pre + 1)) := (HD.out x.a).2 (by rw [hLv] at h; exact h) (DataW.lit (Lit.int .i64 0))
          rw [hc, ← hLv] at h1
          injection h1 with h1
          injection h1 with _ h1))
        clear hLv
        by_cases h0 : 0 ≤ L
        · rw [decide_eq_true h0] at hh
          by_cases hne : L + 1 = v
          · gi_wp2_with (first | (gi_at_lookup; refine wpListIn_lookup_own_ok_int _ rfl _ _ 116 rfl 3 3 .i64 int_law (by kernel_rfl) (by kernel_rfl) (by kernel_rfl) (q + 3) pre.length D rfl HO1.out _ _ rfl HKEY.out ?_; intro c hat hwc; have hc := HA.out h0 c hat; clear hat hwc) | (gi_at_mapUpdate; refine wpListIn_mapUpdate_own _ rfl _ _ _ 116 rfl 3 3 int_law (by kernel_rfl) _ (q + 3) pre.length D rfl HO1.out (by unfold maxLen; omega) _ _ _ rfl rfl HKEY.out _ [] (plainElem_int (by kernel_rfl) (WalkArith.wf_i64 (by omega))) ?_; intro w1 hown1 hgrow1))
            have eN : ppN i (pre ++ [x]) = ppN i pre := by rw [hPS.out, if_neg (fun h => h.2.2 (by rw [← HV.out]; exact hne))]; rfl
            obtain ⟨es, clock, hbm, _⟩ := HO1.out
            have hc2 := ((Chg.refl (fun j => j = q + 1 ∨ j = q + 2) W).set (p := ⟨q + 1 + 1, 0, none⟩) (.inl (.inr rfl)) (Value.int .i64 (v + 1)))
            have eL : (((pre ++ [x]).length : Nat) : Int) = v + 1 := by rw [List.length_append, List.length_singleton, Int.natCast_add, HV.out]; rfl
            rw [HV.out] at hown1
            exact ⟨((KeepsOthers.setCell _ _ _).from _).trans (KeepsFrom.of_grownBy hgrow1 (fun j e => by cases e; omega)), (Kc.set W (q + 2) _ (.inr rfl)).trans (Kc.grown hgrow1 (fun r e => by cases e; exact .inr ⟨_, hbm, rfl⟩)),
              HI.out.fin ⟨by omega, by omega⟩ (by omega) hc2 (HI.out.below.setCell (by simp only []; omega) _) (by rw [eN]; exact HI.out.b1.chg ((Chg.refl (fun j => j = q + 2) W).set (p := ⟨q + 1 + 1, 0, none⟩) (.inl rfl) _) (by omega)) (by rw [eL]; exact HI.out.b2.put 0 _) hgrow1 HIM.out HD.out HKS.out hown1⟩
          · gi_wp2_with (first | (gi_at_lookup; refine wpListIn_lookup_own_ok_int _ rfl _ _ 116 rfl 3 3 .i64 int_law (by kernel_rfl) (by kernel_rfl) (by kernel_rfl) (q + 3) pre.length D rfl HO1.out _ _ rfl HKEY.out ?_; intro c hat hwc; have hc := HA.out h0 c hat; clear hat hwc) | (gi_at_mapUpdate; refine wpListIn_mapUpdate_own _ rfl _ _ _ 116 rfl 3 3 int_law (by kernel_rfl) _ (q + 3) pre.length D rfl HO2.out (by unfold maxLen; omega) _ _ _ rfl rfl HKEY.out _ [] (plainElem_int (by kernel_rfl) (WalkArith.wf_i64 (by omega))) ?_; intro w1 hown1 hgrow1))
            have eN : ((ppN i (pre ++ [x]) : Nat) : Int) = u + 1 := by rw [hPS.out, if_pos ⟨HKS.out, h0, by rw [← HV.out]; exact hne⟩, Int.natCast_add, HU.out]; rfl
            obtain ⟨es, clock, hbm, _⟩ := HO2.out
            have hc2 := ((Chg.refl (fun j => j = q + 1 ∨ j = q + 2) W).set (p := ⟨q + 1 + 1, 0, none⟩) (.inl (.inr rfl)) (Value.int .i64 (v + 1))).set (p := ⟨q + 1, 0, none⟩) (.inl (.inl rfl)) (Value.int .i64 (u + 1))
            have eL : (((pre ++ [x]).length : Nat) : Int) = v + 1 := by rw [List.length_append, List.length_singleton, Int.natCast_add, HV.out]; rfl
            rw [HV.out] at hown1
            exact ⟨(((KeepsOthers.setCell _ _ _).trans (KeepsOthers.setCell _ _ _)).from _).trans (KeepsFrom.of_grownBy hgrow1 (fun j e => by cases e; omega)), ((Kc.set W (q + 2) _ (.inr rfl)).trans (Kc.set _ (q + 1) _ (.inl rfl))).trans (Kc.grown hgrow1 (fun r e => by cases e; exact .inr ⟨_, hbm, rfl⟩)),
              HI.out.fin ⟨by omega, by omega⟩ (by omega) hc2 ((HI.out.below.setCell (by simp only []; omega) _).setCell (by simp only []; omega) _) (by rw [eN]; exact (HI.out.b1.chg ((Chg.refl (fun j => j = q + 2) W).set (p := ⟨q + 1 + 1, 0, none⟩) (.inl rfl) _) (by omega)).put 0 _) (by rw [eL]; exact (HI.out.b2.put 0 _).chg ((Chg.refl (fun j => j = q + 1) _).set (p := ⟨q + 1, 0, none⟩) (.inl rfl) _) (by omega)) hgrow1 HIM.out HD.out HKS.out hown1⟩
        · rw [decide_eq_false h0] at hh
          gi_wp2_with (first | (gi_at_lookup; refine wpListIn_lookup_own_ok_int _ rfl _ _ 116 rfl 3 3 .i64 int_law (by kernel_rfl) (by kernel_rfl) (by kernel_rfl) (q + 3) pre.length D rfl HO1.out _ _ rfl HKEY.out ?_; intro c hat hwc) | (gi_at_mapUpdate; refine wpListIn_mapUpdate_own _ rfl _ _ _ 116 rfl 3 3 int_law (by kernel_rfl) _ (q + 3) pre.length D rfl HO1.out (by unfold maxLen; omega) _ _ _ rfl rfl HKEY.out _ [] (plainElem_int (by kernel_rfl) (WalkArith.wf_i64 (by omega))) ?_; intro w1 hown1 hgrow1))
          have eN : ppN i (pre ++ [x]) = ppN i pre := by rw [hPS.out, if_neg (fun h => by have h9 := h.2.1; omega)]; rfl
          obtain ⟨es, clock, hbm, _⟩ := HO1.out
          have hc2 := ((Chg.refl (fun j => j = q + 1 ∨ j = q + 2) W).set (p := ⟨q + 1 + 1, 0, none⟩) (.inl (.inr rfl)) (Value.int .i64 (v + 1)))
          have eL : (((pre ++ [x]).length : Nat) : Int) = v + 1 := by rw [List.length_append, List.length_singleton, Int.natCast_add, HV.out]; rfl
          rw [HV.out] at hown1
          exact ⟨((KeepsOthers.setCell _ _ _).from _).trans (KeepsFrom.of_grownBy hgrow1 (fun j e => by cases e; omega)), (Kc.set W (q + 2) _ (.inr rfl)).trans (Kc.grown hgrow1 (fun r e => by cases e; exact .inr ⟨_, hbm, rfl⟩)),
            HI.out.fin ⟨by omega, by omega⟩ (by omega) hc2 (HI.out.below.setCell (by simp only []; omega) _) (by rw [eN]; exact HI.out.b1.chg ((Chg.refl (fun j => j = q + 2) W).set (p := ⟨q + 1 + 1, 0, none⟩) (.inl rfl) _) (by omega)) (by rw [eL]; exact HI.out.b2.put 0 _) hgrow1 HIM.out HD.out HKS.out hown1⟩
      · have es : (x.s != i) = true := by simpa using hs
        have HN := Lib.hid (show ¬ (x.k = 5 ∧ x.s = i) from fun h => hs h.2)
        gi_wp2
        exact ⟨(KeepsOthers.setCell _ _ _).from _, Kc.set W (q + 2) _ (.inr rfl), hof.out HN.out⟩
    · have ek : (x.k != 5) = true := by simpa using hk
      have HN := Lib.hid (show ¬ (x.k = 5 ∧ x.s = i) from fun h => hk h.1)
      gi_wp2
      exact ⟨(KeepsOthers.setCell _ _ _).from _, Kc.set W (q + 2) _ (.inr rfl), hof.out HN.out⟩
  case done =>
    rintro D xs W hD hxs hI hK
    subst hxs
    have c4 : W.cell? ⟨q + 1, 0, none⟩ = some (.int .i64 ((ppN i (kindsL [5, 6] evs) : Nat) : Int)) := hI.b1.cell 0
    gi_wp2
    refine ⟨by simp, .inl ⟨_, _, rfl, run_takeDeferred hK, ?_⟩⟩
    exact ⟨_, results_tmp rfl _ _ _, rfl, HQ.out ▸ (hI.below.trans (belowK_b (w := W0) (n₀ := q) (by omega) W D _ _ (by omega) hK rfl rfl))⟩
  case stop =>
    intro D cd pre W hD hp h
    exact h.elim
theorem pre_any (A : Option Addr) (m c : Nat) (evs : List Ev) (i : Int) (w : World) (hl : evs.length = m) (hm : m ≤ 300) (hE : Evs w A evs) :
    Calls Try.prog 31 #[.slice A m c, .int .i64 i] w fun e w' => e = .returned (.int .i64 ((ppN i (kindsL [5, 6] evs) : Nat) : Int)) ∧ Same w w' :=
  (callsIn_wide.1 (pre_in 6 (by omega) A m c evs i w hl hm hE)).mono fun e w' ⟨h1, h2⟩ => ⟨h1, Same.of_below h2⟩
end Go.Proofs.Ytnlndkpjfgpodab.Ob
