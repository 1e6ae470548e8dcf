/-

  Events (layer 46): who ranges over the iterator of kinds: Busy, Idle.
-/
import Derived.Test.YtnlndkpjfgpodabObsKinds
set_option linter.unusedVariables false
set_option linter.unusedSimpArgs false
namespace Go.Proofs.Ytnlndkpjfgpodab.Ob
open Go.ChangeShapes Go.WideShapes Go.ChangeAt Go.RowKit Ws
open Go.Shelf Rr
attribute [local go_sem] Oper.semAt_some

theorem blk_kept {B q : Nat} {t : TypeId} {cs : Array Value} {X Y : World} {row : Option Nat} (h : Blk X q t cs) (hg : X.grownBy Y row) (hr : ∀ r, row = some r → B ≤ r ∧ ∃ o : Obj, X.heap[r]? = some o ∧ o.isCells = false) : Blk Y q t cs :=
  (hg.block q h.lt (fun e => by
    obtain ⟨_, o, ho, hc⟩ := hr _ e.symm
    unfold Blk at h
    rw [h] at ho
    cases ho
    cases hc)).trans h
/-- how many events are of task i -/
def cntS (i : Int) (l : List Ev) : Nat := (l.filter fun e => decide (e.s = i)).length
theorem cntS_snoc (i : Int) (l : List Ev) (x : Ev) : cntS i (l ++ [x]) = cntS i l + if x.s = i then 1 else 0 := by
  unfold cntS
  rw [List.filter_append, List.length_append]
  by_cases h : x.s = i
  · rw [if_pos h, List.filter_cons, decide_eq_true h]; rfl
  · rw [if_neg h, List.filter_cons, decide_eq_false h]; rfl
theorem cntS_le (i : Int) (l : List Ev) : cntS i l ≤ l.length := List.length_filter_le _ _
set_option maxRecDepth 100000 in
set_option maxHeartbeats 2000000 in
theorem busy_in (n : Nat) (hn1 : 6 ≤ n) (A : Option Addr) (m c : Nat) (evs : List Ev) (i : Int) (w : World) (hl : evs.length = m) (hm : m ≤ 300) (hE : Evs w A evs) :
    CallsIn Fence.wide n Try.prog 29 #[.slice A m c, .int .i64 i] w fun e w' => e = .returned (.int .i64 ((cntS i (kindsL [5] evs) : Nat) : Int)) ∧ Below w.heap.size w w' := by
  have h1 : 1 ≤ n := by omega
  have hro : Fence.wide.round = none := rfl
  refine callsIn_of_wp_marks Try.func29 rfl trivial ?_ hro
  simp only [Try.ntmps29, List.size_toArray, List.length_cons, List.length_nil, Nat.reduceAdd, Nat.reduceSub, Array.replicate_succ, Array.replicate_zero, List.push_toArray, List.append_toArray, List.nil_append, List.cons_append]
  have KA := fun C n' d' W => kinds_any A m c C n' d' W
  have HL := Lib.hid hl
  have HE := Lib.hid hE
  clear hl hE
  gi_wp2_with (refine ⟨trivial, ?_⟩; gi_at_call 70; refine (callsIn_wide.2 (KA _ _ _ _)).mono ?_; rintro e w' ⟨rfl, rfl⟩)
  obtain ⟨W0, hW0⟩ : ∃ W0, W0 = (((((w.alloc (.cells #[.int .i64 i] 3)).alloc (.cells #[.int .i64 0] 3)).alloc (.cells #[.int .i64 5] 3)).alloc (.cells #[.slice A m c] 72)).alloc (.cells #[.slice (some ⟨w.heap.size + 1 + 1, 0, none⟩) 1 1] 24)) := ⟨_, rfl⟩
  rw [← hW0]
  obtain ⟨q, hq⟩ : ∃ q, q = w.heap.size := ⟨_, rfl⟩
  have hz : W0.heap.size = q + 5 := by rw [hW0, hq]; simp only [World.size_alloc]
  have hB0 : Below w.heap.size w W0 := by
    rw [hW0]
    exact (((((Below.refl _ w).alloc (Nat.le_refl _) _).alloc (by simp only [World.size_alloc]; omega) _).alloc (by simp only [World.size_alloc]; omega) _).alloc (by simp only [World.size_alloc]; omega) _).alloc (by simp only [World.size_alloc]; omega) _
  have b0 : Blk W0 q 3 #[.int .i64 i] := by
    rw [hW0, hq]
    exact (Blk.new w _ _).same (((((Same.refl _).alloc _).alloc _).alloc _).alloc _)
  have b1 : Blk W0 (q + 1) 3 #[.int .i64 0] := by
    rw [hW0, hq]
    have h := Blk.new (w.alloc (.cells #[.int .i64 i] 3)) 3 #[.int .i64 0]
    rw [World.size_alloc] at h
    exact h.same ((((Same.refl _).alloc _).alloc _).alloc _)
  have b2 : Blk W0 (q + 2) 3 #[.int .i64 5] := by
    rw [hW0, hq]
    have h := Blk.new ((w.alloc (.cells #[.int .i64 i] 3)).alloc (.cells #[.int .i64 0] 3)) 3 #[.int .i64 5]
    rw [World.size_alloc, World.size_alloc] at h
    exact h.same (((Same.refl _).alloc _).alloc _)
  have b3 : Blk W0 (q + 3) 72 #[.slice A m c] := by
    rw [hW0, hq]
    have h := Blk.new (((w.alloc (.cells #[.int .i64 i] 3)).alloc (.cells #[.int .i64 0] 3)).alloc (.cells #[.int .i64 5] 3)) 72 #[.slice A m c]
    rw [World.size_alloc, World.size_alloc, World.size_alloc] at h
    exact h.same ((Same.refl _).alloc _)
  have b4 : Blk W0 (q + 4) 24 #[.slice (some ⟨q + 2, 0, none⟩) 1 1] := by
    rw [hW0, hq]
    have h := Blk.new ((((w.alloc (.cells #[.int .i64 i] 3)).alloc (.cells #[.int .i64 0] 3)).alloc (.cells #[.int .i64 5] 3)).alloc (.cells #[.slice A m c] 72)) 24 #[.slice (some ⟨w.heap.size + 1 + 1, 0, none⟩) 1 1]
    rw [World.size_alloc, World.size_alloc, World.size_alloc, World.size_alloc] at h
    exact h
  have hE0 : Evs W0 A evs := HE.out.same (Same.of_below hB0)
  have hK0 : Row W0 (some ⟨q + 2, 0, none⟩) ([5].map (Value.int .i64)) := by
    intro j u hj
    match j, hj with
    | 0, hj => cases hj; exact ⟨_, _, rfl, b2.cell 0⟩
  have KS := kinds_seq (n - 1) (by omega) (q + 3) (q + 4) A m c evs (some ⟨q + 2, 0, none⟩) 1 1 [5] (fun j => j = q + 1) W0 HL.out (by omega) rfl (by omega) hE0 hK0 (b3.cell 0) (b4.cell 0)
    (fun b o e hne => by have := HE.out.lt b o e hne; omega) (fun b o e => by cases e; omega) (by omega)
  clear hW0
  rw [← hq]
  have HQ := Lib.hid hq
  have hq1 : w.heap.size ≤ q := by omega
  have hq2 : q ≤ w.heap.size := by omega
  have hz1 : W0.heap.size ≤ q + 5 := by omega
  have hz2 : q + 5 ≤ W0.heap.size := by omega
  clear hq hz
  refine Rr.range_ob (n := n) h1 (gf := 104) (lb := #[.pointer (some ⟨q + 3, 0, none⟩), .pointer (some ⟨q + 4, 0, none⟩)]) rfl (enters_of Try.func104 (by kernel_rfl) rfl) KS (fun h k => h.trans k) (fun W l o o' h1 h2 => Kc.put W l o o' h1 h2) (fun _ => rfl)
    (fun pre W => Below q w W ∧ W0.heap.size ≤ W.heap.size ∧ Blk W q 3 #[.int .i64 i] ∧ Blk W (q + 1) 3 #[.int .i64 ((cntS i pre : Nat) : Int)])
    (fun cd pre W => False)
    (fun (x : Ev) b => { tmps := #[Value.slice A m c, Value.int IntKind.i64 i, undef, Value.pointer (some ⟨q, 0, none⟩),
          Value.int IntKind.i64 0, Value.pointer (some ⟨q + 1, 0, none⟩), Value.pointer (some ⟨b, 0, none⟩),
          Value.slice A m c, Value.slice (some ⟨q + 1 + 1, 0, none⟩) 1 1,
          Value.func (Fn.func 104) #[]
            #[Value.pointer (some ⟨q + 1 + 1 + 1, 0, none⟩),
              Value.pointer (some ⟨q + 1 + 1 + 1 + 1, 0, none⟩)],
          Value.agg (evC x), undef, undef, undef, undef, undef, undef, undef], defers := [] })
    (fun (e : List Ev × Ev × Nat) W => Below q w W ∧ W0.heap.size ≤ W.heap.size ∧ Blk W q 3 #[.int .i64 i] ∧ Blk W (q + 1) 3 #[.int .i64 ((cntS i e.1 : Nat) : Int)] ∧ W0.heap.size ≤ e.2.2 ∧ Blk W e.2.2 74 (evC e.2.1))
    (fun e X Y row hs hg hr => ⟨ownFrom_below (β := Unit) (n₀ := q) (B := W0.heap.size) (w₀ := w) (by omega) (by omega) () X Y row hs.1 hg hr, Nat.le_trans hs.2.1 hg.size, blk_kept hs.2.2.1 hg hr, blk_kept hs.2.2.2 hg hr⟩)
    (fun cd e X Y row hs hg hr => hs)
    (fun e X Y row hs hg hr => ⟨ownFrom_below (β := Unit) (n₀ := q) (B := W0.heap.size) (w₀ := w) (by omega) (by omega) () X Y row hs.1 hg hr, Nat.le_trans hs.2.1 hg.size, blk_kept hs.2.2.1 hg hr, blk_kept hs.2.2.2.1 hg hr, hs.2.2.2.2.1, blk_kept hs.2.2.2.2.2 hg hr⟩)
    ⟨HQ.out ▸ hB0, Nat.le_refl _, b0, b1⟩ ?assign ?body ?done ?stop
  case assign =>
    rintro l pre x W ⟨h1, h2, h3, h4⟩ hlt K hK
    have HK := Lib.hid hK
    clear hK
    unfold evC
    gi_wp2
    refine HK.out _ _ ((KeepsOthers.alloc W _).from _) ((Kc.refl _ W).alloc _) ⟨h1.alloc (by omega) _, Nat.le_trans h2 (by simp), h3.same ((Same.refl _).alloc _), h4.same ((Same.refl _).alloc _), h2, Blk.new W _ _⟩
  case body =>
    rintro l pre x b W ⟨h1, h2, h3, h4, h5, h6⟩ hlt
    have c3 : W.cell? ⟨q, 0, none⟩ = some (.int .i64 i) := h3.cell 0
    have c4 : W.cell? ⟨q + 1, 0, none⟩ = some (.int .i64 ((cntS i pre : Nat) : Int)) := h4.cell 0
    have f4 : W.frozen? ⟨q + 1, 0, none⟩ = false := h4.thaw 0
    have d2 : W.cell? ⟨b, 2, none⟩ = some (.int .i64 x.s) := h6.cell 2
    have HI := Lib.hid (And.intro h1 (And.intro h2 (And.intro h3 h4)))
    have hle : (cntS i pre : Int) ≤ 300 := by
      have e1 := cntS_le i pre
      have e4 := hlt.length_le
      rw [List.length_append, List.length_singleton] at e4
      have e2 := kinds_len [5] evs
      have e3 := HL.out
      omega
    clear h1 h2 h3 h4 h5 h6
    generalize hv : ((cntS i pre : Nat) : Int) = v at *
    have hv0 : 0 ≤ v := by omega
    have HV := Lib.hid hv
    clear hv
    by_cases hs : x.s = i
    · have e1 : (x.s == i) = true := by simpa using hs
      have HS := Lib.hid hs
      clear hs
      gi_wp2
      have hc := ((Chg.refl (fun j => j = q + 1) W).set (p := ⟨q + 1, 0, none⟩) (.inl rfl) (Value.int .i64 (v + 1)))
      refine ⟨(KeepsOthers.setCell _ _ _).from _, Kc.set W (q + 1) _ rfl, HI.out.1.setCell (by simp only []; omega) _, Nat.le_trans HI.out.2.1 hc.size, HI.out.2.2.1.chg hc (by omega), ?_⟩
      rw [cntS_snoc, if_pos HS.out, Int.natCast_add, HV.out]
      exact HI.out.2.2.2.put 0 _
    · have e1 : (x.s == i) = false := by simpa using hs
      have HS := Lib.hid hs
      clear hs
      gi_wp2
      refine ⟨(KeepsOthers.refl _).from _, Kc.refl _ _, HI.out.1, HI.out.2.1, HI.out.2.2.1, ?_⟩
      have e0 : cntS i (pre ++ [x]) = cntS i pre := by rw [cntS_snoc, if_neg HS.out, Nat.add_zero]
      rw [e0, HV.out]
      exact HI.out.2.2.2
  case done =>
    rintro D xs W hD hxs ⟨h1, h2, h3, h4⟩ hK
    subst hxs
    have c4 : W.cell? ⟨q + 1, 0, none⟩ = some (.int .i64 ((cntS i (kindsL [5] evs) : Nat) : Int)) := h4.cell 0
    gi_wp2
    refine ⟨by simp, .inl ⟨_, _, rfl, run_takeDeferred hK, ?_⟩⟩
    exact ⟨_, results_tmp rfl _ _ _, rfl, HQ.out ▸ (h1.trans (belowK_b (w := W0) (n₀ := q) (by omega) W D _ _ (by omega) hK rfl rfl))⟩
  case stop =>
    intro D cd pre W hD hp h
    exact h.elim
theorem busy_any (A : Option Addr) (m c : Nat) (evs : List Ev) (i : Int) (w : World) (hl : evs.length = m) (hm : m ≤ 300) (hE : Evs w A evs) :
    Calls Try.prog 29 #[.slice A m c, .int .i64 i] w fun e w' => e = .returned (.int .i64 ((cntS i (kindsL [5] evs) : Nat) : Int)) ∧ Same w w' :=
  (callsIn_wide.1 (busy_in 6 (by omega) A m c evs i w hl hm hE)).mono fun e w' ⟨h1, h2⟩ => ⟨h1, Same.of_below h2⟩
set_option maxRecDepth 100000 in
set_option maxHeartbeats 2000000 in
theorem idle_in (n : Nat) (hn1 : 6 ≤ n) (A : Option Addr) (m c : Nat) (evs : List Ev) (w : World) (hl : evs.length = m) (hm : m ≤ 300) (hE : Evs w A evs) :
    CallsIn Fence.wide n Try.prog 30 #[.slice A m c] w fun e w' => e = .returned (.int .i64 (((kindsL [6] evs).length : Nat) : Int)) ∧ Below w.heap.size w w' := by
  have h1 : 1 ≤ n := by omega
  have hro : Fence.wide.round = none := rfl
  refine callsIn_of_wp_marks Try.func30 rfl trivial ?_ hro
  simp only [Try.ntmps30, List.size_toArray, List.length_cons, List.length_nil, Nat.reduceAdd, Nat.reduceSub, Array.replicate_succ, Array.replicate_zero, List.push_toArray, List.append_toArray, List.nil_append, List.cons_append]
  have KA := fun C n' d' W => kinds_any A m c C n' d' W
  have HL := Lib.hid hl
  have HE := Lib.hid hE
  clear hl hE
  gi_wp2_with (refine ⟨trivial, ?_⟩; gi_at_call 70; refine (callsIn_wide.2 (KA _ _ _ _)).mono ?_; rintro e w' ⟨rfl, rfl⟩)
  obtain ⟨W0, hW0⟩ : ∃ W0, W0 = ((((w.alloc (.cells #[.int .i64 0] 3)).alloc (.cells #[.int .i64 6] 3)).alloc (.cells #[.slice A m c] 72)).alloc (.cells #[.slice (some ⟨w.heap.size + 1, 0, none⟩) 1 1] 24)) := ⟨_, rfl⟩
  rw [← hW0]
  obtain ⟨q, hq⟩ : ∃ q, q = w.heap.size := ⟨_, rfl⟩
  have hz : W0.heap.size = q + 4 := by rw [hW0, hq]; simp only [World.size_alloc]
  have hB0 : Below w.heap.size w W0 := by
    rw [hW0]
    exact ((((Below.refl _ w).alloc (Nat.le_refl _) _).alloc (by simp only [World.size_alloc]; omega) _).alloc (by simp only [World.size_alloc]; omega) _).alloc (by simp only [World.size_alloc]; omega) _
  have b1 : Blk W0 q 3 #[.int .i64 0] := by
    rw [hW0, hq]
    exact (Blk.new w _ _).same ((((Same.refl _).alloc _).alloc _).alloc _)
  have b2 : Blk W0 (q + 1) 3 #[.int .i64 6] := by
    rw [hW0, hq]
    have h := Blk.new (w.alloc (.cells #[.int .i64 0] 3)) 3 #[.int .i64 6]
    rw [World.size_alloc] at h
    exact h.same (((Same.refl _).alloc _).alloc _)
  have b3 : Blk W0 (q + 2) 72 #[.slice A m c] := by
    rw [hW0, hq]
    have h := Blk.new ((w.alloc (.cells #[.int .i64 0] 3)).alloc (.cells #[.int .i64 6] 3)) 72 #[.slice A m c]
    rw [World.size_alloc, World.size_alloc] at h
    exact h.same ((Same.refl _).alloc _)
  have b4 : Blk W0 (q + 3) 24 #[.slice (some ⟨q + 1, 0, none⟩) 1 1] := by
    rw [hW0, hq]
    have h := Blk.new (((w.alloc (.cells #[.int .i64 0] 3)).alloc (.cells #[.int .i64 6] 3)).alloc (.cells #[.slice A m c] 72)) 24 #[.slice (some ⟨w.heap.size + 1, 0, none⟩) 1 1]
    rw [World.size_alloc, World.size_alloc, World.size_alloc] at h
    exact h
  have hE0 : Evs W0 A evs := HE.out.same (Same.of_below hB0)
  have hK0 : Row W0 (some ⟨q + 1, 0, none⟩) ([6].map (Value.int .i64)) := by
    intro j u hj
    match j, hj with
    | 0, hj => cases hj; exact ⟨_, _, rfl, b2.cell 0⟩
  have KS := kinds_seq (n - 1) (by omega) (q + 2) (q + 3) A m c evs (some ⟨q + 1, 0, none⟩) 1 1 [6] (fun j => j = q) W0 HL.out (by omega) rfl (by omega) hE0 hK0 (b3.cell 0) (b4.cell 0)
    (fun b o e hne => by have := HE.out.lt b o e hne; omega) (fun b o e => by cases e; omega) (by omega)
  clear hW0
  rw [← hq]
  have HQ := Lib.hid hq
  have hq1 : w.heap.size ≤ q := by omega
  have hq2 : q ≤ w.heap.size := by omega
  have hz1 : W0.heap.size ≤ q + 4 := by omega
  have hz2 : q + 4 ≤ W0.heap.size := by omega
  clear hq hz
  refine Rr.range_ob (n := n) h1 (gf := 104) (lb := #[.pointer (some ⟨q + 2, 0, none⟩), .pointer (some ⟨q + 3, 0, none⟩)]) rfl (enters_of Try.func104 (by kernel_rfl) rfl) KS (fun h k => h.trans k) (fun W l o o' h1 h2 => Kc.put W l o o' h1 h2) (fun _ => rfl)
    (fun pre W => Below q w W ∧ W0.heap.size ≤ W.heap.size ∧ Blk W q 3 #[.int .i64 ((pre.length : Nat) : Int)])
    (fun cd pre W => False)
    (fun (x : Ev) b => { tmps := #[Value.slice A m c, undef, Value.int IntKind.i64 0, Value.pointer (some ⟨q, 0, none⟩),
          Value.slice A m c, Value.slice (some ⟨q + 1, 0, none⟩) 1 1,
          Value.func (Fn.func 104) #[]
            #[Value.pointer (some ⟨q + 1 + 1, 0, none⟩),
              Value.pointer (some ⟨q + 1 + 1 + 1, 0, none⟩)],
          Value.agg (evC x), undef, undef, undef], defers := [] })
    (fun (e : List Ev × Ev × Nat) W => Below q w W ∧ W0.heap.size ≤ W.heap.size ∧ Blk W q 3 #[.int .i64 ((e.1.length : Nat) : Int)])
    (fun e X Y row hs hg hr => ⟨ownFrom_below (β := Unit) (n₀ := q) (B := W0.heap.size) (w₀ := w) (by omega) (by omega) () X Y row hs.1 hg hr, Nat.le_trans hs.2.1 hg.size, blk_kept hs.2.2 hg hr⟩)
    (fun cd e X Y row hs hg hr => hs)
    (fun e X Y row hs hg hr => ⟨ownFrom_below (β := Unit) (n₀ := q) (B := W0.heap.size) (w₀ := w) (by omega) (by omega) () X Y row hs.1 hg hr, Nat.le_trans hs.2.1 hg.size, blk_kept hs.2.2 hg hr⟩)
    ⟨HQ.out ▸ hB0, Nat.le_refl _, b1⟩ ?assign ?body ?done ?stop
  case assign =>
    rintro l pre x W hI hlt K hK
    have HK := Lib.hid hK
    clear hK
    unfold evC
    gi_wp2
    exact HK.out 0 _ ((KeepsOthers.refl W).from _) (Kc.refl _ W) hI
  case body =>
    rintro l pre x b W ⟨h1, h2, h3⟩ hlt
    have c4 : W.cell? ⟨q, 0, none⟩ = some (.int .i64 ((pre.length : Nat) : Int)) := h3.cell 0
    have f4 : W.frozen? ⟨q, 0, none⟩ = false := h3.thaw 0
    have HI := Lib.hid (And.intro h1 (And.intro h2 h3))
    have hle : ((pre.length : Nat) : Int) ≤ 300 := by
      have e4 := hlt.length_le
      rw [List.length_append, List.length_singleton] at e4
      have e2 := kinds_len [6] evs
      have e3 := HL.out
      omega
    clear h1 h2 h3
    generalize hv : ((pre.length : Nat) : Int) = v at *
    have hv0 : 0 ≤ v := by omega
    have HV := Lib.hid hv
    clear hv
    gi_wp2
    have hc := ((Chg.refl (fun j => j = q) W).set (p := ⟨q, 0, none⟩) (.inl rfl) (Value.int .i64 (v + 1)))
    refine ⟨(KeepsOthers.setCell _ _ _).from _, Kc.set W q _ rfl, HI.out.1.setCell (by simp only []; omega) _, Nat.le_trans HI.out.2.1 hc.size, ?_⟩
    rw [List.length_append, List.length_singleton, Int.natCast_add, HV.out]
    exact HI.out.2.2.put 0 _
  case done =>
    rintro D xs W hD hxs ⟨h1, h2, h4⟩ hK
    subst hxs
    have c4 : W.cell? ⟨q, 0, none⟩ = some (.int .i64 (((kindsL [6] evs).length : Nat) : Int)) := h4.cell 0
    gi_wp2
    refine ⟨by simp, .inl ⟨_, _, rfl, run_takeDeferred hK, ?_⟩⟩
    exact ⟨_, results_tmp rfl _ _ _, rfl, HQ.out ▸ (h1.trans (belowK_b (w := W0) (n₀ := q) (by omega) W D _ _ (by omega) hK rfl rfl))⟩
  case stop =>
    intro D cd pre W hD hp h
    exact h.elim
theorem idle_any (A : Option Addr) (m c : Nat) (evs : List Ev) (w : World) (hl : evs.length = m) (hm : m ≤ 300) (hE : Evs w A evs) :
    Calls Try.prog 30 #[.slice A m c] w fun e w' => e = .returned (.int .i64 (((kindsL [6] evs).length : Nat) : Int)) ∧ Same w w' :=
  (callsIn_wide.1 (idle_in 6 (by omega) A m c evs w hl hm hE)).mono fun e w' ⟨h1, h2⟩ => ⟨h1, Same.of_below h2⟩
end Go.Proofs.Ytnlndkpjfgpodab.Ob
