/-

  Events (layer 46): the best of a task's response times: Worst, Least.
-/
import Derived.Test.YtnlndkpjfgpodabObsResp
set_option linter.unusedVariables false
set_option linter.unusedSimpArgs false
namespace Go.Proofs.Ytnlndkpjfgpodab.Ob
open Go.ChangeShapes Go.WideShapes Go.ChangeAt Go.RowKit Ws
open Go.Shelf Rr
attribute [local go_sem] Oper.semAt_some

/-- the best so far, and whether there is one -/
def bstS (cmp : Int → Int → Bool) (st : Int × Bool) (e : Ev) : Int × Bool := if st.2 = false ∨ cmp e.b st.1 = true then (e.b, true) else st
def bst (cmp : Int → Int → Bool) (l : List Ev) : Int × Bool := l.foldl (bstS cmp) (0, false)
theorem bst_snoc (cmp : Int → Int → Bool) (l : List Ev) (x : Ev) : bst cmp (l ++ [x]) = bstS cmp (bst cmp l) x := by
  unfold bst
  rw [List.foldl_append]
  rfl
def cmpW (a b : Int) : Bool := decide (a > b)
theorem cmpW_any (a b : Int) (w : World) : Calls Try.prog 68 #[.int .i64 a, .int .i64 b] w fun e w' => e = .returned (.bool (cmpW a b)) ∧ w = w' := by
  go_enter Try.func68, Try.ntmps68
  go_wp2_with fail
  go_ret
  exact ⟨rfl, rfl⟩
set_option maxRecDepth 100000 in
set_option maxHeartbeats 4000000 in
theorem bestW_in (n : Nat) (hn : 8 ≤ n) (A : Option Addr) (m c : Nat) (evs : List Ev) (i : Int) (w : World) (hl : evs.length = m) (hm : m ≤ 300) (hE : Evs w A evs) :
    CallsIn Fence.wide n Try.prog 67 #[.slice A m c, .int .i64 i, .func (.func 68) #[] #[]] w fun e w' => e = .returned (.tuple #[.int .i64 (bst cmpW (ofT i (kindsL [7] evs))).1, .bool (bst cmpW (ofT i (kindsL [7] evs))).2]) ∧ Below w.heap.size w w' := by
  have h1 : 1 ≤ n := by omega
  have hn2 : 1 ≤ n - 1 - 1 := by omega
  have hro : Fence.wide.round = none := rfl
  refine callsIn_of_wp_marks Try.func67 rfl trivial ?_ hro
  simp only [Try.ntmps67, List.size_toArray, List.length_cons, List.length_nil, Nat.reduceAdd, Nat.reduceSub, Array.replicate_succ, Array.replicate_zero, List.push_toArray, List.append_toArray, List.nil_append, List.cons_append]
  have RA := fun W => resp_any A m c i W
  have HL := Lib.hid hl
  have HE := Lib.hid hE
  clear hl hE
  gi_wp2_with (refine ⟨trivial, ?_⟩; gi_at_call 103; refine (callsIn_wide.2 (RA _)).mono ?_; rintro e w' ⟨rfl, rfl⟩)
  obtain ⟨W0, hW0⟩ : ∃ W0, W0 = (((((w.alloc (.cells #[.func (.func 68) #[] #[]] 112)).alloc (.cells #[.int .i64 0] 3)).alloc (.cells #[.bool false] 4)).alloc (.cells #[.slice A m c] 72)).alloc (.cells #[.int .i64 i] 3)) := ⟨_, rfl⟩
  rw [← hW0]
  obtain ⟨q, hq⟩ : ∃ q, q = w.heap.size := ⟨_, rfl⟩
  have hz : W0.heap.size = q + 5 := by rw [hW0, hq]; simp only [World.size_alloc]
  have hB0 : Below w.heap.size w W0 := by
    rw [hW0]
    exact (((((Below.refl _ w).alloc (Nat.le_refl _) _).alloc (by simp only [World.size_alloc]; omega) _).alloc (by simp only [World.size_alloc]; omega) _).alloc (by simp only [World.size_alloc]; omega) _).alloc (by simp only [World.size_alloc]; omega) _
  have b0 : Blk W0 q 112 #[.func (.func 68) #[] #[]] := by
    rw [hW0, hq]
    exact (Blk.new w _ _).same (((((Same.refl _).alloc _).alloc _).alloc _).alloc _)
  have b1 : Blk W0 (q + 1) 3 #[.int .i64 0] := by
    rw [hW0, hq]
    have h := Blk.new (w.alloc (.cells #[.func (.func 68) #[] #[]] 112)) 3 #[.int .i64 0]
    rw [World.size_alloc] at h
    exact h.same ((((Same.refl _).alloc _).alloc _).alloc _)
  have b2 : Blk W0 (q + 2) 4 #[.bool false] := by
    rw [hW0, hq]
    have h := Blk.new ((w.alloc (.cells #[.func (.func 68) #[] #[]] 112)).alloc (.cells #[.int .i64 0] 3)) 4 #[.bool false]
    rw [World.size_alloc, World.size_alloc] at h
    exact h.same (((Same.refl _).alloc _).alloc _)
  have b3 : Blk W0 (q + 3) 72 #[.slice A m c] := by
    rw [hW0, hq]
    have h := Blk.new (((w.alloc (.cells #[.func (.func 68) #[] #[]] 112)).alloc (.cells #[.int .i64 0] 3)).alloc (.cells #[.bool false] 4)) 72 #[.slice A m c]
    rw [World.size_alloc, World.size_alloc, World.size_alloc] at h
    exact h.same ((Same.refl _).alloc _)
  have b4 : Blk W0 (q + 4) 3 #[.int .i64 i] := by
    rw [hW0, hq]
    have h := Blk.new ((((w.alloc (.cells #[.func (.func 68) #[] #[]] 112)).alloc (.cells #[.int .i64 0] 3)).alloc (.cells #[.bool false] 4)).alloc (.cells #[.slice A m c] 72)) 3 #[.int .i64 i]
    rw [World.size_alloc, World.size_alloc, World.size_alloc, World.size_alloc] at h
    exact h
  have hE0 : Evs W0 A evs := HE.out.same (Same.of_below hB0)
  have RS := resp_seq (n - 1) (by omega) (q + 3) (q + 4) A m c evs i (fun j => j = q + 1 ∨ j = q + 2) W0 HL.out hm hE0 (b3.cell 0) (b4.cell 0)
    (fun b o e hne => by have := HE.out.lt b o e hne; omega) (by omega) (fun j hj => by omega)
  clear hW0
  rw [← hq]
  have HQ := Lib.hid hq
  have hq1 : w.heap.size ≤ q := by omega
  have hq2 : q ≤ w.heap.size := by omega
  have hz1 : W0.heap.size ≤ q + 5 := by omega
  have hz2 : q + 5 ≤ W0.heap.size := by omega
  clear hq hz b3 b4 hE0
  refine Rr.range_ob (n := n) h1 (gf := 139) (lb := #[.pointer (some ⟨q + 3, 0, none⟩), .pointer (some ⟨q + 4, 0, none⟩)]) rfl (enters_of Try.func139 (by kernel_rfl) rfl) RS (fun h k => h.trans k) (fun W l o o' h1 h2 => Kc.put W l o o' h1 h2) (fun _ => rfl)
    (fun pre W => Below q w W ∧ W0.heap.size ≤ W.heap.size ∧ Blk W q 112 #[.func (.func 68) #[] #[]] ∧ Blk W (q + 1) 3 #[.int .i64 (bst cmpW pre).1] ∧ Blk W (q + 2) 4 #[.bool (bst cmpW pre).2])
    (fun cd pre W => False)
    (fun (x : Ev) b => { tmps := #[Value.slice A m c, Value.int IntKind.i64 i, Value.func (Fn.func 68) #[] #[], undef, undef, Value.pointer (some ⟨q, 0, none⟩),
          Value.int IntKind.i64 0, Value.bool false, Value.pointer (some ⟨q + 1, 0, none⟩), Value.pointer (some ⟨q + 1 + 1, 0, none⟩), Value.int .i64 x.b,
          Value.slice A m c, Value.int .i64 i,
          Value.func (Fn.func 139) #[]
            #[Value.pointer (some ⟨q + 1 + 1 + 1, 0, none⟩),
              Value.pointer (some ⟨q + 1 + 1 + 1 + 1, 0, none⟩)],
          Value.int .i64 x.b, undef, undef, undef, undef, undef, undef, undef, undef, undef, undef, undef], defers := [] })
    (fun (e : List Ev × Ev × Nat) W => Below q w W ∧ W0.heap.size ≤ W.heap.size ∧ Blk W q 112 #[.func (.func 68) #[] #[]] ∧ Blk W (q + 1) 3 #[.int .i64 (bst cmpW e.1).1] ∧ Blk W (q + 2) 4 #[.bool (bst cmpW e.1).2])
    (fun e X Y row hs hg hr => ⟨ownFrom_below (β := Unit) (n₀ := q) (B := W0.heap.size) (w₀ := w) (by omega) (by omega) () X Y row hs.1 hg hr, Nat.le_trans hs.2.1 hg.size, blk_kept hs.2.2.1 hg hr, blk_kept hs.2.2.2.1 hg hr, blk_kept hs.2.2.2.2 hg hr⟩)
    (fun cd e X Y row hs hg hr => hs)
    (fun e X Y row hs hg hr => ⟨ownFrom_below (β := Unit) (n₀ := q) (B := W0.heap.size) (w₀ := w) (by omega) (by omega) () X Y row hs.1 hg hr, Nat.le_trans hs.2.1 hg.size, blk_kept hs.2.2.1 hg hr, blk_kept hs.2.2.2.1 hg hr, blk_kept hs.2.2.2.2 hg hr⟩)
    ⟨HQ.out ▸ hB0, Nat.le_refl _, b0, b1, b2⟩ ?assign ?body ?done ?stop
  case assign =>
    rintro l pre x W hI hlt K hK
    have HK := Lib.hid hK
    clear hK
    gi_wp2
    exact HK.out 0 _ ((KeepsOthers.refl W).from _) (Kc.refl _ W) hI
  case body =>
    rintro l pre x b W ⟨h1, h2, h3, h4, h5⟩ hlt
    have CA := Lib.hid (fun v W => cmpW_any x.b v W)
    have HS := Lib.hid (bst_snoc cmpW pre x)
    obtain ⟨st, hst⟩ : ∃ st, st = bst cmpW pre := ⟨_, rfl⟩
    rw [← hst] at h4 h5 HS
    obtain ⟨v, f⟩ := st
    have c3 : W.cell? ⟨q, 0, none⟩ = some (.func (.func 68) #[] #[]) := h3.cell 0
    have c4 : W.cell? ⟨q + 1, 0, none⟩ = some (.int .i64 v) := h4.cell 0
    have f4 : W.frozen? ⟨q + 1, 0, none⟩ = false := h4.thaw 0
    have c5 : W.cell? ⟨q + 1 + 1, 0, none⟩ = some (.bool f) := h5.cell 0
    have f5 : W.frozen? ⟨q + 1 + 1, 0, none⟩ = false := h5.thaw 0
    have HI := Lib.hid (And.intro h1 (And.intro h2 (And.intro h3 (And.intro h4 h5))))
    have HC := Lib.hid ((((Chg.refl (fun j => j = q + 1 ∨ j = q + 2) W).set (p := ⟨q + 1, 0, none⟩) (.inl (.inl rfl)) (Value.int .i64 x.b))).set (p := ⟨q + 1 + 1, 0, none⟩) (.inl (.inr rfl)) (Value.bool true))
    have HN := Lib.hid (show Blk ((W.setCell ⟨q + 1, 0, none⟩ (.int .i64 x.b)).setCell ⟨q + 1 + 1, 0, none⟩ (.bool true)) (q + 1) 3 #[.int .i64 x.b] from
      (h4.put 0 (.int .i64 x.b)).chg ((Chg.refl (fun j => j = q + 2) _).set (p := ⟨q + 1 + 1, 0, none⟩) (.inl rfl) _) (by omega))
    have HM := Lib.hid (show Blk ((W.setCell ⟨q + 1, 0, none⟩ (.int .i64 x.b)).setCell ⟨q + 1 + 1, 0, none⟩ (.bool true)) (q + 2) 4 #[.bool true] from
      (h5.chg ((Chg.refl (fun j => j = q + 1) _).set (p := ⟨q + 1, 0, none⟩) (.inl rfl) _) (by omega)).put 0 _)
    clear h1 h2 h3 h4 h5 hst
    have hnew : ∀ a : Act, bstS cmpW (v, f) x = (x.b, true) → ownPostG W0.heap.size (Kc fun j => j = q + 1 ∨ j = q + 2)
        (fun pre W => Below q w W ∧ W0.heap.size ≤ W.heap.size ∧ Blk W q 112 #[.func (.func 68) #[] #[]] ∧ Blk W (q + 1) 3 #[.int .i64 (bst cmpW pre).1] ∧ Blk W (q + 2) 4 #[.bool (bst cmpW pre).2])
        (fun cd pre W => False) (pre ++ [x]) W Exit.normal a ((W.setCell ⟨q + 1, 0, none⟩ (.int .i64 x.b)).setCell ⟨q + 1 + 1, 0, none⟩ (.bool true)) := fun a he => by
      refine ⟨((KeepsOthers.setCell _ _ _).trans (KeepsOthers.setCell _ _ _)).from _, (Kc.set W (q + 1) _ (.inl rfl)).trans (Kc.set _ (q + 2) _ (.inr rfl)), (HI.out.1.setCell (by simp only []; omega) _).setCell (by simp only []; omega) _, Nat.le_trans HI.out.2.1 HC.out.size, HI.out.2.2.1.chg HC.out (by omega), ?_, ?_⟩
      · rw [HS.out, he]; exact HN.out
      · rw [HS.out, he]; exact HM.out
    have HNEW := Lib.hid hnew
    clear hnew
    cases f with
    | false =>
      gi_wp2
      refine ⟨fun _ h => (by cases h), ?_⟩
      gi_wp2
      exact HNEW.out _ (by unfold bstS; rw [if_pos (.inl rfl)])
    | true =>
      by_cases hc : cmpW x.b v = true
      · have CX := Lib.hid (fun W => CA.out v W)
        rw [hc] at CX
        have HCC := Lib.hid hc
        clear hc
        gi_wp2_with (refine ⟨trivial, ?_⟩; gi_at_call 68; refine (CallsIn.inRound l (callsIn_wide.2 (CX.out _))).mono ?_; rintro e w' ⟨rfl, rfl⟩)
        exact HNEW.out _ (by unfold bstS; rw [if_pos (.inr HCC.out)])
      · have hc' : cmpW x.b v = false := by simpa using hc
        have CX := Lib.hid (fun W => CA.out v W)
        rw [hc'] at CX
        have HCC := Lib.hid hc'
        clear hc hc'
        gi_wp2_with (refine ⟨trivial, ?_⟩; gi_at_call 68; refine (CallsIn.inRound l (callsIn_wide.2 (CX.out _))).mono ?_; rintro e w' ⟨rfl, rfl⟩)
        have he : bstS cmpW (v, true) x = (v, true) := by unfold bstS; rw [if_neg (by rw [HCC.out]; simp)]
        refine ⟨(KeepsOthers.refl _).from _, Kc.refl _ _, HI.out.1, HI.out.2.1, HI.out.2.2.1, ?_, ?_⟩
        · rw [HS.out, he]; exact HI.out.2.2.2.1
        · rw [HS.out, he]; exact HI.out.2.2.2.2
  case done =>
    rintro D xs W hD hxs ⟨h1, h2, h3, h4, h5⟩ hK
    subst hxs
    have c4 : W.cell? ⟨q + 1, 0, none⟩ = some (.int .i64 (bst cmpW (ofT i (kindsL [7] evs))).1) := h4.cell 0
    have c5 : W.cell? ⟨q + 1 + 1, 0, none⟩ = some (.bool (bst cmpW (ofT i (kindsL [7] evs))).2) := h5.cell 0
    have hK2 : W.drew.heap[D]? = some (.deferred (some [])) := hK
    gi_wp2
    gi_region
    all_goals gi_wp2
    all_goals (try go_bits)
    all_goals refine ⟨by simp, .inl ⟨_, _, rfl, run_takeDeferred hK2, ?_⟩⟩
    all_goals exact ⟨_, results_tmp2 rfl _ _ _, rfl, HQ.out ▸ (h1.drew.trans (belowK_b (w := W0) (n₀ := q) (by omega) W.drew D _ _ (by omega) hK2 rfl rfl))⟩
  case stop =>
    intro D cd pre W hD hp h
    exact h.elim
theorem worst_any (A : Option Addr) (m c : Nat) (evs : List Ev) (i : Int) (w : World) (hl : evs.length = m) (hm : m ≤ 300) (hE : Evs w A evs) :
    Calls Try.prog 27 #[.slice A m c, .int .i64 i] w fun e w' => e = .returned (.tuple #[.int .i64 (bst cmpW (ofT i (kindsL [7] evs))).1, .bool (bst cmpW (ofT i (kindsL [7] evs))).2]) ∧ Same w w' := by
  have BA := Lib.hid (callsIn_wide.1 (bestW_in 8 (by omega) A m c evs i w hl hm hE))
  clear hl hE
  generalize bst cmpW (ofT i (kindsL [7] evs)) = r at *
  go_enter Try.func27, Try.ntmps27
  go_wp2_with fail
  refine BA.out.mono ?_
  rintro e w1 ⟨rfl, hb⟩
  have HB := Lib.hid hb
  clear hb
  go_wp2_with fail
  go_ret2
  exact ⟨rfl, Same.of_below HB.out⟩
def cmpL (a b : Int) : Bool := decide (a < b)
theorem cmpL_any (a b : Int) (w : World) : Calls Try.prog 69 #[.int .i64 a, .int .i64 b] w fun e w' => e = .returned (.bool (cmpL a b)) ∧ w = w' := by
  go_enter Try.func69, Try.ntmps69
  go_wp2_with fail
  go_ret
  exact ⟨rfl, rfl⟩
set_option maxRecDepth 100000 in
set_option maxHeartbeats 4000000 in
theorem bestL_in (n : Nat) (hn : 8 ≤ n) (A : Option Addr) (m c : Nat) (evs : List Ev) (i : Int) (w : World) (hl : evs.length = m) (hm : m ≤ 300) (hE : Evs w A evs) :
    CallsIn Fence.wide n Try.prog 67 #[.slice A m c, .int .i64 i, .func (.func 69) #[] #[]] w fun e w' => e = .returned (.tuple #[.int .i64 (bst cmpL (ofT i (kindsL [7] evs))).1, .bool (bst cmpL (ofT i (kindsL [7] evs))).2]) ∧ Below w.heap.size w w' := by
  have h1 : 1 ≤ n := by omega
  have hn2 : 1 ≤ n - 1 - 1 := by omega
  have hro : Fence.wide.round = none := rfl
  refine callsIn_of_wp_marks Try.func67 rfl trivial ?_ hro
  simp only [Try.ntmps67, List.size_toArray, List.length_cons, List.length_nil, Nat.reduceAdd, Nat.reduceSub, Array.replicate_succ, Array.replicate_zero, List.push_toArray, List.append_toArray, List.nil_append, List.cons_append]
  have RA := fun W => resp_any A m c i W
  have HL := Lib.hid hl
  have HE := Lib.hid hE
  clear hl hE
  gi_wp2_with (refine ⟨trivial, ?_⟩; gi_at_call 103; refine (callsIn_wide.2 (RA _)).mono ?_; rintro e w' ⟨rfl, rfl⟩)
  obtain ⟨W0, hW0⟩ : ∃ W0, W0 = (((((w.alloc (.cells #[.func (.func 69) #[] #[]] 112)).alloc (.cells #[.int .i64 0] 3)).alloc (.cells #[.bool false] 4)).alloc (.cells #[.slice A m c] 72)).alloc (.cells #[.int .i64 i] 3)) := ⟨_, rfl⟩
  rw [← hW0]
  obtain ⟨q, hq⟩ : ∃ q, q = w.heap.size := ⟨_, rfl⟩
  have hz : W0.heap.size = q + 5 := by rw [hW0, hq]; simp only [World.size_alloc]
  have hB0 : Below w.heap.size w W0 := by
    rw [hW0]
    exact (((((Below.refl _ w).alloc (Nat.le_refl _) _).alloc (by simp only [World.size_alloc]; omega) _).alloc (by simp only [World.size_alloc]; omega) _).alloc (by simp only [World.size_alloc]; omega) _).alloc (by simp only [World.size_alloc]; omega) _
  have b0 : Blk W0 q 112 #[.func (.func 69) #[] #[]] := by
    rw [hW0, hq]
    exact (Blk.new w _ _).same (((((Same.refl _).alloc _).alloc _).alloc _).alloc _)
  have b1 : Blk W0 (q + 1) 3 #[.int .i64 0] := by
    rw [hW0, hq]
    have h := Blk.new (w.alloc (.cells #[.func (.func 69) #[] #[]] 112)) 3 #[.int .i64 0]
    rw [World.size_alloc] at h
    exact h.same ((((Same.refl _).alloc _).alloc _).alloc _)
  have b2 : Blk W0 (q + 2) 4 #[.bool false] := by
    rw [hW0, hq]
    have h := Blk.new ((w.alloc (.cells #[.func (.func 69) #[] #[]] 112)).alloc (.cells #[.int .i64 0] 3)) 4 #[.bool false]
    rw [World.size_alloc, World.size_alloc] at h
    exact h.same (((Same.refl _).alloc _).alloc _)
  have b3 : Blk W0 (q + 3) 72 #[.slice A m c] := by
    rw [hW0, hq]
    have h := Blk.new (((w.alloc (.cells #[.func (.func 69) #[] #[]] 112)).alloc (.cells #[.int .i64 0] 3)).alloc (.cells #[.bool false] 4)) 72 #[.slice A m c]
    rw [World.size_alloc, World.size_alloc, World.size_alloc] at h
    exact h.same ((Same.refl _).alloc _)
  have b4 : Blk W0 (q + 4) 3 #[.int .i64 i] := by
    rw [hW0, hq]
    have h := Blk.new ((((w.alloc (.cells #[.func (.func 69) #[] #[]] 112)).alloc (.cells #[.int .i64 0] 3)).alloc (.cells #[.bool false] 4)).alloc (.cells #[.slice A m c] 72)) 3 #[.int .i64 i]
    rw [World.size_alloc, World.size_alloc, World.size_alloc, World.size_alloc] at h
    exact h
  have hE0 : Evs W0 A evs := HE.out.same (Same.of_below hB0)
  have RS := resp_seq (n - 1) (by omega) (q + 3) (q + 4) A m c evs i (fun j => j = q + 1 ∨ j = q + 2) W0 HL.out hm hE0 (b3.cell 0) (b4.cell 0)
    (fun b o e hne => by have := HE.out.lt b o e hne; omega) (by omega) (fun j hj => by omega)
  clear hW0
  rw [← hq]
  have HQ := Lib.hid hq
  have hq1 : w.heap.size ≤ q := by omega
  have hq2 : q ≤ w.heap.size := by omega
  have hz1 : W0.heap.size ≤ q + 5 := by omega
  have hz2 : q + 5 ≤ W0.heap.size := by omega
  clear hq hz b3 b4 hE0
  refine Rr.range_ob (n := n) h1 (gf := 139) (lb := #[.pointer (some ⟨q + 3, 0, none⟩), .pointer (some ⟨q + 4, 0, none⟩)]) rfl (enters_of Try.func139 (by kernel_rfl) rfl) RS (fun h k => h.trans k) (fun W l o o' h1 h2 => Kc.put W l o o' h1 h2) (fun _ => rfl)
    (fun pre W => Below q w W ∧ W0.heap.size ≤ W.heap.size ∧ Blk W q 112 #[.func (.func 69) #[] #[]] ∧ Blk W (q + 1) 3 #[.int .i64 (bst cmpL pre).1] ∧ Blk W (q + 2) 4 #[.bool (bst cmpL pre).2])
    (fun cd pre W => False)
    (fun (x : Ev) b => { tmps := #[Value.slice A m c, Value.int IntKind.i64 i, Value.func (Fn.func 69) #[] #[], undef, undef, Value.pointer (some ⟨q, 0, none⟩),
          Value.int IntKind.i64 0, Value.bool false, Value.pointer (some ⟨q + 1, 0, none⟩), Value.pointer (some ⟨q + 1 + 1, 0, none⟩), Value.int .i64 x.b,
          Value.slice A m c, Value.int .i64 i,
          Value.func (Fn.func 139) #[]
            #[Value.pointer (some ⟨q + 1 + 1 + 1, 0, none⟩),
              Value.pointer (some ⟨q + 1 + 1 + 1 + 1, 0, none⟩)],
          Value.int .i64 x.b, undef, undef, undef, undef, undef, undef, undef, undef, undef, undef, undef], defers := [] })
    (fun (e : List Ev × Ev × Nat) W => Below q w W ∧ W0.heap.size ≤ W.heap.size ∧ Blk W q 112 #[.func (.func 69) #[] #[]] ∧ Blk W (q + 1) 3 #[.int .i64 (bst cmpL e.1).1] ∧ Blk W (q + 2) 4 #[.bool (bst cmpL e.1).2])
    (fun e X Y row hs hg hr => ⟨ownFrom_below (β := Unit) (n₀ := q) (B := W0.heap.size) (w₀ := w) (by omega) (by omega) () X Y row hs.1 hg hr, Nat.le_trans hs.2.1 hg.size, blk_kept hs.2.2.1 hg hr, blk_kept hs.2.2.2.1 hg hr, blk_kept hs.2.2.2.2 hg hr⟩)
    (fun cd e X Y row hs hg hr => hs)
    (fun e X Y row hs hg hr => ⟨ownFrom_below (β := Unit) (n₀ := q) (B := W0.heap.size) (w₀ := w) (by omega) (by omega) () X Y row hs.1 hg hr, Nat.le_trans hs.2.1 hg.size, blk_kept hs.2.2.1 hg hr, blk_kept hs.2.2.2.1 hg hr, blk_kept hs.2.2.2.2 hg hr⟩)
    ⟨HQ.out ▸ hB0, Nat.le_refl _, b0, b1, b2⟩ ?assign ?body ?done ?stop
  case assign =>
    rintro l pre x W hI hlt K hK
    have HK := Lib.hid hK
    clear hK
    gi_wp2
    exact HK.out 0 _ ((KeepsOthers.refl W).from _) (Kc.refl _ W) hI
  case body =>
    rintro l pre x b W ⟨h1, h2, h3, h4, h5⟩ hlt
    have CA := Lib.hid (fun v W => cmpL_any x.b v W)
    have HS := Lib.hid (bst_snoc cmpL pre x)
    obtain ⟨st, hst⟩ : ∃ st, st = bst cmpL pre := ⟨_, rfl⟩
    rw [← hst] at h4 h5 HS
    obtain ⟨v, f⟩ := st
    have c3 : W.cell? ⟨q, 0, none⟩ = some (.func (.func 69) #[] #[]) := h3.cell 0
    have c4 : W.cell? ⟨q + 1, 0, none⟩ = some (.int .i64 v) := h4.cell 0
    have f4 : W.frozen? ⟨q + 1, 0, none⟩ = false := h4.thaw 0
    have c5 : W.cell? ⟨q + 1 + 1, 0, none⟩ = some (.bool f) := h5.cell 0
    have f5 : W.frozen? ⟨q + 1 + 1, 0, none⟩ = false := h5.thaw 0
    have HI := Lib.hid (And.intro h1 (And.intro h2 (And.intro h3 (And.intro h4 h5))))
    have HC := Lib.hid ((((Chg.refl (fun j => j = q + 1 ∨ j = q + 2) W).set (p := ⟨q + 1, 0, none⟩) (.inl (.inl rfl)) (Value.int .i64 x.b))).set (p := ⟨q + 1 + 1, 0, none⟩) (.inl (.inr rfl)) (Value.bool true))
    have HN := Lib.hid (show Blk ((W.setCell ⟨q + 1, 0, none⟩ (.int .i64 x.b)).setCell ⟨q + 1 + 1, 0, none⟩ (.bool true)) (q + 1) 3 #[.int .i64 x.b] from
      (h4.put 0 (.int .i64 x.b)).chg ((Chg.refl (fun j => j = q + 2) _).set (p := ⟨q + 1 + 1, 0, none⟩) (.inl rfl) _) (by omega))
    have HM := Lib.hid (show Blk ((W.setCell ⟨q + 1, 0, none⟩ (.int .i64 x.b)).setCell ⟨q + 1 + 1, 0, none⟩ (.bool true)) (q + 2) 4 #[.bool true] from
      (h5.chg ((Chg.refl (fun j => j = q + 1) _).set (p := ⟨q + 1, 0, none⟩) (.inl rfl) _) (by omega)).put 0 _)
    clear h1 h2 h3 h4 h5 hst
    have hnew : ∀ a : Act, bstS cmpL (v, f) x = (x.b, true) → ownPostG W0.heap.size (Kc fun j => j = q + 1 ∨ j = q + 2)
        (fun pre W => Below q w W ∧ W0.heap.size ≤ W.heap.size ∧ Blk W q 112 #[.func (.func 69) #[] #[]] ∧ Blk W (q + 1) 3 #[.int .i64 (bst cmpL pre).1] ∧ Blk W (q + 2) 4 #[.bool (bst cmpL pre).2])
        (fun cd pre W => False) (pre ++ [x]) W Exit.normal a ((W.setCell ⟨q + 1, 0, none⟩ (.int .i64 x.b)).setCell ⟨q + 1 + 1, 0, none⟩ (.bool true)) := fun a he => by
      refine ⟨((KeepsOthers.setCell _ _ _).trans (KeepsOthers.setCell _ _ _)).from _, (Kc.set W (q + 1) _ (.inl rfl)).trans (Kc.set _ (q + 2) _ (.inr rfl)), (HI.out.1.setCell (by simp only []; omega) _).setCell (by simp only []; omega) _, Nat.le_trans HI.out.2.1 HC.out.size, HI.out.2.2.1.chg HC.out (by omega), ?_, ?_⟩
      · rw [HS.out, he]; exact HN.out
      · rw [HS.out, he]; exact HM.out
    have HNEW := Lib.hid hnew
    clear hnew
    cases f with
    | false =>
      gi_wp2
      refine ⟨fun _ h => (by cases h), ?_⟩
      gi_wp2
      exact HNEW.out _ (by unfold bstS; rw [if_pos (.inl rfl)])
    | true =>
      by_cases hc : cmpL x.b v = true
      · have CX := Lib.hid (fun W => CA.out v W)
        rw [hc] at CX
        have HCC := Lib.hid hc
        clear hc
        gi_wp2_with (refine ⟨trivial, ?_⟩; gi_at_call 69; refine (CallsIn.inRound l (callsIn_wide.2 (CX.out _))).mono ?_; rintro e w' ⟨rfl, rfl⟩)
        exact HNEW.out _ (by unfold bstS; rw [if_pos (.inr HCC.out)])
      · have hc' : cmpL x.b v = false := by simpa using hc
        have CX := Lib.hid (fun W => CA.out v W)
        rw [hc'] at CX
        have HCC := Lib.hid hc'
        clear hc hc'
        gi_wp2_with (refine ⟨trivial, ?_⟩; gi_at_call 69; refine (CallsIn.inRound l (callsIn_wide.2 (CX.out _))).mono ?_; rintro e w' ⟨rfl, rfl⟩)
        have he : bstS cmpL (v, true) x = (v, true) := by unfold bstS; rw [if_neg (by rw [HCC.out]; simp)]
        refine ⟨(KeepsOthers.refl _).from _, Kc.refl _ _, HI.out.1, HI.out.2.1, HI.out.2.2.1, ?_, ?_⟩
        · rw [HS.out, he]; exact HI.out.2.2.2.1
        · rw [HS.out, he]; exact HI.out.2.2.2.2
  case done =>
    rintro D xs W hD hxs ⟨h1, h2, h3, h4, h5⟩ hK
    subst hxs
    have c4 : W.cell? ⟨q + 1, 0, none⟩ = some (.int .i64 (bst cmpL (ofT i (kindsL [7] evs))).1) := h4.cell 0
    have c5 : W.cell? ⟨q + 1 + 1, 0, none⟩ = some (.bool (bst cmpL (ofT i (kindsL [7] evs))).2) := h5.cell 0
    have hK2 : W.drew.heap[D]? = some (.deferred (some [])) := hK
    gi_wp2
    gi_region
    all_goals gi_wp2
    all_goals (try go_bits)
    all_goals refine ⟨by simp, .inl ⟨_, _, rfl, run_takeDeferred hK2, ?_⟩⟩
    all_goals exact ⟨_, results_tmp2 rfl _ _ _, rfl, HQ.out ▸ (h1.drew.trans (belowK_b (w := W0) (n₀ := q) (by omega) W.drew D _ _ (by omega) hK2 rfl rfl))⟩
  case stop =>
    intro D cd pre W hD hp h
    exact h.elim
theorem least_any (A : Option Addr) (m c : Nat) (evs : List Ev) (i : Int) (w : World) (hl : evs.length = m) (hm : m ≤ 300) (hE : Evs w A evs) :
    Calls Try.prog 28 #[.slice A m c, .int .i64 i] w fun e w' => e = .returned (.tuple #[.int .i64 (bst cmpL (ofT i (kindsL [7] evs))).1, .bool (bst cmpL (ofT i (kindsL [7] evs))).2]) ∧ Same w w' := by
  have BA := Lib.hid (callsIn_wide.1 (bestL_in 8 (by omega) A m c evs i w hl hm hE))
  clear hl hE
  generalize bst cmpL (ofT i (kindsL [7] evs)) = r at *
  go_enter Try.func28, Try.ntmps28
  go_wp2_with fail
  refine BA.out.mono ?_
  rintro e w1 ⟨rfl, hb⟩
  have HB := Lib.hid hb
  clear hb
  go_wp2_with fail
  go_ret2
  exact ⟨rfl, Same.of_below HB.out⟩
end Go.Proofs.Ytnlndkpjfgpodab.Ob
