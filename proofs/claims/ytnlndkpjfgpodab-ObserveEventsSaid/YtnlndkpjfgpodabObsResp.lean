/-

  Events (layer 46): the iterator over a task's response times: it ranges over the iterator of kinds.
-/
import Derived.Test.YtnlndkpjfgpodabObsUse
set_option linter.unusedVariables false
set_option linter.unusedSimpArgs false
namespace Go.Proofs.Ytnlndkpjfgpodab.Ob
open Go.ChangeShapes Go.WideShapes Go.ChangeAt Go.RowKit Ws
open Go.Shelf Rr
attribute [local go_sem] Oper.semAt_some

/-- the events of task i among these -/
def ofT (i : Int) (l : List Ev) : List Ev := l.filter fun e => decide (e.s = i)
theorem ofT_snoc (i : Int) (l : List Ev) (x : Ev) : ofT i (l ++ [x]) = ofT i l ++ if x.s = i then [x] else [] := by
  unfold ofT
  rw [List.filter_append]
  by_cases h : x.s = i
  · rw [if_pos h, List.filter_cons, decide_eq_true h]; rfl
  · rw [if_neg h, List.filter_cons, decide_eq_false h]; rfl
theorem ofT_pre {i : Int} {a b : List Ev} (h : a <+: b) : ofT i a <+: ofT i b := by
  obtain ⟨t, rfl⟩ := h
  exact ⟨ofT i t, by unfold ofT; rw [List.filter_append]⟩
theorem resp_any (A : Option Addr) (m c : Nat) (i : Int) (w : World) :
    Calls Try.prog 103 #[.slice A m c, .int .i64 i] w fun e w' => e = .returned (.func (.func 139) #[] #[.pointer (some ⟨w.heap.size, 0, none⟩), .pointer (some ⟨w.heap.size + 1, 0, none⟩)]) ∧ w' = (w.alloc (.cells #[.slice A m c] 72)).alloc (.cells #[.int .i64 i] 3) := by
  go_enter Try.func103, Try.ntmps103
  go_wp2_with fail
  go_ret
  exact ⟨rfl, rfl⟩
set_option maxRecDepth 100000 in
set_option maxHeartbeats 4000000 in
theorem resp_seq (n : Nat) (hn : 4 ≤ n) (bl bi : Nat) (A : Option Addr) (m c : Nat) (evs : List Ev) (i : Int) (S : Nat → Prop) (w : World) (hl : evs.length = m) (hm : m ≤ 300)
    (hE : Evs w A evs) (hbl : w.cell? ⟨bl, 0, none⟩ = some (.slice A m c)) (hbi : w.cell? ⟨bi, 0, none⟩ = some (.int .i64 i))
    (hSA : ∀ b o, A = some ⟨b, o, none⟩ → evs ≠ [] → ¬ S b) (hSi : ¬ S bi) (hSw : ∀ j, S j → j < w.heap.size) :
    SeqO n Try.prog 139 #[.pointer (some ⟨bl, 0, none⟩), .pointer (some ⟨bi, 0, none⟩)] (fun e : Ev => #[.int .i64 e.b]) (Kc S) (fun xs => xs = ofT i (kindsL [7] evs)) (fun pre => pre <+: ofT i (kindsL [7] evs)) w := by
  intro l J Jx W hW hJ hJx hY h0
  have hSW : Same w W := Same.of_below hW
  replace hE := hE.same hSW
  replace hbl := hSW.cell hbl
  replace hbi := hSW.cell hbi
  replace hSw : ∀ j, S j → j < W.heap.size := fun j h => Nat.lt_of_lt_of_le (hSw j h) hSW.size
  clear hW hSW
  have hro : Fence.wide.round = none := rfl
  have hn1 : 1 ≤ n := by omega
  have hn2 : 1 ≤ n - 1 - 1 := by omega
  refine callsIn_of_wp_marks Try.func139 rfl trivial ?_ hro
  simp only [Try.ntmps139, List.size_toArray, List.length_cons, List.length_nil, Nat.reduceAdd, Nat.reduceSub, Array.replicate_succ, Array.replicate_zero, List.push_toArray, List.append_toArray, List.nil_append, List.cons_append]
  have HL := Lib.hid hl
  have HE := Lib.hid hE
  have HSA := Lib.hid hSA
  have KA := fun C n' d' W => kinds_any A m c C n' d' W
  have hblt : bl < W.heap.size := World.block_lt_of_cell? W _ hbl
  have hbit : bi < W.heap.size := World.block_lt_of_cell? W _ hbi
  clear hl hE
  gi_wp2_with (refine ⟨trivial, ?_⟩; gi_at_call 70; refine (callsIn_wide.2 (KA _ _ _ _)).mono ?_; rintro e w' ⟨rfl, rfl⟩)
  obtain ⟨W0, hW0⟩ : ∃ W0, W0 = ((((W.alloc (.cells #[.func (.yield l) #[] #[]] 128)).alloc (.cells #[.int .i64 7] 3)).alloc (.cells #[.slice A m c] 72)).alloc (.cells #[.slice (some ⟨W.heap.size + 1, 0, none⟩) 1 1] 24)) := ⟨_, rfl⟩
  rw [← hW0]
  obtain ⟨q, hq⟩ : ∃ q, q = W.heap.size := ⟨_, rfl⟩
  have hz : W0.heap.size = q + 4 := by rw [hW0, hq]; simp only [World.size_alloc]
  have hS0 : Same W W0 := by
    rw [hW0]
    exact ((((Same.refl _).alloc _).alloc _).alloc _).alloc _
  have b1 : Blk W0 q 128 #[.func (.yield l) #[] #[]] := by
    rw [hW0, hq]
    exact (Blk.new W _ _).same ((((Same.refl _).alloc _).alloc _).alloc _)
  have b2 : Blk W0 (q + 1) 3 #[.int .i64 7] := by
    rw [hW0, hq]
    have h := Blk.new (W.alloc (.cells #[.func (.yield l) #[] #[]] 128)) 3 #[.int .i64 7]
    rw [World.size_alloc] at h
    exact h.same (((Same.refl _).alloc _).alloc _)
  have b3 : Blk W0 (q + 2) 72 #[.slice A m c] := by
    rw [hW0, hq]
    have h := Blk.new ((W.alloc (.cells #[.func (.yield l) #[] #[]] 128)).alloc (.cells #[.int .i64 7] 3)) 72 #[.slice A m c]
    rw [World.size_alloc, World.size_alloc] at h
    exact h.same ((Same.refl _).alloc _)
  have b4 : Blk W0 (q + 3) 24 #[.slice (some ⟨q + 1, 0, none⟩) 1 1] := by
    rw [hW0, hq]
    have h := Blk.new (((W.alloc (.cells #[.func (.yield l) #[] #[]] 128)).alloc (.cells #[.int .i64 7] 3)).alloc (.cells #[.slice A m c] 72)) 24 #[.slice (some ⟨W.heap.size + 1, 0, none⟩) 1 1]
    rw [World.size_alloc, World.size_alloc, World.size_alloc] at h
    exact h
  have hE0 : Evs W0 A evs := HE.out.same hS0
  have hK0 : Row W0 (some ⟨q + 1, 0, none⟩) ([7].map (Value.int .i64)) := by
    intro j u hj
    match j, hj with
    | 0, hj => cases hj; exact ⟨_, _, rfl, b2.cell 0⟩
  have KS := kinds_seq (n - 1) (by omega) (q + 2) (q + 3) A m c evs (some ⟨q + 1, 0, none⟩) 1 1 [7] S W0 HL.out (by omega) rfl (by omega) hE0 hK0 (b3.cell 0) (b4.cell 0)
    HSA.out (fun b o e hs => by cases e; have := hSw _ hs; omega) (fun hs => by have := hSw _ hs; omega)
  have hJ0 : J [] W0 := hJ _ _ _ none h0 (grown_of_same hS0) (fun _ h => by cases h)
  have hi0 : W0.cell? ⟨bi, 0, none⟩ = some (.int .i64 i) := hS0.cell hbi
  have hq0 : W0.cell? ⟨q, 0, none⟩ = some (.func (.yield l) #[] #[]) := b1.cell 0
  have hSq : ¬ S q := fun hs => by have := hSw _ hs; omega
  clear hW0 hbl hbi h0 b1 b2 b3 b4 hE0 hK0 hS0
  rw [← hq]
  have HQ := Lib.hid hq
  have hq1 : W.heap.size ≤ q := by omega
  have hq2 : q ≤ W.heap.size := by omega
  have hz1 : W0.heap.size ≤ q + 4 := by omega
  have hz2 : q + 4 ≤ W0.heap.size := by omega
  clear hq hz
  refine Rr.range_ob (n := n) (by omega) (gf := 104) (lb := #[.pointer (some ⟨q + 2, 0, none⟩), .pointer (some ⟨q + 3, 0, none⟩)]) rfl (enters_of Try.func104 (by kernel_rfl) rfl) KS (fun h k => h.trans k) (fun W l o o' h1 h2 => Kc.put W l o o' h1 h2) (fun _ => rfl)
    (fun pre X => J (ofT i pre) X ∧ Kc S W0 X)
    (fun cd pre X => cd = .ret ∧ pre <+: kindsL [7] evs ∧ Jx (ofT i pre) X)
    (fun (x : Ev) b => { tmps := #[Value.func (Fn.yield l) #[] #[], Value.pointer (some ⟨bl, 0, none⟩),
          Value.pointer (some ⟨bi, 0, none⟩), Value.pointer (some ⟨q, 0, none⟩),
          Value.pointer (some ⟨b, 0, none⟩), Value.slice A m c, Value.slice (some ⟨q + 1, 0, none⟩) 1 1,
          Value.func (Fn.func 104) #[]
            #[Value.pointer (some ⟨q + 1 + 1, 0, none⟩),
              Value.pointer (some ⟨q + 1 + 1 + 1, 0, none⟩)],
          Value.agg (evC x), undef, undef, undef, undef, undef, undef, undef, undef, undef, undef, undef], defers := [] })
    (fun (e : List Ev × Ev × Nat) X => J (ofT i e.1) X ∧ Kc S W0 X ∧ Blk X e.2.2 74 (evC e.2.1))
    (fun e X Y row hs hg hr => ⟨hJ _ X Y row hs.1 hg (fun r e => ⟨by have := (hr r e).1; omega, (hr r e).2⟩), hs.2.trans (Kc.grown hg (fun r e => .inr (hr r e).2))⟩)
    (fun cd e X Y row hs hg hr => ⟨hs.1, hs.2.1, hJx _ X Y row hs.2.2 hg (fun r e => ⟨by have := (hr r e).1; omega, (hr r e).2⟩)⟩)
    (fun e X Y row hs hg hr => ⟨hJ _ X Y row hs.1 hg (fun r e => ⟨by have := (hr r e).1; omega, (hr r e).2⟩), hs.2.1.trans (Kc.grown hg (fun r e => .inr (hr r e).2)), blk_kept hs.2.2 hg hr⟩)
    ⟨hJ0, Kc.refl _ _⟩ ?assign ?body ?done ?stop
  case assign =>
    rintro r pre x X ⟨h1, h2⟩ hlt K hK
    have HK := Lib.hid hK
    clear hK
    unfold evC
    gi_wp2
    refine HK.out _ _ ((KeepsOthers.alloc X _).from _) ((Kc.refl _ X).alloc _) ⟨hJ _ _ _ none h1 (grown_of_same ((Same.refl _).alloc _)) (fun _ h => by cases h), h2.alloc _, Blk.new X _ _⟩
  case body =>
    rintro r pre x b X ⟨h1, h2, h3⟩ hlt
    have c2 : X.cell? ⟨bi, 0, none⟩ = some (.int .i64 i) := h2.cell _ _ hi0 hSi
    have c3 : X.cell? ⟨q, 0, none⟩ = some (.func (.yield l) #[] #[]) := h2.cell _ _ hq0 hSq
    have d2 : X.cell? ⟨b, 2, none⟩ = some (.int .i64 x.s) := h3.cell 2
    have d4 : X.cell? ⟨b, 4, none⟩ = some (.int .i64 x.b) := h3.cell 4
    have HI := Lib.hid (And.intro h1 h2)
    have HT := Lib.hid hlt
    clear h1 h2 h3 hi0 hq0 hlt
    by_cases hs : x.s = i
    · have e1 : (x.s == i) = true := by simpa using hs
      have HS := Lib.hid hs
      clear hs
      obtain ⟨fn, tmps, assign, body, hy, hR⟩ := yield_any (n' := n - 1 - 1 - 1) (hY _ x X HI.out.1 (by
        have h := ofT_pre (i := i) HT.out
        rw [ofT_snoc, if_pos HS.out] at h
        exact h))
      gi_wp2
      refine RoundIn.mono (F := Fence.wide.inRound r) hR ?_
      rintro e W3 ⟨hk3, (⟨rfl, hJ3, hc3⟩ | ⟨rfl, hJx3⟩)⟩
      · have hT : ofT i (pre ++ [x]) = ofT i pre ++ [x] := by rw [ofT_snoc, if_pos HS.out]
        gi_wp2
        exact ⟨kfm (by omega) hk3, hc3, by rw [hT]; exact hJ3, HI.out.2.trans hc3⟩
      · have hT : ofT i (pre ++ [x]) = ofT i pre ++ [x] := by rw [ofT_snoc, if_pos HS.out]
        gi_wp2
        exact ⟨kfm (by omega) hk3, rfl, HT.out, by rw [hT]; exact hJx3⟩
    · have e1 : (x.s == i) = false := by simpa using hs
      have HS := Lib.hid hs
      clear hs
      have hT : ofT i (pre ++ [x]) = ofT i pre := by rw [ofT_snoc, if_neg HS.out, List.append_nil]
      gi_wp2
      refine ⟨fun _ h => (by cases h), ?_⟩
      gi_wp2
      exact ⟨(KeepsOthers.refl _).from _, Kc.refl _ _, by rw [hT]; exact HI.out.1, HI.out.2⟩
  case done =>
    rintro D xs X hD hxs ⟨h1, h2⟩ hK
    subst hxs
    gi_wp2
    refine ⟨by simp, .inl ⟨_, _, rfl, run_takeDeferred hK, ?_⟩⟩
    exact ⟨_, results_none rfl _ _ _, ⟨_, rfl⟩, .inl ⟨_, rfl, hJ.putObj _ h1 (by omega) hK rfl⟩⟩
  case stop =>
    rintro D cd pre X hD hp ⟨rfl, h1, h2⟩ hK
    gi_wp2
    refine ⟨by simp, .inl ⟨_, _, rfl, run_takeDeferred hK, ?_⟩⟩
    exact ⟨_, results_none rfl _ _ _, ⟨_, rfl⟩, .inr ⟨_, ofT_pre h1, hJx.putObj _ h2 (by omega) hK rfl⟩⟩
end Go.Proofs.Ytnlndkpjfgpodab.Ob
