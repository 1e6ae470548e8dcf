/-

  Sets of numbers (layer 3): who goes first of those that are ready.
-/
import Derived.Test.YtikjkmomokhanaaDoorBitUse
import Derived.RangeFuncKeeps
import Derived.RangeFuncFrom
import Derived.WalkKit
import Derived.BigQuiet
set_option linter.unusedVariables false
set_option linter.unusedSimpArgs false
namespace Go.Proofs.YtikjkmomokhanaaDoor.Be
open Go.ChangeShapes Go.WideShapes Go.ChangeAt Go.RowKit Ws
open Go.Shelf
open Go.Proofs.YtikjkmomokhanaaDoor.Bo
attribute [local go_sem] Oper.semAt_some

theorem others_of_same {a b : World} (h : Same a b) : KeepsOthers a b :=
  ⟨h.size, fun k o hk _ => by rw [h.block k (Array.getElem?_eq_some_iff.1 hk).1 id]; exact hk⟩
theorem below_of_same {a b : World} {n₀ : Nat} (h : Same a b) (hn : n₀ ≤ a.heap.size) : Below n₀ a b := h.below.mono hn

theorem cnew (W : World) (v : Value) (t : TypeId) : (W.alloc (.cells #[v] t)).cell? ⟨W.heap.size, 0, none⟩ = some v ∧ (W.alloc (.cells #[v] t)).frozen? ⟨W.heap.size, 0, none⟩ = false := ⟨by simp, by simp⟩
theorem calloc {W : World} {a : Addr} {v : Value} (o : Obj) (h : W.cell? a = some v) : (W.alloc o).cell? a = some v := cell_kept h (World.grownBy_alloc W o none) (fun r e => by cases e)
theorem falloc {W : World} {a : Addr} {v : Value} (o : Obj) (h : W.cell? a = some v) (hf : W.frozen? a = false) : (W.alloc o).frozen? a = false := (frozen_kept h (World.grownBy_alloc W o none) (fun r e => by cases e)).trans hf

/-- one more that is ready -/
def pkS (P : List Int) (o : Option Nat) (x : Nat) : Option Nat := match o with
  | none => some x
  | some f => if acmp P x f < 0 then some x else some f
def pk (P : List Int) (l : List Nat) : Option Nat := l.foldl (pkS P) none
theorem pk_snoc (P : List Int) (l : List Nat) (x : Nat) : pk P (l ++ [x]) = pkS P (pk P l) x := by simp [pk]
/-- what the loop has in hand between two rounds -/
structure PkI (P : List Int) (n : Nat) (A : Option Addr) (c : Nat) (w : World) (pre : List Nat) (W : World) : Prop where
  all : ∀ x ∈ pre, x < n
  fst : ∀ f, pk P pre = some f → f < n
  row : W.cell? ⟨w.heap.size, 0, none⟩ = some (.slice A n c)
  c1 : W.cell? ⟨w.heap.size + 1, 0, none⟩ = some (.int .i64 (((pk P pre).getD 0 : Nat) : Int))
  f1 : W.frozen? ⟨w.heap.size + 1, 0, none⟩ = false
  c2 : W.cell? ⟨w.heap.size + 2, 0, none⟩ = some (.bool (pk P pre).isSome)
  f2 : W.frozen? ⟨w.heap.size + 2, 0, none⟩ = false
theorem PkI.own (P : List Int) (n : Nat) (A : Option Addr) (c : Nat) (w : World) : Own (PkI P n A c w) :=
  fun s X Y row hs hg hr => ⟨hs.all, hs.fst, cell_kept hs.row hg hr, cell_kept hs.c1 hg hr, (frozen_kept hs.c1 hg hr).trans hs.f1, cell_kept hs.c2 hg hr, (frozen_kept hs.c2 hg hr).trans hs.f2⟩

theorem PkI.put {P : List Int} {n : Nat} {A : Option Addr} {c : Nat} {w : World} {pre : List Nat} {x : Nat} {V : World} {u u' : Value} (hal : ∀ y ∈ pre ++ [x], y < n) (hx : x < n) (hp : pk P (pre ++ [x]) = some x)
    (i1 : V.cell? ⟨w.heap.size, 0, none⟩ = some (.slice A n c)) (i2 : V.cell? ⟨w.heap.size + 1, 0, none⟩ = some u) (i3 : V.frozen? ⟨w.heap.size + 1, 0, none⟩ = false)
    (i4 : V.cell? ⟨w.heap.size + 2, 0, none⟩ = some u') (i5 : V.frozen? ⟨w.heap.size + 2, 0, none⟩ = false) :
    PkI P n A c w (pre ++ [x]) ((V.setCell ⟨w.heap.size + 1, 0, none⟩ (.int .i64 (x : Int))).setCell ⟨w.heap.size + 1 + 1, 0, none⟩ (.bool true)) := by
  refine ⟨hal, ?_, ?_, ?_, ?_, ?_, ?_⟩
  · intro g h
    rw [hp] at h
    cases h
    exact hx
  · rw [World.cell?_setCell_far _ _ _ _ (by simp only []; omega), World.cell?_setCell_far _ _ _ _ (by simp only []; omega)]
    exact i1
  · rw [World.cell?_setCell_far _ _ _ _ (by simp only []; omega), hp]
    exact World.cell?_setCell_same' _ _ _ (by rw [i2]; rfl)
  · rw [World.frozen?_setCell, World.frozen?_setCell]
    exact i3
  · rw [hp]
    exact World.cell?_setCell_same' _ _ _ (by rw [World.cell?_setCell_far _ _ _ _ (by simp only []; omega), i4]; rfl)
  · rw [World.frozen?_setCell, World.frozen?_setCell]
    exact i5

set_option maxRecDepth 100000 in
set_option maxHeartbeats 2000000 in
theorem pick_in (n : Nat) (hn1 : 6 ≤ n) (A : Option Addr) (k c m : Nat) (P : List Int) (w : World) (hP : P.length = k) (hm : m < 18446744073709551616) (hT : TZ w) (hr : Row w A (P.map (Value.int .i64))) :
    CallsIn Fence.wide n Tryd.prog 24 #[.slice A k c, .int .u64 (m : Int)] w fun e w' =>
      (∃ p0, p0 <+: bitsL m ∧ (∀ x ∈ p0, x < k) ∧ (p0 = bitsL m ∨ ∃ x, k ≤ x ∧ p0 ++ [x] <+: bitsL m) ∧
        e = .returned (.tuple #[.int .i64 (((pk P p0).getD 0 : Nat) : Int), .bool (pk P p0).isSome])) ∧ Below w.heap.size w w' := by
  have h1 : 1 ≤ n := by omega
  have hro : Fence.wide.round = none := rfl
  refine callsIn_of_wp_marks Tryd.func24 rfl trivial ?_ hro
  simp only [Tryd.ntmps24, List.size_toArray, List.length_cons, List.length_nil, Nat.reduceAdd, Nat.reduceSub, Array.replicate_succ, Array.replicate_zero, List.push_toArray, List.append_toArray, List.nil_append, List.cons_append]
  have EA := fun W => each_any m hm W
  gi_wp2_with (refine ⟨trivial, ?_⟩; gi_at_call 42; refine (callsIn_wide.2 (EA _)).mono ?_; rintro e w' ⟨rfl, t, rfl⟩)
  generalize hW0 : ((((w.alloc (.cells #[.slice A k c] 23)).alloc (.cells #[.int .i64 0] 3)).alloc (.cells #[.bool false] 4)).alloc (.cells #[.int .u64 (m : Int)] t)) = W0
  have hsz : W0.heap.size = w.heap.size + 4 := by rw [← hW0]; simp only [World.size_alloc]
  have hBw : Below w.heap.size w W0 := by
    rw [← hW0]
    exact ((((Below.refl _ w).alloc (Nat.le_refl _) _).alloc (by simp only [World.size_alloc]; omega) _).alloc (by simp only [World.size_alloc]; omega) _).alloc (by simp only [World.size_alloc]; omega) _
  have hcm : W0.cell? ⟨w.heap.size + 1 + 1 + 1, 0, none⟩ = some (.int .u64 (m : Int)) := by
    rw [← hW0]
    have h := cnew (((w.alloc (.cells #[.slice A k c] 23)).alloc (.cells #[.int .i64 0] 3)).alloc (.cells #[.bool false] 4)) (.int .u64 (m : Int)) t
    simp only [World.size_alloc] at h
    exact h.1
  have hI0 : PkI P k A c w [] W0 := by
    rw [← hW0]
    have e1 := cnew w (.slice A k c) 23
    have e2 := cnew (w.alloc (.cells #[.slice A k c] 23)) (.int .i64 0) 3
    have e3 := cnew ((w.alloc (.cells #[.slice A k c] 23)).alloc (.cells #[.int .i64 0] 3)) (.bool false) 4
    simp only [World.size_alloc] at e2 e3
    exact ⟨by simp, by simp [pk], calloc _ (calloc _ (calloc _ e1.1)), calloc _ (calloc _ e2.1), falloc _ (calloc _ e2.1) (falloc _ e2.1 e2.2), calloc _ e3.1, falloc _ e3.1 e3.2⟩
  have hTl : 0 < w.heap.size := hT.lt
  refine wpIn_rangeFunc_ownF hro h1 (gf := 63) (lb := #[.pointer (some ⟨w.heap.size + 1 + 1 + 1, 0, none⟩)]) rfl trivial (enters_of Tryd.func63 (by kernel_rfl) rfl)
    (each_stops (n - 1) (by omega) (w.heap.size + 1 + 1 + 1) w.heap.size m hm hTl W0 (by omega) (by omega) hcm (hT.below hBw hTl)) belowK_t (belowK_b (by omega)) (Below.refl _ _) (fun _ => rfl)
    (fun pre W => PkI P k A c w pre W ∧ Below w.heap.size w W)
    (fun cd pre W => (cd = .exit 0 ∧ ∃ p0 x, pre = p0 ++ [x] ∧ k ≤ x ∧ PkI P k A c w p0 W) ∧ Below w.heap.size w W)
    (OwnFrom.and ((PkI.own P k A c w).from _) (ownFrom_below (Nat.le_refl _) (by omega)))
    (fun cd => OwnFrom.and (Own.from (fun s X Y row hs hg hr => by
      obtain ⟨h1, p0, x, h2, h3, h4⟩ := hs
      exact ⟨h1, p0, x, h2, h3, PkI.own P k A c w p0 X Y row h4 hg hr⟩) _) (ownFrom_below (Nat.le_refl _) (by omega)))
    ⟨hI0, hBw⟩
    (fun x => { tmps := #[.slice A k c, .int .u64 (m : Int), .pointer (some ⟨w.heap.size, 0, none⟩), undef, .int .i64 0, .bool false, .pointer (some ⟨w.heap.size + 1, 0, none⟩), .pointer (some ⟨w.heap.size + 1 + 1, 0, none⟩), .int .i64 (x : Int), .int .u64 (m : Int),
      .func (.func 63) #[] #[.pointer (some ⟨w.heap.size + 1 + 1 + 1, 0, none⟩)], .int .i64 (x : Int), undef, undef, undef, undef, undef, undef, undef, undef, undef, undef, undef, undef, undef, undef, undef, undef], defers := [] }) ?assign ?body ?done ?stop
  case assign =>
    intro l x W K hK
    gi_wp2
    exact hK
  case body =>
    rintro l pre x W ⟨hI, hBW⟩ hlt
    have hd : 1 ≤ n - 1 - 1 := by omega
    have i1 := hI.row
    have i2 := hI.c1
    have i3 := hI.f1
    have i4 := hI.c2
    have i5 := hI.f2
    by_cases hxk : k ≤ x
    · have hx' : (k : Int) ≤ (x : Int) := by omega
      gi_wp2
      exact ⟨KeepsOthers.refl _, ⟨rfl, pre, x, rfl, hxk, hI⟩, hBW⟩
    · have hx' : ¬ (k : Int) ≤ (x : Int) := by omega
      have hal : ∀ y ∈ pre ++ [x], y < k := by
        intro y hy
        rcases List.mem_append.1 hy with h | h
        · exact hI.all y h
        · simp at h; omega
      cases hpk : pk P pre with
      | none =>
        rw [hpk] at i2 i4
        simp only [Option.getD_none, Option.isSome_none] at i2 i4
        have hp2 : pk P (pre ++ [x]) = some x := by rw [pk_snoc, hpk]; rfl
        gi_wp2
        refine ⟨trivial, ?_⟩
        gi_wp2
        exact ⟨(KeepsOthers.setCell _ _ _).trans (KeepsOthers.setCell _ _ _), ((Below.refl w.heap.size W).setCell (by simp only []; omega) _).setCell (by simp only []; omega) _,
          PkI.put hal (by omega) hp2 i1 i2 i3 i4 i5, (hBW.setCell (by simp only []; omega) _).setCell (by simp only []; omega) _⟩
      | some f =>
        rw [hpk] at i2 i4
        simp only [Option.getD_some, Option.isSome_some] at i2 i4
        have hf := hI.fst f hpk
        have hAA := Lib.hid (ahead_any A k c P x f W hP (by omega) hf (hr.same (Same.of_below hBW)))
        have hps : pk P (pre ++ [x]) = if acmp P x f < 0 then some x else some f := by rw [pk_snoc, hpk]; rfl
        generalize acmp P x f = q at *
        have hQ := Lib.hid hps
        by_cases hq0 : q < 0
        · have hdq : decide (q < 0) = true := decide_eq_true hq0
          have hp2 : pk P (pre ++ [x]) = some x := by rw [hQ.out, if_pos hq0]
          clear hps
          have hcf : ∀ (a : Addr) (v : Value) (w' : World), W.cell? a = some v → Same W w' → w'.frozen? a = W.frozen? a := fun a v w' h hs => hs.below.frozen (World.block_lt_of_cell? W _ h)
          have SS : Hid (∀ w', Grw W w' → w'.cell? ⟨w.heap.size + 1, 0, none⟩ = some (.int .i64 (f : Int)) ∧ w'.frozen? ⟨w.heap.size + 1, 0, none⟩ = false ∧ w'.cell? ⟨w.heap.size + 2, 0, none⟩ = some (.bool true) ∧ w'.frozen? ⟨w.heap.size + 2, 0, none⟩ = false) := Lib.hid fun w' hg =>
            ⟨hg.same.cell i2, (hcf _ _ w' i2 hg.same).trans i3, hg.same.cell i4, (hcf _ _ w' i4 hg.same).trans i5⟩
          gi_wp2_with (refine ⟨trivial, ?_⟩; gi_at_call 48; refine (CallsIn.inRound l (callsIn_wide.2 hAA.out)).mono ?_; rintro e w' ⟨rfl, hg⟩; obtain ⟨j1, j2, j3, j4⟩ := SS.out w' hg)
          have hs := hg.same
          have hbs := below_of_same hs hBW.size
          exact ⟨(others_of_same hs).trans ((KeepsOthers.setCell _ _ _).trans (KeepsOthers.setCell _ _ _)), (hbs.setCell (by simp only []; omega) _).setCell (by simp only []; omega) _,
            PkI.put hal (by omega) hp2 (hs.cell i1) j1 j2 j3 j4, ((hBW.trans hbs).setCell (by simp only []; omega) _).setCell (by simp only []; omega) _⟩
        · have hdq : decide (q < 0) = false := decide_eq_false hq0
          have hp2 : pk P (pre ++ [x]) = some f := by rw [hQ.out, if_neg hq0]
          clear hps
          gi_wp2_with (refine ⟨trivial, ?_⟩; gi_at_call 48; refine (CallsIn.inRound l (callsIn_wide.2 hAA.out)).mono ?_; rintro e w' ⟨rfl, hg⟩)
          have hs := hg.same
          exact ⟨others_of_same hs, below_of_same hs hBW.size, ⟨hal, by intro g h; rw [hp2] at h; cases h; exact hf, hs.cell i1, by rw [hp2]; exact hs.cell i2, (hs.below.frozen (World.block_lt_of_cell? W _ i2)).trans i3, by rw [hp2]; exact hs.cell i4, (hs.below.frozen (World.block_lt_of_cell? W _ i4)).trans i5⟩, hBW.trans (below_of_same hs hBW.size)⟩
  case done =>
    rintro D xs W hD hxs ⟨hI, hBW⟩ hK
    subst hxs
    have i2 := hI.c1
    have i4 := hI.c2
    have hK2 : W.drew.heap[D]? = some (.deferred (some [])) := hK
    gi_wp2
    gi_region
    all_goals gi_wp2
    all_goals (try go_bits)
    all_goals refine ⟨by simp, .inl ⟨_, _, rfl, run_takeDeferred hK2, ?_⟩⟩
    all_goals exact ⟨_, results_tmp2 rfl _ _ _, ⟨_, List.prefix_refl _, hI.all, .inl rfl, rfl⟩, hBW.drew.trans (belowK_b (w := w) (Nat.le_refl _) W.drew D _ _ (by omega) hK2 rfl rfl)⟩
  case stop =>
    rintro D cd pre W hD hp ⟨⟨rfl, p0, x, rfl, hxk, hI⟩, hBW⟩ hK
    have i2 := hI.c1
    have i4 := hI.c2
    have hK2 : W.drew.heap[D]? = some (.deferred (some [])) := hK
    gi_wp2
    gi_region
    all_goals gi_wp2
    all_goals (try go_bits)
    all_goals refine ⟨by simp, .inl ⟨_, _, rfl, run_takeDeferred hK2, ?_⟩⟩
    all_goals exact ⟨_, results_tmp2 rfl _ _ _, ⟨p0, (List.prefix_append p0 [x]).trans hp, hI.all, .inr ⟨x, hxk, hp⟩, rfl⟩, hBW.drew.trans (belowK_b (w := w) (Nat.le_refl _) W.drew D _ _ (by omega) hK2 rfl rfl)⟩

end Go.Proofs.YtikjkmomokhanaaDoor.Be
