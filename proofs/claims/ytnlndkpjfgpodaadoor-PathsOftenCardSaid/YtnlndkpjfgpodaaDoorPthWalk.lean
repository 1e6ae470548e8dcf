/-

  Package paths (layer 11): the walk of some choices (Walk).
-/
import Derived.Test.YtnlndkpjfgpodaaDoorPthPlaces
import Derived.Test.YtnlndkpjfgpodaaDoorRefWalk
import Derived.RangeFuncBox
set_option linter.unusedVariables false
set_option linter.unusedSimpArgs false
namespace Go.Proofs.YtnlndkpjfgpodaaDoor.Pt
open Go.ChangeShapes Go.WideShapes Go.ChangeAt Go.RowKit Ws
open Go.Shelf
open Go.Proofs.YtnlndkpjfgpodaaDoor.Fp (Ins at_ Fine at_some lp loopsL)
open Go.Proofs.YtnlndkpjfgpodaaDoor.Fw (Prg okB okB_fine)
open Go.Proofs.YtnlndkpjfgpodaaDoor.Pk
open Go.Proofs.YtnlndkpjfgpodaaDoor.Wk (Sp wk wkN pcs pcs_len pcs_at pcs_succ NoD good_wk Sp0 WalkP wk_ends int_inf)
attribute [local go_sem] Oper.semAt_some

/-- append, in a round -/
theorem wpListIn_app {F : Fence} {n0 : Nat} {P : Program} {w : World} {ops : Array Oper} {rest : List Oper} {o : Oper} {a : Act} {Q : Exit → Act → World → Prop} (hgd : o.guard = none) (s x : Operand) (t : TypeId)
    (ho : o.op = .call { callee := .builtin .append, args := #[s, x], argTypes := #[t, t] })
    (base : Nat) (e : TypeId) (i : TypeInfo) (z : Value) (bytes : Nat) (ht : P.underlying t = some (.slice e)) (hi : P.info? e = some i) (hz : i.zero = some z)
    (hsize : i.size = 1) (hby : i.bytes = bytes) (hzs : z.cells.size = 1)
    (A : Option Addr) (n c : Nat) (xs : List Value) (hs : a.eval s = .slice A n c) (hn : xs.length = n) (hown : Ws.Own w base e A c xs)
    (C : Option Addr) (m d : Nat) (ys : List Value) (hx : a.eval x = .slice C m d) (hm : ys.length = m) (hr : Row w C ys) (h1 : ∀ u ∈ ys, u.oneCell' = true)
    (h63 : xs.length + ys.length ≤ 4294967296) (hby2 : bytes ≤ 16) (hbase : base ≤ w.heap.size)
    (h : ∀ A' c' w', Ws.Own w' base e A' c' (xs ++ ys) → Chg (fun g => A = some ⟨g, 0, none⟩) w w' → (A' = A ∨ A' = some ⟨w.heap.size, 0, none⟩) → wpListIn F n0 P ops Q rest (a.put o.dst (.slice A' (n + m) c')) w') :
    wpListIn F n0 P ops Q (o :: rest) a w := by
  subst hn
  subst hm
  refine wpListIn_plain hgd fun K hK => ?_
  obtain ⟨A', c', w', hr, h2, h3, h4⟩ := run_app (P := P) w base t o.type e i z bytes ht hi hz hsize hby hzs A c xs hown C d ys hr h1 h63 hby2 hbase
  rw [List.length_append] at hr
  unfold Oper.wpIn
  refine ⟨?_, ?_⟩
  · simp [Oper.about, ho, resolve, Target.leads, Sem.run_pure]
  · rw [Oper.semAt_plain F _ _ (by rw [ho]; intro c hc'; cases hc')]
    simp [execOp, ho, resolve, invoke, builtin, hs, hx, hr, Result.andThen]
    exact hK _ _ (h A' c' w' h2 h3 h4)
/-- two results, both in cells -/
theorem res_cells2 {P : Program} {fn : Func} {p q : Tmp} {t u : TypeId} (h : fn.results = #[.cell p t, .cell q u]) (tmps : Array Value) (w : World) (g k : Nat) (x y : Value)
    (hp : tmps.getD p undef = .pointer (some ⟨g, 0, none⟩)) (hq : tmps.getD q undef = .pointer (some ⟨k, 0, none⟩)) (hx : (loadVar t ⟨g, 0, none⟩).run P w = .ok x w) (hy : (loadVar u ⟨k, 0, none⟩).run P w = .ok y w) :
    (results fn tmps).run P w = .ok (.tuple #[x, y]) w := by
  have hp' : tmps[p]?.getD undef = .pointer (some ⟨g, 0, none⟩) := by simpa using hp
  have hq' : tmps[q]?.getD undef = .pointer (some ⟨k, 0, none⟩) := by simpa using hq
  simp [results, h, hp', hq', asAddr, hx, hy]
theorem load_cell {A : Option Addr} {n c g : Nat} {w : World} (h : w.cell? ⟨g, 0, none⟩ = some (.slice A n c)) : (loadVar 23 ⟨g, 0, none⟩).run Tryd.prog w = .ok (.slice A n c) w := by
  have hu := Tryd.underlying23
  simp [go_sem, hu, h]
theorem load_bool {b : Bool} {g : Nat} {w : World} (h : w.cell? ⟨g, 0, none⟩ = some (.bool b)) : (loadVar 4 ⟨g, 0, none⟩).run Tryd.prog w = .ok (.bool b) w := by
  have hu := Tryd.underlying4
  simp [go_sem, hu, h]
theorem own_noC {w : World} {B : Nat} {e : TypeId} {A : Option Addr} {c : Nat} {l : List Value} (h : Ws.Own w B e A c l) {g : Nat} (hA : A = some ⟨g, 0, none⟩) : ¬ NoC w g := by
  subst hA
  rintro ⟨o, h1, h2⟩
  rcases h.2 with ⟨h3, _⟩ | ⟨g2, cap, cur, hv, _, hg, _⟩
  · cases h3
  · injection hv with hv
    injection hv with hv
    injection hv with hv
    subst hv
    rw [hg] at h1
    cases h1
    cases h2
theorem keeps_chg {S : Nat → Prop} {W W' : World} (h : Chg S W W') (hS : ∀ i, S i → ¬ NoC W i) : KeepsOthers W W' :=
  ⟨h.size, fun k o hk ho => (h.block k (Array.getElem?_eq_some_iff.1 hk).1 fun hs => hS k hs ⟨o, hk, ho⟩).trans hk⟩
/-- what stands between two rounds -/
structure WI (w w0 : World) (r0 r1 mb tb : Nat) (most : Int) (pre : List Int) (W : World) : Prop where
  row : ∃ A c, Blk W tb 23 #[.slice A pre.length c] ∧ Ws.Own W (tb + 1) 3 A c (pre.map (Value.int .i64))
  b0 : Blk W r0 23 #[.slice none 0 0]
  b1 : Blk W r1 4 #[.bool false]
  bm : Blk W mb 3 #[.int .i64 most]
  same : Same w W
  len : pre = [] ∨ (pre.length : Int) ≤ most
  size : w0.heap.size ≤ W.heap.size
theorem WI.chg {w w0 W W' : World} {r0 r1 mb tb : Nat} {most : Int} {pre : List Int} {S : Nat → Prop} (h : WI w w0 r0 r1 mb tb most pre W) (hc : Chg S W W') (h0 : ¬ S r0) (h1 : ¬ S r1) (hm : ¬ S mb) (ht : ¬ S tb) (hn : ∀ i, Nm tb W i → ¬ NoC W i → ¬ S i) (hs : ∀ i, S i → w.heap.size ≤ i) : WI w w0 r0 r1 mb tb most pre W' := by
  obtain ⟨A, c, hb, ho⟩ := h.row
  exact ⟨⟨A, c, hb.chg hc ht, ho.chg hc (fun g e => hn g ⟨0, _, _, by rw [← e]; exact hb.cell 0⟩ (own_noC ho e))⟩, h.b0.chg hc h0, h.b1.chg hc h1, h.bm.chg hc hm, Same.more h.same hc hs, h.len, Nat.le_trans h.size hc.size⟩
/-- what a walk that is cut off leaves -/
structure WX (w w0 : World) (r0 r1 : Nat) (most : Int) (pre : List Int) (W : World) : Prop where
  row : ∃ p0 x A c, pre = p0 ++ [x] ∧ p0.length = most.toNat ∧ Blk W r0 23 #[.slice A p0.length c] ∧ Row W A (p0.map (Value.int .i64))
  b1 : Blk W r1 4 #[.bool false]
  same : Same w W
theorem WX.chg {w w0 W W' : World} {r0 r1 : Nat} {most : Int} {pre : List Int} {S : Nat → Prop} (h : WX w w0 r0 r1 most pre W) (hc : Chg S W W') (h0 : ¬ S r0) (h1 : ¬ S r1) (hn : ∀ i, ¬ NoC W i → ¬ S i) (hs : ∀ i, S i → w.heap.size ≤ i) : WX w w0 r0 r1 most pre W' := by
  obtain ⟨p0, x, A, c, e, hl, hb, hr⟩ := h.row
  have hr2 : Row W' A (p0.map (Value.int .i64)) := fun j u hj => by
    obtain ⟨b, o, e1, hcell⟩ := hr j u hj
    exact ⟨b, o, e1, hc.cell hcell (hn b (noC_cell hcell))⟩
  exact ⟨⟨p0, x, A, c, e, hl, hb.chg hc h0, hr2⟩, h.b1.chg hc h1, Same.more h.same hc hs⟩
theorem bool_of_row {w : World} {C : Option Addr} {ch : List Bool} (h : Row w C (ch.map Value.bool)) (hne : ch ≠ []) : ∃ b o, C = some ⟨b, o, none⟩ ∧ b < w.heap.size := by
  cases ch with
  | nil => exact absurd rfl hne
  | cons x l =>
    obtain ⟨b, o, e, hc⟩ := h 0 (.bool x) rfl
    exact ⟨b, o, e, World.block_lt_of_cell? w _ hc⟩
theorem kpT_trans {tb n₀ : Nat} : ∀ {A B C : World}, KpT tb n₀ A B → KpT tb n₀ B C → KpT tb n₀ A C := fun h k => h.trans k
set_option maxRecDepth 100000 in
set_option maxHeartbeats 4000000 in
/-- the walk proper -/
theorem walk_in (A : Option Addr) (m c : Nat) (p : List Ins) (CA : Option Addr) (cn cc : Nat) (ch : List Bool) (most : Int) (w : World) (hl : p.length = m) (hm : m ≤ 5000) (hp : Prg w A p) (hC : Row w CA (ch.map Value.bool)) (hcl : ch.length = cn) (hcc : cn ≤ cc ∧ cc ≤ maxLen) (hmo : most ≤ 100000) (hT : Is.Tabs w) (hok : okB p = true) :
    CallsIn Fence.wide 6 Tryd.prog 30 #[.slice A m c, .slice CA cn cc, .int .i64 most] w (WalkP w p ch most.toNat) := by
  have h1 : 1 ≤ 6 := by omega
  have hro : Fence.wide.round = none := rfl
  have hF := okB_fine hok
  have hpl := hF.size
  have hCl : ∀ j, j < (loopsL p).length → 0 ≤ (at_ p (Fp.lp (loopsL p) j).2.toNat).c := fun j hj => (loop_at hok hp.nn hj).2.2.2.1
  obtain ⟨D, hD, hDd⟩ := wk_ends hF hp.nn hCl ch
  obtain ⟨i0, hi, hz0, hz1, hz2⟩ := info_parts int_inf
  have MA := Lib.hid (fun W (s : Same w W) => pmay_any A m c p W hl hm (hp.same s) (hT.same s))
  rw [hok] at MA
  refine callsIn_of_wp_marks Tryd.func30 rfl trivial ?_ hro
  simp only [Tryd.ntmps30, List.size_toArray, List.length_cons, List.length_nil, Nat.reduceAdd, Nat.reduceSub, Array.replicate_succ, Array.replicate_zero, List.push_toArray, List.append_toArray, List.nil_append, List.cons_append]
  gi_wp2_with (refine ⟨trivial, ?_⟩; gi_at_call 58; refine (callsIn_wide.2 (MA.out _ ((((Same.refl w).alloc _).alloc _).alloc _))).mono ?_; rintro e w1 ⟨rfl, s1⟩)
  have b0 : Blk w1 (w.heap.size + 1) 23 #[.slice none 0 0] := by
    have h := Blk.new (w.alloc (.cells #[.int .i64 most] 3)) 23 #[.slice none 0 0]
    rw [World.size_alloc] at h
    exact (h.same ((Same.refl _).alloc _)).same s1
  have b1 : Blk w1 (w.heap.size + 1 + 1) 4 #[.bool false] := by
    have h := Blk.new ((w.alloc (.cells #[.int .i64 most] 3)).alloc (.cells #[.slice none 0 0] 23)) 4 #[.bool false]
    rw [World.size_alloc, World.size_alloc] at h
    exact h.same s1
  have bm : Blk w1 w.heap.size 3 #[.int .i64 most] := ((Blk.new w _ _).same (((Same.refl _).alloc _).alloc _)).same s1
  have s01 : Same w w1 := ((((Same.refl w).alloc _).alloc _).alloc _).trans s1
  clear s1 MA
  have z1 : w.heap.size + 3 ≤ w1.heap.size := by have := b1.lt; omega
  obtain ⟨r0, hr0⟩ : ∃ r0, r0 = w.heap.size + 1 := ⟨_, rfl⟩
  obtain ⟨r1, hr1⟩ : ∃ r1, r1 = w.heap.size + 1 + 1 := ⟨_, rfl⟩
  obtain ⟨mb, hmb⟩ : ∃ mb, mb = w.heap.size := ⟨_, rfl⟩
  obtain ⟨tb, htb⟩ : ∃ tb, tb = w1.heap.size := ⟨_, rfl⟩
  rw [← hr0] at b0
  rw [← hr1] at b1
  rw [← hmb] at bm
  have PA := fun W => places_any A m c CA cn cc W
  gi_wp2_with (refine ⟨trivial, ?_⟩; gi_at_call 59; refine (callsIn_wide.2 (PA _)).mono ?_; rintro e w3 ⟨rfl, hw3⟩)
  obtain ⟨w2, hw2⟩ : ∃ w2, w2 = w1.alloc (.cells #[.slice none 0 0] 23) := ⟨_, rfl⟩
  rw [← hw2] at hw3
  have s12 : Same w1 w2 := by rw [hw2]; exact (Same.refl _).alloc _
  have s23 : Same w2 w3 := by rw [hw3]; exact ((Same.refl _).alloc _).alloc _
  have bt : Blk w2 tb 23 #[.slice none 0 0] := by rw [hw2, htb]; exact Blk.new w1 _ _
  have z2 : w2.heap.size = tb + 1 := by rw [hw2, htb]; simp
  have z3 : w3.heap.size = tb + 3 := by rw [hw3]; simp [z2]
  have bp : w3.cell? ⟨tb + 1, 0, none⟩ = some (.slice A m c) := by
    have h := (Blk.new w2 22 #[.slice A m c]).same ((Same.refl _).alloc (.cells #[.slice CA cn cc] 34))
    rw [z2, ← hw3] at h
    exact h.cell 0
  have bc : w3.cell? ⟨tb + 1 + 1, 0, none⟩ = some (.slice CA cn cc) := by
    have h := Blk.new (w2.alloc (.cells #[.slice A m c] 22)) 34 #[.slice CA cn cc]
    rw [World.size_alloc, z2, ← hw3] at h
    exact h.cell 0
  have ez2 : (w1.alloc (.cells #[.slice none 0 0] 23)).heap.size = tb + 1 := by rw [← hw2]; exact z2
  have s03 : Same w w3 := s01.trans (s12.trans s23)
  have ht3 : w3.cell? ⟨tb, 0, none⟩ = some (.slice none 0 0) := (bt.same s23).cell 0
  have z13 : w1.heap.size ≤ w3.heap.size := by omega
  obtain ⟨gc, hgc, hgt, hgA⟩ : ∃ gc, gc < w3.heap.size ∧ gc ≠ tb ∧ (ch ≠ [] → ∀ g o, CA = some ⟨g, o, none⟩ → g = gc) := by
    by_cases hne : ch = []
    · exact ⟨tb + 1, by omega, by omega, fun h => absurd hne h⟩
    · obtain ⟨b, o, e, hb⟩ := bool_of_row hC hne
      exact ⟨b, by have := Chg.size s03; omega, by omega, fun _ g o' e' => by rw [e] at e'; cases e'; rfl⟩
  have hpA : ∀ g o, A = some ⟨g, o, none⟩ → g ≠ tb := fun g o e => by
    obtain ⟨_, b, o', h1, h2, _⟩ := hp.at_ (k := 0) (by omega)
    rw [h1] at e
    cases e
    have := World.block_lt_of_cell? w _ h2
    simp only at this
    omega
  have PL := fun l J Jx W hW hJ hJs hY h0 => places_in 5 (by omega) l tb (tb + 1) (tb + 1 + 1) gc A m c p CA cn cc ch w3 D hl hm hok (hp.same s03) hpA (hC.same s03) hcl hcc hgA ⟨hgc, hgt⟩ ht3 bp (by omega) bc (by omega) hD hDd J Jx W hW hJ hJs hY h0
  have WI0 : WI w w3 r0 r1 mb tb most [] w3 := ⟨⟨none, 0, bt.same s23, Wk.own_nil _ _ _⟩, (b0.same s12).same s23, (b1.same s12).same s23, (bm.same s12).same s23, s03, .inl rfl, Nat.le_refl _⟩
  rw [hw2] at hw3
  rw [← hr1, ← hr0, ← hmb, ← htb, ← hw3]
  have horder : w.heap.size ≤ mb ∧ w.heap.size ≤ r0 ∧ w.heap.size ≤ r1 ∧ w.heap.size ≤ tb ∧ mb ≠ r0 ∧ mb ≠ r1 ∧ mb ≠ tb ∧ r0 ≠ r1 ∧ r0 ≠ tb ∧ r1 ≠ tb ∧ mb < w3.heap.size ∧ r0 < w3.heap.size ∧ r1 < w3.heap.size ∧ tb < w3.heap.size := by omega
  have hw3le : w.heap.size ≤ w3.heap.size := by omega
  have HORD := Lib.hid (show mb < tb ∧ r0 < tb ∧ r1 < tb by omega)
  obtain ⟨o1, o2, o3, o4, o5, o6, o7, o8, o9, o10, o11, o12, o13, o14⟩ := horder
  clear PA hw3 hw2 z2 z3 ez2 hr0 hr1 hmb htb z1 z13 s12 s23 bt bp bc ht3 b0 b1 bm
  refine range_kp (n := 6) h1 (gf := 88) (lb := #[.pointer (some ⟨tb + 1, 0, none⟩), .pointer (some ⟨tb + 1 + 1, 0, none⟩)]) rfl (enters_of Tryd.func88 (by kernel_rfl) rfl)
    (encs := fun x : Int => #[.int .i64 x]) (Kp := KpT tb w3.heap.size) (St := Stp tb w3) (S := fun xs => xs = pcs p ch (D + 1)) (Sp := fun pre => pre <+: pcs p ch (D + 1)) (N := D + 1)
    (fun l J Jx W hW hJ hJx hJs hY h0 => PL l J Jx W hW hJ hJs hY h0) kpT_trans (fun W l o o' hl h ho => KpT.putObj tb w3.heap.size W l o o' hl h ho) (fun X Y h i o hi ho => stp_keep h i o hi ho) (fun _ => rfl)
    (WI w w3 r0 r1 mb tb most) (fun cd pre W => cd = .ret ∧ WX w w3 r0 r1 most pre W)
    (fun x => { tmps := #[.slice A m c, .slice CA cn cc, .int .i64 most, undef, undef, .pointer (some ⟨mb, 0, none⟩), .pointer (some ⟨r0, 0, none⟩), .pointer (some ⟨r1, 0, none⟩), .pointer (some ⟨tb, 0, none⟩), .int .i64 x, .slice A m c, .bool true, .bool false, .slice A m c, .slice CA cn cc,
      .func (.func 88) #[] #[.pointer (some ⟨tb + 1, 0, none⟩), .pointer (some ⟨tb + 1 + 1, 0, none⟩)], .int .i64 x, undef, undef, undef, undef, undef, undef, undef, undef, undef, undef], defers := [] })
    (fun pre X Y row hs hg hr => ?own) (fun cd pre X Y row hs hg hr => ?ownx) (fun pre X Y hs hst => ?stp) WI0 ?assign ?body ?done ?stop
  case own =>
    have hno : ∀ i, some i = row → NoC X i ∧ w3.heap.size ≤ i := fun i e => by
      obtain ⟨h1, h2⟩ := hr i e.symm
      exact ⟨h2, h1⟩
    exact hs.chg (Chg.of_grown hg) (fun e => by have := (hno _ e).2; omega) (fun e => by have := (hno _ e).2; omega) (fun e => by have := (hno _ e).2; omega) (fun e => by have := (hno _ e).2; omega) (fun i _ hn e => hn (hno _ e).1) (fun i e => by have := (hno _ e).2; omega)
  case ownx =>
    have hno : ∀ i, some i = row → NoC X i ∧ w3.heap.size ≤ i := fun i e => by
      obtain ⟨h1, h2⟩ := hr i e.symm
      exact ⟨h2, h1⟩
    exact ⟨hs.1, hs.2.chg (Chg.of_grown hg) (fun e => by have := (hno _ e).2; omega) (fun e => by have := (hno _ e).2; omega) (fun i hn e => hn (hno _ e).1) (fun i e => by have := (hno _ e).2; omega)⟩
  case stp =>
    obtain ⟨q, tq, henv, _, _, hc⟩ := hst
    have hge := henv.ge
    exact hs.chg hc (by omega) (by omega) (by omega) (by omega) (fun i hi _ e => by
      rcases e with rfl | rfl
      · exact henv.nq hi
      · exact henv.nt hi) (fun i e => by omega)
  case assign =>
    intro l x W K hK
    gi_wp2
    exact hK
  case body =>
    rintro l pre x W hI hlt
    obtain ⟨A', c', hb, ho⟩ := hI.row
    have c8 := hb.cell 0
    have f8 := hb.thaw 0
    have c5 := hI.bm.cell 0
    have f6 := hI.b0.thaw 0
    have f7 := hI.b1.thaw 0
    have c6 := hI.b0.cell 0
    have c7 := hI.b1.cell 0
    simp only [List.getElem?_toArray, List.getElem?_cons_zero, List.getElem?_cons_succ] at c8 c5 c6 c7
    by_cases hge : most ≤ (pre.length : Int)
    · gi_wp2
      have hcc2 : Chg (fun i => i = r0 ∨ i = r1) W ((W.setCell ⟨r0, 0, none⟩ (.slice A' pre.length c')).setCell ⟨r1, 0, none⟩ (.bool false)) := ((Chg.refl (fun i => i = r0 ∨ i = r1) W).set (p := ⟨r0, 0, none⟩) (.inl (.inl rfl)) _).set (p := ⟨r1, 0, none⟩) (.inl (.inr rfl)) _
      have hb0 : Blk (W.setCell ⟨r0, 0, none⟩ (.slice A' pre.length c')) r0 23 #[.slice A' pre.length c'] := hI.b0.put 0 _
      have hb0' := hb0.chg ((Chg.refl (fun i => i = r1) _).set (p := ⟨r1, 0, none⟩) (.inl rfl) (.bool false)) o8
      have hb1 := (hI.b1.chg ((Chg.refl (fun i => i = r0) W).set (p := ⟨r0, 0, none⟩) (.inl rfl) (.slice A' pre.length c')) (fun e => o8 e.symm)).put 0 (.bool false)
      have hrow : Row ((W.setCell ⟨r0, 0, none⟩ (.slice A' pre.length c')).setCell ⟨r1, 0, none⟩ (.bool false)) A' (pre.map (Value.int .i64)) := ho.row.chg hcc2 (fun b o e hne hs => by
        subst e
        have hne1 : ∀ g, some (⟨b, o, none⟩ : Addr) = some ⟨g, 0, none⟩ → (g ≠ r0 ∧ g ≠ r1) := fun g eg => by
          rcases ho.2 with ⟨h3, _⟩ | ⟨g2, cap, cur, hv, _, hg, _⟩
          · cases h3
          · injection hv with hv
            injection hv with hv
            injection hv with hv1 hv2
            injection eg with eg
            injection eg with eg1 eg2
            subst hv1 eg1
            refine ⟨fun e => ?_, fun e => ?_⟩
            · subst e
              have := hI.b0
              unfold Blk at this
              rw [this] at hg
              injection hg with hg
              injection hg with _ hg
              exact absurd hg (by decide)
            · subst e
              have := hI.b1
              unfold Blk at this
              rw [this] at hg
              injection hg with hg
              injection hg with _ hg
              exact absurd hg (by decide)
        have ho0 : o = 0 := by
          rcases ho.2 with ⟨h3, _⟩ | ⟨g2, cap, cur, hv, _⟩
          · cases h3
          · injection hv with hv
            injection hv with hv
            injection hv with hv1 hv2
        subst ho0
        obtain ⟨h5, h6⟩ := hne1 b rfl
        rcases hs with h | h
        · exact h5 h
        · exact h6 h)
      have hln : pre.length = most.toNat := by
        rcases hI.len with h | h
        · subst h
          simp only [List.length_nil] at hge ⊢
          omega
        · omega
      exact ⟨(keeps_chg hcc2 (fun i hs hno => by
        rcases hs with rfl | rfl
        · exact blk_noC hI.b0 hno
        · exact blk_noC hI.b1 hno)).from _, rfl, ⟨pre, x, A', c', rfl, hln, hb0', hrow⟩, hb1, Same.more hI.same hcc2 (fun i hs => by omega)⟩
    · have HO := Lib.hid ho
      have hnt : ∀ g, A' = some ⟨g, 0, none⟩ → g ≠ tb := fun g e => by
        have := Wk.own_ge ho e
        omega
      have HNT := Lib.hid hnt
      have HB := Lib.hid hb
      have HI := Lib.hid hI
      have hlb : pre.length ≤ 100000 := by have := hI.len; omega
      have hwb := hI.size
      clear hnt hb hI ho
      gi_wp2_with (gi_at_builtin; refine wpListIn_app rfl _ _ 23 rfl (tb + 1) 3 i0 _ 8 Tryd.underlying23 hi hz0 hz1 hz2 rfl A' pre.length c' (pre.map (Value.int .i64)) rfl (by simp) (HO.out.same ((Same.refl _).alloc _)) _ 1 1 [.int .i64 x] rfl rfl (row_new _ _ _) (by intro u hu; simp at hu; subst hu; rfl) (by simp; omega) (by omega) (by simp; omega) ?_; intro A2 c2 W2 ho2 hc2 hor; have hb2 := (HB.out.same ((Same.refl _).alloc _)).chg hc2 (fun e => HNT.out _ e rfl); have c8 := hb2.cell 0; have f8 := hb2.thaw 0)
      have hc1 := ((Chg.refl (fun g => A' = some ⟨g, 0, none⟩) W).alloc (.cells #[.int .i64 x] 3)).trans hc2
      have hc3 : Chg (fun i => i = tb ∨ A' = some ⟨i, 0, none⟩) W (W2.setCell ⟨tb, 0, none⟩ (.slice A2 (pre.length + 1) c2)) := (hc1.weak (fun i _ e => .inr e)).set (p := ⟨tb, 0, none⟩) (.inl (.inl rfl)) _
      have hNm : ∀ i, A' = some ⟨i, 0, none⟩ → Nm tb W i := fun i e => ⟨0, _, _, by rw [← e]; exact HB.out.cell 0⟩
      have hb3 : Blk (W2.setCell ⟨tb, 0, none⟩ (.slice A2 (pre.length + 1) c2)) tb 23 #[.slice A2 (pre.length + 1) c2] := hb2.put 0 _
      have hA2 : ∀ g, A2 = some ⟨g, 0, none⟩ → g ≠ tb := fun g e => by
        rcases hor with h | h
        · exact HNT.out g (h ▸ e)
        · rw [h] at e
          injection e with e
          injection e with e
          have := HB.out.lt
          simp at e
          omega
      have hkp : KpT tb w3.heap.size W (W2.setCell ⟨tb, 0, none⟩ (.slice A2 (pre.length + 1) c2)) := KpT.of_chg (hc3.weak fun i _ h => h.imp id (hNm i)) (hb3.cell 0) (fun i o n' c'' e hlt => by
        injection e with e _ _
        rcases hor with h | h
        · exact ⟨o, _, _, by rw [← e, h]; exact HB.out.cell 0⟩
        · rw [h] at e
          injection e with e
          injection e with e
          simp at e
          omega)
      have hI := HI.out
      have hno : ∀ g, A' = some ⟨g, 0, none⟩ → g ≠ r0 ∧ g ≠ r1 ∧ g ≠ mb := fun g e => by
        have := Wk.own_ge HO.out e
        have := HORD.out
        omega
      refine ⟨(keeps_chg hc3 (fun i hs hno => by
        rcases hs with rfl | hs
        · exact blk_noC HB.out hno
        · exact own_noC HO.out hs hno)).from _, hkp, ⟨⟨A2, c2, ?_, ?_⟩, hI.b0.chg hc3 (fun h => ?_), hI.b1.chg hc3 (fun h => ?_), hI.bm.chg hc3 (fun h => ?_), Same.more hI.same hc3 (fun i hs => ?_), ?_, Nat.le_trans hI.size hc3.size⟩⟩
      · have e : (pre ++ [x]).length = pre.length + 1 := by simp
        rw [e]; exact hb3
      · rw [List.map_append]
        exact ho2.chg ((Chg.refl (fun i => i = tb) W2).set (p := ⟨tb, 0, none⟩) (.inl rfl) _) (fun g e => hA2 g e)
      · rcases h with h | h
        · exact o9 h
        · exact (hno _ h).1 rfl
      · rcases h with h | h
        · exact o10 h
        · exact (hno _ h).2.1 rfl
      · rcases h with h | h
        · exact o7 h
        · exact (hno _ h).2.2 rfl
      · rcases hs with rfl | h
        · exact o4
        · have := Wk.own_ge HO.out h
          omega
      · right
        simp
        omega
  case done =>
    rintro Dd xs W hDd2 rfl hI hK
    obtain ⟨A', c', hb, ho⟩ := hI.row
    have hlen : (pcs p ch (D + 1)).length = D + 1 := pcs_len _ _ _
    have hle : (((pcs p ch (D + 1)).length : Nat) : Int) ≤ most := hI.len.resolve_left (fun e => by rw [e] at hlen; simp at hlen)
    rw [hlen] at hb hle
    have c8 := hb.cell 0
    have f6 := hI.b0.thaw 0
    have f7 := hI.b1.thaw 0
    have c6 := hI.b0.cell 0
    have c7 := hI.b1.cell 0
    simp only [List.getElem?_toArray, List.getElem?_cons_zero, List.getElem?_cons_succ] at c8 c6 c7
    have HK := Lib.hid hK
    have HI := Lib.hid hI
    have HO := Lib.hid ho
    have HND := Lib.hid hD
    have HDN := Lib.hid hDd
    clear hK hI ho hb hD hDd
    gi_wp2
    have hc2 : Chg (fun i => i = r0 ∨ i = r1) W ((W.setCell ⟨r0, 0, none⟩ (.slice A' (D + 1) c')).setCell ⟨r1, 0, none⟩ (.bool true)) := ((Chg.refl (fun i => i = r0 ∨ i = r1) W).set (p := ⟨r0, 0, none⟩) (.inl (.inl rfl)) _).set (p := ⟨r1, 0, none⟩) (.inl (.inr rfl)) _
    have hb0 : Blk ((W.setCell ⟨r0, 0, none⟩ (.slice A' (D + 1) c')).setCell ⟨r1, 0, none⟩ (.bool true)) r0 23 #[.slice A' (D + 1) c'] := Blk.chg (HI.out.b0.put 0 _) ((Chg.refl (fun i => i = r1) _).set (p := ⟨r1, 0, none⟩) (.inl rfl) (.bool true)) o8
    have hb1 := (HI.out.b1.chg ((Chg.refl (fun i => i = r0) W).set (p := ⟨r0, 0, none⟩) (.inl rfl) (.slice A' (D + 1) c')) (fun e => o8 e.symm)).put 0 (.bool true)
    have hrw : Row ((W.setCell ⟨r0, 0, none⟩ (.slice A' (D + 1) c')).setCell ⟨r1, 0, none⟩ (.bool true)) A' ((pcs p ch (D + 1)).map (Value.int .i64)) := (HO.out.chg hc2 (fun g e h => by
      have := Wk.own_ge HO.out e
      have := HORD.out
      omega)).row
    have hss := Same.more HI.out.same hc2 (fun i hs => by omega)
    have hK2 : ((W.setCell ⟨r0, 0, none⟩ (.slice A' (D + 1) c')).setCell ⟨r1, 0, none⟩ (.bool true)).heap[Dd]? = some (.deferred (some [])) := (hc2.block Dd (Array.getElem?_eq_some_iff.1 HK.out).1 (by omega)).trans HK.out
    clear c6 c7 f6 f7 c8
    generalize (W.setCell ⟨r0, 0, none⟩ (.slice A' (D + 1) c')).setCell ⟨r1, 0, none⟩ (.bool true) = W5 at *
    have hcp : Chg (fun i => i = Dd) W5 (W5.putObj Dd (.deferred none)) := ⟨rfl, rfl, rfl, by simp, fun i hi hn => World.putObj_heap_other hn⟩
    have hnd : ¬ NoC W5 Dd → False := fun h => h ⟨_, hK2, rfl⟩
    refine ⟨by simp, .inl ⟨_, _, rfl, run_takeDeferred hK2, ?_⟩⟩
    refine ⟨_, res_cells2 Tryd.results30 _ _ r0 r1 _ _ rfl rfl (load_cell ((hb0.chg hcp (by omega)).cell 0)) (load_bool ((hb1.chg hcp (by omega)).cell 0)), ?_⟩
    exact Wk.walk_done (hrw.chg hcp (fun b o e hne hs => by
      obtain ⟨b2, o2, e2, hcell⟩ := hrw 0 _ (by rw [List.getElem?_map, pcs_at p ch (by omega)]; rfl)
      rw [e] at e2
      cases e2
      exact noC_cell hcell ⟨_, by rw [hs]; exact hK2, rfl⟩)) (Same.more hss hcp (fun i hs => by omega)) (by omega) HND.out HDN.out
  case stop =>
    rintro Dd cd pre W hDd2 hp ⟨rfl, hX⟩ hK
    obtain ⟨p0, x, A', c', rfl, hln, hb0, hr⟩ := hX.row
    gi_wp2
    have hcp : Chg (fun i => i = Dd) W (W.putObj Dd (.deferred none)) := ⟨rfl, rfl, rfl, by simp, fun i hi hn => World.putObj_heap_other hn⟩
    refine ⟨by simp, .inl ⟨_, _, rfl, run_takeDeferred hK, ?_⟩⟩
    refine ⟨_, res_cells2 Tryd.results30 _ _ r0 r1 _ _ rfl rfl (load_cell ((hb0.chg hcp (by omega)).cell 0)) (load_bool ((hX.b1.chg hcp (by omega)).cell 0)), ?_⟩
    obtain ⟨tl, htl⟩ := hp
    have hlen := congrArg List.length htl
    rw [pcs_len, List.length_append, List.length_append, List.length_singleton] at hlen
    have e0 : p0 = pcs p ch p0.length := by
      have e1 : (pcs p ch (D + 1)).take p0.length = p0 := by
        rw [← htl, List.append_assoc, List.take_left]
      rw [← e1]
      unfold pcs
      rw [← List.map_take, List.take_range, List.length_map, List.length_range]
    rw [hln] at hb0 e0 ⊢
    exact Wk.walk_out (by rw [← e0]; exact hr.chg hcp (fun b o e hne hs => by
      cases p0 with
      | nil => exact hne rfl
      | cons y l =>
        obtain ⟨b2, o2, e2, hcell⟩ := hr 0 _ rfl
        rw [e] at e2
        cases e2
        exact noC_cell hcell ⟨_, by rw [hs]; exact hK, rfl⟩)) (Same.more hX.same hcp (fun i hs => by omega)) (fun i hi => hD i (by omega))
set_option maxRecDepth 100000 in
theorem walk_bad (A : Option Addr) (m c : Nat) (p : List Ins) (CA : Option Addr) (cn cc : Nat) (most : Int) (w : World) (hl : p.length = m) (hm : m ≤ 5000) (hp : Prg w A p) (hT : Is.Tabs w) (hok : okB p = false) :
    Calls Tryd.prog 30 #[.slice A m c, .slice CA cn cc, .int .i64 most] w fun e w' => e = .returned (.tuple #[.slice none 0 0, .bool false]) ∧ Same w w' := by
  have MA := Lib.hid (fun W (s : Same w W) => pmay_any A m c p W hl hm (hp.same s) (hT.same s))
  rw [hok] at MA
  refine (callsIn_wide (n := 6)).1 ?_
  refine callsIn_of_wp_marks Tryd.func30 rfl trivial ?_ rfl
  simp only [Tryd.ntmps30, List.size_toArray, List.length_cons, List.length_nil, Nat.reduceAdd, Nat.reduceSub, Array.replicate_succ, Array.replicate_zero, List.push_toArray, List.append_toArray, List.nil_append, List.cons_append]
  gi_wp2_with (refine ⟨trivial, ?_⟩; gi_at_call 58; refine (callsIn_wide.2 (MA.out _ ((((Same.refl w).alloc _).alloc _).alloc _))).mono ?_; rintro e w1 ⟨rfl, s1⟩; have b0 : Blk w1 (w.heap.size + 1) 23 #[.slice none 0 0] := (by
    have h := Blk.new (w.alloc (.cells #[.int .i64 most] 3)) 23 #[.slice none 0 0]
    rw [World.size_alloc] at h
    exact (h.same ((Same.refl _).alloc _)).same s1); have b1 : Blk w1 (w.heap.size + 1 + 1) 4 #[.bool false] := (by
    have h := Blk.new ((w.alloc (.cells #[.int .i64 most] 3)).alloc (.cells #[.slice none 0 0] 23)) 4 #[.bool false]
    rw [World.size_alloc, World.size_alloc] at h
    exact h.same s1); have f0 := b0.thaw 0; have f1 := b1.thaw 0; have g0 := b0.cell 0; have g1 := b1.cell 0)
  have s01 : Same w w1 := ((((Same.refl w).alloc _).alloc _).alloc _).trans s1
  have hb0 := (b0.put 0 (.slice none 0 0)).chg ((Chg.refl (fun i => i = w.heap.size + 1 + 1) _).set (p := ⟨w.heap.size + 1 + 1, 0, none⟩) (.inl rfl) (.bool false)) (by omega)
  have hb1 := (b1.chg ((Chg.refl (fun i => i = w.heap.size + 1) w1).set (p := ⟨w.heap.size + 1, 0, none⟩) (.inl rfl) (.slice none 0 0)) (by omega)).put 0 (.bool false)
  have hss := Same.more s01 (((Chg.refl (fun i => i = w.heap.size + 1 ∨ i = w.heap.size + 1 + 1) w1).set (p := ⟨w.heap.size + 1, 0, none⟩) (.inl (.inl rfl)) (.slice none 0 0)).set (p := ⟨w.heap.size + 1 + 1, 0, none⟩) (.inl (.inr rfl)) (.bool false)) (fun i hi => by omega)
  refine ⟨_, res_cells2 Tryd.results30 _ _ (w.heap.size + 1) (w.heap.size + 1 + 1) _ _ rfl rfl (load_cell (hb0.cell 0)) (load_bool (hb1.cell 0)), rfl, hss⟩
theorem walk_any (A : Option Addr) (m c : Nat) (p : List Ins) (CA : Option Addr) (cn cc : Nat) (ch : List Bool) (most : Int) (w : World) (hl : p.length = m) (hm : m ≤ 5000) (hp : Prg w A p) (hC : Row w CA (ch.map Value.bool)) (hcl : ch.length = cn) (hcc : cn ≤ cc ∧ cc ≤ maxLen) (hmo : most ≤ 100000) (hT : Is.Tabs w) :
    Calls Tryd.prog 30 #[.slice A m c, .slice CA cn cc, .int .i64 most] w fun e w' => (¬ okB p = true → e = .returned (.tuple #[.slice none 0 0, .bool false]) ∧ Same w w') ∧ (okB p = true → WalkP w p ch most.toNat e w') := by
  by_cases hok : okB p = true
  · exact (callsIn_wide.1 (walk_in A m c p CA cn cc ch most w hl hm hp hC hcl hcc hmo hT hok)).mono fun e w' h => ⟨fun hn => absurd hok hn, fun _ => h⟩
  · exact (walk_bad A m c p CA cn cc most w hl hm hp hT (by simpa using hok)).mono fun e w' h => ⟨fun _ => h, fun hn => absurd hn hok⟩
end Go.Proofs.YtnlndkpjfgpodaaDoor.Pt
