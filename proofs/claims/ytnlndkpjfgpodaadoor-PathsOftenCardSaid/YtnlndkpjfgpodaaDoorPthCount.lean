/-

  Package paths (layer 11): how many walks there are (Count).
-/
import Derived.Test.YtnlndkpjfgpodaaDoorPthOnce
import Derived.Test.YtnlndkpjfgpodaaDoorPthRep
import Derived.Test.YtnlndkpjfgpodaaDoorOperApp
set_option linter.unusedVariables false
set_option linter.unusedSimpArgs false
namespace Go.Proofs.YtnlndkpjfgpodaaDoor.Pt
open Go.ChangeShapes Go.WideShapes Go.ChangeAt Go.RowKit Ws
open Go.Proofs.YtnlndkpjfgpodaaDoor.Fp (Ins at_ Fine at_some lp loopsL hasB lp_mem)
open Go.Proofs.YtnlndkpjfgpodaaDoor.Fw (Prg Spn spanCells spn_of okB okB_fine may_any loops_any LoopsPost)
open Go.Proofs.YtnlndkpjfgpodaaDoor.Cs (Wy Known izr)
open Go.Proofs.YtnlndkpjfgpodaaDoor.Wk (onceC knownC countI repCW)

/-- what is known of a loop -/
def kw (p : List Ins) (j : Nat) : Wy := repCW (onceC p (knownC p j) (lp (loopsL p) j)) ((at_ p (lp (loopsL p) j).2.toNat).c + 1).toNat
theorem known_map (p : List Ins) (n : Nat) : knownC p n = (List.range n).map fun j => (lp (loopsL p) j, kw p j) := by
  induction n with
  | zero => rfl
  | succ n ih =>
    rw [List.range_succ, List.map_append, ← ih]
    rfl
theorem rep_same (y : Wy) (n : Nat) : repC ⟨y.thru, y.fin⟩ n = ⟨(repCW y n).thru, (repCW y n).fin⟩ := by
  induction n with
  | zero => rfl
  | succ n ih => rw [repC, ih]; rfl
/-- the cells of the row known, so many of them filled -/
def kcF (p : List Ins) (n i : Nat) : Value := .int .i64 (if i / 2 < n then (if i % 2 = 0 then (kw p (i / 2)).thru else (kw p (i / 2)).fin) else 0)
def KC (p : List Ins) (L n : Nat) : List Value := (List.range (L * 2)).map (kcF p n)
theorem KC_len (p : List Ins) (L n : Nat) : (KC p L n).length = L * 2 := by simp [KC]
theorem KC_get (p : List Ins) {L n i : Nat} (h : i < L * 2) : (KC p L n)[i]? = some (kcF p n i) := by
  unfold KC
  rw [List.getElem?_map, List.getElem?_range h]
  rfl
theorem KC_next (p : List Ins) {L n : Nat} (h : n < L) : ((KC p L n).set (n * 2) (.int .i64 (kw p n).thru)).set (n * 2 + 1) (.int .i64 (kw p n).fin) = KC p L (n + 1) := by
  apply List.ext_getElem?
  intro i
  rw [List.getElem?_set, List.length_set, KC_len, List.getElem?_set, KC_len]
  by_cases h1 : n * 2 + 1 = i
  · subst h1
    rw [if_pos rfl, if_pos (by omega), KC_get p (by omega)]
    unfold kcF
    have e1 : (n * 2 + 1) / 2 = n := by omega
    have e2 : ¬ (n * 2 + 1) % 2 = 0 := by omega
    rw [e1, if_pos (by omega), if_neg e2]
  · rw [if_neg h1]
    by_cases h2 : n * 2 = i
    · subst h2
      rw [if_pos rfl, if_pos (by omega), KC_get p (by omega)]
      unfold kcF
      have e1 : (n * 2) / 2 = n := by omega
      have e2 : (n * 2) % 2 = 0 := by omega
      rw [e1, if_pos (by omega), if_pos e2]
    · rw [if_neg h2]
      by_cases h3 : i < L * 2
      · rw [KC_get p h3, KC_get p h3]
        unfold kcF
        by_cases h4 : i / 2 < n
        · rw [if_pos h4, if_pos (show i / 2 < n + 1 by omega)]
        · rw [if_neg h4, if_neg (show ¬ i / 2 < n + 1 by omega)]
      · rw [List.getElem?_eq_none (by rw [KC_len]; omega), List.getElem?_eq_none (by rw [KC_len]; omega)]
theorem known_spn {w : World} {q n L : Nat} {p : List Ins} (h : Row w (some ⟨q, 0, none⟩) (KC p L n)) (hn : n ≤ L) : Spn w (some ⟨q, 0, none⟩) ((knownC p n).map fun l => (l.2.thru, l.2.fin)) := by
  intro k s hk
  rw [known_map, List.map_map, List.getElem?_map] at hk
  by_cases hkn : k < n
  · rw [List.getElem?_range hkn] at hk
    simp only [Option.map_some, Function.comp] at hk
    injection hk with hk
    subst hk
    have h0 := h.get (KC_get p (L := L) (n := n) (i := k * 2) (by omega))
    have h1 := h.get (KC_get p (L := L) (n := n) (i := k * 2 + 1) (by omega))
    unfold kcF at h0 h1
    have e0 : k * 2 / 2 = k := by omega
    have e1 : (k * 2 + 1) / 2 = k := by omega
    have e2 : k * 2 % 2 = 0 := by omega
    have e3 : ¬ (k * 2 + 1) % 2 = 0 := by omega
    rw [e0, if_pos hkn, if_pos e2] at h0
    rw [e1, if_pos hkn, if_neg e3] at h1
    exact ⟨q, 0, rfl, h0, by rw [Nat.add_assoc]; exact h1⟩
  · rw [List.getElem?_eq_none (by simp; omega)] at hk
    cases hk
theorem loops_spn {w : World} {A : Option Addr} {p : List Ins} (h : Spn w A (loopsL p)) {n : Nat} (hn : n ≤ (loopsL p).length) : Spn w A ((knownC p n).map (·.1)) := by
  intro k s hk
  rw [known_map, List.map_map, List.getElem?_map] at hk
  by_cases hkn : k < n
  · rw [List.getElem?_range hkn] at hk
    simp only [Option.map_some, Function.comp] at hk
    injection hk with hk
    subst hk
    exact h k _ (by unfold lp; rw [List.getD_eq_getElem?_getD, List.getElem?_eq_getElem (by omega)]; rfl)
  · rw [List.getElem?_eq_none (by simp; omega)] at hk
    cases hk
theorem known_len (p : List Ins) (n : Nat) : (knownC p n).length = n := by rw [known_map]; simp
theorem known_in {p : List Ins} (hok : okB p = true) (hn : ∀ j, j < p.length → 0 ≤ (at_ p j).n) {n : Nat} (hl : n ≤ (loopsL p).length) : ∀ l ∈ knownC p n, 0 ≤ l.1.1 ∧ l.1.1 ≤ l.1.2 ∧ l.1.2 < p.length := by
  intro l h
  rw [known_map] at h
  obtain ⟨j, hj, rfl⟩ := List.mem_map.1 h
  have := Cs.lp_in (okB_fine hok) hn (j := j) (by have := List.mem_range.1 hj; omega)
  simp only
  omega
theorem ways_info : (Tryd.prog.info? 109).map (fun i => (i.zero, i.size, i.bytes)) = some (some (.agg #[.int .i64 0, .int .i64 0]), 2, 16) := by kernel_rfl
def wzr (n : Nat) : Array Value := madeCells (Value.agg #[.int .i64 0, .int .i64 0]).cells (n * 2)
theorem wzr_list (p : List Ins) (n : Nat) : (wzr n).toList = KC p n 0 := by
  unfold wzr madeCells KC kcF
  apply List.ext_getElem
  · simp
  · intro i h1 h2
    simp [Value.cells]
    have h3 : i % 2 = 0 ∨ i % 2 = 1 := by omega
    rcases h3 with h3 | h3 <;> rw [h3] <;> rfl
theorem wzr_make (n : Nat) (hn : n ≤ 100000) (W : World) : (Instr.makeSlice 107 (.int .i64 (n : Int)) (.int .i64 (n : Int))).run Tryd.prog W = .ok (.slice (some ⟨W.heap.size, 0, none⟩) n n) (W.alloc (.cells (wzr n) 109)) := by
  obtain ⟨i0, hi, hz0, hz1, hz2⟩ := info_parts ways_info
  have h := run_make (P := Tryd.prog) W 107 109 i0 _ Tryd.underlying107 hi hz0 .i64 .i64 n n (by omega) (by omega) (by rw [hz2]; omega) (by omega)
  rw [hz1, Int.toNat_natCast] at h
  exact h
theorem own2_new (p : List Ins) (w : World) (n : Nat) (hn : n ≤ 100000) : OwnK (w.alloc (.cells (wzr n) 109)) w.heap.size 109 2 (some ⟨w.heap.size, 0, none⟩) n n (KC p n 0) := by
  have hz : (wzr n).size = n * 2 := by
    have := congrArg List.length (wzr_list p n)
    rw [KC_len] at this
    simpa using this
  rw [← wzr_list]
  refine ⟨by simp [hz], .inr ⟨w.heap.size, n, (wzr n).toList.toArray, rfl, Nat.le_refl _, Blk.new w _ _, Nat.le_refl _, by unfold maxLen; omega, by simp [hz], ?_⟩⟩
  exact List.take_of_length_le (by simp [hz])
theorem g2_thaw {w : World} {B : Nat} {e : TypeId} {s g c n : Nat} {l : List Value} (h : OwnK w B e s (some ⟨g, 0, none⟩) n c l) (j : Nat) : w.frozen? ⟨g, j, none⟩ = false := by
  rcases h.2 with ⟨h2, _⟩ | ⟨g2, cap, cur, hv, hb, hg, rest⟩
  · cases h2
  · injection hv with hv
    injection hv with hv
    injection hv with hv
    subst hv
    exact Blk.thaw (t := e) hg j
theorem g2_set {w : World} {B : Nat} {e : TypeId} {s g c n : Nat} {l : List Value} (h : OwnK w B e s (some ⟨g, 0, none⟩) n c l) (j : Nat) (u : Value) :
    OwnK (w.setCell ⟨g, j, none⟩ u) B e s (some ⟨g, 0, none⟩) n c (l.set j u) := (World.ownsRow.stored h j u).1
theorem ways_fin (x y : Int) (w : World) : (Instr.field 109 (.agg #[.int .i64 x, .int .i64 y]) 1).run Tryd.prog w = .ok (.int .i64 y) w := by kernel_rfl
set_option maxRecDepth 100000 in
theorem loopso_any (A : Option Addr) (m c : Nat) (p : List Ins) (w : World) (hl : p.length = m) (hm : m ≤ 5000) (hp : Prg w A p) (ht : Is.Tabs w) (hok : okB p = true) :
    Calls Tryd.prog 60 #[.slice A m c] w (LoopsPost w p) := by
  have MA := Lib.hid (may_any A m c p w hl hm hp ht)
  have LO := Lib.hid (fun w' (s : Same w w') => loops_any A m c p w' hl hm (hp.same s))
  rw [hok] at MA
  clear hl hp ht hok
  unfold LoopsPost
  go_enter Tryd.func60, Tryd.ntmps60
  go_wp2_with fail
  refine MA.out.mono ?_
  rintro e w1 ⟨rfl, s1⟩
  go_wp2_with fail
  refine (LO.out _ s1).mono ?_
  rintro e w2 ⟨A2, c2, rfl, ho, s2⟩
  have HO := Lib.hid (ho.base s1.size)
  have HS2 := Lib.hid (s1.trans s2)
  clear ho s1 s2 LO MA
  generalize hnn : (loopsL p).length = n at *
  have HNN := Lib.hid hnn
  clear hnn
  go_wp2_with fail
  go_ret
  exact ⟨A2, c2, by rw [HNN.out]; rfl, by rw [HNN.out]; exact HO.out, HS2.out⟩
set_option maxRecDepth 100000 in
set_option maxHeartbeats 4000000 in
theorem count_ok (A : Option Addr) (m c : Nat) (p : List Ins) (w : World) (hl : p.length = m) (hm : m ≤ 5000) (hp : Prg w A p) (ht : Is.Tabs w) (hok : okB p = true) :
    Calls Tryd.prog 31 #[.slice A m c] w fun e w' => e = .returned (.int .i64 (countI p)) ∧ Same w w' := by
  have hF := okB_fine hok
  have hnn := hp.nn
  have hpl := hF.size
  have MA := Lib.hid (pmay_any A m c p w hl hm hp ht)
  rw [hok] at MA
  have LO := Lib.hid (fun w' (s : Same w w') => loopso_any A m c p w' hl hm (hp.same s) (ht.same s) hok)
  have HLA := Lib.hid (fun k (hk : k < (loopsL p).length) => loop_at hok hnn hk)
  have HLN := Lib.hid (fun k (hk : k < (loopsL p).length) => Cs.lp_in hF hnn hk)
  have hLlen : (loopsL p).length ≤ m := by rw [← hl]; exact Fp.loopsTo_len p.length
  have HP := Lib.hid hp
  have HL := Lib.hid hl
  have HOK := Lib.hid hok
  have HTB := Lib.hid ht
  have HNN := Lib.hid hnn
  obtain ⟨nL, hnL⟩ : ∃ nL, nL = (loopsL p).length := ⟨_, rfl⟩
  unfold LoopsPost at LO
  rw [← hnL] at LO hLlen HLA HLN
  have HNL := Lib.hid hnL
  clear hl hp ht hok hF hnn hnL
  go_enter Tryd.func31, Tryd.ntmps31
  go_wp2_with fail
  refine MA.out.mono ?_
  rintro e w1 ⟨rfl, s1⟩
  go_wp2_with fail
  refine (LO.out _ s1).mono ?_
  rintro e w2 ⟨LA, cL, rfl, hoL, s2⟩
  have hmk := wzr_make nL (by omega) w2
  have HOL := Lib.hid hoL
  have HS2 := Lib.hid (s1.trans s2)
  clear hoL s1 s2 MA LO
  have HOK3 := Lib.hid (own2_new p w2 nL (by omega))
  have HOL3 := Lib.hid (HOL.out.same ((Same.refl w2).alloc (.cells (wzr nL) 109)))
  have HLQ := Lib.hid (show ∀ g o, LA = some ⟨g, o, none⟩ → g < w2.heap.size ∧ o = 0 from fun g o e => by
    rcases HOL.out.2 with ⟨h3, _⟩ | ⟨g2, cap, cur, hv, _, hg, _⟩
    · injection h3 with h3
      rw [h3] at e
      cases e
    · injection hv with hv
      rw [hv] at e
      injection e with e
      injection e with e1 e2
      exact ⟨by rw [← e1]; exact (Array.getElem?_eq_some_iff.1 hg).1, e2.symm⟩)
  have HSZ := Lib.hid (show w.heap.size ≤ w2.heap.size from HS2.out.size)
  obtain ⟨w3, hw3⟩ : ∃ w3, w3 = w2.alloc (.cells (wzr nL) 109) := ⟨_, rfl⟩
  obtain ⟨q, hq⟩ : ∃ q, q = w2.heap.size := ⟨_, rfl⟩
  rw [← hw3, ← hq] at HOK3 hmk
  rw [← hw3] at HOL3
  rw [← hq] at HLQ HSZ
  have HS3 := Lib.hid (show Same w w3 by rw [hw3]; exact HS2.out.alloc _)
  clear hw3 hq HOL HS2
  have hL0 : (0 : Int) ≤ nL := by omega
  go_wp2_with fail
  go_loopg [17] nL (fun gk iv wx => ∃ k : Nat, k + gk = nL ∧ iv = .int .i64 (k : Int) ∧ Hid (OwnK wx q 109 2 (some ⟨q, 0, none⟩) nL nL (KC p nL k)) ∧ Hid (Chg (fun i => i = q) w3 wx))
  case atStart => exact ⟨0, by omega, rfl, HOK3, Lib.hid (Chg.refl _ _)⟩
  case round =>
    clear HOK3 hmk
    obtain ⟨k, hk, rfl, HKK, HCH⟩ := hrel
    have HSR := Lib.hid (Same.more HS3.out HCH.out (fun i hi => by have := HSZ.out; omega))
    have HLR := Lib.hid (HOL3.out.chg HCH.out (fun g e he => by have := (HLQ.out g 0 e).1; omega))
    have HSPL := Lib.hid (spn_of HLR.out.row)
    cases gk with
    | zero =>
      obtain rfl : k = nL := by omega
      have hge : ¬ (k : Int) < k := by omega
      have ON := Lib.hid (Po.once_any A m c p LA cL (some ⟨q, 0, none⟩) k k k (knownC p k) (0, (m : Int) - 1) wr HL.out hm (HP.out.same HSR.out) HOK.out (known_len p k) (by omega) (by omega)
        (loops_spn HSPL.out (by rw [← HNL.out]; omega)) (known_spn HKK.out.row (by omega)) ⟨by simp only; omega, by simp only; have := HL.out; omega, by simp only; omega⟩ (fun b o e => by
          have := (HLQ.out b o e).1
          have := HKK.out.lt.2.1
          omega) (by
          have h := known_in HOK.out HNN.out (n := k) (by rw [← HNL.out]; omega)
          rw [HL.out] at h
          exact h) (HTB.out.same HSR.out))
      have HCI := Lib.hid (show countI p = (onceC p (knownC p k) (0, (m : Int) - 1)).fin from by unfold countI; rw [← HNL.out, HL.out])
      generalize onceC p (knownC p k) (0, (m : Int) - 1) = y at *
      have hwf := fun W => ways_fin y.thru y.fin W
      have hm1 : IntKind.i64.wrap ((m : Int) - 1) = (m : Int) - 1 := Go.IntWalk.i64_in _ (by omega)
      go_wp2_with fail
      refine ON.out.mono ?_
      rintro e W6 ⟨rfl, s6⟩
      go_wp2_with fail
      go_ret
      exact ⟨Wd.ret_int HCI.out.symm, HSR.out.trans s6⟩
    | succ GK =>
      have hkn : k < nL := by omega
      have hlt : (k : Int) < nL := by omega
      have hk0 : (0 : Int) ≤ (k : Int) := by omega
      have HK := Lib.hid hk
      clear hk
      obtain ⟨gL, oL, hLA, z0, z1⟩ := HSPL.out.at_ (k := k) (by rw [← HNL.out]; exact hkn)
      obtain ⟨hgL, hoL⟩ := HLQ.out gL oL hLA
      subst hoL
      subst hLA
      rw [Nat.zero_add] at z0 z1
      obtain ⟨x1, x2, x3, x4, x5⟩ := HLA.out k hkn
      have hin := HLN.out k hkn
      rw [HL.out] at x3
      obtain ⟨sp, hsp⟩ : ∃ sp, sp = lp (loopsL p) k := ⟨_, rfl⟩
      rw [← hsp] at z0 z1 x1 x2 x3 x4 x5 hin
      have HSPK := Lib.hid hsp
      obtain ⟨sa, sb⟩ := sp
      simp only at z0 z1 x1 x2 x3 x4 x5 hin
      obtain ⟨tb, rfl⟩ : ∃ tb : Nat, sb = (tb : Int) := ⟨sb.toNat, by omega⟩
      rw [Int.toNat_natCast] at x4 x5
      have hnl5 : nL ≤ cL := HLR.out.lt.2.2.1
      have hcl5 : cL ≤ 9223372036854775807 := HLR.out.lt.2.2.2
      have hkc : (k : Int) ≤ (cL : Int) := by omega
      have hkc2 : k ≤ cL := by omega
      obtain ⟨hokk, zb, zo, hA, _, _, _, vc0, _⟩ := (HP.out.same HSR.out).at_ (k := tb) (by rw [HL.out]; omega)
      have HZB := Lib.hid (show zb < w.heap.size from by
        obtain ⟨_, zb2, zo2, h2, h3, _⟩ := HP.out.at_ (k := tb) (by rw [HL.out]; omega)
        rw [hA] at h2
        cases h2
        exact World.block_lt_of_cell? w _ h3)
      subst hA
      obtain ⟨w5, hw5⟩ : ∃ w5, w5 = wr.alloc (.cells #[.int .i64 sa, .int .i64 (tb : Int)] 78) := ⟨_, rfl⟩
      obtain ⟨bl, hbl⟩ : ∃ bl, bl = wr.heap.size := ⟨_, rfl⟩
      have hs5 : Same wr w5 := by rw [hw5]; exact (Same.refl _).alloc _
      have hb5 : Blk w5 bl 78 #[.int .i64 sa, .int .i64 (tb : Int)] := by rw [hw5, hbl]; exact Blk.new wr _ _
      have v0 : w5.cell? ⟨bl, 0, none⟩ = some (.int .i64 sa) := hb5.cell 0
      have v1 : w5.cell? ⟨bl, 1, none⟩ = some (.int .i64 (tb : Int)) := hb5.cell 1
      have vc := hs5.cell vc0
      have HS5 := Lib.hid (HSR.out.trans hs5)
      have HC5 := Lib.hid (HCH.out.trans (hs5.chg _))
      have HK5 := Lib.hid (HKK.out.same hs5)
      have ON := Lib.hid (fun W (s : Same w5 W) => Po.once_any (some ⟨zb, zo, none⟩) m c p (some ⟨gL, 0, none⟩) cL (some ⟨q, 0, none⟩) nL nL k (knownC p k) (sa, (tb : Int)) W HL.out hm (HP.out.same (HS5.out.trans s)) HOK.out (known_len p k) (by omega) (by omega)
        (loops_spn (spn_of ((HLR.out.same (hs5.trans s)).row)) (by rw [← HNL.out]; omega)) (known_spn (HK5.out.same s).row (by omega)) ⟨x1, by simp only; omega, by simp only; omega⟩ (fun b o e => by
          injection e with e
          injection e with e
          have := (HOL3.out.lt).2.1
          have := Chg.size HC5.out
          have := Chg.size s
          omega) (by
          have h := known_in HOK.out HNN.out (n := k) (by rw [← HNL.out]; omega)
          rw [HL.out] at h
          exact h) (HTB.out.same (HS5.out.trans s)))
      have hhk : (⟨sa, (tb : Int)⟩ : Int × Int) = lp (loopsL p) k := HSPK.out
      obtain ⟨y, hy⟩ : ∃ y, y = onceC p (knownC p k) (sa, (tb : Int)) := ⟨_, rfl⟩
      obtain ⟨cc, hcc⟩ : ∃ cc, cc = (at_ p tb).c := ⟨_, rfl⟩
      have RP := fun W => rep_any ⟨y.thru, y.fin⟩ (cc + 1) W (by omega)
      rw [← hy] at ON
      rw [← hcc] at vc x4 x5
      have hkw : kw p k = repCW y (cc + 1).toNat := by
        unfold kw
        rw [← hhk, hy, hcc, Int.toNat_natCast]
      rw [rep_same, ← hkw] at RP
      have HRP := Lib.hid RP
      clear RP hy hcc hkw hhk hokk vc0 hs5 hb5 hin
      go_upto_region 8 with fail
      rw [← hw5, ← hbl]
      have HOK5 := Lib.hid (show q < bl from by rw [hbl]; exact HKK.out.lt.2.1)
      clear hw5 hbl
      have hadd : IntKind.i64.wrap (cc + 1) = cc + 1 := Go.IntWalk.i64_in _ (by omega)
      have hblq : bl ≠ q := by have := HOK5.out; omega
      have hzbq : zb ≠ q := by have := HZB.out; have := HSZ.out; omega
      refine wp_region_held_drew (S := fun w' => Chg (fun i => i = q) w5 w') (by kernel_rfl) ?_ (fun hHeld => ?_)
      · exact (Chg.refl _ w5).drew
      refine Ro.take_on (i := 0) (v := ?_) rfl (by kernel_rfl) (by kernel_rfl) (by kernel_rfl) (fun _ _ _ h => h) (by rfl) (by assumption) ?_ ?_
      rotate_left
      · intro wS hSw; (try dsimp only at hSw); go_simp; try with_reducible rfl
      try simp only [Act.put, List.setIfInBounds_toArray, List.set_cons_zero, List.set_cons_succ]
      refine Ro.take_on (i := 1) (v := ?_) rfl (by kernel_rfl) (by kernel_rfl) (by kernel_rfl) (fun _ _ _ h => h) (by rfl) (by assumption) ?_ ?_
      rotate_left
      · intro wS hSw; (try dsimp only at hSw); go_simp; try with_reducible rfl
      try simp only [Act.put, List.setIfInBounds_toArray, List.set_cons_zero, List.set_cons_succ]
      refine Ro.take_on (i := 2) (v := ?_) rfl (by kernel_rfl) (by kernel_rfl) (by kernel_rfl) (fun _ _ _ h => h) (by rfl) (by assumption) ?_ ?_
      rotate_left
      · intro wS hSw; (try dsimp only at hSw); go_simp; try with_reducible rfl
      try simp only [Act.put, List.setIfInBounds_toArray, List.set_cons_zero, List.set_cons_succ]
      refine Ro.take_on (i := 3) (v := ?_) rfl (by kernel_rfl) (by kernel_rfl) (by kernel_rfl) (fun _ _ _ h => h) (by rfl) (by assumption) ?_ ?_
      rotate_left
      · intro wS hSw; (try dsimp only at hSw); have y0 := hSw.cell v0 hblq; have y1 := hSw.cell v1 hblq; have yc := hSw.cell vc hzbq; go_simp; try with_reducible rfl
      try simp only [Act.put, List.setIfInBounds_toArray, List.set_cons_zero, List.set_cons_succ]
      refine Ro.take_on (i := 4) (v := ?_) rfl (by kernel_rfl) (by kernel_rfl) (by kernel_rfl) (fun _ _ _ h => h) (by rfl) (by assumption) ?_ ?_
      rotate_left
      · intro wS hSw; (try dsimp only at hSw); go_simp; try with_reducible rfl
      try simp only [Act.put, List.setIfInBounds_toArray, List.set_cons_zero, List.set_cons_succ]
      refine Ro.take_on (i := 5) (v := ?_) rfl (by kernel_rfl) (by kernel_rfl) (by kernel_rfl) (fun _ _ _ h => h) (by rfl) (by assumption) ?_ ?_
      rotate_left
      · intro wS hSw; (try dsimp only at hSw); go_simp; try with_reducible rfl
      try simp only [Act.put, List.setIfInBounds_toArray, List.set_cons_zero, List.set_cons_succ]
      refine Ro.take_on (i := 6) (v := ?_) rfl (by kernel_rfl) (by kernel_rfl) (by kernel_rfl) (fun _ _ _ h => h) (by rfl) (by assumption) ?_ ?_
      rotate_left
      · intro wS hSw; (try dsimp only at hSw); go_simp; try with_reducible rfl
      try simp only [Act.put, List.setIfInBounds_toArray, List.set_cons_zero, List.set_cons_succ]
      refine Ro.take_on (i := 7) (v := ?_) rfl (by kernel_rfl) (by kernel_rfl) (by kernel_rfl) (fun _ _ _ h => h) (by rfl) (by assumption) ?_ ?_
      rotate_left
      · intro wS hSw; (try dsimp only at hSw); go_simp; try with_reducible rfl
      try simp only [Act.put, List.setIfInBounds_toArray, List.set_cons_zero, List.set_cons_succ]
      refine Ro.take_on (i := 9) (v := ?_) rfl (by kernel_rfl) (by kernel_rfl) (by kernel_rfl) (fun _ _ _ h => h) (by rfl) (by assumption) ?_ ?_
      rotate_left
      · intro wS hSw; (try dsimp only at hSw); go_simp; try with_reducible rfl
      try simp only [Act.put, List.setIfInBounds_toArray, List.set_cons_zero, List.set_cons_succ]
      refine Ro.take_on (i := 10) (v := ?_) rfl (by kernel_rfl) (by kernel_rfl) (by kernel_rfl) (fun _ _ _ h => h) (by rfl) (by assumption) ?_ ?_
      rotate_left
      · intro wS hSw; (try dsimp only at hSw); go_simp; try with_reducible rfl
      try simp only [Act.put, List.setIfInBounds_toArray, List.set_cons_zero, List.set_cons_succ]
      refine Ro.take_on (i := 11) (v := ?_) rfl (by kernel_rfl) (by kernel_rfl) (by kernel_rfl) (fun _ _ _ h => h) (by rfl) (by assumption) ?_ ?_
      rotate_left
      · intro wS hSw; (try dsimp only at hSw); have y0 := hSw.cell v0 hblq; have y1 := hSw.cell v1 hblq; have yc := hSw.cell vc hzbq; go_simp; try with_reducible rfl
      try simp only [Act.put, List.setIfInBounds_toArray, List.set_cons_zero, List.set_cons_succ]
      refine Ro.take_on (i := 12) (v := ?_) rfl (by kernel_rfl) (by kernel_rfl) (by kernel_rfl) (fun _ _ _ h => h) (by rfl) (by assumption) ?_ ?_
      rotate_left
      · intro wS hSw; (try dsimp only at hSw); have y0 := hSw.cell v0 hblq; have y1 := hSw.cell v1 hblq; have yc := hSw.cell vc hzbq; go_simp; try with_reducible rfl
      try simp only [Act.put, List.setIfInBounds_toArray, List.set_cons_zero, List.set_cons_succ]
      refine Ro.take_on (i := 13) (v := ?_) rfl (by kernel_rfl) (by kernel_rfl) (by kernel_rfl) (fun _ _ _ h => h) (by rfl) (by assumption) ?_ ?_
      rotate_left
      · intro wS hSw; (try dsimp only at hSw); go_simp; try with_reducible rfl
      try simp only [Act.put, List.setIfInBounds_toArray, List.set_cons_zero, List.set_cons_succ]
      refine Ro.take_on (i := 14) (v := ?_) rfl (by kernel_rfl) (by kernel_rfl) (by kernel_rfl) (fun _ _ _ h => h) (by rfl) (by assumption) ?_ ?_
      rotate_left
      · intro wS hSw; (try dsimp only at hSw); have y0 := hSw.cell v0 hblq; have y1 := hSw.cell v1 hblq; have yc := hSw.cell vc hzbq; go_simp; try with_reducible rfl
      try simp only [Act.put, List.setIfInBounds_toArray, List.set_cons_zero, List.set_cons_succ]
      refine Ro.take_on (i := 15) (v := ?_) rfl (by kernel_rfl) (by kernel_rfl) (by kernel_rfl) (fun _ _ _ h => h) (by rfl) (by assumption) ?_ ?_
      rotate_left
      · intro wS hSw; (try dsimp only at hSw); go_simp; try with_reducible rfl
      try simp only [Act.put, List.setIfInBounds_toArray, List.set_cons_zero, List.set_cons_succ]
      refine Ro.one_on (i := 8) rfl (by kernel_rfl) (by rfl) (fun K hK => ?_)
      go_simp
      go_at_call 62
      refine (ON.out _ (Same.refl w5).drew).mono ?_
      rintro e W6 ⟨rfl, s6⟩
      have HS6 := Lib.hid (show Same w5 W6 from (Same.refl w5).drew.trans s6)
      refine hK.out _ _ (HS6.out.chg _) (fun hNew => ?_)
      clear hK K hHeld s6 ON
      have hHeld := hNew
      clear hNew
      try simp only [Act.put, List.setIfInBounds_toArray, List.set_cons_zero, List.set_cons_succ]
      refine Ro.one_on (i := 16) rfl (by kernel_rfl) (by rfl) (fun K hK => ?_)
      go_simp
      go_at_call 61
      refine (HRP.out _).mono ?_
      rintro e W7 ⟨rfl, s7⟩
      have HS7 := Lib.hid (HS6.out.trans s7)
      refine hK.out _ _ (HS7.out.chg _) (fun hNew => ?_)
      clear hK K hHeld s7 HRP HS6
      have hHeld := hNew
      clear hNew
      try simp only [Act.put, List.setIfInBounds_toArray, List.set_cons_zero, List.set_cons_succ]
      refine Ro.take_on (i := 17) (v := ?_) rfl (by kernel_rfl) (by kernel_rfl) (by kernel_rfl) (fun _ _ _ h => h) (by rfl) (by assumption) ?_ ?_
      rotate_left
      · intro wS hSw; (try dsimp only at hSw); go_simp; try with_reducible rfl
      try simp only [Act.put, List.setIfInBounds_toArray, List.set_cons_zero, List.set_cons_succ]
      have HK7 := Lib.hid (HK5.out.same HS7.out)
      have HC7 := Lib.hid (HC5.out.trans (HS7.out.chg _))
      have f0 := g2_thaw HK7.out (k * 2)
      have f1 := g2_thaw HK7.out (k * 2 + 1)
      have r0 : W7.cell? ⟨q, k * 2, none⟩ = some (kcF p k (k * 2)) := by
        have h := HK7.out.row.get (KC_get p (L := nL) (n := k) (i := k * 2) (by omega))
        rw [Nat.zero_add] at h
        exact h
      have r1 : W7.cell? ⟨q, k * 2 + 1, none⟩ = some (kcF p k (k * 2 + 1)) := by
        have h := HK7.out.row.get (KC_get p (L := nL) (n := k) (i := k * 2 + 1) (by omega))
        rw [Nat.zero_add] at h
        exact h
      unfold kcF at r0 r1
      refine Ro.one_on (i := 18) rfl (by kernel_rfl) (by rfl) (fun K hK => ?_)
      go_simp
      have hc8 : Chg (fun i => i = q) w5 ((W7.setCell ⟨q, k * 2, none⟩ (.int .i64 (kw p k).thru)).setCell ⟨q, k * 2 + 1, none⟩ (.int .i64 (kw p k).fin)) := ((HS7.out.chg (fun i => i = q)).set (p := ⟨q, k * 2, none⟩) (.inl rfl) _).set (p := ⟨q, k * 2 + 1, none⟩) (.inl rfl) _
      have HK8 := Lib.hid (show OwnK ((W7.setCell ⟨q, k * 2, none⟩ (.int .i64 (kw p k).thru)).setCell ⟨q, k * 2 + 1, none⟩ (.int .i64 (kw p k).fin)) q 109 2 (some ⟨q, 0, none⟩) nL nL (KC p nL (k + 1)) from by
        rw [← KC_next p hkn]
        exact g2_set (g2_set HK7.out _ _) _ _)
      have HC8 := Lib.hid (HC5.out.trans hc8)
      refine hK.out _ _ hc8 (fun hNew => ?_)
      clear hK K hHeld hNew r0 r1 f0 f1 HK7 HC7 HS7 hc8
      try simp only [Act.put, List.setIfInBounds_toArray, List.set_cons_zero, List.set_cons_succ]
      refine wpAnyH_done (by kernel_rfl) ?_ _
      generalize ((W7.setCell ⟨q, k * 2, none⟩ (.int .i64 (kw p k).thru)).setCell ⟨q, k * 2 + 1, none⟩ (.int .i64 (kw p k).fin)) = w8 at *
      have hkb : (k : Int) + 1 ≤ 9223372036854775807 := by omega
      go_wp2_with fail
      go_roundg GK
      case rel => exact ⟨k + 1, by have := HK.out; omega, by go_num, HK8, HC8⟩
      case measure => omega
set_option maxRecDepth 100000 in
theorem count_any (A : Option Addr) (m c : Nat) (p : List Ins) (w : World) (hl : p.length = m) (hm : m ≤ 5000) (hp : Prg w A p) (ht : Is.Tabs w) :
    Calls Tryd.prog 31 #[.slice A m c] w fun e w' => e = .returned (.int .i64 (if okB p = true then countI p else 0)) ∧ Same w w' := by
  by_cases hok : okB p = true
  · rw [if_pos hok]
    exact count_ok A m c p w hl hm hp ht hok
  · rw [if_neg hok]
    have MA := Lib.hid (pmay_any A m c p w hl hm hp ht)
    rw [show okB p = false by simpa using hok] at MA
    clear hl hp ht hok
    go_enter Tryd.func31, Tryd.ntmps31
    go_wp2_with fail
    refine MA.out.mono ?_
    rintro e w1 ⟨rfl, s1⟩
    go_wp2_with fail
    go_ret
    exact ⟨rfl, s1⟩
end Go.Proofs.YtnlndkpjfgpodaaDoor.Pt
