/-

 The document's Part and Most on layer 12 of a program that may be.
-/
import Derived.Test.YthhbhbfkbncegaaGreatDoorCstWeigh
import Derived.Test.YthhbhbfkbncegaaGreatDoorRefFlow
import Derived.Test.YthhbhbfkbncegaaGreatDoorCstRnext
import Derived.Test.YthhbhbfkbncegaaGreatDoorCstMost
section
set_option linter.unusedVariables false
set_option linter.unusedSimpArgs false
namespace Go.Proofs.YthhbhbfkbncegaaGreatDoor.Cs
open Go.ChangeShapes Go.WideShapes Go.ChangeAt Go.RowKit Ws
open Go.Proofs.YthhbhbfkbncegaaGreatDoor.Fp (Ins at_ Fine at_some lp loopsL nextL hasB)
open Go.Proofs.YthhbhbfkbncegaaGreatDoor.Fw (Prg Spn spanCells spn_of)

theorem more_ref (a b : Int) (w : World) :
  Calls Tryz.prog 100 #[.int .i64 a, .int .i64 b] w fun e w' => e = .returned (.int .i64 (moreI a b)) ∧ w = w' := by
 unfold moreI
 by_cases ha : a < 0
 ·rw [if_pos (.inl ha)]
  have b1 : decide (a < 0) = true := decide_eq_true ha
  go_enter Tryz.func100, Tryz.ntmps100
  go_wp2_with fail
  go_ret
  exact ⟨rfl, rfl⟩
 by_cases hb : b < 0
 ·rw [if_pos (.inr hb)]
  have b1 : decide (a < 0) = false := decide_eq_false ha
  have b2 : decide (b < 0) = true := decide_eq_true hb
  go_enter Tryz.func100, Tryz.ntmps100
  go_wp2_with fail
  go_ret
  exact ⟨rfl, rfl⟩
 ·rw [if_neg (fun h => h.elim ha hb)]
  have b1 : decide (a < 0) = false := decide_eq_false ha
  have b2 : decide (b < 0) = false := decide_eq_false hb
  have AD := Lib.hid (show Calls Tryz.prog 44 #[.int .i64 a, .int .i64 b] w fun e w' => e = .returned (.int .i64 (adI a b)) ∧ w = w' from Wd.radd a b w)
  go_enter Tryz.func100, Tryz.ntmps100
  go_wp2_with fail
  refine AD.out.mono ?_
  rintro e w' ⟨rfl, rfl⟩
  go_wp2_with fail
  go_ret
  exact ⟨rfl, rfl⟩
theorem inner_take {l : List (Int × Int)} (s : Int × Int) {k : Nat} (h : k < l.length) : innerL (l.take (k + 1)) s = innerL (l.take k) s ++ (if lp l k ≠ s ∧ s.1 ≤ (lp l k).1 ∧ (lp l k).2 ≤ s.2 then [lp l k] else []) := by
 unfold innerL
 rw [List.take_add_one, Fp.lp_get h, List.filter_append]
 congr 1
 simp [List.filter_cons]
theorem inner_len (l : List (Int × Int)) (s : Int × Int) : (innerL l s).length ≤ l.length := List.length_filter_le _ _
def InnerPost (w : World) (l : List (Int × Int)) (s : Int × Int) : Ending → World → Prop := fun e w' =>
 ∃ A c, e = .returned (.slice A (innerL l s).length c) ∧ OwnK w' w.heap.size 97 2 A (innerL l s).length c (spanCells (innerL l s)) ∧ Same w w'
set_option maxRecDepth 100000 in
theorem inner_ref (A : Option Addr) (m c : Nat) (l : List (Int × Int)) (s : Int × Int) (w : World) (hl : l.length = m) (hm : m ≤ 5000) (hp : Row w A (spanCells l)) :
  Calls Tryz.prog 99 #[.slice A m c, .agg #[.int .i64 s.1, .int .i64 s.2]] w (InnerPost w l s) := by
 obtain ⟨i0, hi, hz0, hz1, hz2⟩ := info_parts Fw.span_info
 have HL := Lib.hid hl
 have HP := Lib.hid hp
 clear hl hp
 unfold InnerPost
 obtain ⟨sa, sb⟩ := s
 simp only
 go_enter Tryz.func99, Tryz.ntmps99
 go_upto_region 1 with fail
 have B0 := Lib.hid (Blk.new w 97 #[.int .i64 sa, .int .i64 sb])
 have S0 := Lib.hid ((Same.refl w).alloc (.cells #[.int .i64 sa, .int .i64 sb] 97))
 generalize w.alloc (.cells #[.int .i64 sa, .int .i64 sb] 97) = w0 at *
 generalize hq : w.heap.size = q at *
 have HQ := Lib.hid hq
 clear hq
 go_wp2_with fail
 go_loopg [10, 5] m (fun gk iv lv wx => ∃ (k : Nat) (A' : Option Addr) (n' c' : Nat), k + gk = m ∧ iv = .int .i64 k ∧ lv = .slice A' n' c' ∧ n' = (innerL (l.take k) (sa, sb)).length ∧ OwnK wx w0.heap.size 97 2 A' n' c' (spanCells (innerL (l.take k) (sa, sb))) ∧ Same w0 wx)
 case atStart => exact ⟨0, none, 0, 0, by omega, rfl, rfl, rfl, OwnK.none _ _ _ _, Same.refl _⟩
 case round =>
  obtain ⟨k, A', n', c', hk, rfl, rfl, hn, ho, sx⟩ := hrel
  have HO := Lib.hid ho
  have HS := Lib.hid sx
  have HN := Lib.hid hn
  clear ho sx hn
  cases gk with
  | zero =>
   obtain rfl : k = m := by omega
   have hge : ¬ (k : Int) < (k : Int) := by omega
   go_wp2_with fail
   go_ret
   have e : l.take k = l := by rw [← HL.out, List.take_length]
   have h1 := HO.out
   have h2 := HN.out
   rw [e] at h1 h2
   subst h2
   exact ⟨A', c', rfl, h1.base S0.out.size, S0.out.trans HS.out⟩
  | succ GK =>
   have hlt : (k : Int) < m := by omega
   have hkl := Lib.hid (show k < l.length by have := HL.out; omega)
   obtain ⟨b, o, rfl, c0, c1⟩ := (spn_of (HP.out.same (S0.out.trans HS.out))).at_ hkl.out
   have HE := Lib.hid (inner_take (sa, sb) hkl.out)
   generalize lp l k = x at *
   obtain ⟨xa, xb⟩ := x
   simp only at c0 c1
   have b0 : wr.cell? ⟨q, 0, none⟩ = some (.int .i64 sa) := (B0.out.same HS.out).cell 0
   have b1 : wr.cell? ⟨q, 1, none⟩ = some (.int .i64 sb) := (B0.out.same HS.out).cell 1
   have hs1 := (Same.refl wr).alloc (.cells #[.int .i64 xa, .int .i64 xb] 97)
   have HS1 := Lib.hid (HS.out.trans hs1)
   have HO1 := Lib.hid (HO.out.same hs1)
   have B1 := Lib.hid (Blk.new wr 97 #[.int .i64 xa, .int .i64 xb])
   clear hs1
   go_upto_region 5 with fail
   have b0' := (HS1.out.trans (Same.refl _)).cell (show w0.cell? ⟨q, 0, none⟩ = some (.int .i64 sa) from B0.out.cell 0)
   have b1' := (HS1.out.trans (Same.refl _)).cell (show w0.cell? ⟨q, 1, none⟩ = some (.int .i64 sb) from B0.out.cell 1)
   have d0 := B1.out.cell 0
   have d1 : (wr.alloc (.cells #[.int .i64 xa, .int .i64 xb] 97)).cell? ⟨wr.heap.size, 1, none⟩ = some (.int .i64 xb) := B1.out.cell 1
   simp only [List.getElem?_toArray, List.getElem?_cons_zero] at d0
   generalize wr.alloc (.cells #[.int .i64 xa, .int .i64 xb] 97) = wA at *
   generalize wr.heap.size = qA at *
   clear b0 b1 c0 c1
   by_cases e1 : xa = sa
   ·subst e1
    by_cases e2 : xb = sb
    ·subst e2
     have hE := Lib.hid (HE.out.trans (by rw [if_neg (fun h => h.1 rfl)]))
     go_wp2_with fail
     go_roundg GK
     case rel => exact ⟨k + 1, A', n', c', by omega, by go_num, rfl, by rw [hE.out, List.append_nil]; exact HN.out, by rw [hE.out, List.append_nil]; exact HO1.out, HS1.out⟩
     case measure => omega
    ·have f2 : (xb == sb) = false := by simpa using e2
     have g1 : decide (xa ≤ xa) = true := by simp
     by_cases e3 : xb ≤ sb
     ·have g2 : decide (xb ≤ sb) = true := decide_eq_true e3
      have hE := Lib.hid (HE.out.trans (by rw [if_pos ⟨fun h => e2 (Prod.mk.inj h).2, Int.le_refl _, e3⟩]))
      go_wp2_with (at_builtin; go_loud (refine wpList_appK rfl (.tmp 31) (.tmp 33) 94 rfl w0.heap.size 97 i0 _ 2 16 Tryz.underlying94 hi hz0 hz1 hz2 rfl (by omega) A' n' c' (spanCells (innerL (l.take k) (xa, sb))) rfl (HO1.out.same ((Same.refl _).alloc _)) _ 1 1 [.int .i64 xa, .int .i64 xb] rfl rfl (row_new wA _ 97) (Fw.span_one _ _) ?c3 (by omega) ?c2 ?_))
      case c2 => have := HS1.out.size; simp at this ⊢; omega
      case c3 => have := HN.out; have h5 := inner_len (l.take k) (xa, sb); have := HL.out; rw [List.length_take] at h5; omega
      intro A2 c2' w2 ho2 hc2
      have HS2 := Lib.hid (Same.more (HS1.out.alloc _) hc2 fun g hg => by
       have hg : A' = some ⟨g, 0, none⟩ := hg
       subst hg
       exact HO.out.lt.1)
      rw [show spanCells (innerL (l.take k) (xa, sb)) ++ [.int .i64 xa, .int .i64 xb] = spanCells (innerL (l.take (k + 1)) (xa, sb)) by rw [hE.out, Fw.spanCells_app]; rfl] at ho2
      have HO2 := Lib.hid ho2
      clear ho2 hc2
      go_wp2_with fail
      go_roundg GK
      case rel => exact ⟨k + 1, A2, n' + 1, c2', by omega, by go_num, rfl, by rw [hE.out, List.length_append, HN.out]; rfl, HO2.out, HS2.out⟩
      case measure => omega
     ·have g2 : decide (xb ≤ sb) = false := decide_eq_false e3
      have hE := Lib.hid (HE.out.trans (by rw [if_neg (fun h => e3 h.2.2)]))
      go_wp2_with fail
      go_roundg GK
      case rel => exact ⟨k + 1, A', n', c', by omega, by go_num, rfl, by rw [hE.out, List.append_nil]; exact HN.out, by rw [hE.out, List.append_nil]; exact HO1.out, HS1.out⟩
      case measure => omega
   ·have f1 : (xa == sa) = false := by simpa using e1
    by_cases e3 : sa ≤ xa
    ·have g1 : decide (sa ≤ xa) = true := decide_eq_true e3
     by_cases e4 : xb ≤ sb
     ·have g2 : decide (xb ≤ sb) = true := decide_eq_true e4
      have hE := Lib.hid (HE.out.trans (by rw [if_pos ⟨fun h => e1 (Prod.mk.inj h).1, e3, e4⟩]))
      go_wp2_with (at_builtin; go_loud (refine wpList_appK rfl (.tmp 31) (.tmp 33) 94 rfl w0.heap.size 97 i0 _ 2 16 Tryz.underlying94 hi hz0 hz1 hz2 rfl (by omega) A' n' c' (spanCells (innerL (l.take k) (sa, sb))) rfl (HO1.out.same ((Same.refl _).alloc _)) _ 1 1 [.int .i64 xa, .int .i64 xb] rfl rfl (row_new wA _ 97) (Fw.span_one _ _) ?c3 (by omega) ?c2 ?_))
      case c2 => have := HS1.out.size; simp at this ⊢; omega
      case c3 => have := HN.out; have h5 := inner_len (l.take k) (sa, sb); have := HL.out; rw [List.length_take] at h5; omega
      intro A2 c2' w2 ho2 hc2
      have HS2 := Lib.hid (Same.more (HS1.out.alloc _) hc2 fun g hg => by
       have hg : A' = some ⟨g, 0, none⟩ := hg
       subst hg
       exact HO.out.lt.1)
      rw [show spanCells (innerL (l.take k) (sa, sb)) ++ [.int .i64 xa, .int .i64 xb] = spanCells (innerL (l.take (k + 1)) (sa, sb)) by rw [hE.out, Fw.spanCells_app]; rfl] at ho2
      have HO2 := Lib.hid ho2
      clear ho2 hc2
      go_wp2_with fail
      go_roundg GK
      case rel => exact ⟨k + 1, A2, n' + 1, c2', by omega, by go_num, rfl, by rw [hE.out, List.length_append, HN.out]; rfl, HO2.out, HS2.out⟩
      case measure => omega
     ·have g2 : decide (xb ≤ sb) = false := decide_eq_false e4
      have hE := Lib.hid (HE.out.trans (by rw [if_neg (fun h => e4 h.2.2)]))
      go_wp2_with fail
      go_roundg GK
      case rel => exact ⟨k + 1, A', n', c', by omega, by go_num, rfl, by rw [hE.out, List.append_nil]; exact HN.out, by rw [hE.out, List.append_nil]; exact HO1.out, HS1.out⟩
      case measure => omega
    ·have g1 : decide (sa ≤ xa) = false := decide_eq_false e3
     have hE := Lib.hid (HE.out.trans (by rw [if_neg (fun h => e3 h.2.1)]))
     go_wp2_with fail
     go_roundg GK
     case rel => exact ⟨k + 1, A', n', c', by omega, by go_num, rfl, by rw [hE.out, List.append_nil]; exact HN.out, by rw [hE.out, List.append_nil]; exact HO1.out, HS1.out⟩
     case measure => omega
end Go.Proofs.YthhbhbfkbncegaaGreatDoor.Cs
end
section
section
set_option linter.unusedVariables false
set_option linter.unusedSimpArgs false
namespace Go.Proofs.YthhbhbfkbncegaaGreatDoor.Cs
open Go.ChangeShapes Go.WideShapes Go.ChangeAt Go.RowKit Ws
open Go.Proofs.YthhbhbfkbncegaaGreatDoor.Fp (Ins at_ Fine at_some lp loopsL nextL hasB)
open Go.Proofs.YthhbhbfkbncegaaGreatDoor.Fw (Prg Spn spanCells spn_of)

theorem g1_get {w : World} {B : Nat} {e : TypeId} {g c n k : Nat} {l : List Value} {u : Value} (h : OwnK w B e 1 (some ⟨g, 0, none⟩) n c l) (hk : l[k]? = some u) : w.cell? ⟨g, k, none⟩ = some u := by
 have := h.row.get hk
 rw [Nat.zero_add] at this
 exact this
theorem g1_thaw {w : World} {B : Nat} {e : TypeId} {s g c n : Nat} {l : List Value} (h : OwnK w B e s (some ⟨g, 0, none⟩) n c l) (j : Nat) : w.frozen? ⟨g, j, none⟩ = false := by
 rcases h.2 with ⟨h2, _⟩ | ⟨g2, cap, cur, hv, hb, hg, rest⟩
 ·cases h2
 ·injection hv with hv
  injection hv with hv
  injection hv with hv
  subst hv
  exact Blk.thaw (t := e) hg j
theorem g1_set {w : World} {B : Nat} {e : TypeId} {s g c n : Nat} {l : List Value} (h : OwnK w B e s (some ⟨g, 0, none⟩) n c l) (j : Nat) (u : Value) :
  OwnK (w.setCell ⟨g, j, none⟩ u) B e s (some ⟨g, 0, none⟩) n c (l.set j u) := (World.ownsRow.stored h j u).1
theorem g1_new (w : World) (n : Nat) (hn : n ≤ 100000) : OwnK (w.alloc (.cells (izr n) 3)) w.heap.size 3 1 (some ⟨w.heap.size, 0, none⟩) n n (izr n).toList := by
 have hz : (izr n).size = n := by
  have := congrArg List.length (izr_list n)
  simpa using this
 refine ⟨by simp [hz], .inr ⟨w.heap.size, n, (izr n).toList.toArray, rfl, Nat.le_refl _, Blk.new w _ _, Nat.le_refl _, by unfold maxLen; omega, by simp [hz], ?_⟩⟩
 simp only [Nat.mul_one]
 exact List.take_of_length_le (by simp [hz])
theorem grown_set {n j : Nat} (v : Int) (h : j < n) : (grown n j v).set j (.int .i64 v) = grown n (j + 1) v := by
 have := grown_more (n := n) (j := j) (k := 1) v (by omega)
 rw [← this]
 unfold splice
 have hl : (grown n j v).length = n := grown_len v (by omega)
 rw [List.set_eq_take_append_cons_drop, if_pos (by omega)]
 simp
theorem grown_at {n j : Nat} (v : Int) (h : j < n) : (grown n j v)[j]? = some (.int .i64 0) := by
 unfold grown
 rw [List.getElem?_map, List.getElem?_append_right (by simp), List.getElem?_replicate]
 simp
 omega
theorem grown_all (n : Nat) (v : Int) : grown n n v = (List.replicate n v).map (Value.int .i64) := by unfold grown; simp
/-- what stands between two places -/
structure PI (w : World) (q C : Nat) (a b m : Nat) (st : St) (W : World) : Prop where
 p : Blk W q 97 #[.int .i64 a, .int .i64 b]
 r : Blk W (q + 1) 92 #[.int .i64 0, .int .i64 0]
 c : OwnK W C 3 1 (some ⟨C, 0, none⟩) (m + 1) (m + 1) (st.come.map (Value.int .i64))
 o : Blk W (C + 1) 92 #[.int .i64 st.all.thru, .int .i64 st.all.fin]
 same : Same w W
 lt : w.heap.size = q ∧ C = q + 2
theorem PI.same_ {w : World} {q C a b m : Nat} {st : St} {W W' : World} (h : PI w q C a b m st W) (hs : Same W W') : PI w q C a b m st W' := ⟨h.p.same hs, h.r.same hs, h.c.same hs, h.o.same hs, h.same.trans hs, h.lt⟩
theorem PI.chg_ {w : World} {q C a b m : Nat} {st : St} {W W' : World} (h : PI w q C a b m st W) {g : Nat} (hg : q + 3 < g) (hc : Chg (fun i => i = g) W W') : PI w q C a b m st W' := by
 have h2 := h.lt
 exact ⟨h.p.chg hc (by omega), h.r.chg hc (by omega), h.c.chg hc (fun g2 e i => by injection e with e; injection e with e; omega), h.o.chg hc (by omega), Same.more h.same hc (fun i hi => by omega), h.lt⟩
theorem PI.out_ {w : World} {q C a b m : Nat} {st : St} {W W' : World} (h : PI w q C a b m st W) (hc : Chg (fun i => i = q + 3) W W') {t f : Int} (ho : Blk W' (C + 1) 92 #[.int .i64 t, .int .i64 f]) : PI w q C a b m ⟨st.come, ⟨t, f⟩⟩ W' := by
 have h2 := h.lt
 exact ⟨h.p.chg hc (by omega), h.r.chg hc (by omega), h.c.chg hc (fun g2 e i => by injection e with e; injection e with e; omega), ho, Same.more h.same hc (fun i hi => by omega), h.lt⟩
theorem PI.come_ {w : World} {q C a b m : Nat} {st : St} {W W' : World} (h : PI w q C a b m st W) (hc : Chg (fun i => i = C) W W') {come : List Int} (hn : OwnK W' C 3 1 (some ⟨C, 0, none⟩) (m + 1) (m + 1) (come.map (Value.int .i64))) : PI w q C a b m ⟨come, st.all⟩ W' := by
 have h2 := h.lt
 exact ⟨h.p.chg hc (by omega), h.r.chg hc (by omega), hn, h.o.chg hc (by omega), Same.more h.same hc (fun i hi => by omega), h.lt⟩
/-- the last one that begins there, or none -/
def selN (L : List (Int × Int)) (k : Int) (j : Nat) : Int × Int := (fromIn (L.take j) k).getD (-1, 0)
theorem selN_next {L : List (Int × Int)} (k : Int) {j : Nat} (h : j < L.length) : selN L k (j + 1) = if (lp L j).1 = k then lp L j else selN L k j := by
 unfold selN fromIn
 rw [List.take_add_one, Fp.lp_get h]
 simp only [Option.toList_some, List.reverse_append, List.reverse_cons, List.reverse_nil, List.nil_append, List.singleton_append, List.find?_cons]
 by_cases e : (lp L j).1 = k
 ·rw [if_pos e]
  simp [e]
 ·rw [if_neg e]
  simp [e]
theorem fromIn_mem {L : List (Int × Int)} {k : Int} {x : Int × Int} (h : fromIn L k = some x) : x ∈ L ∧ x.1 = k := by
 unfold fromIn at h
 exact ⟨by simpa using List.mem_of_find?_eq_some h, by simpa using List.find?_some h⟩
theorem selN_all (L : List (Int × Int)) (k : Int) : selN L k L.length = (fromIn L k).getD (-1, 0) := by unfold selN; rw [List.take_length]
/-- a loop that may be -/
def Lok (p : List Ins) (x : Int × Int) : Prop := 0 ≤ x.1 ∧ x.1 ≤ x.2 ∧ x.2 < p.length ∧ 0 ≤ (at_ p x.2.toNat).c ∧ (at_ p x.2.toNat).c < 1099511627776
set_option maxRecDepth 100000 in
set_option maxHeartbeats 1000000 in
theorem part_step (A : Option Addr) (m c : Nat) (p : List Ins) (Wt : Option Addr) (cW : Nat) (ws : List Int) (LA : Option Addr) (n cL : Nat) (l : List (Int × Int)) (a b : Nat) (one : Int × Int → Wy) (w : World)
  (hl : p.length = m) (hm : m ≤ 64) (hp : Prg w A p) (hW : Row w Wt (ws.map (Value.int .i64))) (hwl : ws.length = m) (hln : l.length = n) (hn : n ≤ 64) (hL : Row w LA (spanCells l)) (hok : ∀ x ∈ l, Lok p x) (hab : a ≤ b) (hbm : b < m)
  (hnx : ∀ k, k < m → Fp.rnextL p k = nextL p k)
  (ih : ∀ x ∈ l, ∀ (W : World) (B : Option Addr) (cB : Nat), Same w W → Row W B (spanCells (innerL l x)) → Calls Tryz.prog 78 #[.slice A m c, .slice Wt m cW, .slice B (innerL l x).length cB, .agg #[.int .i64 x.1, .int .i64 x.2]] W fun e w' => e = .returned (.agg #[.int .i64 (one x).thru, .int .i64 (one x).fin]) ∧ Same W w') :
  Calls Tryz.prog 78 #[.slice A m c, .slice Wt m cW, .slice LA n cL, .agg #[.int .i64 a, .int .i64 b]] w fun e w' => e = .returned (.agg #[.int .i64 (partT one p ws (innerL l (a, b)) a (b + 1 - a)).all.thru, .int .i64 (partT one p ws (innerL l (a, b)) a (b + 1 - a)).all.fin]) ∧ Same w w' := by
 have HL := Lib.hid hl
 have HP := Lib.hid hp
 have HW := Lib.hid hW
 have HWL := Lib.hid hwl
 have HLN := Lib.hid hln
 have HLL := Lib.hid hL
 have HOK := Lib.hid hok
 have HNX := Lib.hid hnx
 have IH := Lib.hid ih
 have f1 := Fw.i64_of ((m : Int) + 1) (by omega)
 have f1' : wrap64 ((m : Int) + 1) = (m : Int) + 1 := Go.IntWalk.wrap64_in _ (by omega)
 clear hl hp hW hwl hln hL hok hnx ih
 go_enter Tryz.func78, Tryz.ntmps78
 go_upto_region 1 with fail
 obtain ⟨q, hq⟩ : ∃ q, q = w.heap.size := ⟨_, rfl⟩
 have BP := Lib.hid (Blk.new w 97 #[.int .i64 a, .int .i64 b])
 have s1 := (Same.refl w).alloc (.cells #[.int .i64 a, .int .i64 b] 97)
 have hz1 : (w.alloc (.cells #[.int .i64 a, .int .i64 b] 97)).heap.size = w.heap.size + 1 := by simp
 generalize w.alloc (.cells #[.int .i64 a, .int .i64 b] 97) = wa at *
 have BR := Lib.hid (Blk.new wa 92 #[.int .i64 0, .int .i64 0])
 have s2 := (Same.refl wa).alloc (.cells #[.int .i64 0, .int .i64 0] 92)
 have hz2 : (wa.alloc (.cells #[.int .i64 0, .int .i64 0] 92)).heap.size = wa.heap.size + 1 := by simp
 generalize wa.alloc (.cells #[.int .i64 0, .int .i64 0] 92) = w0 at *
 have hmk := izr_make (m + 1) (by omega) w0
 rw [show ((m + 1 : Nat) : Int) = (m : Int) + 1 by omega] at hmk
 have BN := Lib.hid (g1_new w0 (m + 1) (by omega))
 have s3 := (Same.refl w0).alloc (.cells (izr (m + 1)) 3)
 have hz3 : (w0.alloc (.cells (izr (m + 1)) 3)).heap.size = w0.heap.size + 1 := by simp
 generalize w0.alloc (.cells (izr (m + 1)) 3) = wb at *
 have hc : w0.heap.size = q + 2 := by omega
 rw [hc] at BN hmk hz3
 rw [show wa.heap.size = q + 1 by omega] at BR
 rw [← hq] at BP
 rw [← hq]
 have P0 := Lib.hid (show Blk wb q 97 #[.int .i64 a, .int .i64 b] from (BP.out.same s2).same s3)
 have R0 := Lib.hid (show Blk wb (q + 1) 92 #[.int .i64 0, .int .i64 0] from BR.out.same s3)
 have S0 := Lib.hid (show Same w wb from (s1.trans s2).trans s3)
 have C0 := Lib.hid (show OwnK wb (q + 2) 3 1 (some ⟨q + 2, 0, none⟩) (m + 1) (m + 1) (grown (m + 1) 0 (-1)) from by rw [grown_none]; exact BN.out)
 have HQ := Lib.hid hq
 have HZ := Lib.hid (show wb.heap.size = q + 3 from hz3)
 clear BP BR BN s1 s2 s3 hz1 hz2 hz3 hc hq
 go_wp2_with fail
 go_loopg [27] (m + 1) (fun gk iv wx => ∃ k : Nat, k + gk = m + 1 ∧ iv = .int .i64 k ∧ OwnK wx (q + 2) 3 1 (some ⟨q + 2, 0, none⟩) (m + 1) (m + 1) (grown (m + 1) k (-1)) ∧ Chg (fun i => i = q + 2) wb wx ∧ wx.heap.size = q + 3)
 case atStart => exact ⟨0, by omega, rfl, C0.out, Chg.refl _ _, HZ.out⟩
 case round =>
  clear hmk C0
  obtain ⟨k, hk, rfl, ho, sx, hz⟩ := hrel
  have HO := Lib.hid ho
  have HS := Lib.hid sx
  have HZX := Lib.hid hz
  clear ho sx hz
  cases gk with
  | succ GK =>
   have hlt : (k : Int) < ((m + 1 : Nat) : Int) := by omega
   have hlt' : (k : Int) < (m : Int) + 1 := by omega
   have hk0 : (0 : Int) ≤ k := by omega
   have c0 := g1_get HO.out (grown_at (-1) (by omega : k < m + 1))
   have t0 := g1_thaw HO.out k
   have HO2 := Lib.hid (grown_set (-1) (by omega : k < m + 1) ▸ g1_set HO.out k (.int .i64 (-1)))
   have HS2 := Lib.hid (HS.out.set (p := ⟨q + 2, k, none⟩) (.inl rfl) (.int .i64 (-1)))
   have HZ2 := Lib.hid (show (wr.setCell ⟨q + 2, k, none⟩ (.int .i64 (-1))).heap.size = q + 3 from by rw [← HZX.out]; simp)
   go_wp2_with fail
   go_roundg GK
   case rel => exact ⟨k + 1, by omega, by go_num, HO2.out, HS2.out, HZ2.out⟩
   case measure => omega
  | zero =>
   obtain rfl : k = m + 1 := by omega
   have hge : ¬ (((m + 1 : Nat) : Int)) < ((m + 1 : Nat) : Int) := by omega
   have hge' : ¬ (((m + 1 : Nat) : Int)) < (m : Int) + 1 := by omega
   have P1 := Lib.hid (P0.out.chg HS.out (by omega))
   have R1 := Lib.hid (R0.out.chg HS.out (by omega))
   have S1 := Lib.hid (Same.more S0.out HS.out (fun i hi => by have := HQ.out; omega))
   have h2 := HO.out
   rw [grown_all] at h2
   have c0 : wr.cell? ⟨q, 0, none⟩ = some (.int .i64 a) := P1.out.cell 0
   have c2 := g1_get h2 (k := a) (u := .int .i64 (-1)) (by rw [List.getElem?_map, List.getElem?_replicate, if_pos (by omega)]; rfl)
   have t2 := g1_thaw h2 a
   have g0 : (0 : Int) ≤ a := by omega
   have g1 : (a : Int) < (m : Int) + 1 := by omega
   have g1' : (a : Int) < ((m + 1 : Nat) : Int) := by omega
   have h3 := g1_set h2 a (.int .i64 0)
   rw [← List.map_set] at h3
   have hc3 : Chg (fun i => i = q + 2) wr (wr.setCell ⟨q + 2, a, none⟩ (.int .i64 0)) := (Chg.refl (fun i => i = q + 2) wr).set (p := ⟨q + 2, a, none⟩) (.inl rfl) _
   have hz3 : (wr.setCell ⟨q + 2, a, none⟩ (.int .i64 0)).heap.size = q + 3 := by rw [← HZX.out]; simp
   have C3 := Lib.hid (show OwnK (wr.setCell ⟨q + 2, a, none⟩ (.int .i64 0)) (q + 2) 3 1 (some ⟨q + 2, 0, none⟩) (m + 1) (m + 1) ((come0 m a).map (Value.int .i64)) from h3)
   have P3 := Lib.hid (P1.out.chg hc3 (by omega))
   have R3 := Lib.hid (R1.out.chg hc3 (by omega))
   have S3 := Lib.hid (Same.more S1.out hc3 (fun i hi => by have := HQ.out; omega))
   clear h2 h3 hc3
   go_upto_region 8 with fail
   generalize wr.setCell ⟨q + 2, a, none⟩ (.int .i64 0) = w3 at *
   have HZ3 := Lib.hid hz3
   clear c0 c2 t2 hz3
   have N3 := Lib.hid (show Blk (w3.alloc (.cells #[.int .i64 (-1), .int .i64 (-1)] 92)) (q + 3) 92 #[.int .i64 (-1), .int .i64 (-1)] from HZ3.out ▸ Blk.new w3 _ _)
   have s4 := (Same.refl w3).alloc (.cells #[.int .i64 (-1), .int .i64 (-1)] 92)
   have PI0 := Lib.hid (show PI w q (q + 2) a b m (partT one p ws (innerL l (a, b)) a 0) (w3.alloc (.cells #[.int .i64 (-1), .int .i64 (-1)] 92)) from
    ⟨P3.out.same s4, R3.out.same s4, by unfold partT; rw [HL.out]; exact C3.out.same s4, N3.out, S3.out.trans s4, ⟨HQ.out.symm, rfl⟩⟩)
   clear s4 N3 C3 P3 R3 S3 P1 R1 S1 HO HS HZX P0 R0 S0
   have hz := HZ3.out
   go_upto_region 9 with fail
   generalize w3.alloc (.cells #[.int .i64 (-1), .int .i64 (-1)] 92) = w4 at *
   have c0 : w4.cell? ⟨q, 0, none⟩ = some (.int .i64 a) := PI0.out.p.cell 0
   go_wp2_with fail
   go_loopg [12] (b + 1 - a) (fun gk iv wx => ∃ k : Nat, k + gk = b + 1 - a ∧ iv = .int .i64 ((a : Int) + (k : Int)) ∧ Hid (PI w q (q + 2) a b m (partT one p ws (innerL l (a, b)) a k) wx))
   case atStart => exact ⟨0, by omega, by simp, PI0⟩
   case round =>
    clear PI0 c0
    obtain ⟨k, hk, rfl, HI⟩ := hrel
    have c1 : wr.cell? ⟨q, 1, none⟩ = some (.int .i64 b) := HI.out.p.cell 1
    have KX := Lib.hid hk
    cases gk with
    | zero =>
     have hge : ¬ ((a : Int) + (k : Int) ≤ (b : Int)) := by omega
     have hkk : k = b + 1 - a := by omega
     subst hkk
     have o0 : wr.cell? ⟨q + 3, 0, none⟩ = some (.int .i64 (partT one p ws (innerL l (a, b)) a (b + 1 - a)).all.thru) := HI.out.o.cell 0
     have o1 : wr.cell? ⟨q + 3, 1, none⟩ = some (.int .i64 (partT one p ws (innerL l (a, b)) a (b + 1 - a)).all.fin) := HI.out.o.cell 1
     have r0 : wr.cell? ⟨q + 1, 0, none⟩ = some (.int .i64 0) := HI.out.r.cell 0
     have r1 : wr.cell? ⟨q + 1, 1, none⟩ = some (.int .i64 0) := HI.out.r.cell 1
     have e0 := HI.out.r.thaw 0
     have e1 := HI.out.r.thaw 1
     have SS := Lib.hid (Same.more HI.out.same (((Chg.refl (fun i => i = q + 1) wr).set (p := ⟨q + 1, 0, none⟩) (.inl rfl) (.int .i64 (partT one p ws (innerL l (a, b)) a (b + 1 - a)).all.thru)).set (p := ⟨q + 1, 1, none⟩) (.inl rfl) (.int .i64 (partT one p ws (innerL l (a, b)) a (b + 1 - a)).all.fin)) (fun i hi => by have := HI.out.lt; omega))
     have RB := Lib.hid ((HI.out.r.put 0 (.int .i64 (partT one p ws (innerL l (a, b)) a (b + 1 - a)).all.thru)).put 1 (.int .i64 (partT one p ws (innerL l (a, b)) a (b + 1 - a)).all.fin))
     clear KX hk
     generalize hvt : (partT one p ws (innerL l (a, b)) a (b + 1 - a)).all.thru = vt at *
     have Hvt := Lib.hid hvt
     clear hvt
     generalize hvf : (partT one p ws (innerL l (a, b)) a (b + 1 - a)).all.fin = vf at *
     have Hvf := Lib.hid hvf
     clear hvf
     go_wp2_with fail
     refine bodyPost_ret (v := .agg #[.int .i64 vt, .int .i64 vf]) (results_cell_row Tryz.results78 _ _ (q + 1) 92 #[.int .i64 vt, .int .i64 vf] (0, 0) _ rfl RB.out Tryz.underlying92 rfl (by kernel_rfl)) rfl ?_
     exact ⟨by rw [Hvt.out, Hvf.out], SS.out⟩
    | succ GK =>
     have hle : (a : Int) + (k : Int) ≤ (b : Int) := by omega
     have hak : a + k < m := by omega
     obtain ⟨st, hst⟩ : ∃ st, st = partT one p ws (innerL l (a, b)) a k := ⟨_, rfl⟩
     have HST := Lib.hid (show partT one p ws (innerL l (a, b)) a (k + 1) = partS one p ws (innerL l (a, b)) st (a + k) from by rw [hst]; rfl)
     rw [← hst] at HI
     clear hst
     have HLEN := Lib.hid (show st.come.length = m + 1 from by have := HI.out.c.len; simpa using this)
     have hv0 : st.come.getD (a + k) 0 = st.come.getD (a + k) 0 := rfl
     obtain ⟨v, hv⟩ : ∃ v, v = st.come.getD (a + k) 0 := ⟨_, rfl⟩
     have cv : wr.cell? ⟨q + 2, a + k, none⟩ = some (.int .i64 v) := g1_get HI.out.c (by rw [List.getElem?_map, hv, List.getD_eq_getElem?_getD, List.getElem?_eq_getElem (by rw [HLEN.out]; omega)]; rfl)
     have g0 : (0 : Int) ≤ (a : Int) + (k : Int) := by omega
     have g1 : (a : Int) + (k : Int) < (m : Int) + 1 := by omega
     have g2 : ((a : Int) + (k : Int)).toNat = a + k := by omega
     have g3 : (a : Int) + (k : Int) ≤ 100000 := by omega
     have HV := Lib.hid hv
     clear hv0 hv
     have HS2 := Lib.hid (show partS one p ws (innerL l (a, b)) st (a + k) = if v < 0 then st else
       match fromIn (innerL l (a, b)) ((a + k : Nat) : Int) with
       | some x => if 0 ≤ (one x).thru then ⟨setMax st.come (x.2 + 1) (moreI v (mlI ((at_ p x.2.toNat).c + 1) (one x).thru)), ⟨st.all.thru, max (max st.all.fin (moreI (moreI v (mlI (at_ p x.2.toNat).c (one x).thru)) (one x).fin)) (moreI v (one x).fin)⟩⟩
         else ⟨st.come, ⟨st.all.thru, max st.all.fin (moreI v (one x).fin)⟩⟩
       | none => if (at_ p (a + k)).op = 21 then ⟨st.come, ⟨st.all.thru, max st.all.fin (moreI v (clI (ws.getD (a + k) 0)))⟩⟩
         else if (at_ p (a + k)).op = 16 then ⟨st.come, ⟨moreI v (clI (ws.getD (a + k) 0)), st.all.fin⟩⟩
         else ⟨(nextL p (a + k)).foldl (fun c t => setMax c t (moreI v (clI (ws.getD (a + k) 0)))) st.come, st.all⟩ from by rw [HV.out]; rfl)
     by_cases hv0 : v < 0
     ·have HT := Lib.hid ((HST.out.trans HS2.out).trans (if_pos hv0))
      clear HS2 HST HV
      go_wp2_with fail
      go_roundg GK
      case rel => exact ⟨k + 1, by have := KX.out; omega, by go_num, Lib.hid (by rw [HT.out]; exact HI.out)⟩
      case measure => omega
     have HT := Lib.hid ((HST.out.trans HS2.out).trans (if_neg hv0))
     clear HS2 HST
     go_upto_region 14 with fail
     have hq13 : q + 3 < wr.heap.size := HI.out.o.lt
     have s5 := (Same.refl wr).alloc (.cells #[.int .i64 (-1), .int .i64 0] 97)
     have B13 := Lib.hid (Blk.new wr 97 #[.int .i64 (-1), .int .i64 0])
     have HI5 := Lib.hid (HI.out.same_ s5)
     generalize wr.alloc (.cells #[.int .i64 (-1), .int .i64 0] 97) = w5 at *
     generalize wr.heap.size = g13 at *
     have IN := Lib.hid (inner_ref LA n cL l ((a : Int), (b : Int)) w5 HLN.out (by omega) (HLL.out.same HI5.out.same))
     have c0 : w5.cell? ⟨q, 0, none⟩ = some (.int .i64 a) := HI5.out.p.cell 0
     have c1' : w5.cell? ⟨q, 1, none⟩ = some (.int .i64 b) := HI5.out.p.cell 1
     clear c1 cv s5
     go_wp2_with fail
     refine IN.out.mono ?_
     rintro e w6 ⟨NA, cN, rfl, ho, s6⟩
     have H13 := B13.out.lt
     have HO6 := Lib.hid (ho.base (by omega : g13 + 1 ≤ _))
     have HI6 := Lib.hid (HI5.out.same_ s6)
     have B6 := Lib.hid (B13.out.same s6)
     have HIL := Lib.hid (show ∀ x ∈ innerL l ((a : Int), (b : Int)), x ∈ l from fun x hx => (innerL_mem.1 hx).1)
     clear ho s6 B13 HI5 c0 c1' IN H13 HI
     have hnL : (innerL l ((a : Int), (b : Int))).length ≤ 64 := by have := inner_len l ((a : Int), (b : Int)); have := HLN.out; omega
     generalize hL : innerL l ((a : Int), (b : Int)) = L at *
     have HHL := Lib.hid hL
     clear hL
     go_wp2_with fail
     go_loopg [57] L.length (fun gj jv wx => ∃ j : Nat, j + gj = L.length ∧ jv = .int .i64 j ∧ Hid (PI w q (q + 2) a b m st wx) ∧ Hid (Blk wx g13 97 #[.int .i64 (selN L ((a : Int) + (k : Int)) j).1, .int .i64 (selN L ((a : Int) + (k : Int)) j).2]) ∧ Hid (OwnK wx (g13 + 1) 97 2 NA L.length cN (spanCells L)))
     case atStart => exact ⟨0, by omega, rfl, HI6, B6, HO6⟩
     case round =>
      clear HI6 B6 HO6
      obtain ⟨j, hj, rfl, HIX, BX, HOX⟩ := hrel
      have JX := Lib.hid hj
      cases gk with
      | succ GJ =>
       have hjl : j < L.length := by omega
       have hlt : (j : Int) < (L.length : Int) := by omega
       have hj0 : (0 : Int) ≤ j := by omega
       obtain ⟨bn, on, rfl, d0, d1⟩ := (spn_of HOX.out.row).at_ hjl
       have HSEL := Lib.hid (selN_next ((a : Int) + (k : Int)) hjl)
       have hs1 := (Same.refl wr).alloc (.cells #[.int .i64 (lp L j).1, .int .i64 (lp L j).2] 97)
       have HIX1 := Lib.hid (HIX.out.same_ hs1)
       have BX1 := Lib.hid (BX.out.same hs1)
       have HOX1 := Lib.hid (HOX.out.same hs1)
       have BE := Lib.hid (Blk.new wr 97 #[.int .i64 (lp L j).1, .int .i64 (lp L j).2])
       have hg15 : g13 < wr.heap.size := BX.out.lt
       generalize lp L j = x at *
       obtain ⟨xa, xb⟩ := x
       simp only at d0 d1 HSEL HIX1 BX1 HOX1 BE hs1
       go_upto_region 17 with fail
       generalize wr.alloc (.cells #[.int .i64 xa, .int .i64 xb] 97) = wE at *
       generalize wr.heap.size = g15 at *
       clear hs1 d0 d1
       have d0 : wE.cell? ⟨g15, 0, none⟩ = some (.int .i64 xa) := BE.out.cell 0
       have d1 : wE.cell? ⟨g15, 1, none⟩ = some (.int .i64 xb) := BE.out.cell 1
       by_cases hx : xa = (a : Int) + (k : Int)
       ·have bx : (xa == (a : Int) + (k : Int)) = true := by simpa using hx
        have HS := Lib.hid (HSEL.out.trans (if_pos hx))
        clear HSEL hx
        have t0 := BX1.out.thaw 0
        have t1 := BX1.out.thaw 1
        have y0 := BX1.out.cell 0
        have y1 : wE.cell? ⟨g13, 1, none⟩ = some (.int .i64 (selN L ((a : Int) + (k : Int)) j).2) := BX1.out.cell 1
        simp only [List.getElem?_toArray, List.getElem?_cons_zero] at y0
        generalize (selN L ((a : Int) + (k : Int)) j).1 = z0 at *
        generalize (selN L ((a : Int) + (k : Int)) j).2 = z1 at *
        have hc : Chg (fun i => i = g13) wE ((wE.setCell ⟨g13, 0, none⟩ (.int .i64 xa)).setCell ⟨g13, 1, none⟩ (.int .i64 xb)) := ((Chg.refl (fun i => i = g13) wE).set (p := ⟨g13, 0, none⟩) (.inl rfl) _).set (p := ⟨g13, 1, none⟩) (.inl rfl) _
        have BX2 := Lib.hid ((BX1.out.put 0 (.int .i64 xa)).put 1 (.int .i64 xb))
        have HIX2 := Lib.hid (HIX1.out.chg_ hq13 hc)
        have HOX2 := Lib.hid (HOX1.out.chg hc (fun g e i => by have := HOX1.out.base_ge g e; omega))
        clear hc
        go_wp2_with fail
        go_roundg GJ
        case rel => exact ⟨j + 1, by have := JX.out; omega, by go_num, HIX2, Lib.hid (by rw [HS.out]; exact BX2.out), HOX2⟩
        case measure => omega
       ·have bx : (xa == (a : Int) + (k : Int)) = false := by simpa using hx
        have HS := Lib.hid (HSEL.out.trans (if_neg hx))
        clear HSEL hx
        go_wp2_with fail
        go_roundg GJ
        case rel => exact ⟨j + 1, by have := JX.out; omega, by go_num, HIX1, Lib.hid (by rw [HS.out]; exact BX1.out), HOX1⟩
        case measure => omega
      | zero =>
       have hjn : j = L.length := by omega
       subst hjn
       have hge : ¬ (L.length : Int) < (L.length : Int) := by omega
       rw [selN_all] at BX
       have HT2 := HT.out
       rw [show ((a + k : Nat) : Int) = (a : Int) + (k : Int) from rfl] at HT2
       clear HT JX
       cases hfi : fromIn L ((a : Int) + (k : Int)) with
       | none =>
        rw [hfi] at BX HT2
        simp only [Option.getD_none] at BX
        simp only at HT2
        have HT3 := Lib.hid HT2
        clear HT2
        have d0 : wr.cell? ⟨g13, 0, none⟩ = some (.int .i64 (-1)) := BX.out.cell 0
        obtain ⟨bW, oW, rfl, cw⟩ := (HW.out.same HIX.out.same) (a + k) (.int .i64 (ws.getD (a + k) 0)) (by rw [List.getElem?_map, List.getD_eq_getElem?_getD, List.getElem?_eq_getElem (by rw [HWL.out]; exact hak)]; rfl)
        have cv : wr.cell? ⟨q + 2, a + k, none⟩ = some (.int .i64 v) := g1_get HIX.out.c (by rw [List.getElem?_map, HV.out, List.getD_eq_getElem?_getD, List.getElem?_eq_getElem (by rw [HLEN.out]; omega)]; rfl)
        have g4 : (a : Int) + (k : Int) < (m : Int) := by omega
        have RC := Lib.hid (show ∀ W, Calls Tryz.prog 66 #[.int .i64 (ws.getD (a + k) 0), .int .i64 0, .int .i64 1099511627776] W fun e w' => e = .returned (.int .i64 (clI (ws.getD (a + k) 0))) ∧ W = w' from fun W => Wd.rclamp _ _ _ W)
        generalize ws.getD (a + k) 0 = wv at *
        have MR := Lib.hid (fun W => more_ref v (clI wv) W)
        have HHE := Lib.hid (rfl : moreI v (clI wv) = moreI v (clI wv))
        generalize clI wv = cl at *
        go_wp2_with fail
        go_still_tail 10, (by kernel_rfl)
        still_call (still_of (RC.out _))
        still_call (still_of (MR.out _))
        refine wpStill_nil ?_
        change wpList _ _ _ _ _ wr.drew
        have HID := Lib.hid (HIX.out.same_ (Same.refl wr).drew)
        clear HIX BX HOX d0 cw cv RC MR
        generalize wr.drew = Wd at *
        generalize moreI v cl = he at *
        obtain ⟨_, zb, zo, rfl, z0, _⟩ := (HP.out.same HID.out.same).at_ (k := a + k) (by rw [HL.out]; exact hak)
        by_cases h21 : (at_ p (a + k)).op = 21
        ·have b21 : ((at_ p (a + k)).op == 21) = true := by simpa using h21
         have HT4 := Lib.hid (HT3.out.trans (if_pos h21))
         clear HT3
         generalize (at_ p (a + k)).op = op at *
         clear h21
         have o1 : Wd.cell? ⟨q + 3, 1, none⟩ = some (.int .i64 st.all.fin) := HID.out.o.cell 1
         have t1 : Wd.frozen? ⟨q + 3, 1, none⟩ = false := HID.out.o.thaw 1
         have hc := fun u : Int => (show Chg (fun i => i = q + 3) Wd (Wd.setCell ⟨q + 3, 1, none⟩ (.int .i64 u)) from (Chg.refl (fun i => i = q + 3) Wd).set (p := ⟨q + 3, 1, none⟩) (.inl rfl) _)
         have HI2 := Lib.hid (fun (u : Int) (hu : max st.all.fin he = u) => (show PI w q (q + 2) a b m ⟨st.come, ⟨st.all.thru, max st.all.fin he⟩⟩ (Wd.setCell ⟨q + 3, 1, none⟩ (.int .i64 u)) from hu ▸ HID.out.out_ (hc _) (HID.out.o.put 1 (.int .i64 (max st.all.fin he)))))
         clear hc
         go_wp2_with fail
         all_goals
          go_roundg GK
          case rel => exact ⟨k + 1, by have := KX.out; omega, by go_num, Lib.hid (by rw [HT4.out]; exact HI2.out _ (by omega))⟩
          case measure => omega
        ·have b21 : ((at_ p (a + k)).op == 21) = false := by simpa using h21
         have HT4 := Lib.hid (HT3.out.trans (if_neg h21))
         clear HT3 h21
         by_cases h16 : (at_ p (a + k)).op = 16
         ·have b16 : ((at_ p (a + k)).op == 16) = true := by simpa using h16
          have HT5 := Lib.hid (HT4.out.trans (if_pos h16))
          clear HT4
          generalize (at_ p (a + k)).op = op at *
          clear h16
          have o0 : Wd.cell? ⟨q + 3, 0, none⟩ = some (.int .i64 st.all.thru) := HID.out.o.cell 0
          have t0 : Wd.frozen? ⟨q + 3, 0, none⟩ = false := HID.out.o.thaw 0
          have hc : Chg (fun i => i = q + 3) Wd (Wd.setCell ⟨q + 3, 0, none⟩ (.int .i64 he)) := (Chg.refl (fun i => i = q + 3) Wd).set (p := ⟨q + 3, 0, none⟩) (.inl rfl) _
          have HI2 := Lib.hid (HID.out.out_ hc (HID.out.o.put 0 (.int .i64 he)))
          clear hc
          go_wp2_with fail
          go_roundg GK
          case rel => exact ⟨k + 1, by have := KX.out; omega, by go_num, Lib.hid (by rw [HT5.out]; exact HI2.out)⟩
          case measure => omega
         ·have b16 : ((at_ p (a + k)).op == 16) = false := by simpa using h16
          have HT5 := Lib.hid (HT4.out.trans (if_neg h16))
          clear HT4 h16
          have RN := Lib.hid (Fw.rnextf_any (some ⟨zb, zo, none⟩) m c p (a + k) Wd HL.out (by omega) hak (HP.out.same HID.out.same))
          rw [HNX.out (a + k) hak, show ((a + k : Nat) : Int) = (a : Int) + (k : Int) from rfl] at RN
          have HLL2 := Lib.hid (Fp.next_len p (a + k))
          have HNR := Lib.hid (show ∀ t ∈ nextL p (a + k), 0 ≤ t ∧ t < (m : Int) from by
           rw [← HNX.out (a + k) hak]
           intro t ht
           unfold Fp.rnextL at ht
           obtain ⟨u, hu, rfl⟩ := List.mem_map.1 ht
           have := List.mem_range.1 (List.mem_filter.1 hu).1
           rw [HL.out] at this
           omega)
          generalize (at_ p (a + k)).op = op at *
          obtain ⟨nx, hnx⟩ : ∃ nx, nx = nextL p (a + k) := ⟨_, rfl⟩
          rw [← hnx] at RN HLL2 HNR HT5
          clear hnx
          go_wp2_with fail
          refine RN.out.mono ?_
          rintro e w7 ⟨NB, cB, rfl, hr7, s7, hf7⟩
          have hlt13 : q + 3 < Wd.heap.size := HID.out.o.lt
          have HFR := Lib.hid (fun b o (e : NB = some ⟨b, o, none⟩) => Nat.lt_of_lt_of_le hlt13 (hf7 b o e))
          have HI7 := Lib.hid (HID.out.same_ s7)
          have HR7 := Lib.hid hr7
          clear hr7 s7 hf7 hlt13 HID z0
          obtain ⟨nn, hnn⟩ : ∃ nn, nn = nx.length := ⟨_, rfl⟩
          rw [← hnn]
          have HNN := Lib.hid hnn
          have hn2 : nn ≤ 2 := by rw [hnn]; exact HLL2.out
          clear hnn HLL2
          go_wp2_with fail
          go_loopg [168] nn (fun gk iv wx => ∃ j : Nat, j + gk = nn ∧ iv = .int .i64 (j : Int) ∧ Hid (PI w q (q + 2) a b m ⟨(nx.take j).foldl (fun c t => setMax c t he) st.come, st.all⟩ wx) ∧ Hid (Row wx NB (nx.map (Value.int .i64))))
          case atStart => exact ⟨0, by omega, rfl, HI7, HR7⟩
          case round =>
           obtain ⟨j, hj, rfl, HIJ, HRJ⟩ := hrel
           clear HI7 HR7
           cases gk with
           | zero =>
            have hjn : ¬ (j : Int) < nn := by omega
            have HI2 := Lib.hid (show PI w q (q + 2) a b m (partT one p ws L a (k + 1)) wr from by
             rw [HT5.out]
             have h := HIJ.out
             rw [List.take_of_length_le (by have := HNN.out; omega)] at h
             exact h)
            clear HIJ HRJ hj
            go_wp2_with fail
            go_roundg GK
            case rel => exact ⟨k + 1, by have := KX.out; omega, by go_num, HI2⟩
            case measure => omega
           | succ GJ =>
            have hjn : (j : Int) < nn := by omega
            have hj0 : (0 : Int) ≤ (j : Int) := by omega
            have hjl : j < nx.length := by rw [← HNN.out]; omega
            have HJ := Lib.hid hj
            obtain ⟨nb, no, hNA, hcn⟩ := HRJ.out j (.int .i64 (nx.getD j 0)) (by rw [List.getElem?_map, List.getD_eq_getElem?_getD, List.getElem?_eq_getElem hjl]; rfl)
            have HTK := Lib.hid (show nx.take (j + 1) = nx.take j ++ [nx.getD j 0] from by rw [List.take_succ_eq_append_getElem hjl, List.getD_eq_getElem?_getD, List.getElem?_eq_getElem hjl]; rfl)
            have hb := HNR.out (nx.getD j 0) (by rw [List.getD_eq_getElem?_getD, List.getElem?_eq_getElem hjl]; exact List.getElem_mem hjl)
            clear hj hjl
            subst hNA
            obtain ⟨t, ht⟩ : ∃ t : Nat, (t : Int) = nx.getD j 0 := ⟨(nx.getD j 0).toNat, by omega⟩
            rw [← ht] at hcn HTK hb
            clear ht
            obtain ⟨cm, hcm⟩ : ∃ cm, cm = (nx.take j).foldl (fun c t => setMax c t he) st.come := ⟨_, rfl⟩
            rw [← hcm] at HIJ
            have HCM := Lib.hid hcm
            clear hcm
            have hlc : cm.length = m + 1 := by have := HIJ.out.c.len; simpa using this
            have ct := g1_get HIJ.out.c (k := t) (u := .int .i64 (cm.getD t 0)) (by rw [List.getElem?_map, List.getD_eq_getElem?_getD, List.getElem?_eq_getElem (by show t < cm.length; omega)]; rfl)
            have tt := g1_thaw HIJ.out.c t
            have ht0 : (0 : Int) ≤ (t : Int) := by omega
            have htm : (t : Int) < (m : Int) + 1 := by omega
            have hc5 := fun u : Int => (show Chg (fun i => i = q + 2) wr (wr.setCell ⟨q + 2, t, none⟩ (.int .i64 u)) from (Chg.refl (fun i => i = q + 2) wr).set (p := ⟨q + 2, t, none⟩) (.inl rfl) _)
            have hset := fun u : Int => g1_set HIJ.out.c t (.int .i64 u)
            simp only [← List.map_set] at hset
            have HI5 := Lib.hid (fun (u : Int) (hu : max (cm.getD t 0) he = u) => (show PI w q (q + 2) a b m ⟨cm.set t (max (cm.getD t 0) he), st.all⟩ (wr.setCell ⟨q + 2, t, none⟩ (.int .i64 u)) from hu ▸ HIJ.out.come_ (hc5 _) (hset _)))
            have HR5 := Lib.hid (fun u => HRJ.out.chg (hc5 u) (fun b' o' e' i' => by have h9 := HFR.out b' o' e'; omega))
            have HSM := Lib.hid (show cm.set t (max (cm.getD t 0) he) = (nx.take (j + 1)).foldl (fun c t => setMax c t he) st.come from by
             rw [HTK.out, List.foldl_append, ← HCM.out]
             show _ = setMax cm (t : Int) he
             unfold setMax
             rw [Int.toNat_natCast])
            clear hc5 hset HIJ HRJ HTK HCM
            generalize cm.getD t 0 = ctv at *
            go_wp2_with fail
            all_goals
             go_roundg GJ
             case measure => omega
             case rel => exact ⟨j + 1, by have := HJ.out; omega, by go_num, Lib.hid (by rw [← HSM.out]; exact HI5.out _ (by omega)), Lib.hid (HR5.out _)⟩
       | some x =>
        obtain ⟨hxL, hx1⟩ := fromIn_mem hfi
        rw [hfi] at BX HT2
        simp only [Option.getD_some] at BX
        simp only at HT2
        have HT3 := Lib.hid HT2
        clear HT2
        have hLk := HOK.out _ (HIL.out _ hxL)
        have hxl := Lib.hid (HIL.out _ hxL)
        clear hxL
        obtain ⟨x1, x2⟩ := x
        unfold Lok at hLk
        simp only at hx1 hLk BX
        subst hx1
        obtain ⟨y, rfl⟩ : ∃ y : Nat, x2 = (y : Int) := ⟨x2.toNat, by omega⟩
        rw [Int.toNat_natCast] at hLk
        have hy : y < m := by have := HL.out; omega
        have hyc := hLk.2.2.2
        have hky : a + k ≤ y := by have := hLk.2.1; omega
        clear hLk
        have d0 : wr.cell? ⟨g13, 0, none⟩ = some (.int .i64 ((a : Int) + (k : Int))) := BX.out.cell 0
        have d1 : wr.cell? ⟨g13, 1, none⟩ = some (.int .i64 (y : Int)) := BX.out.cell 1
        have IN := Lib.hid (show ∀ W', Same wr W' → Calls Tryz.prog 99 #[.slice LA n cL, .agg #[.int .i64 ((a : Int) + (k : Int)), .int .i64 (y : Int)]] W' (InnerPost W' l ((a : Int) + (k : Int), (y : Int))) from fun W' s => inner_ref LA n cL l ((a : Int) + (k : Int), (y : Int)) W' HLN.out (by omega) (HLL.out.same (HIX.out.same.trans s)))
        have PT := Lib.hid (fun W' (s : Same wr W') NB cB (r : Row W' NB (spanCells (innerL l ((a : Int) + (k : Int), (y : Int))))) => IH.out _ hxl.out W' NB cB (HIX.out.same.trans s) r)
        obtain ⟨ov, hov⟩ : ∃ ov, ov = one ((a : Int) + (k : Int), (y : Int)) := ⟨_, rfl⟩
        rw [← hov] at PT HT3
        simp only at PT HT3
        clear hov
        have SS := Lib.hid (fun w' (s : Same wr w') => (show w'.cell? ⟨g13, 0, none⟩ = some (.int .i64 ((a : Int) + (k : Int))) ∧ w'.cell? ⟨g13, 1, none⟩ = some (.int .i64 (y : Int)) ∧ Same wr w' from ⟨s.cell d0, s.cell d1, s⟩))
        go_wp2_with fail
        go_cut [16] from 70 to 76 (fun v16 wx => ∃ g16, v16 = .pointer (some ⟨g16, 0, none⟩) ∧ Hid (PI w q (q + 2) a b m st wx) ∧ Hid (Blk wx g13 97 #[.int .i64 ((a : Int) + (k : Int)), .int .i64 (y : Int)]) ∧ Hid (Blk wx g16 92 #[.int .i64 ov.thru, .int .i64 ov.fin]) ∧ Hid (g13 < g16))
        case first =>
         refine wp_region_held_drew (S := fun w' => w'.cell? ⟨g13, 0, none⟩ = some (.int .i64 ((a : Int) + (k : Int))) ∧ w'.cell? ⟨g13, 1, none⟩ = some (.int .i64 (y : Int)) ∧ Same wr w') (by kernel_rfl) ?_ (fun hHeld => ?_)
         ·exact SS.out _ (Same.refl _).drew
         have hHeld' := SS.out _ (Same.refl wr).drew
         clear hHeld
         obtain ⟨wD, hwD⟩ : ∃ wD, wD = wr.drew := ⟨_, rfl⟩
         rw [← hwD] at hHeld'
         rw [← hwD]
         clear hwD
         have hHeld := hHeld'
         clear hHeld'
         refine Ro.tn 0 ?_ ?_ ?_
         rotate_left
         ·intro wS hSw; (try dsimp only at hSw); go_simp; try with_reducible rfl
         try simp only [Ro.p]
         refine Ro.tn 1 ?_ ?_ ?_
         rotate_left
         ·intro wS hSw; (try dsimp only at hSw); go_simp; try with_reducible rfl
         try simp only [Ro.p]
         refine Ro.tn 2 ?_ ?_ ?_
         rotate_left
         ·intro wS hSw; (try dsimp only at hSw); go_simp; try with_reducible rfl
         try simp only [Ro.p]
         refine Ro.tn 3 ?_ ?_ ?_
         rotate_left
         ·intro wS hSw; (try dsimp only at hSw); go_simp; try with_reducible rfl
         try simp only [Ro.p]
         refine Ro.tn 5 ?_ ?_ ?_
         rotate_left
         ·intro wS hSw; (try dsimp only at hSw); go_simp; try with_reducible rfl
         try simp only [Ro.p]
         refine Ra.two_on (i := 4) (j := 7) rfl rfl (by kernel_rfl) (by rfl) (by rfl) (fun K hK => ?_) (fun K hK => ?_)
         ·go_simp
          go_at_call 99
          refine (IN.out _ hHeld.2.2).mono ?_
          rintro e v1 ⟨NB, cB, rfl, hoB, hs⟩
          (first | refine hK.out _ _ ?_ (fun hNew => ?_) | (go_wp2_with fail; refine hK.out _ _ ?_ (fun hNew => ?_)))
          ·exact SS.out _ (hHeld.2.2.trans hs)
          have RB := Lib.hid hoB.row
          clear hoB
          clear hs
          clear hK K hHeld
          have hHeld := hNew
          clear hNew
          try simp only [Ro.p]
          refine Ra.two_on (i := 6) (j := 7) rfl rfl (by kernel_rfl) (by rfl) (by rfl) (fun K hK => ?_) (fun K hK => ?_)
          ·go_simp
           go_at_call 78
           refine (PT.out _ hHeld.2.2 _ _ RB.out).mono ?_
           rintro e v2 ⟨rfl, hs⟩
           (first | refine hK.out _ _ ?_ (fun hNew => ?_) | (go_wp2_with fail; refine hK.out _ _ ?_ (fun hNew => ?_)))
           ·exact SS.out _ (hHeld.2.2.trans hs)
           clear hs
           clear hK K hHeld
           have hHeld := hNew
           clear hNew
           try simp only [Ro.p]
           refine Ro.one_on (i := 7) rfl (by kernel_rfl) (by rfl) (fun K hK => ?_)
           go_simp
           refine hK.out _ _ ?_ (fun hNew => ?_)
           ·exact SS.out _ (hHeld.2.2.alloc _)
           have B16 := Lib.hid (Blk.new v2 92 #[.int .i64 0, .int .i64 0])
           obtain ⟨g16, hg16⟩ : ∃ g16, g16 = v2.heap.size := ⟨_, rfl⟩
           obtain ⟨v3, hwn⟩ : ∃ x, x = v2.alloc (.cells #[.int .i64 0, .int .i64 0] 92) := ⟨_, rfl⟩
           have HGE := Lib.hid (show wr.heap.size ≤ g16 from by rw [hg16]; exact hHeld.2.2.size)
           rw [← hwn] at hNew
           rw [← hg16, ← hwn] at B16
           rw [← hg16, ← hwn]
           clear hg16 hwn
           clear hK K hHeld
           have hHeld := hNew
           clear hNew
           try simp only [Ro.p]
           refine Ro.one_on (i := 8) rfl (by kernel_rfl) (by rfl) (fun K hK => ?_)
           have z0 := B16.out.cell 0
           have z1 := B16.out.cell 1
           simp only [Ws.q_] at z0 z1
           have f0 := B16.out.thaw 0
           have f1 := B16.out.thaw 1
           go_simp
           have hc12 : Chg (fun i => i = g16) v3 ((v3.setCell ⟨g16, 0, none⟩ (.int .i64 ov.thru)).setCell ⟨g16, 1, none⟩ (.int .i64 ov.fin)) := ((Chg.refl (fun i => i = g16) v3).set (p := ⟨g16, 0, none⟩) (.inl rfl) _).set (p := ⟨g16, 1, none⟩) (.inl rfl) _
           have hs12 : Same wr ((v3.setCell ⟨g16, 0, none⟩ (.int .i64 ov.thru)).setCell ⟨g16, 1, none⟩ (.int .i64 ov.fin)) := Same.more hHeld.2.2 hc12 (fun i hi => by have := HGE.out; omega)
           refine hK.out _ _ ?_ (fun hNew => ?_)
           ·exact SS.out _ hs12
           try simp only [Ro.p]
           refine wpAnyH_done (by kernel_rfl) ?_ _
           go_wp2_with fail
           go_meet
           case rel => exact ⟨g16, rfl, Lib.hid (HIX.out.same_ hs12), Lib.hid (BX.out.same hs12), Lib.hid ((B16.out.put 0 (.int .i64 ov.thru)).put 1 (.int .i64 ov.fin)), Lib.hid (by have := HGE.out; have := BX.out.lt; omega)⟩
          ·go_simp
           refine hK.out _ _ ?_ (fun hNew => ?_)
           ·exact SS.out _ (hHeld.2.2.alloc _)
           have RB := Lib.hid (RB.out.same ((Same.refl v1).alloc (.cells #[.int .i64 0, .int .i64 0] 92)))
           have B16 := Lib.hid (Blk.new v1 92 #[.int .i64 0, .int .i64 0])
           obtain ⟨g16, hg16⟩ : ∃ g16, g16 = v1.heap.size := ⟨_, rfl⟩
           obtain ⟨v5, hwn⟩ : ∃ x, x = v1.alloc (.cells #[.int .i64 0, .int .i64 0] 92) := ⟨_, rfl⟩
           have HGE := Lib.hid (show wr.heap.size ≤ g16 from by rw [hg16]; exact hHeld.2.2.size)
           rw [← hwn] at RB
           rw [← hwn] at hNew
           rw [← hg16, ← hwn] at B16
           rw [← hg16, ← hwn]
           clear hg16 hwn
           clear hK K hHeld
           have hHeld := hNew
           clear hNew
           try simp only [Ro.p]
           refine Ro.one_on (i := 6) rfl (by kernel_rfl) (by rfl) (fun K hK => ?_)
           go_simp
           go_at_call 78
           refine (PT.out _ hHeld.2.2 _ _ RB.out).mono ?_
           rintro e v6 ⟨rfl, hs⟩
           (first | refine hK.out _ _ ?_ (fun hNew => ?_) | (go_wp2_with fail; refine hK.out _ _ ?_ (fun hNew => ?_)))
           ·exact SS.out _ (hHeld.2.2.trans hs)
           have B16 := Lib.hid (B16.out.same hs)
           clear hs
           clear hK K hHeld
           have hHeld := hNew
           clear hNew
           try simp only [Ro.p]
           refine Ro.one_on (i := 8) rfl (by kernel_rfl) (by rfl) (fun K hK => ?_)
           have z0 := B16.out.cell 0
           have z1 := B16.out.cell 1
           simp only [Ws.q_] at z0 z1
           have f0 := B16.out.thaw 0
           have f1 := B16.out.thaw 1
           go_simp
           have hc12 : Chg (fun i => i = g16) v6 ((v6.setCell ⟨g16, 0, none⟩ (.int .i64 ov.thru)).setCell ⟨g16, 1, none⟩ (.int .i64 ov.fin)) := ((Chg.refl (fun i => i = g16) v6).set (p := ⟨g16, 0, none⟩) (.inl rfl) _).set (p := ⟨g16, 1, none⟩) (.inl rfl) _
           have hs12 : Same wr ((v6.setCell ⟨g16, 0, none⟩ (.int .i64 ov.thru)).setCell ⟨g16, 1, none⟩ (.int .i64 ov.fin)) := Same.more hHeld.2.2 hc12 (fun i hi => by have := HGE.out; omega)
           refine hK.out _ _ ?_ (fun hNew => ?_)
           ·exact SS.out _ hs12
           try simp only [Ro.p]
           refine wpAnyH_done (by kernel_rfl) ?_ _
           go_wp2_with fail
           go_meet
           case rel => exact ⟨g16, rfl, Lib.hid (HIX.out.same_ hs12), Lib.hid (BX.out.same hs12), Lib.hid ((B16.out.put 0 (.int .i64 ov.thru)).put 1 (.int .i64 ov.fin)), Lib.hid (by have := HGE.out; have := BX.out.lt; omega)⟩
         ·go_simp
          refine hK.out _ _ ?_ (fun hNew => ?_)
          ·exact SS.out _ (hHeld.2.2.alloc _)
          have B16 := Lib.hid (Blk.new wD 92 #[.int .i64 0, .int .i64 0])
          obtain ⟨g16, hg16⟩ : ∃ g16, g16 = wD.heap.size := ⟨_, rfl⟩
          obtain ⟨v8, hwn⟩ : ∃ x, x = wD.alloc (.cells #[.int .i64 0, .int .i64 0] 92) := ⟨_, rfl⟩
          have HGE := Lib.hid (show wr.heap.size ≤ g16 from by rw [hg16]; exact hHeld.2.2.size)
          rw [← hwn] at hNew
          rw [← hg16, ← hwn] at B16
          rw [← hg16, ← hwn]
          clear hg16 hwn
          clear hK K hHeld
          have hHeld := hNew
          clear hNew
          try simp only [Ro.p]
          refine Ro.one_on (i := 4) rfl (by kernel_rfl) (by rfl) (fun K hK => ?_)
          go_simp
          go_at_call 99
          refine (IN.out _ hHeld.2.2).mono ?_
          rintro e v9 ⟨NB, cB, rfl, hoB, hs⟩
          (first | refine hK.out _ _ ?_ (fun hNew => ?_) | (go_wp2_with fail; refine hK.out _ _ ?_ (fun hNew => ?_)))
          ·exact SS.out _ (hHeld.2.2.trans hs)
          have B16 := Lib.hid (B16.out.same hs)
          have RB := Lib.hid hoB.row
          clear hoB
          clear hs
          clear hK K hHeld
          have hHeld := hNew
          clear hNew
          try simp only [Ro.p]
          refine Ro.one_on (i := 6) rfl (by kernel_rfl) (by rfl) (fun K hK => ?_)
          go_simp
          go_at_call 78
          refine (PT.out _ hHeld.2.2 _ _ RB.out).mono ?_
          rintro e v10 ⟨rfl, hs⟩
          (first | refine hK.out _ _ ?_ (fun hNew => ?_) | (go_wp2_with fail; refine hK.out _ _ ?_ (fun hNew => ?_)))
          ·exact SS.out _ (hHeld.2.2.trans hs)
          have B16 := Lib.hid (B16.out.same hs)
          clear hs
          clear hK K hHeld
          have hHeld := hNew
          clear hNew
          try simp only [Ro.p]
          refine Ro.one_on (i := 8) rfl (by kernel_rfl) (by rfl) (fun K hK => ?_)
          have z0 := B16.out.cell 0
          have z1 := B16.out.cell 1
          simp only [Ws.q_] at z0 z1
          have f0 := B16.out.thaw 0
          have f1 := B16.out.thaw 1
          go_simp
          have hc12 : Chg (fun i => i = g16) v10 ((v10.setCell ⟨g16, 0, none⟩ (.int .i64 ov.thru)).setCell ⟨g16, 1, none⟩ (.int .i64 ov.fin)) := ((Chg.refl (fun i => i = g16) v10).set (p := ⟨g16, 0, none⟩) (.inl rfl) _).set (p := ⟨g16, 1, none⟩) (.inl rfl) _
          have hs12 : Same wr ((v10.setCell ⟨g16, 0, none⟩ (.int .i64 ov.thru)).setCell ⟨g16, 1, none⟩ (.int .i64 ov.fin)) := Same.more hHeld.2.2 hc12 (fun i hi => by have := HGE.out; omega)
          refine hK.out _ _ ?_ (fun hNew => ?_)
          ·exact SS.out _ hs12
          try simp only [Ro.p]
          refine wpAnyH_done (by kernel_rfl) ?_ _
          go_wp2_with fail
          go_meet
          case rel => exact ⟨g16, rfl, Lib.hid (HIX.out.same_ hs12), Lib.hid (BX.out.same hs12), Lib.hid ((B16.out.put 0 (.int .i64 ov.thru)).put 1 (.int .i64 ov.fin)), Lib.hid (by have := HGE.out; have := BX.out.lt; omega)⟩
        case rest =>
         obtain ⟨g16, rfl, HIC, B13, B16, HG16⟩ := hcut
         clear BX HIX HOX d0 d1 IN PT SS
         obtain ⟨_, zb, zo, rfl, _, _, _, zc, _⟩ := (HP.out.same HIC.out.same).at_ (k := y) (by rw [HL.out]; exact hy)
         have HT4 := HT3.out
         simp only [Int.toNat_natCast] at HT4
         have HT5 := Lib.hid HT4
         clear HT4 HT3
         generalize (at_ p y).c = cc at *
         have e0 : wc.cell? ⟨g16, 0, none⟩ = some (.int .i64 ov.thru) := B16.out.cell 0
         have e1 : wc.cell? ⟨g16, 1, none⟩ = some (.int .i64 ov.fin) := B16.out.cell 1
         have d1 : wc.cell? ⟨g13, 1, none⟩ = some (.int .i64 (y : Int)) := B13.out.cell 1
         have o1 : wc.cell? ⟨q + 3, 1, none⟩ = some (.int .i64 st.all.fin) := HIC.out.o.cell 1
         have cv : wc.cell? ⟨q + 2, a + k, none⟩ = some (.int .i64 v) := g1_get HIC.out.c (by rw [List.getElem?_map, HV.out, List.getD_eq_getElem?_getD, List.getElem?_eq_getElem (by rw [HLEN.out]; omega)]; rfl)
         have hy0 : (0 : Int) ≤ (y : Int) := by omega
         have hym : (y : Int) < (m : Int) := by omega
         by_cases ht : 0 ≤ ov.thru
         ·have HT6 := Lib.hid (HT5.out.trans (if_pos ht))
          clear HT5
          have ML := Lib.hid (show ∀ W, Calls Tryz.prog 38 #[.int .i64 cc, .int .i64 ov.thru] W fun e w' => e = .returned (.int .i64 (mlI cc ov.thru)) ∧ W = w' from fun W => Wd.rmul _ _ W)
          have ML2 := Lib.hid (show ∀ W, Calls Tryz.prog 38 #[.int .i64 (cc + 1), .int .i64 ov.thru] W fun e w' => e = .returned (.int .i64 (mlI (cc + 1) ov.thru)) ∧ W = w' from fun W => Wd.rmul _ _ W)
          generalize mlI cc ov.thru = x1 at *
          generalize mlI (cc + 1) ov.thru = y1 at *
          have M1 := Lib.hid (fun W => more_ref v x1 W)
          generalize moreI v x1 = x2 at *
          have M2 := Lib.hid (fun W => more_ref x2 ov.fin W)
          generalize moreI x2 ov.fin = x3 at *
          have M3 := Lib.hid (fun W => more_ref v y1 W)
          generalize moreI v y1 = y2 at *
          have M4 := Lib.hid (fun W => more_ref v ov.fin W)
          generalize moreI v ov.fin = z1 at *
          obtain ⟨n1, hn1⟩ : ∃ n1, (if st.all.fin < x3 then x3 else st.all.fin) = n1 := ⟨_, rfl⟩
          have HN1 := Lib.hid (show n1 = max st.all.fin x3 from by rw [← hn1]; split <;> omega)
          have hcy : wc.cell? ⟨q + 2, y + 1, none⟩ = some (.int .i64 (st.come.getD (y + 1) 0)) := g1_get HIC.out.c (by rw [List.getElem?_map, List.getD_eq_getElem?_getD, List.getElem?_eq_getElem (by rw [HLEN.out]; omega)]; rfl)
          have HSM := Lib.hid (show setMax st.come ((y : Int) + 1) y2 = st.come.set (y + 1) (max (st.come.getD (y + 1) 0) y2) from by
           unfold setMax
           rw [show ((y : Int) + 1).toNat = y + 1 by omega])
          obtain ⟨cy, hcye⟩ : ∃ cy, cy = st.come.getD (y + 1) 0 := ⟨_, rfl⟩
          rw [← hcye] at hcy HSM
          have HCY := Lib.hid hcye
          clear hcye
          obtain ⟨n2, hn2⟩ : ∃ n2, (if cy < y2 then y2 else cy) = n2 := ⟨_, rfl⟩
          have HN2 := Lib.hid (show n2 = max cy y2 from by rw [← hn2]; split <;> omega)
          obtain ⟨n3, hn3⟩ : ∃ n3, (if n1 < z1 then z1 else n1) = n3 := ⟨_, rfl⟩
          have HN3 := Lib.hid (show n3 = max n1 z1 from by rw [← hn3]; split <;> omega)
          have w1 : IntKind.i64.wrap (cc + 1) = cc + 1 := Go.IntWalk.i64_in _ (by omega)
          have w2 : IntKind.i64.wrap ((y : Int) + 1) = (y : Int) + 1 := Go.IntWalk.i64_in _ (by omega)
          have w3 : ((y : Int) + 1).toNat = y + 1 := by omega
          have w4 : (0 : Int) ≤ (y : Int) + 1 := by omega
          have w5 : (y : Int) + 1 < (m : Int) + 1 := by omega
          have t1 : wc.frozen? ⟨q + 3, 1, none⟩ = false := HIC.out.o.thaw 1
          go_wp2_with fail
          go_still_tail 15, (by kernel_rfl)
          still_call (still_of (ML.out _))
          still_call (still_of (M1.out _))
          repeat still_step
          still_call (still_of (M2.out _))
          repeat still_step
          refine wpStill_nil ?_
          change wpList _ _ _ _ _ wc.drew
          have sd : Same wc wc.drew := (Same.refl _).drew
          have HI1 := Lib.hid (HIC.out.same_ sd)
          have B13' := Lib.hid (B13.out.same sd)
          have B16' := Lib.hid (B16.out.same sd)
          clear sd HIC B13 B16 e0 e1 d1 o1 cv hcy zc t1 hn1
          generalize wc.drew = W1 at *
          have o1 : W1.cell? ⟨q + 3, 1, none⟩ = some (.int .i64 st.all.fin) := HI1.out.o.cell 1
          have t1 : W1.frozen? ⟨q + 3, 1, none⟩ = false := HI1.out.o.thaw 1
          have hc : Chg (fun i => i = q + 3) W1 (W1.setCell ⟨q + 3, 1, none⟩ (.int .i64 n1)) := (Chg.refl (fun i => i = q + 3) W1).set (p := ⟨q + 3, 1, none⟩) (.inl rfl) _
          have HI2 := Lib.hid (HI1.out.out_ hc (HI1.out.o.put 1 (.int .i64 n1)))
          have B13 := Lib.hid (B13'.out.chg hc (by omega))
          have B16 := Lib.hid (B16'.out.chg hc (by have := HG16.out; omega))
          clear hc HI1 B13' B16'
          go_upto_region 25 with fail
          generalize W1.setCell ⟨q + 3, 1, none⟩ (.int .i64 n1) = W2 at *
          clear o1 t1
          have e0 : W2.cell? ⟨g16, 0, none⟩ = some (.int .i64 ov.thru) := B16.out.cell 0
          have d1 : W2.cell? ⟨g13, 1, none⟩ = some (.int .i64 (y : Int)) := B13.out.cell 1
          have cv : W2.cell? ⟨q + 2, a + k, none⟩ = some (.int .i64 v) := g1_get HI2.out.c (by rw [List.getElem?_map, HV.out, List.getD_eq_getElem?_getD, List.getElem?_eq_getElem (by show a + k < st.come.length; rw [HLEN.out]; omega)]; rfl)
          have hcy : W2.cell? ⟨q + 2, y + 1, none⟩ = some (.int .i64 cy) := g1_get HI2.out.c (by rw [List.getElem?_map, HCY.out, List.getD_eq_getElem?_getD, List.getElem?_eq_getElem (by show y + 1 < st.come.length; rw [HLEN.out]; omega)]; rfl)
          go_still_tail 21, (by kernel_rfl)
          still_call (still_of (ML2.out _))
          still_call (still_of (M3.out _))
          repeat still_step
          refine wpStill_nil ?_
          change wpList _ _ _ _ _ W2.drew
          have sd : Same W2 W2.drew := (Same.refl _).drew
          have HI3 := Lib.hid (HI2.out.same_ sd)
          have B16' := Lib.hid (B16.out.same sd)
          clear sd HI2 B13 B16 e0 d1 cv hcy hn2
          generalize W2.drew = W3 at *
          have ct : W3.cell? ⟨q + 2, y + 1, none⟩ = some (.int .i64 cy) := g1_get HI3.out.c (by rw [List.getElem?_map, HCY.out, List.getD_eq_getElem?_getD, List.getElem?_eq_getElem (by show y + 1 < st.come.length; rw [HLEN.out]; omega)]; rfl)
          have tt := g1_thaw HI3.out.c (y + 1)
          have hc : Chg (fun i => i = q + 2) W3 (W3.setCell ⟨q + 2, y + 1, none⟩ (.int .i64 n2)) := (Chg.refl (fun i => i = q + 2) W3).set (p := ⟨q + 2, y + 1, none⟩) (.inl rfl) _
          have hset := g1_set HI3.out.c (y + 1) (.int .i64 n2)
          rw [← List.map_set] at hset
          have HI4 := Lib.hid (HI3.out.come_ hc hset)
          have B16 := Lib.hid (B16'.out.chg hc (by have := HG16.out; omega))
          clear hc hset HI3 B16'
          go_upto_region 26 with fail
          generalize W3.setCell ⟨q + 2, y + 1, none⟩ (.int .i64 n2) = W4 at *
          clear ct tt
          have e1 : W4.cell? ⟨g16, 1, none⟩ = some (.int .i64 ov.fin) := B16.out.cell 1
          have o1 : W4.cell? ⟨q + 3, 1, none⟩ = some (.int .i64 n1) := HI4.out.o.cell 1
          have cv : W4.cell? ⟨q + 2, a + k, none⟩ = some (.int .i64 v) := g1_get HI4.out.c (by
           show ((st.come.set (y + 1) n2).map (Value.int .i64))[a + k]? = _
           rw [List.getElem?_map, List.getElem?_set_ne (by omega), HV.out, List.getD_eq_getElem?_getD, List.getElem?_eq_getElem (by rw [HLEN.out]; omega)]
           rfl)
          go_still_tail 10, (by kernel_rfl)
          still_call (still_of (M4.out _))
          repeat still_step
          refine wpStill_nil ?_
          change wpList _ _ _ _ _ W4.drew
          have HI5 := Lib.hid (HI4.out.same_ (Same.refl W4).drew)
          clear HI4 B16 e1 o1 cv hn3
          generalize W4.drew = W5 at *
          have o1 : W5.cell? ⟨q + 3, 1, none⟩ = some (.int .i64 n1) := HI5.out.o.cell 1
          have t1 : W5.frozen? ⟨q + 3, 1, none⟩ = false := HI5.out.o.thaw 1
          have HI6 := Lib.hid (HI5.out.out_ ((Chg.refl (fun i => i = q + 3) W5).set (p := ⟨q + 3, 1, none⟩) (.inl rfl) (.int .i64 n3)) (HI5.out.o.put 1 (.int .i64 n3)))
          clear HI5
          go_wp2_with fail
          go_roundg GK
          case rel => exact ⟨k + 1, by have := KX.out; omega, by go_num, Lib.hid (by rw [HT6.out, HSM.out, ← HN2.out, ← HN1.out, ← HN3.out]; exact HI6.out)⟩
          case measure => omega
         ·have HT6 := Lib.hid (HT5.out.trans (if_neg ht))
          clear HT5
          have M1 := Lib.hid (fun W => more_ref v ov.fin W)
          generalize moreI v ov.fin = x1 at *
          obtain ⟨n1, hn1⟩ : ∃ n1, (if st.all.fin < x1 then x1 else st.all.fin) = n1 := ⟨_, rfl⟩
          have HN1 := Lib.hid (show n1 = max st.all.fin x1 from by rw [← hn1]; split <;> omega)
          go_wp2_with fail
          go_still_tail 10, (by kernel_rfl)
          still_call (still_of (M1.out _))
          repeat still_step
          refine wpStill_nil ?_
          change wpList _ _ _ _ _ wc.drew
          have HI1 := Lib.hid (HIC.out.same_ (Same.refl wc).drew)
          clear HIC B13 B16 e0 e1 d1 o1 cv zc hn1 M1
          generalize wc.drew = W1 at *
          have o1 : W1.cell? ⟨q + 3, 1, none⟩ = some (.int .i64 st.all.fin) := HI1.out.o.cell 1
          have t1 : W1.frozen? ⟨q + 3, 1, none⟩ = false := HI1.out.o.thaw 1
          have HI2 := Lib.hid (HI1.out.out_ ((Chg.refl (fun i => i = q + 3) W1).set (p := ⟨q + 3, 1, none⟩) (.inl rfl) (.int .i64 n1)) (HI1.out.o.put 1 (.int .i64 n1)))
          clear HI1
          go_wp2_with fail
          go_roundg GK
          case rel => exact ⟨k + 1, by have := KX.out; omega, by go_num, Lib.hid (by rw [HT6.out, ← HN1.out]; exact HI2.out)⟩
          case measure => omega
end Go.Proofs.YthhbhbfkbncegaaGreatDoor.Cs
end
section
set_option linter.unusedVariables false
set_option linter.unusedSimpArgs false
namespace Go.Proofs.YthhbhbfkbncegaaGreatDoor.Cs
open Go.ChangeShapes Go.WideShapes Go.ChangeAt Go.RowKit Ws
open Go.Proofs.YthhbhbfkbncegaaGreatDoor.Fp (Ins at_ Fine at_some lp loopsL nextL hasB)
open Go.Proofs.YthhbhbfkbncegaaGreatDoor.Fw (Prg Spn spanCells spn_of)

theorem part_ref (A : Option Addr) (m c : Nat) (p : List Ins) (Wt : Option Addr) (cW : Nat) (ws : List Int) (hl : p.length = m) (hm : m ≤ 64) (hwl : ws.length = m) (hnx : ∀ k, k < m → Fp.rnextL p k = nextL p k) :
  ∀ (f : Nat) (l : List (Int × Int)) (a b : Nat) (LA : Option Addr) (n cL : Nat) (w : World), Prg w A p → Row w Wt (ws.map (Value.int .i64)) → l.length = n → n < f → n ≤ 64 → Row w LA (spanCells l) → (∀ x ∈ l, Lok p x) → a ≤ b → b < m →
   Calls Tryz.prog 78 #[.slice A m c, .slice Wt m cW, .slice LA n cL, .agg #[.int .i64 a, .int .i64 b]] w fun e w' => e = .returned (.agg #[.int .i64 (partF p ws f l (a, b)).thru, .int .i64 (partF p ws f l (a, b)).fin]) ∧ Same w w'
 | 0, l, a, b, LA, n, cL, w, _, _, _, h, _, _, _, _, _ => absurd h (Nat.not_lt_zero _)
 | f + 1, l, a, b, LA, n, cL, w, hp, hW, hln, hnf, hn, hL, hok, hab, hbm => by
  have h := part_step A m c p Wt cW ws LA n cL l a b (fun x => partF p ws f (innerL l x) x) w hl hm hp hW hwl hln hn hL hok hab hbm hnx (fun x hx W B cB s r => by
   have hlk := hok x hx
   have hsh := inner_short hx
   obtain ⟨x1, x2⟩ := x
   obtain ⟨h1, h2, h3, h4, h5⟩ := hlk
   simp only at h1 h2 h3
   obtain ⟨a', rfl⟩ : ∃ a' : Nat, x1 = (a' : Int) := ⟨x1.toNat, by omega⟩
   obtain ⟨b', rfl⟩ : ∃ b' : Nat, x2 = (b' : Int) := ⟨x2.toNat, by omega⟩
   exact part_ref A m c p Wt cW ws hl hm hwl hnx f (innerL l (a', b')) a' b' B _ cB W (hp.same s) (hW.same s) rfl (by omega) (by omega) r (fun y hy => hok y (innerL_mem.1 hy).1) (by omega) (by omega))
  have e : partF p ws (f + 1) l ((a : Int), (b : Int)) = (partT (fun x => partF p ws f (innerL l x) x) p ws (innerL l ((a : Int), (b : Int))) a (b + 1 - a)).all := by
   rw [partF]
   simp only [Int.toNat_natCast]
   rw [show ((b : Int) + 1 - (a : Int)).toNat = b + 1 - a by omega]
  rw [e]
  exact h
theorem way_field (x y : Int) (w : World) : (Instr.field 92 (.agg #[.int .i64 x, .int .i64 y]) 1).run Tryz.prog w = .ok (.int .i64 y) w := by kernel_rfl
theorem lok_loops {p : List Ins} (hF : Fine Fw.rightI p) (hn : ∀ j, j < p.length → 0 ≤ (at_ p j).n) (hC : ∀ k, k < p.length → (at_ p k).op = 16 → 0 ≤ (at_ p k).c ∧ (at_ p k).c < 1099511627776) : ∀ x ∈ loopsL p, Lok p x := by
 intro x hx
 obtain ⟨j, hj, rfl⟩ := mem_lp hx
 have h1 := lp_in hF hn hj
 have h2 := lp_back hF hn hj
 have h3 := hC (lp (loopsL p) j).2.toNat (by omega) h2
 exact ⟨h1.1, by omega, h1.2.2, h3.1, h3.2⟩
set_option maxRecDepth 100000 in
theorem rmost_any (A : Option Addr) (m c : Nat) (p : List Ins) (Wt : Option Addr) (cW : Nat) (ws : List Int) (w : World) (hl : p.length = m) (hp : Prg w A p) (hW : Row w Wt (ws.map (Value.int .i64))) (hwl : ws.length = m) (hok : Fw.okB p = true) :
  Calls Tryz.prog 58 #[.slice A m c, .slice Wt m cW] w fun e w' => e = .returned (.int .i64 (weighW btG p ws)) ∧ Same w w' := by
 have hF := Fw.okB_fine hok
 have hnn := hp.nn
 have hsz := hF.size
 have hm1 : 1 ≤ m ∧ m ≤ 64 := by omega
 have hC : ∀ k, k < p.length → (at_ p k).op = 16 → 0 ≤ (at_ p k).c ∧ (at_ p k).c < 1099511627776 := by
  intro k hk ho
  have := back_c (hF.right k hk) ho
  omega
 have hPW := part_weigh hF hnn hC ws
 have hln : (loopsL p).length ≤ 64 := Nat.le_trans (Fp.loopsTo_len p.length) (by omega)
 have LO := Lib.hid (Fw.rloops_any A m c p w hl (by omega) hp)
 have PT := Lib.hid (fun W (s : Same w W) LA cL (r : Row W LA (spanCells (loopsL p))) => part_ref A m c p Wt cW ws hl hm1.2 hwl (fun k hk => Fp.rnext_eq hF hnn (by omega)) ((loopsL p).length + 1) (loopsL p) 0 (m - 1) LA (loopsL p).length cL W (hp.same s) (hW.same s) rfl (Nat.lt_succ_self _) hln r (lok_loops hF hnn hC) (by omega) (by omega))
 rw [show ((m - 1 : Nat) : Int) = (m : Int) - 1 by omega, show ((0 : Nat) : Int) = 0 from rfl] at PT
 rw [hl] at hPW
 have HPW := Lib.hid hPW
 have f1 : IntKind.i64.wrap ((m : Int) - 1) = (m : Int) - 1 := Go.IntWalk.i64_in _ (by omega)
 clear hp hW hl hwl hok hF hnn hsz hC hPW
 unfold Fw.LoopsPost at LO
 go_enter Tryz.func58, Tryz.ntmps58
 go_wp2_with fail
 refine LO.out.mono ?_
 rintro e w1 ⟨LA, cL, rfl, ho, s1⟩
 have PT1 := Lib.hid (PT.out w1 s1 LA cL ho.row)
 have WF := way_field
 have S1 := Lib.hid s1
 clear ho s1 LO PT
 go_wp2_with fail
 refine PT1.out.mono ?_
 rintro e w2 ⟨rfl, s2⟩
 have S2 := Lib.hid (S1.out.trans s2)
 clear s2
 go_wp2_with fail
 go_ret
 exact ⟨by rw [HPW.out]; rfl, S2.out⟩
end Go.Proofs.YthhbhbfkbncegaaGreatDoor.Cs
end
end
