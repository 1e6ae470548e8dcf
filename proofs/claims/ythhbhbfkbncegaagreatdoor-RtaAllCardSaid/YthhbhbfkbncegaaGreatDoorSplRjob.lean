/-

 The document's Job of layer 37.
-/
import Derived.Test.YthhbhbfkbncegaaGreatDoorCstWeigh
import Derived.Test.YthhbhbfkbncegaaGreatDoorRefFlow
import Derived.Test.YthhbhbfkbncegaaGreatDoorCstRnext
import Derived.Test.YthhbhbfkbncegaaGreatDoorCstMost
import Derived.Test.YthhbhbfkbncegaaGreatDoorDmdWeigh
import Derived.Test.YthhbhbfkbncegaaGreatDoorSplSpec
import Derived.Test.YthhbhbfkbncegaaGreatDoorSplRahead
import Derived.Test.YthhbhbfkbncegaaGreatDoorDmdMost
section
section
set_option linter.unusedVariables false
set_option linter.unusedSimpArgs false
namespace Go.Proofs.YthhbhbfkbncegaaGreatDoor.Cs
open Go.ChangeShapes Go.WideShapes Go.ChangeAt Go.RowKit Ws
open Go.Proofs.YthhbhbfkbncegaaGreatDoor.Fp (Ins at_ Fine at_some lp loopsL nextL hasB)
open Go.Proofs.YthhbhbfkbncegaaGreatDoor.Fw (Prg Spn spanCells spn_of)

theorem more_ref (a b : Int) (w : World) :
 Calls Tryz.prog 100 #[.int .i64 a, .int .i64 b] w fun e w' => e = .returned (.int .i64 (moreI a b)) ∧ w = w' := by
 unfold moreI
 by_cases ha : a < 0
 ·rw [if_pos (.inl ha)]
  have b1 : decide (a < 0) = true := decide_eq_true ha
  go_enter Tryz.func100, Tryz.ntmps100
  go_wp2_with fail
  go_ret
  exact ⟨rfl, rfl⟩
 by_cases hb : b < 0
 ·rw [if_pos (.inr hb)]
  have b1 : decide (a < 0) = false := decide_eq_false ha
  have b2 : decide (b < 0) = true := decide_eq_true hb
  go_enter Tryz.func100, Tryz.ntmps100
  go_wp2_with fail
  go_ret
  exact ⟨rfl, rfl⟩
 ·rw [if_neg (fun h => h.elim ha hb)]
  have b1 : decide (a < 0) = false := decide_eq_false ha
  have b2 : decide (b < 0) = false := decide_eq_false hb
  have AD := Lib.hid (show Calls Tryz.prog 44 #[.int .i64 a, .int .i64 b] w fun e w' => e = .returned (.int .i64 (adI a b)) ∧ w = w' from Wd.radd a b w)
  go_enter Tryz.func100, Tryz.ntmps100
  go_wp2_with fail
  refine AD.out.mono ?_
  rintro e w' ⟨rfl, rfl⟩
  go_wp2_with fail
  go_ret
  exact ⟨rfl, rfl⟩
theorem inner_take {l : List (Int × Int)} (s : Int × Int) {k : Nat} (h : k < l.length) : innerL (l.take (k + 1)) s = innerL (l.take k) s ++ (if lp l k ≠ s ∧ s.1 ≤ (lp l k).1 ∧ (lp l k).2 ≤ s.2 then [lp l k] else []) := by
 unfold innerL
 rw [List.take_add_one, Fp.lp_get h, List.filter_append]
 congr 1
 simp [List.filter_cons]
theorem inner_len (l : List (Int × Int)) (s : Int × Int) : (innerL l s).length ≤ l.length := List.length_filter_le _ _
def InnerPost (w : World) (l : List (Int × Int)) (s : Int × Int) : Ending → World → Prop := fun e w' =>
 ∃ A c, e = .returned (.slice A (innerL l s).length c) ∧ OwnK w' w.heap.size 97 2 A (innerL l s).length c (spanCells (innerL l s)) ∧ Same w w'
set_option maxRecDepth 100000 in
theorem inner_ref (A : Option Addr) (m c : Nat) (l : List (Int × Int)) (s : Int × Int) (w : World) (hl : l.length = m) (hm : m ≤ 5000) (hp : Row w A (spanCells l)) :
 Calls Tryz.prog 99 #[.slice A m c, .agg #[.int .i64 s.1, .int .i64 s.2]] w (InnerPost w l s) := by
 obtain ⟨i0, hi, hz0, hz1, hz2⟩ := info_parts Fw.span_info
 have HL := Lib.hid hl
 have HP := Lib.hid hp
 clear hl hp
 unfold InnerPost
 obtain ⟨sa, sb⟩ := s
 simp only
 go_enter Tryz.func99, Tryz.ntmps99
 go_upto_region 1 with fail
 have B0 := Lib.hid (Blk.new w 97 #[.int .i64 sa, .int .i64 sb])
 have S0 := Lib.hid ((Same.refl w).alloc (.cells #[.int .i64 sa, .int .i64 sb] 97))
 generalize w.alloc (.cells #[.int .i64 sa, .int .i64 sb] 97) = w0 at *
 generalize hq : w.heap.size = q at *
 have HQ := Lib.hid hq
 clear hq
 go_wp2_with fail
 go_loopg [10, 5] m (fun gk iv lv wx => ∃ (k : Nat) (A' : Option Addr) (n' c' : Nat), k + gk = m ∧ iv = .int .i64 k ∧ lv = .slice A' n' c' ∧ n' = (innerL (l.take k) (sa, sb)).length ∧ OwnK wx w0.heap.size 97 2 A' n' c' (spanCells (innerL (l.take k) (sa, sb))) ∧ Same w0 wx)
 case atStart => exact ⟨0, none, 0, 0, by omega, rfl, rfl, rfl, OwnK.none _ _ _ _, Same.refl _⟩
 case round =>
  obtain ⟨k, A', n', c', hk, rfl, rfl, hn, ho, sx⟩ := hrel
  have HO := Lib.hid ho
  have HS := Lib.hid sx
  have HN := Lib.hid hn
  clear ho sx hn
  cases gk with
  | zero =>
   obtain rfl : k = m := by omega
   have hge : ¬ (k : Int) < (k : Int) := by omega
   go_wp2_with fail
   go_ret
   have e : l.take k = l := by rw [← HL.out, List.take_length]
   have h1 := HO.out
   have h2 := HN.out
   rw [e] at h1 h2
   subst h2
   exact ⟨A', c', rfl, h1.base S0.out.size, S0.out.trans HS.out⟩
  | succ GK =>
   have hlt : (k : Int) < m := by omega
   have hkl := Lib.hid (show k < l.length by have := HL.out; omega)
   obtain ⟨b, o, rfl, c0, c1⟩ := (spn_of (HP.out.same (S0.out.trans HS.out))).at_ hkl.out
   have HE := Lib.hid (inner_take (sa, sb) hkl.out)
   generalize lp l k = x at *
   obtain ⟨xa, xb⟩ := x
   simp only at c0 c1
   have b0 : wr.cell? ⟨q, 0, none⟩ = some (.int .i64 sa) := (B0.out.same HS.out).cell 0
   have b1 : wr.cell? ⟨q, 1, none⟩ = some (.int .i64 sb) := (B0.out.same HS.out).cell 1
   have hs1 := (Same.refl wr).alloc (.cells #[.int .i64 xa, .int .i64 xb] 97)
   have HS1 := Lib.hid (HS.out.trans hs1)
   have HO1 := Lib.hid (HO.out.same hs1)
   have B1 := Lib.hid (Blk.new wr 97 #[.int .i64 xa, .int .i64 xb])
   clear hs1
   go_upto_region 5 with fail
   have b0' := (HS1.out.trans (Same.refl _)).cell (show w0.cell? ⟨q, 0, none⟩ = some (.int .i64 sa) from B0.out.cell 0)
   have b1' := (HS1.out.trans (Same.refl _)).cell (show w0.cell? ⟨q, 1, none⟩ = some (.int .i64 sb) from B0.out.cell 1)
   have d0 := B1.out.cell 0
   have d1 : (wr.alloc (.cells #[.int .i64 xa, .int .i64 xb] 97)).cell? ⟨wr.heap.size, 1, none⟩ = some (.int .i64 xb) := B1.out.cell 1
   simp only [List.getElem?_toArray, List.getElem?_cons_zero] at d0
   generalize wr.alloc (.cells #[.int .i64 xa, .int .i64 xb] 97) = wA at *
   generalize wr.heap.size = qA at *
   clear b0 b1 c0 c1
   by_cases e1 : xa = sa
   ·subst e1
    by_cases e2 : xb = sb
    ·subst e2
     have hE := Lib.hid (HE.out.trans (by rw [if_neg (fun h => h.1 rfl)]))
     go_wp2_with fail
     go_roundg GK
     case rel => exact ⟨k + 1, A', n', c', by omega, by go_num, rfl, by rw [hE.out, List.append_nil]; exact HN.out, by rw [hE.out, List.append_nil]; exact HO1.out, HS1.out⟩
     case measure => omega
    ·have f2 : (xb == sb) = false := by simpa using e2
     have g1 : decide (xa ≤ xa) = true := by simp
     by_cases e3 : xb ≤ sb
     ·have g2 : decide (xb ≤ sb) = true := decide_eq_true e3
      have hE := Lib.hid (HE.out.trans (by rw [if_pos ⟨fun h => e2 (Prod.mk.inj h).2, Int.le_refl _, e3⟩]))
      go_wp2_with (at_builtin; go_loud (refine wpList_appK rfl (.tmp 31) (.tmp 33) 94 rfl w0.heap.size 97 i0 _ 2 16 Tryz.underlying94 hi hz0 hz1 hz2 rfl (by omega) A' n' c' (spanCells (innerL (l.take k) (xa, sb))) rfl (HO1.out.same ((Same.refl _).alloc _)) _ 1 1 [.int .i64 xa, .int .i64 xb] rfl rfl (row_new wA _ 97) (Fw.span_one _ _) ?c3 (by omega) ?c2 ?_))
      case c2 => have := HS1.out.size; simp at this ⊢; omega
      case c3 => have := HN.out; have h5 := inner_len (l.take k) (xa, sb); have := HL.out; rw [List.length_take] at h5; omega
      intro A2 c2' w2 ho2 hc2
      have HS2 := Lib.hid (Same.more (HS1.out.alloc _) hc2 fun g hg => by
       have hg : A' = some ⟨g, 0, none⟩ := hg
       subst hg
       exact HO.out.lt.1)
      rw [show spanCells (innerL (l.take k) (xa, sb)) ++ [.int .i64 xa, .int .i64 xb] = spanCells (innerL (l.take (k + 1)) (xa, sb)) by rw [hE.out, Fw.spanCells_app]; rfl] at ho2
      have HO2 := Lib.hid ho2
      clear ho2 hc2
      go_wp2_with fail
      go_roundg GK
      case rel => exact ⟨k + 1, A2, n' + 1, c2', by omega, by go_num, rfl, by rw [hE.out, List.length_append, HN.out]; rfl, HO2.out, HS2.out⟩
      case measure => omega
     ·have g2 : decide (xb ≤ sb) = false := decide_eq_false e3
      have hE := Lib.hid (HE.out.trans (by rw [if_neg (fun h => e3 h.2.2)]))
      go_wp2_with fail
      go_roundg GK
      case rel => exact ⟨k + 1, A', n', c', by omega, by go_num, rfl, by rw [hE.out, List.append_nil]; exact HN.out, by rw [hE.out, List.append_nil]; exact HO1.out, HS1.out⟩
      case measure => omega
   ·have f1 : (xa == sa) = false := by simpa using e1
    by_cases e3 : sa ≤ xa
    ·have g1 : decide (sa ≤ xa) = true := decide_eq_true e3
     by_cases e4 : xb ≤ sb
     ·have g2 : decide (xb ≤ sb) = true := decide_eq_true e4
      have hE := Lib.hid (HE.out.trans (by rw [if_pos ⟨fun h => e1 (Prod.mk.inj h).1, e3, e4⟩]))
      go_wp2_with (at_builtin; go_loud (refine wpList_appK rfl (.tmp 31) (.tmp 33) 94 rfl w0.heap.size 97 i0 _ 2 16 Tryz.underlying94 hi hz0 hz1 hz2 rfl (by omega) A' n' c' (spanCells (innerL (l.take k) (sa, sb))) rfl (HO1.out.same ((Same.refl _).alloc _)) _ 1 1 [.int .i64 xa, .int .i64 xb] rfl rfl (row_new wA _ 97) (Fw.span_one _ _) ?c3 (by omega) ?c2 ?_))
      case c2 => have := HS1.out.size; simp at this ⊢; omega
      case c3 => have := HN.out; have h5 := inner_len (l.take k) (sa, sb); have := HL.out; rw [List.length_take] at h5; omega
      intro A2 c2' w2 ho2 hc2
      have HS2 := Lib.hid (Same.more (HS1.out.alloc _) hc2 fun g hg => by
       have hg : A' = some ⟨g, 0, none⟩ := hg
       subst hg
       exact HO.out.lt.1)
      rw [show spanCells (innerL (l.take k) (sa, sb)) ++ [.int .i64 xa, .int .i64 xb] = spanCells (innerL (l.take (k + 1)) (sa, sb)) by rw [hE.out, Fw.spanCells_app]; rfl] at ho2
      have HO2 := Lib.hid ho2
      clear ho2 hc2
      go_wp2_with fail
      go_roundg GK
      case rel => exact ⟨k + 1, A2, n' + 1, c2', by omega, by go_num, rfl, by rw [hE.out, List.length_append, HN.out]; rfl, HO2.out, HS2.out⟩
      case measure => omega
     ·have g2 : decide (xb ≤ sb) = false := decide_eq_false e4
      have hE := Lib.hid (HE.out.trans (by rw [if_neg (fun h => e4 h.2.2)]))
      go_wp2_with fail
      go_roundg GK
      case rel => exact ⟨k + 1, A', n', c', by omega, by go_num, rfl, by rw [hE.out, List.append_nil]; exact HN.out, by rw [hE.out, List.append_nil]; exact HO1.out, HS1.out⟩
      case measure => omega
    ·have g1 : decide (sa ≤ xa) = false := decide_eq_false e3
     have hE := Lib.hid (HE.out.trans (by rw [if_neg (fun h => e3 h.2.1)]))
     go_wp2_with fail
     go_roundg GK
     case rel => exact ⟨k + 1, A', n', c', by omega, by go_num, rfl, by rw [hE.out, List.append_nil]; exact HN.out, by rw [hE.out, List.append_nil]; exact HO1.out, HS1.out⟩
     case measure => omega
end Go.Proofs.YthhbhbfkbncegaaGreatDoor.Cs
end
section
section
set_option linter.unusedVariables false
set_option linter.unusedSimpArgs false
namespace Go.Proofs.YthhbhbfkbncegaaGreatDoor.Cs
open Go.ChangeShapes Go.WideShapes Go.ChangeAt Go.RowKit Ws
open Go.Proofs.YthhbhbfkbncegaaGreatDoor.Fp (Ins at_ Fine at_some lp loopsL nextL hasB)
open Go.Proofs.YthhbhbfkbncegaaGreatDoor.Fw (Prg Spn spanCells spn_of)

theorem g1_get {w : World} {B : Nat} {e : TypeId} {g c n k : Nat} {l : List Value} {u : Value} (h : OwnK w B e 1 (some ⟨g, 0, none⟩) n c l) (hk : l[k]? = some u) : w.cell? ⟨g, k, none⟩ = some u := by
 have := h.row.get hk
 rw [Nat.zero_add] at this
 exact this
theorem g1_thaw {w : World} {B : Nat} {e : TypeId} {s g c n : Nat} {l : List Value} (h : OwnK w B e s (some ⟨g, 0, none⟩) n c l) (j : Nat) : w.frozen? ⟨g, j, none⟩ = false := by
 rcases h.2 with ⟨h2, _⟩ | ⟨g2, cap, cur, hv, hb, hg, rest⟩
 ·cases h2
 ·injection hv with hv
  injection hv with hv
  injection hv with hv
  subst hv
  exact Blk.thaw (t := e) hg j
theorem g1_set {w : World} {B : Nat} {e : TypeId} {s g c n : Nat} {l : List Value} (h : OwnK w B e s (some ⟨g, 0, none⟩) n c l) (j : Nat) (u : Value) :
 OwnK (w.setCell ⟨g, j, none⟩ u) B e s (some ⟨g, 0, none⟩) n c (l.set j u) := (World.ownsRow.stored h j u).1
theorem g1_new (w : World) (n : Nat) (hn : n ≤ 100000) : OwnK (w.alloc (.cells (izr n) 3)) w.heap.size 3 1 (some ⟨w.heap.size, 0, none⟩) n n (izr n).toList := by
 have hz : (izr n).size = n := by
  have := congrArg List.length (izr_list n)
  simpa using this
 refine ⟨by simp [hz], .inr ⟨w.heap.size, n, (izr n).toList.toArray, rfl, Nat.le_refl _, Blk.new w _ _, Nat.le_refl _, by unfold maxLen; omega, by simp [hz], ?_⟩⟩
 simp only [Nat.mul_one]
 exact List.take_of_length_le (by simp [hz])
theorem grown_set {n j : Nat} (v : Int) (h : j < n) : (grown n j v).set j (.int .i64 v) = grown n (j + 1) v := by
 have := grown_more (n := n) (j := j) (k := 1) v (by omega)
 rw [← this]
 unfold splice
 have hl : (grown n j v).length = n := grown_len v (by omega)
 rw [List.set_eq_take_append_cons_drop, if_pos (by omega)]
 simp
theorem grown_at {n j : Nat} (v : Int) (h : j < n) : (grown n j v)[j]? = some (.int .i64 0) := by
 unfold grown
 rw [List.getElem?_map, List.getElem?_append_right (by simp), List.getElem?_replicate]
 simp
 omega
theorem grown_all (n : Nat) (v : Int) : grown n n v = (List.replicate n v).map (Value.int .i64) := by unfold grown; simp
/-- what stands between two places -/
structure PI (w : World) (q C : Nat) (a b m : Nat) (st : St) (W : World) : Prop where
 p : Blk W q 97 #[.int .i64 a, .int .i64 b]
 r : Blk W (q + 1) 92 #[.int .i64 0, .int .i64 0]
 c : OwnK W C 3 1 (some ⟨C, 0, none⟩) (m + 1) (m + 1) (st.come.map (Value.int .i64))
 o : Blk W (C + 1) 92 #[.int .i64 st.all.thru, .int .i64 st.all.fin]
 same : Same w W
 lt : w.heap.size = q ∧ C = q + 2
theorem PI.same_ {w : World} {q C a b m : Nat} {st : St} {W W' : World} (h : PI w q C a b m st W) (hs : Same W W') : PI w q C a b m st W' := ⟨h.p.same hs, h.r.same hs, h.c.same hs, h.o.same hs, h.same.trans hs, h.lt⟩
theorem PI.chg_ {w : World} {q C a b m : Nat} {st : St} {W W' : World} (h : PI w q C a b m st W) {g : Nat} (hg : q + 3 < g) (hc : Chg (fun i => i = g) W W') : PI w q C a b m st W' := by
 have h2 := h.lt
 exact ⟨h.p.chg hc (by omega), h.r.chg hc (by omega), h.c.chg hc (fun g2 e i => by injection e with e; injection e with e; omega), h.o.chg hc (by omega), Same.more h.same hc (fun i hi => by omega), h.lt⟩
theorem PI.out_ {w : World} {q C a b m : Nat} {st : St} {W W' : World} (h : PI w q C a b m st W) (hc : Chg (fun i => i = q + 3) W W') {t f : Int} (ho : Blk W' (C + 1) 92 #[.int .i64 t, .int .i64 f]) : PI w q C a b m ⟨st.come, ⟨t, f⟩⟩ W' := by
 have h2 := h.lt
 exact ⟨h.p.chg hc (by omega), h.r.chg hc (by omega), h.c.chg hc (fun g2 e i => by injection e with e; injection e with e; omega), ho, Same.more h.same hc (fun i hi => by omega), h.lt⟩
theorem PI.come_ {w : World} {q C a b m : Nat} {st : St} {W W' : World} (h : PI w q C a b m st W) (hc : Chg (fun i => i = C) W W') {come : List Int} (hn : OwnK W' C 3 1 (some ⟨C, 0, none⟩) (m + 1) (m + 1) (come.map (Value.int .i64))) : PI w q C a b m ⟨come, st.all⟩ W' := by
 have h2 := h.lt
 exact ⟨h.p.chg hc (by omega), h.r.chg hc (by omega), hn, h.o.chg hc (by omega), Same.more h.same hc (fun i hi => by omega), h.lt⟩
/-- the last one that begins there, or none -/
def selN (L : List (Int × Int)) (k : Int) (j : Nat) : Int × Int := (fromIn (L.take j) k).getD (-1, 0)
theorem selN_next {L : List (Int × Int)} (k : Int) {j : Nat} (h : j < L.length) : selN L k (j + 1) = if (lp L j).1 = k then lp L j else selN L k j := by
 unfold selN fromIn
 rw [List.take_add_one, Fp.lp_get h]
 simp only [Option.toList_some, List.reverse_append, List.reverse_cons, List.reverse_nil, List.nil_append, List.singleton_append, List.find?_cons]
 by_cases e : (lp L j).1 = k
 ·rw [if_pos e]
  simp [e]
 ·rw [if_neg e]
  simp [e]
theorem fromIn_mem {L : List (Int × Int)} {k : Int} {x : Int × Int} (h : fromIn L k = some x) : x ∈ L ∧ x.1 = k := by
 unfold fromIn at h
 exact ⟨by simpa using List.mem_of_find?_eq_some h, by simpa using List.find?_some h⟩
theorem selN_all (L : List (Int × Int)) (k : Int) : selN L k L.length = (fromIn L k).getD (-1, 0) := by unfold selN; rw [List.take_length]
/-- a loop that may be -/
def Lok (p : List Ins) (x : Int × Int) : Prop := 0 ≤ x.1 ∧ x.1 ≤ x.2 ∧ x.2 < p.length ∧ 0 ≤ (at_ p x.2.toNat).c ∧ (at_ p x.2.toNat).c < 1099511627776
set_option maxRecDepth 100000 in
set_option maxHeartbeats 1000000 in
theorem part_step (A : Option Addr) (m c : Nat) (p : List Ins) (Wt : Option Addr) (cW : Nat) (ws : List Int) (LA : Option Addr) (n cL : Nat) (l : List (Int × Int)) (a b : Nat) (one : Int × Int → Wy) (w : World)
 (hl : p.length = m) (hm : m ≤ 64) (hp : Prg w A p) (hW : Row w Wt (ws.map (Value.int .i64))) (hwl : ws.length = m) (hln : l.length = n) (hn : n ≤ 64) (hL : Row w LA (spanCells l)) (hok : ∀ x ∈ l, Lok p x) (hab : a ≤ b) (hbm : b < m)
 (hnx : ∀ k, k < m → Fp.rnextL p k = nextL p k)
 (ih : ∀ x ∈ l, ∀ (W : World) (B : Option Addr) (cB : Nat), Same w W → Row W B (spanCells (innerL l x)) → Calls Tryz.prog 78 #[.slice A m c, .slice Wt m cW, .slice B (innerL l x).length cB, .agg #[.int .i64 x.1, .int .i64 x.2]] W fun e w' => e = .returned (.agg #[.int .i64 (one x).thru, .int .i64 (one x).fin]) ∧ Same W w') :
 Calls Tryz.prog 78 #[.slice A m c, .slice Wt m cW, .slice LA n cL, .agg #[.int .i64 a, .int .i64 b]] w fun e w' => e = .returned (.agg #[.int .i64 (partT one p ws (innerL l (a, b)) a (b + 1 - a)).all.thru, .int .i64 (partT one p ws (innerL l (a, b)) a (b + 1 - a)).all.fin]) ∧ Same w w' := by
 have HL := Lib.hid hl
 have HP := Lib.hid hp
 have HW := Lib.hid hW
 have HWL := Lib.hid hwl
 have HLN := Lib.hid hln
 have HLL := Lib.hid hL
 have HOK := Lib.hid hok
 have HNX := Lib.hid hnx
 have IH := Lib.hid ih
 have f1 := Fw.i64_of ((m : Int) + 1) (by omega)
 have f1' : wrap64 ((m : Int) + 1) = (m : Int) + 1 := Go.IntWalk.wrap64_in _ (by omega)
 clear hl hp hW hwl hln hL hok hnx ih
 go_enter Tryz.func78, Tryz.ntmps78
 go_upto_region 1 with fail
 obtain ⟨q, hq⟩ : ∃ q, q = w.heap.size := ⟨_, rfl⟩
 have BP := Lib.hid (Blk.new w 97 #[.int .i64 a, .int .i64 b])
 have s1 := (Same.refl w).alloc (.cells #[.int .i64 a, .int .i64 b] 97)
 have hz1 : (w.alloc (.cells #[.int .i64 a, .int .i64 b] 97)).heap.size = w.heap.size + 1 := by simp
 generalize w.alloc (.cells #[.int .i64 a, .int .i64 b] 97) = wa at *
 have BR := Lib.hid (Blk.new wa 92 #[.int .i64 0, .int .i64 0])
 have s2 := (Same.refl wa).alloc (.cells #[.int .i64 0, .int .i64 0] 92)
 have hz2 : (wa.alloc (.cells #[.int .i64 0, .int .i64 0] 92)).heap.size = wa.heap.size + 1 := by simp
 generalize wa.alloc (.cells #[.int .i64 0, .int .i64 0] 92) = w0 at *
 have hmk := izr_make (m + 1) (by omega) w0
 rw [show ((m + 1 : Nat) : Int) = (m : Int) + 1 by omega] at hmk
 have BN := Lib.hid (g1_new w0 (m + 1) (by omega))
 have s3 := (Same.refl w0).alloc (.cells (izr (m + 1)) 3)
 have hz3 : (w0.alloc (.cells (izr (m + 1)) 3)).heap.size = w0.heap.size + 1 := by simp
 generalize w0.alloc (.cells (izr (m + 1)) 3) = wb at *
 have hc : w0.heap.size = q + 2 := by omega
 rw [hc] at BN hmk hz3
 rw [show wa.heap.size = q + 1 by omega] at BR
 rw [← hq] at BP
 rw [← hq]
 have P0 := Lib.hid (show Blk wb q 97 #[.int .i64 a, .int .i64 b] from (BP.out.same s2).same s3)
 have R0 := Lib.hid (show Blk wb (q + 1) 92 #[.int .i64 0, .int .i64 0] from BR.out.same s3)
 have S0 := Lib.hid (show Same w wb from (s1.trans s2).trans s3)
 have C0 := Lib.hid (show OwnK wb (q + 2) 3 1 (some ⟨q + 2, 0, none⟩) (m + 1) (m + 1) (grown (m + 1) 0 (-1)) from by rw [grown_none]; exact BN.out)
 have HQ := Lib.hid hq
 have HZ := Lib.hid (show wb.heap.size = q + 3 from hz3)
 clear BP BR BN s1 s2 s3 hz1 hz2 hz3 hc hq
 go_wp2_with fail
 go_loopg [27] (m + 1) (fun gk iv wx => ∃ k : Nat, k + gk = m + 1 ∧ iv = .int .i64 k ∧ OwnK wx (q + 2) 3 1 (some ⟨q + 2, 0, none⟩) (m + 1) (m + 1) (grown (m + 1) k (-1)) ∧ Chg (fun i => i = q + 2) wb wx ∧ wx.heap.size = q + 3)
 case atStart => exact ⟨0, by omega, rfl, C0.out, Chg.refl _ _, HZ.out⟩
 case round =>
  clear hmk C0
  obtain ⟨k, hk, rfl, ho, sx, hz⟩ := hrel
  have HO := Lib.hid ho
  have HS := Lib.hid sx
  have HZX := Lib.hid hz
  clear ho sx hz
  cases gk with
  | succ GK =>
   have hlt : (k : Int) < ((m + 1 : Nat) : Int) := by omega
   have hlt' : (k : Int) < (m : Int) + 1 := by omega
   have hk0 : (0 : Int) ≤ k := by omega
   have c0 := g1_get HO.out (grown_at (-1) (by omega : k < m + 1))
   have t0 := g1_thaw HO.out k
   have HO2 := Lib.hid (grown_set (-1) (by omega : k < m + 1) ▸ g1_set HO.out k (.int .i64 (-1)))
   have HS2 := Lib.hid (HS.out.set (p := ⟨q + 2, k, none⟩) (.inl rfl) (.int .i64 (-1)))
   have HZ2 := Lib.hid (show (wr.setCell ⟨q + 2, k, none⟩ (.int .i64 (-1))).heap.size = q + 3 from by rw [← HZX.out]; simp)
   go_wp2_with fail
   go_roundg GK
   case rel => exact ⟨k + 1, by omega, by go_num, HO2.out, HS2.out, HZ2.out⟩
   case measure => omega
  | zero =>
   obtain rfl : k = m + 1 := by omega
   have hge : ¬ (((m + 1 : Nat) : Int)) < ((m + 1 : Nat) : Int) := by omega
   have hge' : ¬ (((m + 1 : Nat) : Int)) < (m : Int) + 1 := by omega
   have P1 := Lib.hid (P0.out.chg HS.out (by omega))
   have R1 := Lib.hid (R0.out.chg HS.out (by omega))
   have S1 := Lib.hid (Same.more S0.out HS.out (fun i hi => by have := HQ.out; omega))
   have h2 := HO.out
   rw [grown_all] at h2
   have c0 : wr.cell? ⟨q, 0, none⟩ = some (.int .i64 a) := P1.out.cell 0
   have c2 := g1_get h2 (k := a) (u := .int .i64 (-1)) (by rw [List.getElem?_map, List.getElem?_replicate, if_pos (by omega)]; rfl)
   have t2 := g1_thaw h2 a
   have g0 : (0 : Int) ≤ a := by omega
   have g1 : (a : Int) < (m : Int) + 1 := by omega
   have g1' : (a : Int) < ((m + 1 : Nat) : Int) := by omega
   have h3 := g1_set h2 a (.int .i64 0)
   rw [← List.map_set] at h3
   have hc3 : Chg (fun i => i = q + 2) wr (wr.setCell ⟨q + 2, a, none⟩ (.int .i64 0)) := (Chg.refl (fun i => i = q + 2) wr).set (p := ⟨q + 2, a, none⟩) (.inl rfl) _
   have hz3 : (wr.setCell ⟨q + 2, a, none⟩ (.int .i64 0)).heap.size = q + 3 := by rw [← HZX.out]; simp
   have C3 := Lib.hid (show OwnK (wr.setCell ⟨q + 2, a, none⟩ (.int .i64 0)) (q + 2) 3 1 (some ⟨q + 2, 0, none⟩) (m + 1) (m + 1) ((come0 m a).map (Value.int .i64)) from h3)
   have P3 := Lib.hid (P1.out.chg hc3 (by omega))
   have R3 := Lib.hid (R1.out.chg hc3 (by omega))
   have S3 := Lib.hid (Same.more S1.out hc3 (fun i hi => by have := HQ.out; omega))
   clear h2 h3 hc3
   go_upto_region 8 with fail
   generalize wr.setCell ⟨q + 2, a, none⟩ (.int .i64 0) = w3 at *
   have HZ3 := Lib.hid hz3
   clear c0 c2 t2 hz3
   have N3 := Lib.hid (show Blk (w3.alloc (.cells #[.int .i64 (-1), .int .i64 (-1)] 92)) (q + 3) 92 #[.int .i64 (-1), .int .i64 (-1)] from HZ3.out ▸ Blk.new w3 _ _)
   have s4 := (Same.refl w3).alloc (.cells #[.int .i64 (-1), .int .i64 (-1)] 92)
   have PI0 := Lib.hid (show PI w q (q + 2) a b m (partT one p ws (innerL l (a, b)) a 0) (w3.alloc (.cells #[.int .i64 (-1), .int .i64 (-1)] 92)) from
    ⟨P3.out.same s4, R3.out.same s4, by unfold partT; rw [HL.out]; exact C3.out.same s4, N3.out, S3.out.trans s4, ⟨HQ.out.symm, rfl⟩⟩)
   clear s4 N3 C3 P3 R3 S3 P1 R1 S1 HO HS HZX P0 R0 S0
   have hz := HZ3.out
   go_upto_region 9 with fail
   generalize w3.alloc (.cells #[.int .i64 (-1), .int .i64 (-1)] 92) = w4 at *
   have c0 : w4.cell? ⟨q, 0, none⟩ = some (.int .i64 a) := PI0.out.p.cell 0
   go_wp2_with fail
   go_loopg [12] (b + 1 - a) (fun gk iv wx => ∃ k : Nat, k + gk = b + 1 - a ∧ iv = .int .i64 ((a : Int) + (k : Int)) ∧ Hid (PI w q (q + 2) a b m (partT one p ws (innerL l (a, b)) a k) wx))
   case atStart => exact ⟨0, by omega, by simp, PI0⟩
   case round =>
    clear PI0 c0
    obtain ⟨k, hk, rfl, HI⟩ := hrel
    have c1 : wr.cell? ⟨q, 1, none⟩ = some (.int .i64 b) := HI.out.p.cell 1
    have KX := Lib.hid hk
    cases gk with
    | zero =>
     have hge : ¬ ((a : Int) + (k : Int) ≤ (b : Int)) := by omega
     have hkk : k = b + 1 - a := by omega
     subst hkk
     have o0 : wr.cell? ⟨q + 3, 0, none⟩ = some (.int .i64 (partT one p ws (innerL l (a, b)) a (b + 1 - a)).all.thru) := HI.out.o.cell 0
     have o1 : wr.cell? ⟨q + 3, 1, none⟩ = some (.int .i64 (partT one p ws (innerL l (a, b)) a (b + 1 - a)).all.fin) := HI.out.o.cell 1
     have r0 : wr.cell? ⟨q + 1, 0, none⟩ = some (.int .i64 0) := HI.out.r.cell 0
     have r1 : wr.cell? ⟨q + 1, 1, none⟩ = some (.int .i64 0) := HI.out.r.cell 1
     have e0 := HI.out.r.thaw 0
     have e1 := HI.out.r.thaw 1
     have SS := Lib.hid (Same.more HI.out.same (((Chg.refl (fun i => i = q + 1) wr).set (p := ⟨q + 1, 0, none⟩) (.inl rfl) (.int .i64 (partT one p ws (innerL l (a, b)) a (b + 1 - a)).all.thru)).set (p := ⟨q + 1, 1, none⟩) (.inl rfl) (.int .i64 (partT one p ws (innerL l (a, b)) a (b + 1 - a)).all.fin)) (fun i hi => by have := HI.out.lt; omega))
     have RB := Lib.hid ((HI.out.r.put 0 (.int .i64 (partT one p ws (innerL l (a, b)) a (b + 1 - a)).all.thru)).put 1 (.int .i64 (partT one p ws (innerL l (a, b)) a (b + 1 - a)).all.fin))
     clear KX hk
     generalize hvt : (partT one p ws (innerL l (a, b)) a (b + 1 - a)).all.thru = vt at *
     have Hvt := Lib.hid hvt
     clear hvt
     generalize hvf : (partT one p ws (innerL l (a, b)) a (b + 1 - a)).all.fin = vf at *
     have Hvf := Lib.hid hvf
     clear hvf
     go_wp2_with fail
     refine bodyPost_ret (v := .agg #[.int .i64 vt, .int .i64 vf]) (results_cell_row Tryz.results78 _ _ (q + 1) 92 #[.int .i64 vt, .int .i64 vf] (0, 0) _ rfl RB.out Tryz.underlying92 rfl (by kernel_rfl)) rfl ?_
     exact ⟨by rw [Hvt.out, Hvf.out], SS.out⟩
    | succ GK =>
     have hle : (a : Int) + (k : Int) ≤ (b : Int) := by omega
     have hak : a + k < m := by omega
     obtain ⟨st, hst⟩ : ∃ st, st = partT one p ws (innerL l (a, b)) a k := ⟨_, rfl⟩
     have HST := Lib.hid (show partT one p ws (innerL l (a, b)) a (k + 1) = partS one p ws (innerL l (a, b)) st (a + k) from by rw [hst]; rfl)
     rw [← hst] at HI
     clear hst
     have HLEN := Lib.hid (show st.come.length = m + 1 from by have := HI.out.c.len; simpa using this)
     have hv0 : st.come.getD (a + k) 0 = st.come.getD (a + k) 0 := rfl
     obtain ⟨v, hv⟩ : ∃ v, v = st.come.getD (a + k) 0 := ⟨_, rfl⟩
     have cv : wr.cell? ⟨q + 2, a + k, none⟩ = some (.int .i64 v) := g1_get HI.out.c (by rw [List.getElem?_map, hv, List.getD_eq_getElem?_getD, List.getElem?_eq_getElem (by rw [HLEN.out]; omega)]; rfl)
     have g0 : (0 : Int) ≤ (a : Int) + (k : Int) := by omega
     have g1 : (a : Int) + (k : Int) < (m : Int) + 1 := by omega
     have g2 : ((a : Int) + (k : Int)).toNat = a + k := by omega
     have g3 : (a : Int) + (k : Int) ≤ 100000 := by omega
     have HV := Lib.hid hv
     clear hv0 hv
     have HS2 := Lib.hid (show partS one p ws (innerL l (a, b)) st (a + k) = if v < 0 then st else
      match fromIn (innerL l (a, b)) ((a + k : Nat) : Int) with
      | some x => if 0 ≤ (one x).thru then ⟨setMax st.come (x.2 + 1) (moreI v (mlI ((at_ p x.2.toNat).c + 1) (one x).thru)), ⟨st.all.thru, max (max st.all.fin (moreI (moreI v (mlI (at_ p x.2.toNat).c (one x).thru)) (one x).fin)) (moreI v (one x).fin)⟩⟩
       else ⟨st.come, ⟨st.all.thru, max st.all.fin (moreI v (one x).fin)⟩⟩
      | none => if (at_ p (a + k)).op = 21 then ⟨st.come, ⟨st.all.thru, max st.all.fin (moreI v (clI (ws.getD (a + k) 0)))⟩⟩
       else if (at_ p (a + k)).op = 16 then ⟨st.come, ⟨moreI v (clI (ws.getD (a + k) 0)), st.all.fin⟩⟩
       else ⟨(nextL p (a + k)).foldl (fun c t => setMax c t (moreI v (clI (ws.getD (a + k) 0)))) st.come, st.all⟩ from by rw [HV.out]; rfl)
     by_cases hv0 : v < 0
     ·have HT := Lib.hid ((HST.out.trans HS2.out).trans (if_pos hv0))
      clear HS2 HST HV
      go_wp2_with fail
      go_roundg GK
      case rel => exact ⟨k + 1, by have := KX.out; omega, by go_num, Lib.hid (by rw [HT.out]; exact HI.out)⟩
      case measure => omega
     have HT := Lib.hid ((HST.out.trans HS2.out).trans (if_neg hv0))
     clear HS2 HST
     go_upto_region 14 with fail
     have hq13 : q + 3 < wr.heap.size := HI.out.o.lt
     have s5 := (Same.refl wr).alloc (.cells #[.int .i64 (-1), .int .i64 0] 97)
     have B13 := Lib.hid (Blk.new wr 97 #[.int .i64 (-1), .int .i64 0])
     have HI5 := Lib.hid (HI.out.same_ s5)
     generalize wr.alloc (.cells #[.int .i64 (-1), .int .i64 0] 97) = w5 at *
     generalize wr.heap.size = g13 at *
     have IN := Lib.hid (inner_ref LA n cL l ((a : Int), (b : Int)) w5 HLN.out (by omega) (HLL.out.same HI5.out.same))
     have c0 : w5.cell? ⟨q, 0, none⟩ = some (.int .i64 a) := HI5.out.p.cell 0
     have c1' : w5.cell? ⟨q, 1, none⟩ = some (.int .i64 b) := HI5.out.p.cell 1
     clear c1 cv s5
     go_wp2_with fail
     refine IN.out.mono ?_
     rintro e w6 ⟨NA, cN, rfl, ho, s6⟩
     have H13 := B13.out.lt
     have HO6 := Lib.hid (ho.base (by omega : g13 + 1 ≤ _))
     have HI6 := Lib.hid (HI5.out.same_ s6)
     have B6 := Lib.hid (B13.out.same s6)
     have HIL := Lib.hid (show ∀ x ∈ innerL l ((a : Int), (b : Int)), x ∈ l from fun x hx => (innerL_mem.1 hx).1)
     clear ho s6 B13 HI5 c0 c1' IN H13 HI
     have hnL : (innerL l ((a : Int), (b : Int))).length ≤ 64 := by have := inner_len l ((a : Int), (b : Int)); have := HLN.out; omega
     generalize hL : innerL l ((a : Int), (b : Int)) = L at *
     have HHL := Lib.hid hL
     clear hL
     go_wp2_with fail
     go_loopg [57] L.length (fun gj jv wx => ∃ j : Nat, j + gj = L.length ∧ jv = .int .i64 j ∧ Hid (PI w q (q + 2) a b m st wx) ∧ Hid (Blk wx g13 97 #[.int .i64 (selN L ((a : Int) + (k : Int)) j).1, .int .i64 (selN L ((a : Int) + (k : Int)) j).2]) ∧ Hid (OwnK wx (g13 + 1) 97 2 NA L.length cN (spanCells L)))
     case atStart => exact ⟨0, by omega, rfl, HI6, B6, HO6⟩
     case round =>
      clear HI6 B6 HO6
      obtain ⟨j, hj, rfl, HIX, BX, HOX⟩ := hrel
      have JX := Lib.hid hj
      cases gk with
      | succ GJ =>
       have hjl : j < L.length := by omega
       have hlt : (j : Int) < (L.length : Int) := by omega
       have hj0 : (0 : Int) ≤ j := by omega
       obtain ⟨bn, on, rfl, d0, d1⟩ := (spn_of HOX.out.row).at_ hjl
       have HSEL := Lib.hid (selN_next ((a : Int) + (k : Int)) hjl)
       have hs1 := (Same.refl wr).alloc (.cells #[.int .i64 (lp L j).1, .int .i64 (lp L j).2] 97)
       have HIX1 := Lib.hid (HIX.out.same_ hs1)
       have BX1 := Lib.hid (BX.out.same hs1)
       have HOX1 := Lib.hid (HOX.out.same hs1)
       have BE := Lib.hid (Blk.new wr 97 #[.int .i64 (lp L j).1, .int .i64 (lp L j).2])
       have hg15 : g13 < wr.heap.size := BX.out.lt
       generalize lp L j = x at *
       obtain ⟨xa, xb⟩ := x
       simp only at d0 d1 HSEL HIX1 BX1 HOX1 BE hs1
       go_upto_region 17 with fail
       generalize wr.alloc (.cells #[.int .i64 xa, .int .i64 xb] 97) = wE at *
       generalize wr.heap.size = g15 at *
       clear hs1 d0 d1
       have d0 : wE.cell? ⟨g15, 0, none⟩ = some (.int .i64 xa) := BE.out.cell 0
       have d1 : wE.cell? ⟨g15, 1, none⟩ = some (.int .i64 xb) := BE.out.cell 1
       by_cases hx : xa = (a : Int) + (k : Int)
       ·have bx : (xa == (a : Int) + (k : Int)) = true := by simpa using hx
        have HS := Lib.hid (HSEL.out.trans (if_pos hx))
        clear HSEL hx
        have t0 := BX1.out.thaw 0
        have t1 := BX1.out.thaw 1
        have y0 := BX1.out.cell 0
        have y1 : wE.cell? ⟨g13, 1, none⟩ = some (.int .i64 (selN L ((a : Int) + (k : Int)) j).2) := BX1.out.cell 1
        simp only [List.getElem?_toArray, List.getElem?_cons_zero] at y0
        generalize (selN L ((a : Int) + (k : Int)) j).1 = z0 at *
        generalize (selN L ((a : Int) + (k : Int)) j).2 = z1 at *
        have hc : Chg (fun i => i = g13) wE ((wE.setCell ⟨g13, 0, none⟩ (.int .i64 xa)).setCell ⟨g13, 1, none⟩ (.int .i64 xb)) := ((Chg.refl (fun i => i = g13) wE).set (p := ⟨g13, 0, none⟩) (.inl rfl) _).set (p := ⟨g13, 1, none⟩) (.inl rfl) _
        have BX2 := Lib.hid ((BX1.out.put 0 (.int .i64 xa)).put 1 (.int .i64 xb))
        have HIX2 := Lib.hid (HIX1.out.chg_ hq13 hc)
        have HOX2 := Lib.hid (HOX1.out.chg hc (fun g e i => by have := HOX1.out.base_ge g e; omega))
        clear hc
        go_wp2_with fail
        go_roundg GJ
        case rel => exact ⟨j + 1, by have := JX.out; omega, by go_num, HIX2, Lib.hid (by rw [HS.out]; exact BX2.out), HOX2⟩
        case measure => omega
       ·have bx : (xa == (a : Int) + (k : Int)) = false := by simpa using hx
        have HS := Lib.hid (HSEL.out.trans (if_neg hx))
        clear HSEL hx
        go_wp2_with fail
        go_roundg GJ
        case rel => exact ⟨j + 1, by have := JX.out; omega, by go_num, HIX1, Lib.hid (by rw [HS.out]; exact BX1.out), HOX1⟩
        case measure => omega
      | zero =>
       have hjn : j = L.length := by omega
       subst hjn
       have hge : ¬ (L.length : Int) < (L.length : Int) := by omega
       rw [selN_all] at BX
       have HT2 := HT.out
       rw [show ((a + k : Nat) : Int) = (a : Int) + (k : Int) from rfl] at HT2
       clear HT JX
       cases hfi : fromIn L ((a : Int) + (k : Int)) with
       | none =>
        rw [hfi] at BX HT2
        simp only [Option.getD_none] at BX
        simp only at HT2
        have HT3 := Lib.hid HT2
        clear HT2
        have d0 : wr.cell? ⟨g13, 0, none⟩ = some (.int .i64 (-1)) := BX.out.cell 0
        obtain ⟨bW, oW, rfl, cw⟩ := (HW.out.same HIX.out.same) (a + k) (.int .i64 (ws.getD (a + k) 0)) (by rw [List.getElem?_map, List.getD_eq_getElem?_getD, List.getElem?_eq_getElem (by rw [HWL.out]; exact hak)]; rfl)
        have cv : wr.cell? ⟨q + 2, a + k, none⟩ = some (.int .i64 v) := g1_get HIX.out.c (by rw [List.getElem?_map, HV.out, List.getD_eq_getElem?_getD, List.getElem?_eq_getElem (by rw [HLEN.out]; omega)]; rfl)
        have g4 : (a : Int) + (k : Int) < (m : Int) := by omega
        have RC := Lib.hid (show ∀ W, Calls Tryz.prog 66 #[.int .i64 (ws.getD (a + k) 0), .int .i64 0, .int .i64 1099511627776] W fun e w' => e = .returned (.int .i64 (clI (ws.getD (a + k) 0))) ∧ W = w' from fun W => Wd.rclamp _ _ _ W)
        generalize ws.getD (a + k) 0 = wv at *
        have MR := Lib.hid (fun W => more_ref v (clI wv) W)
        have HHE := Lib.hid (rfl : moreI v (clI wv) = moreI v (clI wv))
        generalize clI wv = cl at *
        go_wp2_with fail
        go_still_tail 10, (by kernel_rfl)
        still_call (still_of (RC.out _))
        still_call (still_of (MR.out _))
        refine wpStill_nil ?_
        change wpList _ _ _ _ _ wr.drew
        have HID := Lib.hid (HIX.out.same_ (Same.refl wr).drew)
        clear HIX BX HOX d0 cw cv RC MR
        generalize wr.drew = Wd at *
        generalize moreI v cl = he at *
        obtain ⟨_, zb, zo, rfl, z0, _⟩ := (HP.out.same HID.out.same).at_ (k := a + k) (by rw [HL.out]; exact hak)
        by_cases h21 : (at_ p (a + k)).op = 21
        ·have b21 : ((at_ p (a + k)).op == 21) = true := by simpa using h21
         have HT4 := Lib.hid (HT3.out.trans (if_pos h21))
         clear HT3
         generalize (at_ p (a + k)).op = op at *
         clear h21
         have o1 : Wd.cell? ⟨q + 3, 1, none⟩ = some (.int .i64 st.all.fin) := HID.out.o.cell 1
         have t1 : Wd.frozen? ⟨q + 3, 1, none⟩ = false := HID.out.o.thaw 1
         have hc := fun u : Int => (show Chg (fun i => i = q + 3) Wd (Wd.setCell ⟨q + 3, 1, none⟩ (.int .i64 u)) from (Chg.refl (fun i => i = q + 3) Wd).set (p := ⟨q + 3, 1, none⟩) (.inl rfl) _)
         have HI2 := Lib.hid (fun (u : Int) (hu : max st.all.fin he = u) => (show PI w q (q + 2) a b m ⟨st.come, ⟨st.all.thru, max st.all.fin he⟩⟩ (Wd.setCell ⟨q + 3, 1, none⟩ (.int .i64 u)) from hu ▸ HID.out.out_ (hc _) (HID.out.o.put 1 (.int .i64 (max st.all.fin he)))))
         clear hc
         go_wp2_with fail
         all_goals
          go_roundg GK
          case rel => exact ⟨k + 1, by have := KX.out; omega, by go_num, Lib.hid (by rw [HT4.out]; exact HI2.out _ (by omega))⟩
          case measure => omega
        ·have b21 : ((at_ p (a + k)).op == 21) = false := by simpa using h21
         have HT4 := Lib.hid (HT3.out.trans (if_neg h21))
         clear HT3 h21
         by_cases h16 : (at_ p (a + k)).op = 16
         ·have b16 : ((at_ p (a + k)).op == 16) = true := by simpa using h16
          have HT5 := Lib.hid (HT4.out.trans (if_pos h16))
          clear HT4
          generalize (at_ p (a + k)).op = op at *
          clear h16
          have o0 : Wd.cell? ⟨q + 3, 0, none⟩ = some (.int .i64 st.all.thru) := HID.out.o.cell 0
          have t0 : Wd.frozen? ⟨q + 3, 0, none⟩ = false := HID.out.o.thaw 0
          have hc : Chg (fun i => i = q + 3) Wd (Wd.setCell ⟨q + 3, 0, none⟩ (.int .i64 he)) := (Chg.refl (fun i => i = q + 3) Wd).set (p := ⟨q + 3, 0, none⟩) (.inl rfl) _
          have HI2 := Lib.hid (HID.out.out_ hc (HID.out.o.put 0 (.int .i64 he)))
          clear hc
          go_wp2_with fail
          go_roundg GK
          case rel => exact ⟨k + 1, by have := KX.out; omega, by go_num, Lib.hid (by rw [HT5.out]; exact HI2.out)⟩
          case measure => omega
         ·have b16 : ((at_ p (a + k)).op == 16) = false := by simpa using h16
          have HT5 := Lib.hid (HT4.out.trans (if_neg h16))
          clear HT4 h16
          have RN := Lib.hid (Fw.rnextf_any (some ⟨zb, zo, none⟩) m c p (a + k) Wd HL.out (by omega) hak (HP.out.same HID.out.same))
          rw [HNX.out (a + k) hak, show ((a + k : Nat) : Int) = (a : Int) + (k : Int) from rfl] at RN
          have HLL2 := Lib.hid (Fp.next_len p (a + k))
          have HNR := Lib.hid (show ∀ t ∈ nextL p (a + k), 0 ≤ t ∧ t < (m : Int) from by
           rw [← HNX.out (a + k) hak]
           intro t ht
           unfold Fp.rnextL at ht
           obtain ⟨u, hu, rfl⟩ := List.mem_map.1 ht
           have := List.mem_range.1 (List.mem_filter.1 hu).1
           rw [HL.out] at this
           omega)
          generalize (at_ p (a + k)).op = op at *
          obtain ⟨nx, hnx⟩ : ∃ nx, nx = nextL p (a + k) := ⟨_, rfl⟩
          rw [← hnx] at RN HLL2 HNR HT5
          clear hnx
          go_wp2_with fail
          refine RN.out.mono ?_
          rintro e w7 ⟨NB, cB, rfl, hr7, s7, hf7⟩
          have hlt13 : q + 3 < Wd.heap.size := HID.out.o.lt
          have HFR := Lib.hid (fun b o (e : NB = some ⟨b, o, none⟩) => Nat.lt_of_lt_of_le hlt13 (hf7 b o e))
          have HI7 := Lib.hid (HID.out.same_ s7)
          have HR7 := Lib.hid hr7
          clear hr7 s7 hf7 hlt13 HID z0
          obtain ⟨nn, hnn⟩ : ∃ nn, nn = nx.length := ⟨_, rfl⟩
          rw [← hnn]
          have HNN := Lib.hid hnn
          have hn2 : nn ≤ 2 := by rw [hnn]; exact HLL2.out
          clear hnn HLL2
          go_wp2_with fail
          go_loopg [168] nn (fun gk iv wx => ∃ j : Nat, j + gk = nn ∧ iv = .int .i64 (j : Int) ∧ Hid (PI w q (q + 2) a b m ⟨(nx.take j).foldl (fun c t => setMax c t he) st.come, st.all⟩ wx) ∧ Hid (Row wx NB (nx.map (Value.int .i64))))
          case atStart => exact ⟨0, by omega, rfl, HI7, HR7⟩
          case round =>
           obtain ⟨j, hj, rfl, HIJ, HRJ⟩ := hrel
           clear HI7 HR7
           cases gk with
           | zero =>
            have hjn : ¬ (j : Int) < nn := by omega
            have HI2 := Lib.hid (show PI w q (q + 2) a b m (partT one p ws L a (k + 1)) wr from by
             rw [HT5.out]
             have h := HIJ.out
             rw [List.take_of_length_le (by have := HNN.out; omega)] at h
             exact h)
            clear HIJ HRJ hj
            go_wp2_with fail
            go_roundg GK
            case rel => exact ⟨k + 1, by have := KX.out; omega, by go_num, HI2⟩
            case measure => omega
           | succ GJ =>
            have hjn : (j : Int) < nn := by omega
            have hj0 : (0 : Int) ≤ (j : Int) := by omega
            have hjl : j < nx.length := by rw [← HNN.out]; omega
            have HJ := Lib.hid hj
            obtain ⟨nb, no, hNA, hcn⟩ := HRJ.out j (.int .i64 (nx.getD j 0)) (by rw [List.getElem?_map, List.getD_eq_getElem?_getD, List.getElem?_eq_getElem hjl]; rfl)
            have HTK := Lib.hid (show nx.take (j + 1) = nx.take j ++ [nx.getD j 0] from by rw [List.take_succ_eq_append_getElem hjl, List.getD_eq_getElem?_getD, List.getElem?_eq_getElem hjl]; rfl)
            have hb := HNR.out (nx.getD j 0) (by rw [List.getD_eq_getElem?_getD, List.getElem?_eq_getElem hjl]; exact List.getElem_mem hjl)
            clear hj hjl
            subst hNA
            obtain ⟨t, ht⟩ : ∃ t : Nat, (t : Int) = nx.getD j 0 := ⟨(nx.getD j 0).toNat, by omega⟩
            rw [← ht] at hcn HTK hb
            clear ht
            obtain ⟨cm, hcm⟩ : ∃ cm, cm = (nx.take j).foldl (fun c t => setMax c t he) st.come := ⟨_, rfl⟩
            rw [← hcm] at HIJ
            have HCM := Lib.hid hcm
            clear hcm
            have hlc : cm.length = m + 1 := by have := HIJ.out.c.len; simpa using this
            have ct := g1_get HIJ.out.c (k := t) (u := .int .i64 (cm.getD t 0)) (by rw [List.getElem?_map, List.getD_eq_getElem?_getD, List.getElem?_eq_getElem (by show t < cm.length; omega)]; rfl)
            have tt := g1_thaw HIJ.out.c t
            have ht0 : (0 : Int) ≤ (t : Int) := by omega
            have htm : (t : Int) < (m : Int) + 1 := by omega
            have hc5 := fun u : Int => (show Chg (fun i => i = q + 2) wr (wr.setCell ⟨q + 2, t, none⟩ (.int .i64 u)) from (Chg.refl (fun i => i = q + 2) wr).set (p := ⟨q + 2, t, none⟩) (.inl rfl) _)
            have hset := fun u : Int => g1_set HIJ.out.c t (.int .i64 u)
            simp only [← List.map_set] at hset
            have HI5 := Lib.hid (fun (u : Int) (hu : max (cm.getD t 0) he = u) => (show PI w q (q + 2) a b m ⟨cm.set t (max (cm.getD t 0) he), st.all⟩ (wr.setCell ⟨q + 2, t, none⟩ (.int .i64 u)) from hu ▸ HIJ.out.come_ (hc5 _) (hset _)))
            have HR5 := Lib.hid (fun u => HRJ.out.chg (hc5 u) (fun b' o' e' i' => by have h9 := HFR.out b' o' e'; omega))
            have HSM := Lib.hid (show cm.set t (max (cm.getD t 0) he) = (nx.take (j + 1)).foldl (fun c t => setMax c t he) st.come from by
             rw [HTK.out, List.foldl_append, ← HCM.out]
             show _ = setMax cm (t : Int) he
             unfold setMax
             rw [Int.toNat_natCast])
            clear hc5 hset HIJ HRJ HTK HCM
            generalize cm.getD t 0 = ctv at *
            go_wp2_with fail
            all_goals
             go_roundg GJ
             case measure => omega
             case rel => exact ⟨j + 1, by have := HJ.out; omega, by go_num, Lib.hid (by rw [← HSM.out]; exact HI5.out _ (by omega)), Lib.hid (HR5.out _)⟩
       | some x =>
        obtain ⟨hxL, hx1⟩ := fromIn_mem hfi
        rw [hfi] at BX HT2
        simp only [Option.getD_some] at BX
        simp only at HT2
        have HT3 := Lib.hid HT2
        clear HT2
        have hLk := HOK.out _ (HIL.out _ hxL)
        have hxl := Lib.hid (HIL.out _ hxL)
        clear hxL
        obtain ⟨x1, x2⟩ := x
        unfold Lok at hLk
        simp only at hx1 hLk BX
        subst hx1
        obtain ⟨y, rfl⟩ : ∃ y : Nat, x2 = (y : Int) := ⟨x2.toNat, by omega⟩
        rw [Int.toNat_natCast] at hLk
        have hy : y < m := by have := HL.out; omega
        have hyc := hLk.2.2.2
        have hky : a + k ≤ y := by have := hLk.2.1; omega
        clear hLk
        have d0 : wr.cell? ⟨g13, 0, none⟩ = some (.int .i64 ((a : Int) + (k : Int))) := BX.out.cell 0
        have d1 : wr.cell? ⟨g13, 1, none⟩ = some (.int .i64 (y : Int)) := BX.out.cell 1
        have IN := Lib.hid (show ∀ W', Same wr W' → Calls Tryz.prog 99 #[.slice LA n cL, .agg #[.int .i64 ((a : Int) + (k : Int)), .int .i64 (y : Int)]] W' (InnerPost W' l ((a : Int) + (k : Int), (y : Int))) from fun W' s => inner_ref LA n cL l ((a : Int) + (k : Int), (y : Int)) W' HLN.out (by omega) (HLL.out.same (HIX.out.same.trans s)))
        have PT := Lib.hid (fun W' (s : Same wr W') NB cB (r : Row W' NB (spanCells (innerL l ((a : Int) + (k : Int), (y : Int))))) => IH.out _ hxl.out W' NB cB (HIX.out.same.trans s) r)
        obtain ⟨ov, hov⟩ : ∃ ov, ov = one ((a : Int) + (k : Int), (y : Int)) := ⟨_, rfl⟩
        rw [← hov] at PT HT3
        simp only at PT HT3
        clear hov
        have SS := Lib.hid (fun w' (s : Same wr w') => (show w'.cell? ⟨g13, 0, none⟩ = some (.int .i64 ((a : Int) + (k : Int))) ∧ w'.cell? ⟨g13, 1, none⟩ = some (.int .i64 (y : Int)) ∧ Same wr w' from ⟨s.cell d0, s.cell d1, s⟩))
        go_wp2_with fail
        go_cut [16] from 70 to 76 (fun v16 wx => ∃ g16, v16 = .pointer (some ⟨g16, 0, none⟩) ∧ Hid (PI w q (q + 2) a b m st wx) ∧ Hid (Blk wx g13 97 #[.int .i64 ((a : Int) + (k : Int)), .int .i64 (y : Int)]) ∧ Hid (Blk wx g16 92 #[.int .i64 ov.thru, .int .i64 ov.fin]) ∧ Hid (g13 < g16))
        case first =>
         refine wp_region_held_drew (S := fun w' => w'.cell? ⟨g13, 0, none⟩ = some (.int .i64 ((a : Int) + (k : Int))) ∧ w'.cell? ⟨g13, 1, none⟩ = some (.int .i64 (y : Int)) ∧ Same wr w') (by kernel_rfl) ?_ (fun hHeld => ?_)
         ·exact SS.out _ (Same.refl _).drew
         have hHeld' := SS.out _ (Same.refl wr).drew
         clear hHeld
         obtain ⟨wD, hwD⟩ : ∃ wD, wD = wr.drew := ⟨_, rfl⟩
         rw [← hwD] at hHeld'
         rw [← hwD]
         clear hwD
         have hHeld := hHeld'
         clear hHeld'
         refine Ro.tn 0 ?_ ?_ ?_
         rotate_left
         ·intro wS hSw; (try dsimp only at hSw); go_simp; try with_reducible rfl
         try simp only [Ro.p]
         refine Ro.tn 1 ?_ ?_ ?_
         rotate_left
         ·intro wS hSw; (try dsimp only at hSw); go_simp; try with_reducible rfl
         try simp only [Ro.p]
         refine Ro.tn 2 ?_ ?_ ?_
         rotate_left
         ·intro wS hSw; (try dsimp only at hSw); go_simp; try with_reducible rfl
         try simp only [Ro.p]
         refine Ro.tn 3 ?_ ?_ ?_
         rotate_left
         ·intro wS hSw; (try dsimp only at hSw); go_simp; try with_reducible rfl
         try simp only [Ro.p]
         refine Ro.tn 5 ?_ ?_ ?_
         rotate_left
         ·intro wS hSw; (try dsimp only at hSw); go_simp; try with_reducible rfl
         try simp only [Ro.p]
         refine Ra.two_on (i := 4) (j := 7) rfl rfl (by kernel_rfl) (by rfl) (by rfl) (fun K hK => ?_) (fun K hK => ?_)
         ·go_simp
          go_at_call 99
          refine (IN.out _ hHeld.2.2).mono ?_
          rintro e v1 ⟨NB, cB, rfl, hoB, hs⟩
          (first | refine hK.out _ _ ?_ (fun hNew => ?_) | (go_wp2_with fail; refine hK.out _ _ ?_ (fun hNew => ?_)))
          ·exact SS.out _ (hHeld.2.2.trans hs)
          have RB := Lib.hid hoB.row
          clear hoB
          clear hs
          clear hK K hHeld
          have hHeld := hNew
          clear hNew
          try simp only [Ro.p]
          refine Ra.two_on (i := 6) (j := 7) rfl rfl (by kernel_rfl) (by rfl) (by rfl) (fun K hK => ?_) (fun K hK => ?_)
          ·go_simp
           go_at_call 78
           refine (PT.out _ hHeld.2.2 _ _ RB.out).mono ?_
           rintro e v2 ⟨rfl, hs⟩
           (first | refine hK.out _ _ ?_ (fun hNew => ?_) | (go_wp2_with fail; refine hK.out _ _ ?_ (fun hNew => ?_)))
           ·exact SS.out _ (hHeld.2.2.trans hs)
           clear hs
           clear hK K hHeld
           have hHeld := hNew
           clear hNew
           try simp only [Ro.p]
           refine Ro.one_on (i := 7) rfl (by kernel_rfl) (by rfl) (fun K hK => ?_)
           go_simp
           refine hK.out _ _ ?_ (fun hNew => ?_)
           ·exact SS.out _ (hHeld.2.2.alloc _)
           have B16 := Lib.hid (Blk.new v2 92 #[.int .i64 0, .int .i64 0])
           obtain ⟨g16, hg16⟩ : ∃ g16, g16 = v2.heap.size := ⟨_, rfl⟩
           obtain ⟨v3, hwn⟩ : ∃ x, x = v2.alloc (.cells #[.int .i64 0, .int .i64 0] 92) := ⟨_, rfl⟩
           have HGE := Lib.hid (show wr.heap.size ≤ g16 from by rw [hg16]; exact hHeld.2.2.size)
           rw [← hwn] at hNew
           rw [← hg16, ← hwn] at B16
           rw [← hg16, ← hwn]
           clear hg16 hwn
           clear hK K hHeld
           have hHeld := hNew
           clear hNew
           try simp only [Ro.p]
           refine Ro.one_on (i := 8) rfl (by kernel_rfl) (by rfl) (fun K hK => ?_)
           have z0 := B16.out.cell 0
           have z1 := B16.out.cell 1
           simp only [Ws.q_] at z0 z1
           have f0 := B16.out.thaw 0
           have f1 := B16.out.thaw 1
           go_simp
           have hc12 : Chg (fun i => i = g16) v3 ((v3.setCell ⟨g16, 0, none⟩ (.int .i64 ov.thru)).setCell ⟨g16, 1, none⟩ (.int .i64 ov.fin)) := ((Chg.refl (fun i => i = g16) v3).set (p := ⟨g16, 0, none⟩) (.inl rfl) _).set (p := ⟨g16, 1, none⟩) (.inl rfl) _
           have hs12 : Same wr ((v3.setCell ⟨g16, 0, none⟩ (.int .i64 ov.thru)).setCell ⟨g16, 1, none⟩ (.int .i64 ov.fin)) := Same.more hHeld.2.2 hc12 (fun i hi => by have := HGE.out; omega)
           refine hK.out _ _ ?_ (fun hNew => ?_)
           ·exact SS.out _ hs12
           try simp only [Ro.p]
           refine wpAnyH_done (by kernel_rfl) ?_ _
           go_wp2_with fail
           go_meet
           case rel => exact ⟨g16, rfl, Lib.hid (HIX.out.same_ hs12), Lib.hid (BX.out.same hs12), Lib.hid ((B16.out.put 0 (.int .i64 ov.thru)).put 1 (.int .i64 ov.fin)), Lib.hid (by have := HGE.out; have := BX.out.lt; omega)⟩
          ·go_simp
           refine hK.out _ _ ?_ (fun hNew => ?_)
           ·exact SS.out _ (hHeld.2.2.alloc _)
           have RB := Lib.hid (RB.out.same ((Same.refl v1).alloc (.cells #[.int .i64 0, .int .i64 0] 92)))
           have B16 := Lib.hid (Blk.new v1 92 #[.int .i64 0, .int .i64 0])
           obtain ⟨g16, hg16⟩ : ∃ g16, g16 = v1.heap.size := ⟨_, rfl⟩
           obtain ⟨v5, hwn⟩ : ∃ x, x = v1.alloc (.cells #[.int .i64 0, .int .i64 0] 92) := ⟨_, rfl⟩
           have HGE := Lib.hid (show wr.heap.size ≤ g16 from by rw [hg16]; exact hHeld.2.2.size)
           rw [← hwn] at RB
           rw [← hwn] at hNew
           rw [← hg16, ← hwn] at B16
           rw [← hg16, ← hwn]
           clear hg16 hwn
           clear hK K hHeld
           have hHeld := hNew
           clear hNew
           try simp only [Ro.p]
           refine Ro.one_on (i := 6) rfl (by kernel_rfl) (by rfl) (fun K hK => ?_)
           go_simp
           go_at_call 78
           refine (PT.out _ hHeld.2.2 _ _ RB.out).mono ?_
           rintro e v6 ⟨rfl, hs⟩
           (first | refine hK.out _ _ ?_ (fun hNew => ?_) | (go_wp2_with fail; refine hK.out _ _ ?_ (fun hNew => ?_)))
           ·exact SS.out _ (hHeld.2.2.trans hs)
           have B16 := Lib.hid (B16.out.same hs)
           clear hs
           clear hK K hHeld
           have hHeld := hNew
           clear hNew
           try simp only [Ro.p]
           refine Ro.one_on (i := 8) rfl (by kernel_rfl) (by rfl) (fun K hK => ?_)
           have z0 := B16.out.cell 0
           have z1 := B16.out.cell 1
           simp only [Ws.q_] at z0 z1
           have f0 := B16.out.thaw 0
           have f1 := B16.out.thaw 1
           go_simp
           have hc12 : Chg (fun i => i = g16) v6 ((v6.setCell ⟨g16, 0, none⟩ (.int .i64 ov.thru)).setCell ⟨g16, 1, none⟩ (.int .i64 ov.fin)) := ((Chg.refl (fun i => i = g16) v6).set (p := ⟨g16, 0, none⟩) (.inl rfl) _).set (p := ⟨g16, 1, none⟩) (.inl rfl) _
           have hs12 : Same wr ((v6.setCell ⟨g16, 0, none⟩ (.int .i64 ov.thru)).setCell ⟨g16, 1, none⟩ (.int .i64 ov.fin)) := Same.more hHeld.2.2 hc12 (fun i hi => by have := HGE.out; omega)
           refine hK.out _ _ ?_ (fun hNew => ?_)
           ·exact SS.out _ hs12
           try simp only [Ro.p]
           refine wpAnyH_done (by kernel_rfl) ?_ _
           go_wp2_with fail
           go_meet
           case rel => exact ⟨g16, rfl, Lib.hid (HIX.out.same_ hs12), Lib.hid (BX.out.same hs12), Lib.hid ((B16.out.put 0 (.int .i64 ov.thru)).put 1 (.int .i64 ov.fin)), Lib.hid (by have := HGE.out; have := BX.out.lt; omega)⟩
         ·go_simp
          refine hK.out _ _ ?_ (fun hNew => ?_)
          ·exact SS.out _ (hHeld.2.2.alloc _)
          have B16 := Lib.hid (Blk.new wD 92 #[.int .i64 0, .int .i64 0])
          obtain ⟨g16, hg16⟩ : ∃ g16, g16 = wD.heap.size := ⟨_, rfl⟩
          obtain ⟨v8, hwn⟩ : ∃ x, x = wD.alloc (.cells #[.int .i64 0, .int .i64 0] 92) := ⟨_, rfl⟩
          have HGE := Lib.hid (show wr.heap.size ≤ g16 from by rw [hg16]; exact hHeld.2.2.size)
          rw [← hwn] at hNew
          rw [← hg16, ← hwn] at B16
          rw [← hg16, ← hwn]
          clear hg16 hwn
          clear hK K hHeld
          have hHeld := hNew
          clear hNew
          try simp only [Ro.p]
          refine Ro.one_on (i := 4) rfl (by kernel_rfl) (by rfl) (fun K hK => ?_)
          go_simp
          go_at_call 99
          refine (IN.out _ hHeld.2.2).mono ?_
          rintro e v9 ⟨NB, cB, rfl, hoB, hs⟩
          (first | refine hK.out _ _ ?_ (fun hNew => ?_) | (go_wp2_with fail; refine hK.out _ _ ?_ (fun hNew => ?_)))
          ·exact SS.out _ (hHeld.2.2.trans hs)
          have B16 := Lib.hid (B16.out.same hs)
          have RB := Lib.hid hoB.row
          clear hoB
          clear hs
          clear hK K hHeld
          have hHeld := hNew
          clear hNew
          try simp only [Ro.p]
          refine Ro.one_on (i := 6) rfl (by kernel_rfl) (by rfl) (fun K hK => ?_)
          go_simp
          go_at_call 78
          refine (PT.out _ hHeld.2.2 _ _ RB.out).mono ?_
          rintro e v10 ⟨rfl, hs⟩
          (first | refine hK.out _ _ ?_ (fun hNew => ?_) | (go_wp2_with fail; refine hK.out _ _ ?_ (fun hNew => ?_)))
          ·exact SS.out _ (hHeld.2.2.trans hs)
          have B16 := Lib.hid (B16.out.same hs)
          clear hs
          clear hK K hHeld
          have hHeld := hNew
          clear hNew
          try simp only [Ro.p]
          refine Ro.one_on (i := 8) rfl (by kernel_rfl) (by rfl) (fun K hK => ?_)
          have z0 := B16.out.cell 0
          have z1 := B16.out.cell 1
          simp only [Ws.q_] at z0 z1
          have f0 := B16.out.thaw 0
          have f1 := B16.out.thaw 1
          go_simp
          have hc12 : Chg (fun i => i = g16) v10 ((v10.setCell ⟨g16, 0, none⟩ (.int .i64 ov.thru)).setCell ⟨g16, 1, none⟩ (.int .i64 ov.fin)) := ((Chg.refl (fun i => i = g16) v10).set (p := ⟨g16, 0, none⟩) (.inl rfl) _).set (p := ⟨g16, 1, none⟩) (.inl rfl) _
          have hs12 : Same wr ((v10.setCell ⟨g16, 0, none⟩ (.int .i64 ov.thru)).setCell ⟨g16, 1, none⟩ (.int .i64 ov.fin)) := Same.more hHeld.2.2 hc12 (fun i hi => by have := HGE.out; omega)
          refine hK.out _ _ ?_ (fun hNew => ?_)
          ·exact SS.out _ hs12
          try simp only [Ro.p]
          refine wpAnyH_done (by kernel_rfl) ?_ _
          go_wp2_with fail
          go_meet
          case rel => exact ⟨g16, rfl, Lib.hid (HIX.out.same_ hs12), Lib.hid (BX.out.same hs12), Lib.hid ((B16.out.put 0 (.int .i64 ov.thru)).put 1 (.int .i64 ov.fin)), Lib.hid (by have := HGE.out; have := BX.out.lt; omega)⟩
        case rest =>
         obtain ⟨g16, rfl, HIC, B13, B16, HG16⟩ := hcut
         clear BX HIX HOX d0 d1 IN PT SS
         obtain ⟨_, zb, zo, rfl, _, _, _, zc, _⟩ := (HP.out.same HIC.out.same).at_ (k := y) (by rw [HL.out]; exact hy)
         have HT4 := HT3.out
         simp only [Int.toNat_natCast] at HT4
         have HT5 := Lib.hid HT4
         clear HT4 HT3
         generalize (at_ p y).c = cc at *
         have e0 : wc.cell? ⟨g16, 0, none⟩ = some (.int .i64 ov.thru) := B16.out.cell 0
         have e1 : wc.cell? ⟨g16, 1, none⟩ = some (.int .i64 ov.fin) := B16.out.cell 1
         have d1 : wc.cell? ⟨g13, 1, none⟩ = some (.int .i64 (y : Int)) := B13.out.cell 1
         have o1 : wc.cell? ⟨q + 3, 1, none⟩ = some (.int .i64 st.all.fin) := HIC.out.o.cell 1
         have cv : wc.cell? ⟨q + 2, a + k, none⟩ = some (.int .i64 v) := g1_get HIC.out.c (by rw [List.getElem?_map, HV.out, List.getD_eq_getElem?_getD, List.getElem?_eq_getElem (by rw [HLEN.out]; omega)]; rfl)
         have hy0 : (0 : Int) ≤ (y : Int) := by omega
         have hym : (y : Int) < (m : Int) := by omega
         by_cases ht : 0 ≤ ov.thru
         ·have HT6 := Lib.hid (HT5.out.trans (if_pos ht))
          clear HT5
          have ML := Lib.hid (show ∀ W, Calls Tryz.prog 38 #[.int .i64 cc, .int .i64 ov.thru] W fun e w' => e = .returned (.int .i64 (mlI cc ov.thru)) ∧ W = w' from fun W => Wd.rmul _ _ W)
          have ML2 := Lib.hid (show ∀ W, Calls Tryz.prog 38 #[.int .i64 (cc + 1), .int .i64 ov.thru] W fun e w' => e = .returned (.int .i64 (mlI (cc + 1) ov.thru)) ∧ W = w' from fun W => Wd.rmul _ _ W)
          generalize mlI cc ov.thru = x1 at *
          generalize mlI (cc + 1) ov.thru = y1 at *
          have M1 := Lib.hid (fun W => more_ref v x1 W)
          generalize moreI v x1 = x2 at *
          have M2 := Lib.hid (fun W => more_ref x2 ov.fin W)
          generalize moreI x2 ov.fin = x3 at *
          have M3 := Lib.hid (fun W => more_ref v y1 W)
          generalize moreI v y1 = y2 at *
          have M4 := Lib.hid (fun W => more_ref v ov.fin W)
          generalize moreI v ov.fin = z1 at *
          obtain ⟨n1, hn1⟩ : ∃ n1, (if st.all.fin < x3 then x3 else st.all.fin) = n1 := ⟨_, rfl⟩
          have HN1 := Lib.hid (show n1 = max st.all.fin x3 from by rw [← hn1]; split <;> omega)
          have hcy : wc.cell? ⟨q + 2, y + 1, none⟩ = some (.int .i64 (st.come.getD (y + 1) 0)) := g1_get HIC.out.c (by rw [List.getElem?_map, List.getD_eq_getElem?_getD, List.getElem?_eq_getElem (by rw [HLEN.out]; omega)]; rfl)
          have HSM := Lib.hid (show setMax st.come ((y : Int) + 1) y2 = st.come.set (y + 1) (max (st.come.getD (y + 1) 0) y2) from by
           unfold setMax
           rw [show ((y : Int) + 1).toNat = y + 1 by omega])
          obtain ⟨cy, hcye⟩ : ∃ cy, cy = st.come.getD (y + 1) 0 := ⟨_, rfl⟩
          rw [← hcye] at hcy HSM
          have HCY := Lib.hid hcye
          clear hcye
          obtain ⟨n2, hn2⟩ : ∃ n2, (if cy < y2 then y2 else cy) = n2 := ⟨_, rfl⟩
          have HN2 := Lib.hid (show n2 = max cy y2 from by rw [← hn2]; split <;> omega)
          obtain ⟨n3, hn3⟩ : ∃ n3, (if n1 < z1 then z1 else n1) = n3 := ⟨_, rfl⟩
          have HN3 := Lib.hid (show n3 = max n1 z1 from by rw [← hn3]; split <;> omega)
          have w1 : IntKind.i64.wrap (cc + 1) = cc + 1 := Go.IntWalk.i64_in _ (by omega)
          have w2 : IntKind.i64.wrap ((y : Int) + 1) = (y : Int) + 1 := Go.IntWalk.i64_in _ (by omega)
          have w3 : ((y : Int) + 1).toNat = y + 1 := by omega
          have w4 : (0 : Int) ≤ (y : Int) + 1 := by omega
          have w5 : (y : Int) + 1 < (m : Int) + 1 := by omega
          have t1 : wc.frozen? ⟨q + 3, 1, none⟩ = false := HIC.out.o.thaw 1
          go_wp2_with fail
          go_still_tail 15, (by kernel_rfl)
          still_call (still_of (ML.out _))
          still_call (still_of (M1.out _))
          repeat still_step
          still_call (still_of (M2.out _))
          repeat still_step
          refine wpStill_nil ?_
          change wpList _ _ _ _ _ wc.drew
          have sd : Same wc wc.drew := (Same.refl _).drew
          have HI1 := Lib.hid (HIC.out.same_ sd)
          have B13' := Lib.hid (B13.out.same sd)
          have B16' := Lib.hid (B16.out.same sd)
          clear sd HIC B13 B16 e0 e1 d1 o1 cv hcy zc t1 hn1
          generalize wc.drew = W1 at *
          have o1 : W1.cell? ⟨q + 3, 1, none⟩ = some (.int .i64 st.all.fin) := HI1.out.o.cell 1
          have t1 : W1.frozen? ⟨q + 3, 1, none⟩ = false := HI1.out.o.thaw 1
          have hc : Chg (fun i => i = q + 3) W1 (W1.setCell ⟨q + 3, 1, none⟩ (.int .i64 n1)) := (Chg.refl (fun i => i = q + 3) W1).set (p := ⟨q + 3, 1, none⟩) (.inl rfl) _
          have HI2 := Lib.hid (HI1.out.out_ hc (HI1.out.o.put 1 (.int .i64 n1)))
          have B13 := Lib.hid (B13'.out.chg hc (by omega))
          have B16 := Lib.hid (B16'.out.chg hc (by have := HG16.out; omega))
          clear hc HI1 B13' B16'
          go_upto_region 25 with fail
          generalize W1.setCell ⟨q + 3, 1, none⟩ (.int .i64 n1) = W2 at *
          clear o1 t1
          have e0 : W2.cell? ⟨g16, 0, none⟩ = some (.int .i64 ov.thru) := B16.out.cell 0
          have d1 : W2.cell? ⟨g13, 1, none⟩ = some (.int .i64 (y : Int)) := B13.out.cell 1
          have cv : W2.cell? ⟨q + 2, a + k, none⟩ = some (.int .i64 v) := g1_get HI2.out.c (by rw [List.getElem?_map, HV.out, List.getD_eq_getElem?_getD, List.getElem?_eq_getElem (by show a + k < st.come.length; rw [HLEN.out]; omega)]; rfl)
          have hcy : W2.cell? ⟨q + 2, y + 1, none⟩ = some (.int .i64 cy) := g1_get HI2.out.c (by rw [List.getElem?_map, HCY.out, List.getD_eq_getElem?_getD, List.getElem?_eq_getElem (by show y + 1 < st.come.length; rw [HLEN.out]; omega)]; rfl)
          go_still_tail 21, (by kernel_rfl)
          still_call (still_of (ML2.out _))
          still_call (still_of (M3.out _))
          repeat still_step
          refine wpStill_nil ?_
          change wpList _ _ _ _ _ W2.drew
          have sd : Same W2 W2.drew := (Same.refl _).drew
          have HI3 := Lib.hid (HI2.out.same_ sd)
          have B16' := Lib.hid (B16.out.same sd)
          clear sd HI2 B13 B16 e0 d1 cv hcy hn2
          generalize W2.drew = W3 at *
          have ct : W3.cell? ⟨q + 2, y + 1, none⟩ = some (.int .i64 cy) := g1_get HI3.out.c (by rw [List.getElem?_map, HCY.out, List.getD_eq_getElem?_getD, List.getElem?_eq_getElem (by show y + 1 < st.come.length; rw [HLEN.out]; omega)]; rfl)
          have tt := g1_thaw HI3.out.c (y + 1)
          have hc : Chg (fun i => i = q + 2) W3 (W3.setCell ⟨q + 2, y + 1, none⟩ (.int .i64 n2)) := (Chg.refl (fun i => i = q + 2) W3).set (p := ⟨q + 2, y + 1, none⟩) (.inl rfl) _
          have hset := g1_set HI3.out.c (y + 1) (.int .i64 n2)
          rw [← List.map_set] at hset
          have HI4 := Lib.hid (HI3.out.come_ hc hset)
          have B16 := Lib.hid (B16'.out.chg hc (by have := HG16.out; omega))
          clear hc hset HI3 B16'
          go_upto_region 26 with fail
          generalize W3.setCell ⟨q + 2, y + 1, none⟩ (.int .i64 n2) = W4 at *
          clear ct tt
          have e1 : W4.cell? ⟨g16, 1, none⟩ = some (.int .i64 ov.fin) := B16.out.cell 1
          have o1 : W4.cell? ⟨q + 3, 1, none⟩ = some (.int .i64 n1) := HI4.out.o.cell 1
          have cv : W4.cell? ⟨q + 2, a + k, none⟩ = some (.int .i64 v) := g1_get HI4.out.c (by
           show ((st.come.set (y + 1) n2).map (Value.int .i64))[a + k]? = _
           rw [List.getElem?_map, List.getElem?_set_ne (by omega), HV.out, List.getD_eq_getElem?_getD, List.getElem?_eq_getElem (by rw [HLEN.out]; omega)]
           rfl)
          go_still_tail 10, (by kernel_rfl)
          still_call (still_of (M4.out _))
          repeat still_step
          refine wpStill_nil ?_
          change wpList _ _ _ _ _ W4.drew
          have HI5 := Lib.hid (HI4.out.same_ (Same.refl W4).drew)
          clear HI4 B16 e1 o1 cv hn3
          generalize W4.drew = W5 at *
          have o1 : W5.cell? ⟨q + 3, 1, none⟩ = some (.int .i64 n1) := HI5.out.o.cell 1
          have t1 : W5.frozen? ⟨q + 3, 1, none⟩ = false := HI5.out.o.thaw 1
          have HI6 := Lib.hid (HI5.out.out_ ((Chg.refl (fun i => i = q + 3) W5).set (p := ⟨q + 3, 1, none⟩) (.inl rfl) (.int .i64 n3)) (HI5.out.o.put 1 (.int .i64 n3)))
          clear HI5
          go_wp2_with fail
          go_roundg GK
          case rel => exact ⟨k + 1, by have := KX.out; omega, by go_num, Lib.hid (by rw [HT6.out, HSM.out, ← HN2.out, ← HN1.out, ← HN3.out]; exact HI6.out)⟩
          case measure => omega
         ·have HT6 := Lib.hid (HT5.out.trans (if_neg ht))
          clear HT5
          have M1 := Lib.hid (fun W => more_ref v ov.fin W)
          generalize moreI v ov.fin = x1 at *
          obtain ⟨n1, hn1⟩ : ∃ n1, (if st.all.fin < x1 then x1 else st.all.fin) = n1 := ⟨_, rfl⟩
          have HN1 := Lib.hid (show n1 = max st.all.fin x1 from by rw [← hn1]; split <;> omega)
          go_wp2_with fail
          go_still_tail 10, (by kernel_rfl)
          still_call (still_of (M1.out _))
          repeat still_step
          refine wpStill_nil ?_
          change wpList _ _ _ _ _ wc.drew
          have HI1 := Lib.hid (HIC.out.same_ (Same.refl wc).drew)
          clear HIC B13 B16 e0 e1 d1 o1 cv zc hn1 M1
          generalize wc.drew = W1 at *
          have o1 : W1.cell? ⟨q + 3, 1, none⟩ = some (.int .i64 st.all.fin) := HI1.out.o.cell 1
          have t1 : W1.frozen? ⟨q + 3, 1, none⟩ = false := HI1.out.o.thaw 1
          have HI2 := Lib.hid (HI1.out.out_ ((Chg.refl (fun i => i = q + 3) W1).set (p := ⟨q + 3, 1, none⟩) (.inl rfl) (.int .i64 n1)) (HI1.out.o.put 1 (.int .i64 n1)))
          clear HI1
          go_wp2_with fail
          go_roundg GK
          case rel => exact ⟨k + 1, by have := KX.out; omega, by go_num, Lib.hid (by rw [HT6.out, ← HN1.out]; exact HI2.out)⟩
          case measure => omega
end Go.Proofs.YthhbhbfkbncegaaGreatDoor.Cs
end
section
set_option linter.unusedVariables false
set_option linter.unusedSimpArgs false
namespace Go.Proofs.YthhbhbfkbncegaaGreatDoor.Cs
open Go.ChangeShapes Go.WideShapes Go.ChangeAt Go.RowKit Ws
open Go.Proofs.YthhbhbfkbncegaaGreatDoor.Fp (Ins at_ Fine at_some lp loopsL nextL hasB)
open Go.Proofs.YthhbhbfkbncegaaGreatDoor.Fw (Prg Spn spanCells spn_of)

theorem part_ref (A : Option Addr) (m c : Nat) (p : List Ins) (Wt : Option Addr) (cW : Nat) (ws : List Int) (hl : p.length = m) (hm : m ≤ 64) (hwl : ws.length = m) (hnx : ∀ k, k < m → Fp.rnextL p k = nextL p k) :
 ∀ (f : Nat) (l : List (Int × Int)) (a b : Nat) (LA : Option Addr) (n cL : Nat) (w : World), Prg w A p → Row w Wt (ws.map (Value.int .i64)) → l.length = n → n < f → n ≤ 64 → Row w LA (spanCells l) → (∀ x ∈ l, Lok p x) → a ≤ b → b < m →
  Calls Tryz.prog 78 #[.slice A m c, .slice Wt m cW, .slice LA n cL, .agg #[.int .i64 a, .int .i64 b]] w fun e w' => e = .returned (.agg #[.int .i64 (partF p ws f l (a, b)).thru, .int .i64 (partF p ws f l (a, b)).fin]) ∧ Same w w'
 | 0, l, a, b, LA, n, cL, w, _, _, _, h, _, _, _, _, _ => absurd h (Nat.not_lt_zero _)
 | f + 1, l, a, b, LA, n, cL, w, hp, hW, hln, hnf, hn, hL, hok, hab, hbm => by
  have h := part_step A m c p Wt cW ws LA n cL l a b (fun x => partF p ws f (innerL l x) x) w hl hm hp hW hwl hln hn hL hok hab hbm hnx (fun x hx W B cB s r => by
   have hlk := hok x hx
   have hsh := inner_short hx
   obtain ⟨x1, x2⟩ := x
   obtain ⟨h1, h2, h3, h4, h5⟩ := hlk
   simp only at h1 h2 h3
   obtain ⟨a', rfl⟩ : ∃ a' : Nat, x1 = (a' : Int) := ⟨x1.toNat, by omega⟩
   obtain ⟨b', rfl⟩ : ∃ b' : Nat, x2 = (b' : Int) := ⟨x2.toNat, by omega⟩
   exact part_ref A m c p Wt cW ws hl hm hwl hnx f (innerL l (a', b')) a' b' B _ cB W (hp.same s) (hW.same s) rfl (by omega) (by omega) r (fun y hy => hok y (innerL_mem.1 hy).1) (by omega) (by omega))
  have e : partF p ws (f + 1) l ((a : Int), (b : Int)) = (partT (fun x => partF p ws f (innerL l x) x) p ws (innerL l ((a : Int), (b : Int))) a (b + 1 - a)).all := by
   rw [partF]
   simp only [Int.toNat_natCast]
   rw [show ((b : Int) + 1 - (a : Int)).toNat = b + 1 - a by omega]
  rw [e]
  exact h
theorem way_field (x y : Int) (w : World) : (Instr.field 92 (.agg #[.int .i64 x, .int .i64 y]) 1).run Tryz.prog w = .ok (.int .i64 y) w := by kernel_rfl
theorem lok_loops {p : List Ins} (hF : Fine Fw.rightI p) (hn : ∀ j, j < p.length → 0 ≤ (at_ p j).n) (hC : ∀ k, k < p.length → (at_ p k).op = 16 → 0 ≤ (at_ p k).c ∧ (at_ p k).c < 1099511627776) : ∀ x ∈ loopsL p, Lok p x := by
 intro x hx
 obtain ⟨j, hj, rfl⟩ := mem_lp hx
 have h1 := lp_in hF hn hj
 have h2 := lp_back hF hn hj
 have h3 := hC (lp (loopsL p) j).2.toNat (by omega) h2
 exact ⟨h1.1, by omega, h1.2.2, h3.1, h3.2⟩
set_option maxRecDepth 100000 in
theorem rmost_any (A : Option Addr) (m c : Nat) (p : List Ins) (Wt : Option Addr) (cW : Nat) (ws : List Int) (w : World) (hl : p.length = m) (hp : Prg w A p) (hW : Row w Wt (ws.map (Value.int .i64))) (hwl : ws.length = m) (hok : Fw.okB p = true) :
 Calls Tryz.prog 58 #[.slice A m c, .slice Wt m cW] w fun e w' => e = .returned (.int .i64 (weighW btG p ws)) ∧ Same w w' := by
 have hF := Fw.okB_fine hok
 have hnn := hp.nn
 have hsz := hF.size
 have hm1 : 1 ≤ m ∧ m ≤ 64 := by omega
 have hC : ∀ k, k < p.length → (at_ p k).op = 16 → 0 ≤ (at_ p k).c ∧ (at_ p k).c < 1099511627776 := by
  intro k hk ho
  have := back_c (hF.right k hk) ho
  omega
 have hPW := part_weigh hF hnn hC ws
 have hln : (loopsL p).length ≤ 64 := Nat.le_trans (Fp.loopsTo_len p.length) (by omega)
 have LO := Lib.hid (Fw.rloops_any A m c p w hl (by omega) hp)
 have PT := Lib.hid (fun W (s : Same w W) LA cL (r : Row W LA (spanCells (loopsL p))) => part_ref A m c p Wt cW ws hl hm1.2 hwl (fun k hk => Fp.rnext_eq hF hnn (by omega)) ((loopsL p).length + 1) (loopsL p) 0 (m - 1) LA (loopsL p).length cL W (hp.same s) (hW.same s) rfl (Nat.lt_succ_self _) hln r (lok_loops hF hnn hC) (by omega) (by omega))
 rw [show ((m - 1 : Nat) : Int) = (m : Int) - 1 by omega, show ((0 : Nat) : Int) = 0 from rfl] at PT
 rw [hl] at hPW
 have HPW := Lib.hid hPW
 have f1 : IntKind.i64.wrap ((m : Int) - 1) = (m : Int) - 1 := Go.IntWalk.i64_in _ (by omega)
 clear hp hW hl hwl hok hF hnn hsz hC hPW
 unfold Fw.LoopsPost at LO
 go_enter Tryz.func58, Tryz.ntmps58
 go_wp2_with fail
 refine LO.out.mono ?_
 rintro e w1 ⟨LA, cL, rfl, ho, s1⟩
 have PT1 := Lib.hid (PT.out w1 s1 LA cL ho.row)
 have WF := way_field
 have S1 := Lib.hid s1
 clear ho s1 LO PT
 go_wp2_with fail
 refine PT1.out.mono ?_
 rintro e w2 ⟨rfl, s2⟩
 have S2 := Lib.hid (S1.out.trans s2)
 clear s2
 go_wp2_with fail
 go_ret
 exact ⟨by rw [HPW.out]; rfl, S2.out⟩
end Go.Proofs.YthhbhbfkbncegaaGreatDoor.Cs
end
end
end
section
section
set_option linter.unusedVariables false
set_option linter.unusedSimpArgs false
namespace Go.Proofs.YthhbhbfkbncegaaGreatDoor.Dm
open Go.ChangeShapes Go.WideShapes Go.ChangeAt Go.RowKit Ws
open Im (PT PO PS TsAt OsAt SysAt tcells ocells)
open Go.Proofs.YthhbhbfkbncegaaGreatDoor.Is (callB callV rightB)

def kx (wr : Bool) : Int := if wr then 18 else 17
def ky (wr : Bool) : Int := if wr then 19 else 20
def cntR (k x y : Int) (i : Fp.Ins) : Int := if (i.op = x ∨ i.op = y) ∧ i.b = k then 1 else 0
theorem cnt_eq {P : List Fp.Ins} (hok : Fw.okB P = true) (k : Int) (wr : Bool) : P.map (cntI k (kx wr) (ky wr)) = P.map (cntR k (kx wr) (ky wr)) := by
 apply List.map_congr_left
 intro i hi
 obtain ⟨j, hj, rfl⟩ := List.getElem_of_mem hi
 have hr := (Fw.okB_fine hok).right j hj
 rw [Fp.at_eq (List.getElem?_eq_getElem hj)] at hr
 have hr' : rightB P[j].op P[j].a P[j].b P[j].c P[j].n = true := hr
 unfold cntI cntR
 rw [hr', Bool.true_and]
 by_cases h : P[j].op = kx wr ∨ P[j].op = ky wr
 ·have hc : callB P[j].op = true := by
   unfold callB
   rw [decide_eq_true_eq]
   cases wr <;> (unfold kx ky at h; simp at h; omega)
  by_cases hb : P[j].b = k
  ·rw [if_pos ⟨hc, hb, h⟩, if_pos ⟨h, hb⟩]
  ·rw [if_neg (fun h' => hb h'.2.1), if_neg (fun h' => hb h'.2)]
 ·rw [if_neg (fun h' => h h'.2.2), if_neg (fun h' => h h'.1)]
theorem wei_ok {P : List Fp.Ins} (hok : Fw.okB P = true) (k : Int) (wr : Bool) : Cs.weI true P (P.map (cntI k (kx wr) (ky wr))) = Cs.weighW Cs.btG P (P.map (cntR k (kx wr) (ky wr))) := by
 have he : Cs.weE P (P.map (cntI k (kx wr) (ky wr))).length = 0 := by
  unfold Cs.weE
  rw [if_pos (of_decide_eq_true hok), List.length_map, if_pos rfl]
 unfold Cs.weI
 rw [if_pos he, cnt_eq hok]
 rfl
theorem wei_no {P : List Fp.Ins} (hok : Fw.okB P = false) (k x y : Int) : Cs.weI true P (P.map (cntI k x y)) = 0 := by
 have hc : ¬ Fw.ckE P = 0 := fun h => by unfold Fw.okB at hok; rw [h] at hok; cases hok
 have he : ¬ Cs.weE P (P.map (cntI k x y)).length = 0 := by
  unfold Cs.weE
  rw [if_neg hc]
  exact hc
 exact Cs.wei_bad he

set_option maxRecDepth 100000 in
set_option maxHeartbeats 8000000 in
theorem rcalls_true (A B : Option Addr) (n c m d : Nat) (s : PS) (i k : Int) (w : World) (hs : SysAt w A n B m s) (hnm : n ≤ maxLen ∧ m ≤ maxLen) (hf : ∀ p ∈ s.ts, p.code.length ≤ 200) :
 Calls Tryz.prog 34 #[.agg #[.slice A n c, .slice B m d], .int .i64 i, .int .i64 k, .bool true] w fun e w' => e = .returned (.int .i64 (demI s i k (kx true) (ky true))) ∧ Same w w' := by
 obtain ⟨i0, hi, hz0, hz1, hz2⟩ := info_parts int_inf
 have hbn : (n : Int) ≤ 9223372036854775807 ∧ (m : Int) ≤ 9223372036854775807 := by unfold maxLen at hnm; omega
 have s0 := (Same.refl w).alloc (.cells #[.slice A n c, .slice B m d] 25)
 have b0 := Blk.new w 25 #[.slice A n c, .slice B m d]
 obtain ⟨w0, hw0⟩ : ∃ w0, w0 = w.alloc (.cells #[.slice A n c, .slice B m d] 25) := ⟨_, rfl⟩
 rw [← hw0] at s0 b0
 have HE := Lib.hid hw0
 have c0 := b0.cell 0
 have c1 := b0.cell 1
 simp only [Ws.q_] at c0 c1
 have HS := Lib.hid hs
 have HF := Lib.hid hf
 have S0 := Lib.hid s0
 clear hs hf hw0 s0 b0
 go_enter Tryz.func34, Tryz.ntmps34
 go_upto_region 1 with fail
 rw [← HE.out]
 clear HE
 by_cases h1 : i < 0
 ·have HD := Lib.hid (show demI s i k (kx true) (ky true) = 0 from dem_out (.inl (.inl h1)))
  go_wp2_with fail
  go_ret
  exact ⟨by rw [HD.out]; rfl, S0.out⟩
 ·by_cases h2 : i ≥ n
  ·have HD := Lib.hid (show demI s i k (kx true) (ky true) = 0 from dem_out (.inl (.inr (by rw [HS.out.hn]; exact h2))))
   go_wp2_with fail
   go_ret
   exact ⟨by rw [HD.out]; rfl, S0.out⟩
  ·by_cases h3 : k < 0
   ·have HD := Lib.hid (show demI s i k (kx true) (ky true) = 0 from dem_out (.inr (.inl h3)))
    go_wp2_with fail
    go_ret
    exact ⟨by rw [HD.out]; rfl, S0.out⟩
   ·by_cases h4 : k ≥ m
    ·have HD := Lib.hid (show demI s i k (kx true) (ky true) = 0 from dem_out (.inr (.inr (by rw [HS.out.hm]; exact h4))))
     go_wp2_with fail
     go_ret
     exact ⟨by rw [HD.out]; rfl, S0.out⟩
    ·obtain ⟨ki, rfl⟩ : ∃ ki : Nat, i = ki := ⟨i.toNat, by omega⟩
     obtain ⟨kk, rfl⟩ : ∃ kk : Nat, k = kk := ⟨k.toNat, by omega⟩
     have hki : ki < s.ts.length := by rw [HS.out.hn]; omega
     obtain ⟨p, hp⟩ : ∃ p, s.ts[ki]? = some p := ⟨s.ts[ki], List.getElem?_eq_getElem hki⟩
     have HP := Lib.hid hp
     have HLE := Lib.hid (HF.out p (List.mem_of_getElem? hp))
     have HD := Lib.hid (dem_in (x := kx true) (y := ky true) hp (show kk < s.os.length by rw [HS.out.hm]; omega))
     obtain ⟨bA, oA, rfl, X, cX, _, _, _, _, _, _, t6, hcode, _⟩ := (HS.out.ht.same S0.out).at_ hp
     have HCW := Lib.hid hcode
     have FI := Lib.hid (Fw.rfine_any X p.code.length cX (pI p) w0 (by unfold pI; rw [List.length_map]) (by have := HLE.out; omega) (prgI hcode))
     have h1' : (0 : Int) ≤ ki := by omega
     have h2' : (ki : Int) < n := by omega
     clear hp hki hcode
     go_wp2_with fail
     refine FI.out.mono ?_
     rintro e w4 ⟨rfl, s4⟩
     cases hok : Fw.okB (pI p) with
     | false =>
      have HDZ := Lib.hid (HD.out.trans (wei_no hok _ _ _))
      clear hok HD
      have S04 := Lib.hid (S0.out.trans s4)
      clear s4
      go_wp2_with fail
      go_ret
      exact ⟨by rw [HDZ.out]; rfl, S04.out⟩
     | true =>
      have HOK := Lib.hid hok
      have HS4a := Lib.hid s4
      have c0 := s4.cell c0
      have c1 := s4.cell c1
      have t6 := s4.cell t6
      have HS4 := Lib.hid (S0.out.trans s4)
      clear hok s4 FI
      have HLE2 := HLE.out
      obtain ⟨CN, hCN⟩ : ∃ CN : Im.Ins → Value, CN = fun i => Value.int .i64 (cntR kk (kx true) (ky true) (fpI i)) := ⟨_, rfl⟩
      have HCN := Lib.hid (fun i => (show Value.int .i64 (cntR kk (kx true) (ky true) (fpI i)) = CN i by rw [hCN]))
      obtain ⟨b4, hb4⟩ : ∃ b4, b4 = w4.heap.size := ⟨_, rfl⟩
      have HB4 := Lib.hid hb4
      clear hb4
      have HLN := Lib.hid (show (p.code.map CN) = ((pI p).map (cntR kk (kx true) (ky true))).map (Value.int .i64) by rw [hCN]; unfold pI; rw [List.map_map, List.map_map]; rfl)
      clear hCN
      go_wp2_with fail
      go_loopg [9, 50] p.code.length (fun gk lv iv wx => ∃ (j : Nat) (A' : Option Addr) (c' : Nat), j + gk = p.code.length ∧ iv = .int .i64 j ∧ lv = .slice A' j c' ∧ Ws.Own wx b4 3 A' c' ((p.code.map CN).take j) ∧ Same w4 wx)
      case atStart => exact ⟨0, none, 0, by omega, rfl, rfl, own_nil _ _ _, Same.refl _⟩
      case round =>
       obtain ⟨j, A', c', hk, rfl, rfl, ho, sx⟩ := hrel
       have HO := Lib.hid ho
       have HSX := Lib.hid sx
       have HSW := Lib.hid (HS4.out.trans sx)
       have HS0W := Lib.hid (HS4a.out.trans sx)
       have c0' := sx.cell c0
       have c1' := sx.cell c1
       have t6' := sx.cell t6
       clear ho sx c0 c1 t6
       cases gk with
       | zero =>
        obtain rfl : j = p.code.length := by omega
        have hge : ¬ (p.code.length : Int) < (p.code.length : Int) := by omega
        have HR := Lib.hid (show Row wr A' (((pI p).map (cntR kk (kx true) (ky true))).map (Value.int .i64)) from by rw [← HLN.out]; have := HO.out.row; rwa [show p.code.length = (p.code.map CN).length from (List.length_map ..).symm, List.take_length] at this)
        have MO := Lib.hid (Cs.rmost_any X p.code.length cX (pI p) A' c' ((pI p).map (cntR kk (kx true) (ky true))) wr (by unfold pI; rw [List.length_map]) (prgI (HCW.out.same HS0W.out)) HR.out (by unfold pI; rw [List.length_map, List.length_map]) HOK.out)
        rw [← wei_ok HOK.out kk true] at MO
        generalize Cs.weI true (pI p) ((pI p).map (cntI kk (kx true) (ky true))) = wv at *
        go_wp2_with fail
        refine MO.out.mono ?_
        rintro e w5 ⟨rfl, s5⟩
        go_wp2_with fail
        go_ret
        exact ⟨by rw [HD.out]; rfl, HSW.out.trans s5⟩
       | succ GK =>
        have hlt : (j : Int) < p.code.length := by omega
        have hj0 : (0 : Int) ≤ j := by omega
        have HJL := Lib.hid (show j < p.code.length by omega)
        have HJK := Lib.hid hk
        clear hk
        obtain ⟨xj, hxj⟩ : ∃ xj, p.code[j]? = some xj := ⟨p.code[j], List.getElem?_eq_getElem HJL.out⟩
        have HJ := Lib.hid hxj
        clear hxj
        obtain ⟨hxn, bX, oX, rfl, y0, y1, y2, y3, y4⟩ := (HCW.out.same HS0W.out).at_ HJ.out
        have HQ5 := Lib.hid (Blk.new wr 70 #[.int .i64 xj.op, .int .i64 xj.a, .int .i64 xj.b, .int .i64 xj.c, .int .u32 xj.n])
        have HO5 := Lib.hid (HO.out.same ((Same.refl wr).alloc (.cells #[.int .i64 xj.op, .int .i64 xj.a, .int .i64 xj.b, .int .i64 xj.c, .int .u32 xj.n] 70)))
        have HX5 := Lib.hid (HSX.out.alloc (.cells #[.int .i64 xj.op, .int .i64 xj.a, .int .i64 xj.b, .int .i64 xj.c, .int .u32 xj.n] 70))
        go_upto_region 8 with fail
        generalize wr.alloc (.cells #[.int .i64 xj.op, .int .i64 xj.a, .int .i64 xj.b, .int .i64 xj.c, .int .u32 xj.n] 70) = w5 at *
        generalize wr.heap.size = q5 at *
        obtain ⟨v0, v2⟩ := (⟨HQ5.out.cell 0, HQ5.out.cell 2⟩ : _ ∧ _)
        simp only [Ws.q_] at v0 v2
        clear y0 y1 y2 y3 y4 HSX HSW c0' c1' t6'
        by_cases ha : xj.op = 18
        ·have ea : (xj.op == 18) = true := by simpa using ha
         have HA := Lib.hid ha
         clear ha
         by_cases hb : xj.b = (kk : Int)
         ·have eb : (xj.b == (kk : Int)) = true := by simpa using hb
          have HBK := Lib.hid hb
          clear hb
          have HV := Lib.hid (show cntR kk (kx true) (ky true) (fpI xj) = 1 from by unfold cntR fpI kx ky; simp only; exact if_pos ⟨.inl HA.out, HBK.out⟩)
          go_wp2_with (at_builtin; go_loud (refine wpList_app rfl (.tmp 91) (.tmp 93) 32 rfl b4 3 i0 _ 8 Tryz.underlying32 hi hz0 hz1 hz2 rfl A' j c' ((p.code.map CN).take j) rfl ?c1 (HO5.out.same ((Same.refl _).alloc _)) _ 1 1 [.int .i64 1] rfl rfl (row_new _ _ _) ?c2 ?c3 (by omega) ?c4 ?_))
          case c1 => rw [List.length_take, List.length_map]; have := HJL.out; omega
          case c2 => intro u hu; simp at hu; subst hu; rfl
          case c3 => rw [List.length_take, List.length_map]; simp; omega
          case c4 => have := HB4.out; have := HX5.out.size; simp; omega
          intro A2 c2' w8 ho2 hc2 _
          have HS8 := Lib.hid (Same.more (HX5.out.alloc _) hc2 (fun g hg => by have := own_low HO.out hg; have := HB4.out; omega))
          rw [show (p.code.map CN).take j ++ [.int .i64 1] = (p.code.map CN).take (j + 1) from by rw [take_snoc (p.code.map CN) (v := CN xj) (by rw [List.getElem?_map, HJ.out]; rfl), ← HCN.out, HV.out]] at ho2
          have HO8 := Lib.hid ho2
          clear ho2 hc2
          go_wp2_with fail
          go_roundg GK
          case rel => exact ⟨j + 1, A2, c2', by have := HJK.out; omega, by go_num, rfl, HO8.out, HS8.out⟩
          case measure => omega
         ·have eb : (xj.b == (kk : Int)) = false := by simpa using hb
          have HBK := Lib.hid hb
          clear hb
          have HV := Lib.hid (show cntR kk (kx true) (ky true) (fpI xj) = 0 from by unfold cntR fpI kx ky; simp only; exact if_neg (fun h => HBK.out h.2))
          go_wp2_with (at_builtin; go_loud (refine wpList_app rfl (.tmp 91) (.tmp 93) 32 rfl b4 3 i0 _ 8 Tryz.underlying32 hi hz0 hz1 hz2 rfl A' j c' ((p.code.map CN).take j) rfl ?c1 (HO5.out.same ((Same.refl _).alloc _)) _ 1 1 [.int .i64 0] rfl rfl (row_new _ _ _) ?c2 ?c3 (by omega) ?c4 ?_))
          case c1 => rw [List.length_take, List.length_map]; have := HJL.out; omega
          case c2 => intro u hu; simp at hu; subst hu; rfl
          case c3 => rw [List.length_take, List.length_map]; simp; omega
          case c4 => have := HB4.out; have := HX5.out.size; simp; omega
          intro A2 c2' w8 ho2 hc2 _
          have HS8 := Lib.hid (Same.more (HX5.out.alloc _) hc2 (fun g hg => by have := own_low HO.out hg; have := HB4.out; omega))
          rw [show (p.code.map CN).take j ++ [.int .i64 0] = (p.code.map CN).take (j + 1) from by rw [take_snoc (p.code.map CN) (v := CN xj) (by rw [List.getElem?_map, HJ.out]; rfl), ← HCN.out, HV.out]] at ho2
          have HO8 := Lib.hid ho2
          clear ho2 hc2
          go_wp2_with fail
          go_roundg GK
          case rel => exact ⟨j + 1, A2, c2', by have := HJK.out; omega, by go_num, rfl, HO8.out, HS8.out⟩
          case measure => omega
        ·have ea : (xj.op == 18) = false := by simpa using ha
         have HA := Lib.hid ha
         clear ha
         by_cases hc : xj.op = 19
         ·have ec : (xj.op == 19) = true := by simpa using hc
          have HCC := Lib.hid hc
          clear hc
          by_cases hb : xj.b = (kk : Int)
          ·have eb : (xj.b == (kk : Int)) = true := by simpa using hb
           have HBK := Lib.hid hb
           clear hb
           have HV := Lib.hid (show cntR kk (kx true) (ky true) (fpI xj) = 1 from by unfold cntR fpI kx ky; simp only; exact if_pos ⟨.inr HCC.out, HBK.out⟩)
           go_wp2_with (at_builtin; go_loud (refine wpList_app rfl (.tmp 91) (.tmp 93) 32 rfl b4 3 i0 _ 8 Tryz.underlying32 hi hz0 hz1 hz2 rfl A' j c' ((p.code.map CN).take j) rfl ?c1 (HO5.out.same ((Same.refl _).alloc _)) _ 1 1 [.int .i64 1] rfl rfl (row_new _ _ _) ?c2 ?c3 (by omega) ?c4 ?_))
           case c1 => rw [List.length_take, List.length_map]; have := HJL.out; omega
           case c2 => intro u hu; simp at hu; subst hu; rfl
           case c3 => rw [List.length_take, List.length_map]; simp; omega
           case c4 => have := HB4.out; have := HX5.out.size; simp; omega
           intro A2 c2' w8 ho2 hc2 _
           have HS8 := Lib.hid (Same.more (HX5.out.alloc _) hc2 (fun g hg => by have := own_low HO.out hg; have := HB4.out; omega))
           rw [show (p.code.map CN).take j ++ [.int .i64 1] = (p.code.map CN).take (j + 1) from by rw [take_snoc (p.code.map CN) (v := CN xj) (by rw [List.getElem?_map, HJ.out]; rfl), ← HCN.out, HV.out]] at ho2
           have HO8 := Lib.hid ho2
           clear ho2 hc2
           go_wp2_with fail
           go_roundg GK
           case rel => exact ⟨j + 1, A2, c2', by have := HJK.out; omega, by go_num, rfl, HO8.out, HS8.out⟩
           case measure => omega
          ·have eb : (xj.b == (kk : Int)) = false := by simpa using hb
           have HBK := Lib.hid hb
           clear hb
           have HV := Lib.hid (show cntR kk (kx true) (ky true) (fpI xj) = 0 from by unfold cntR fpI kx ky; simp only; exact if_neg (fun h => HBK.out h.2))
           go_wp2_with (at_builtin; go_loud (refine wpList_app rfl (.tmp 91) (.tmp 93) 32 rfl b4 3 i0 _ 8 Tryz.underlying32 hi hz0 hz1 hz2 rfl A' j c' ((p.code.map CN).take j) rfl ?c1 (HO5.out.same ((Same.refl _).alloc _)) _ 1 1 [.int .i64 0] rfl rfl (row_new _ _ _) ?c2 ?c3 (by omega) ?c4 ?_))
           case c1 => rw [List.length_take, List.length_map]; have := HJL.out; omega
           case c2 => intro u hu; simp at hu; subst hu; rfl
           case c3 => rw [List.length_take, List.length_map]; simp; omega
           case c4 => have := HB4.out; have := HX5.out.size; simp; omega
           intro A2 c2' w8 ho2 hc2 _
           have HS8 := Lib.hid (Same.more (HX5.out.alloc _) hc2 (fun g hg => by have := own_low HO.out hg; have := HB4.out; omega))
           rw [show (p.code.map CN).take j ++ [.int .i64 0] = (p.code.map CN).take (j + 1) from by rw [take_snoc (p.code.map CN) (v := CN xj) (by rw [List.getElem?_map, HJ.out]; rfl), ← HCN.out, HV.out]] at ho2
           have HO8 := Lib.hid ho2
           clear ho2 hc2
           go_wp2_with fail
           go_roundg GK
           case rel => exact ⟨j + 1, A2, c2', by have := HJK.out; omega, by go_num, rfl, HO8.out, HS8.out⟩
           case measure => omega
         ·have ec : (xj.op == 19) = false := by simpa using hc
          have HCC := Lib.hid hc
          clear hc
          have HV := Lib.hid (show cntR kk (kx true) (ky true) (fpI xj) = 0 from by unfold cntR fpI kx ky; simp only; exact if_neg (fun h => h.1.elim HA.out HCC.out))
          go_wp2_with (at_builtin; go_loud (refine wpList_app rfl (.tmp 91) (.tmp 93) 32 rfl b4 3 i0 _ 8 Tryz.underlying32 hi hz0 hz1 hz2 rfl A' j c' ((p.code.map CN).take j) rfl ?c1 (HO5.out.same ((Same.refl _).alloc _)) _ 1 1 [.int .i64 0] rfl rfl (row_new _ _ _) ?c2 ?c3 (by omega) ?c4 ?_))
          case c1 => rw [List.length_take, List.length_map]; have := HJL.out; omega
          case c2 => intro u hu; simp at hu; subst hu; rfl
          case c3 => rw [List.length_take, List.length_map]; simp; omega
          case c4 => have := HB4.out; have := HX5.out.size; simp; omega
          intro A2 c2' w8 ho2 hc2 _
          have HS8 := Lib.hid (Same.more (HX5.out.alloc _) hc2 (fun g hg => by have := own_low HO.out hg; have := HB4.out; omega))
          rw [show (p.code.map CN).take j ++ [.int .i64 0] = (p.code.map CN).take (j + 1) from by rw [take_snoc (p.code.map CN) (v := CN xj) (by rw [List.getElem?_map, HJ.out]; rfl), ← HCN.out, HV.out]] at ho2
          have HO8 := Lib.hid ho2
          clear ho2 hc2
          go_wp2_with fail
          go_roundg GK
          case rel => exact ⟨j + 1, A2, c2', by have := HJK.out; omega, by go_num, rfl, HO8.out, HS8.out⟩
          case measure => omega

set_option maxRecDepth 100000 in
set_option maxHeartbeats 8000000 in
theorem rcalls_false (A B : Option Addr) (n c m d : Nat) (s : PS) (i k : Int) (w : World) (hs : SysAt w A n B m s) (hnm : n ≤ maxLen ∧ m ≤ maxLen) (hf : ∀ p ∈ s.ts, p.code.length ≤ 200) :
 Calls Tryz.prog 34 #[.agg #[.slice A n c, .slice B m d], .int .i64 i, .int .i64 k, .bool false] w fun e w' => e = .returned (.int .i64 (demI s i k (kx false) (ky false))) ∧ Same w w' := by
 obtain ⟨i0, hi, hz0, hz1, hz2⟩ := info_parts int_inf
 have hbn : (n : Int) ≤ 9223372036854775807 ∧ (m : Int) ≤ 9223372036854775807 := by unfold maxLen at hnm; omega
 have s0 := (Same.refl w).alloc (.cells #[.slice A n c, .slice B m d] 25)
 have b0 := Blk.new w 25 #[.slice A n c, .slice B m d]
 obtain ⟨w0, hw0⟩ : ∃ w0, w0 = w.alloc (.cells #[.slice A n c, .slice B m d] 25) := ⟨_, rfl⟩
 rw [← hw0] at s0 b0
 have HE := Lib.hid hw0
 have c0 := b0.cell 0
 have c1 := b0.cell 1
 simp only [Ws.q_] at c0 c1
 have HS := Lib.hid hs
 have HF := Lib.hid hf
 have S0 := Lib.hid s0
 clear hs hf hw0 s0 b0
 go_enter Tryz.func34, Tryz.ntmps34
 go_upto_region 1 with fail
 rw [← HE.out]
 clear HE
 by_cases h1 : i < 0
 ·have HD := Lib.hid (show demI s i k (kx false) (ky false) = 0 from dem_out (.inl (.inl h1)))
  go_wp2_with fail
  go_ret
  exact ⟨by rw [HD.out]; rfl, S0.out⟩
 ·by_cases h2 : i ≥ n
  ·have HD := Lib.hid (show demI s i k (kx false) (ky false) = 0 from dem_out (.inl (.inr (by rw [HS.out.hn]; exact h2))))
   go_wp2_with fail
   go_ret
   exact ⟨by rw [HD.out]; rfl, S0.out⟩
  ·by_cases h3 : k < 0
   ·have HD := Lib.hid (show demI s i k (kx false) (ky false) = 0 from dem_out (.inr (.inl h3)))
    go_wp2_with fail
    go_ret
    exact ⟨by rw [HD.out]; rfl, S0.out⟩
   ·by_cases h4 : k ≥ m
    ·have HD := Lib.hid (show demI s i k (kx false) (ky false) = 0 from dem_out (.inr (.inr (by rw [HS.out.hm]; exact h4))))
     go_wp2_with fail
     go_ret
     exact ⟨by rw [HD.out]; rfl, S0.out⟩
    ·obtain ⟨ki, rfl⟩ : ∃ ki : Nat, i = ki := ⟨i.toNat, by omega⟩
     obtain ⟨kk, rfl⟩ : ∃ kk : Nat, k = kk := ⟨k.toNat, by omega⟩
     have hki : ki < s.ts.length := by rw [HS.out.hn]; omega
     obtain ⟨p, hp⟩ : ∃ p, s.ts[ki]? = some p := ⟨s.ts[ki], List.getElem?_eq_getElem hki⟩
     have HP := Lib.hid hp
     have HLE := Lib.hid (HF.out p (List.mem_of_getElem? hp))
     have HD := Lib.hid (dem_in (x := kx false) (y := ky false) hp (show kk < s.os.length by rw [HS.out.hm]; omega))
     obtain ⟨bA, oA, rfl, X, cX, _, _, _, _, _, _, t6, hcode, _⟩ := (HS.out.ht.same S0.out).at_ hp
     have HCW := Lib.hid hcode
     have FI := Lib.hid (Fw.rfine_any X p.code.length cX (pI p) w0 (by unfold pI; rw [List.length_map]) (by have := HLE.out; omega) (prgI hcode))
     have h1' : (0 : Int) ≤ ki := by omega
     have h2' : (ki : Int) < n := by omega
     clear hp hki hcode
     go_wp2_with fail
     refine FI.out.mono ?_
     rintro e w4 ⟨rfl, s4⟩
     cases hok : Fw.okB (pI p) with
     | false =>
      have HDZ := Lib.hid (HD.out.trans (wei_no hok _ _ _))
      clear hok HD
      have S04 := Lib.hid (S0.out.trans s4)
      clear s4
      go_wp2_with fail
      go_ret
      exact ⟨by rw [HDZ.out]; rfl, S04.out⟩
     | true =>
      have HOK := Lib.hid hok
      have HS4a := Lib.hid s4
      have c0 := s4.cell c0
      have c1 := s4.cell c1
      have t6 := s4.cell t6
      have HS4 := Lib.hid (S0.out.trans s4)
      clear hok s4 FI
      have HLE2 := HLE.out
      obtain ⟨CN, hCN⟩ : ∃ CN : Im.Ins → Value, CN = fun i => Value.int .i64 (cntR kk (kx false) (ky false) (fpI i)) := ⟨_, rfl⟩
      have HCN := Lib.hid (fun i => (show Value.int .i64 (cntR kk (kx false) (ky false) (fpI i)) = CN i by rw [hCN]))
      obtain ⟨b4, hb4⟩ : ∃ b4, b4 = w4.heap.size := ⟨_, rfl⟩
      have HB4 := Lib.hid hb4
      clear hb4
      have HLN := Lib.hid (show (p.code.map CN) = ((pI p).map (cntR kk (kx false) (ky false))).map (Value.int .i64) by rw [hCN]; unfold pI; rw [List.map_map, List.map_map]; rfl)
      clear hCN
      go_wp2_with fail
      go_loopg [9, 50] p.code.length (fun gk lv iv wx => ∃ (j : Nat) (A' : Option Addr) (c' : Nat), j + gk = p.code.length ∧ iv = .int .i64 j ∧ lv = .slice A' j c' ∧ Ws.Own wx b4 3 A' c' ((p.code.map CN).take j) ∧ Same w4 wx)
      case atStart => exact ⟨0, none, 0, by omega, rfl, rfl, own_nil _ _ _, Same.refl _⟩
      case round =>
       obtain ⟨j, A', c', hk, rfl, rfl, ho, sx⟩ := hrel
       have HO := Lib.hid ho
       have HSX := Lib.hid sx
       have HSW := Lib.hid (HS4.out.trans sx)
       have HS0W := Lib.hid (HS4a.out.trans sx)
       have c0' := sx.cell c0
       have c1' := sx.cell c1
       have t6' := sx.cell t6
       clear ho sx c0 c1 t6
       cases gk with
       | zero =>
        obtain rfl : j = p.code.length := by omega
        have hge : ¬ (p.code.length : Int) < (p.code.length : Int) := by omega
        have HR := Lib.hid (show Row wr A' (((pI p).map (cntR kk (kx false) (ky false))).map (Value.int .i64)) from by rw [← HLN.out]; have := HO.out.row; rwa [show p.code.length = (p.code.map CN).length from (List.length_map ..).symm, List.take_length] at this)
        have MO := Lib.hid (Cs.rmost_any X p.code.length cX (pI p) A' c' ((pI p).map (cntR kk (kx false) (ky false))) wr (by unfold pI; rw [List.length_map]) (prgI (HCW.out.same HS0W.out)) HR.out (by unfold pI; rw [List.length_map, List.length_map]) HOK.out)
        rw [← wei_ok HOK.out kk false] at MO
        generalize Cs.weI true (pI p) ((pI p).map (cntI kk (kx false) (ky false))) = wv at *
        go_wp2_with fail
        refine MO.out.mono ?_
        rintro e w5 ⟨rfl, s5⟩
        go_wp2_with fail
        go_ret
        exact ⟨by rw [HD.out]; rfl, HSW.out.trans s5⟩
       | succ GK =>
        have hlt : (j : Int) < p.code.length := by omega
        have hj0 : (0 : Int) ≤ j := by omega
        have HJL := Lib.hid (show j < p.code.length by omega)
        have HJK := Lib.hid hk
        clear hk
        obtain ⟨xj, hxj⟩ : ∃ xj, p.code[j]? = some xj := ⟨p.code[j], List.getElem?_eq_getElem HJL.out⟩
        have HJ := Lib.hid hxj
        clear hxj
        obtain ⟨hxn, bX, oX, rfl, y0, y1, y2, y3, y4⟩ := (HCW.out.same HS0W.out).at_ HJ.out
        have HQ5 := Lib.hid (Blk.new wr 70 #[.int .i64 xj.op, .int .i64 xj.a, .int .i64 xj.b, .int .i64 xj.c, .int .u32 xj.n])
        have HO5 := Lib.hid (HO.out.same ((Same.refl wr).alloc (.cells #[.int .i64 xj.op, .int .i64 xj.a, .int .i64 xj.b, .int .i64 xj.c, .int .u32 xj.n] 70)))
        have HX5 := Lib.hid (HSX.out.alloc (.cells #[.int .i64 xj.op, .int .i64 xj.a, .int .i64 xj.b, .int .i64 xj.c, .int .u32 xj.n] 70))
        go_upto_region 8 with fail
        generalize wr.alloc (.cells #[.int .i64 xj.op, .int .i64 xj.a, .int .i64 xj.b, .int .i64 xj.c, .int .u32 xj.n] 70) = w5 at *
        generalize wr.heap.size = q5 at *
        obtain ⟨v0, v2⟩ := (⟨HQ5.out.cell 0, HQ5.out.cell 2⟩ : _ ∧ _)
        simp only [Ws.q_] at v0 v2
        clear y0 y1 y2 y3 y4 HSX HSW c0' c1' t6'
        by_cases ha : xj.op = 17
        ·have ea : (xj.op == 17) = true := by simpa using ha
         have HA := Lib.hid ha
         clear ha
         by_cases hb : xj.b = (kk : Int)
         ·have eb : (xj.b == (kk : Int)) = true := by simpa using hb
          have HBK := Lib.hid hb
          clear hb
          have HV := Lib.hid (show cntR kk (kx false) (ky false) (fpI xj) = 1 from by unfold cntR fpI kx ky; simp only; exact if_pos ⟨.inl HA.out, HBK.out⟩)
          go_wp2_with (at_builtin; go_loud (refine wpList_app rfl (.tmp 91) (.tmp 93) 32 rfl b4 3 i0 _ 8 Tryz.underlying32 hi hz0 hz1 hz2 rfl A' j c' ((p.code.map CN).take j) rfl ?c1 (HO5.out.same ((Same.refl _).alloc _)) _ 1 1 [.int .i64 1] rfl rfl (row_new _ _ _) ?c2 ?c3 (by omega) ?c4 ?_))
          case c1 => rw [List.length_take, List.length_map]; have := HJL.out; omega
          case c2 => intro u hu; simp at hu; subst hu; rfl
          case c3 => rw [List.length_take, List.length_map]; simp; omega
          case c4 => have := HB4.out; have := HX5.out.size; simp; omega
          intro A2 c2' w8 ho2 hc2 _
          have HS8 := Lib.hid (Same.more (HX5.out.alloc _) hc2 (fun g hg => by have := own_low HO.out hg; have := HB4.out; omega))
          rw [show (p.code.map CN).take j ++ [.int .i64 1] = (p.code.map CN).take (j + 1) from by rw [take_snoc (p.code.map CN) (v := CN xj) (by rw [List.getElem?_map, HJ.out]; rfl), ← HCN.out, HV.out]] at ho2
          have HO8 := Lib.hid ho2
          clear ho2 hc2
          go_wp2_with fail
          go_roundg GK
          case rel => exact ⟨j + 1, A2, c2', by have := HJK.out; omega, by go_num, rfl, HO8.out, HS8.out⟩
          case measure => omega
         ·have eb : (xj.b == (kk : Int)) = false := by simpa using hb
          have HBK := Lib.hid hb
          clear hb
          have HV := Lib.hid (show cntR kk (kx false) (ky false) (fpI xj) = 0 from by unfold cntR fpI kx ky; simp only; exact if_neg (fun h => HBK.out h.2))
          go_wp2_with (at_builtin; go_loud (refine wpList_app rfl (.tmp 91) (.tmp 93) 32 rfl b4 3 i0 _ 8 Tryz.underlying32 hi hz0 hz1 hz2 rfl A' j c' ((p.code.map CN).take j) rfl ?c1 (HO5.out.same ((Same.refl _).alloc _)) _ 1 1 [.int .i64 0] rfl rfl (row_new _ _ _) ?c2 ?c3 (by omega) ?c4 ?_))
          case c1 => rw [List.length_take, List.length_map]; have := HJL.out; omega
          case c2 => intro u hu; simp at hu; subst hu; rfl
          case c3 => rw [List.length_take, List.length_map]; simp; omega
          case c4 => have := HB4.out; have := HX5.out.size; simp; omega
          intro A2 c2' w8 ho2 hc2 _
          have HS8 := Lib.hid (Same.more (HX5.out.alloc _) hc2 (fun g hg => by have := own_low HO.out hg; have := HB4.out; omega))
          rw [show (p.code.map CN).take j ++ [.int .i64 0] = (p.code.map CN).take (j + 1) from by rw [take_snoc (p.code.map CN) (v := CN xj) (by rw [List.getElem?_map, HJ.out]; rfl), ← HCN.out, HV.out]] at ho2
          have HO8 := Lib.hid ho2
          clear ho2 hc2
          go_wp2_with fail
          go_roundg GK
          case rel => exact ⟨j + 1, A2, c2', by have := HJK.out; omega, by go_num, rfl, HO8.out, HS8.out⟩
          case measure => omega
        ·have ea : (xj.op == 17) = false := by simpa using ha
         have HA := Lib.hid ha
         clear ha
         by_cases hc : xj.op = 20
         ·have ec : (xj.op == 20) = true := by simpa using hc
          have HCC := Lib.hid hc
          clear hc
          by_cases hb : xj.b = (kk : Int)
          ·have eb : (xj.b == (kk : Int)) = true := by simpa using hb
           have HBK := Lib.hid hb
           clear hb
           have HV := Lib.hid (show cntR kk (kx false) (ky false) (fpI xj) = 1 from by unfold cntR fpI kx ky; simp only; exact if_pos ⟨.inr HCC.out, HBK.out⟩)
           go_wp2_with (at_builtin; go_loud (refine wpList_app rfl (.tmp 91) (.tmp 93) 32 rfl b4 3 i0 _ 8 Tryz.underlying32 hi hz0 hz1 hz2 rfl A' j c' ((p.code.map CN).take j) rfl ?c1 (HO5.out.same ((Same.refl _).alloc _)) _ 1 1 [.int .i64 1] rfl rfl (row_new _ _ _) ?c2 ?c3 (by omega) ?c4 ?_))
           case c1 => rw [List.length_take, List.length_map]; have := HJL.out; omega
           case c2 => intro u hu; simp at hu; subst hu; rfl
           case c3 => rw [List.length_take, List.length_map]; simp; omega
           case c4 => have := HB4.out; have := HX5.out.size; simp; omega
           intro A2 c2' w8 ho2 hc2 _
           have HS8 := Lib.hid (Same.more (HX5.out.alloc _) hc2 (fun g hg => by have := own_low HO.out hg; have := HB4.out; omega))
           rw [show (p.code.map CN).take j ++ [.int .i64 1] = (p.code.map CN).take (j + 1) from by rw [take_snoc (p.code.map CN) (v := CN xj) (by rw [List.getElem?_map, HJ.out]; rfl), ← HCN.out, HV.out]] at ho2
           have HO8 := Lib.hid ho2
           clear ho2 hc2
           go_wp2_with fail
           go_roundg GK
           case rel => exact ⟨j + 1, A2, c2', by have := HJK.out; omega, by go_num, rfl, HO8.out, HS8.out⟩
           case measure => omega
          ·have eb : (xj.b == (kk : Int)) = false := by simpa using hb
           have HBK := Lib.hid hb
           clear hb
           have HV := Lib.hid (show cntR kk (kx false) (ky false) (fpI xj) = 0 from by unfold cntR fpI kx ky; simp only; exact if_neg (fun h => HBK.out h.2))
           go_wp2_with (at_builtin; go_loud (refine wpList_app rfl (.tmp 91) (.tmp 93) 32 rfl b4 3 i0 _ 8 Tryz.underlying32 hi hz0 hz1 hz2 rfl A' j c' ((p.code.map CN).take j) rfl ?c1 (HO5.out.same ((Same.refl _).alloc _)) _ 1 1 [.int .i64 0] rfl rfl (row_new _ _ _) ?c2 ?c3 (by omega) ?c4 ?_))
           case c1 => rw [List.length_take, List.length_map]; have := HJL.out; omega
           case c2 => intro u hu; simp at hu; subst hu; rfl
           case c3 => rw [List.length_take, List.length_map]; simp; omega
           case c4 => have := HB4.out; have := HX5.out.size; simp; omega
           intro A2 c2' w8 ho2 hc2 _
           have HS8 := Lib.hid (Same.more (HX5.out.alloc _) hc2 (fun g hg => by have := own_low HO.out hg; have := HB4.out; omega))
           rw [show (p.code.map CN).take j ++ [.int .i64 0] = (p.code.map CN).take (j + 1) from by rw [take_snoc (p.code.map CN) (v := CN xj) (by rw [List.getElem?_map, HJ.out]; rfl), ← HCN.out, HV.out]] at ho2
           have HO8 := Lib.hid ho2
           clear ho2 hc2
           go_wp2_with fail
           go_roundg GK
           case rel => exact ⟨j + 1, A2, c2', by have := HJK.out; omega, by go_num, rfl, HO8.out, HS8.out⟩
           case measure => omega
         ·have ec : (xj.op == 20) = false := by simpa using hc
          have HCC := Lib.hid hc
          clear hc
          have HV := Lib.hid (show cntR kk (kx false) (ky false) (fpI xj) = 0 from by unfold cntR fpI kx ky; simp only; exact if_neg (fun h => h.1.elim HA.out HCC.out))
          go_wp2_with (at_builtin; go_loud (refine wpList_app rfl (.tmp 91) (.tmp 93) 32 rfl b4 3 i0 _ 8 Tryz.underlying32 hi hz0 hz1 hz2 rfl A' j c' ((p.code.map CN).take j) rfl ?c1 (HO5.out.same ((Same.refl _).alloc _)) _ 1 1 [.int .i64 0] rfl rfl (row_new _ _ _) ?c2 ?c3 (by omega) ?c4 ?_))
          case c1 => rw [List.length_take, List.length_map]; have := HJL.out; omega
          case c2 => intro u hu; simp at hu; subst hu; rfl
          case c3 => rw [List.length_take, List.length_map]; simp; omega
          case c4 => have := HB4.out; have := HX5.out.size; simp; omega
          intro A2 c2' w8 ho2 hc2 _
          have HS8 := Lib.hid (Same.more (HX5.out.alloc _) hc2 (fun g hg => by have := own_low HO.out hg; have := HB4.out; omega))
          rw [show (p.code.map CN).take j ++ [.int .i64 0] = (p.code.map CN).take (j + 1) from by rw [take_snoc (p.code.map CN) (v := CN xj) (by rw [List.getElem?_map, HJ.out]; rfl), ← HCN.out, HV.out]] at ho2
          have HO8 := Lib.hid ho2
          clear ho2 hc2
          go_wp2_with fail
          go_roundg GK
          case rel => exact ⟨j + 1, A2, c2', by have := HJK.out; omega, by go_num, rfl, HO8.out, HS8.out⟩
          case measure => omega
end Go.Proofs.YthhbhbfkbncegaaGreatDoor.Dm
end
section
section
section
set_option linter.unusedVariables false
set_option linter.unusedSimpArgs false
namespace Go.Proofs.YthhbhbfkbncegaaGreatDoor.Dm
open Go.ChangeShapes Go.WideShapes Go.ChangeAt Go.RowKit Ws
open Im (PT PO PS TsAt OsAt SysAt tcells ocells)
open Go.Proofs.YthhbhbfkbncegaaGreatDoor.Is (callB callV rightB)

def boundO (o : PO) (op : Int) : Int := Fc.boundF o.k o.wd o.sl o.cp o.sa o.ini.length o.rd.length op
theorem aft_bound (o : PO) (op fails : Int) : (0 < boundO o op → 1 ≤ aftO o op fails) ∧ (¬ 0 < boundO o op → aftO o op fails = 0) := by
 unfold boundO aftO
 have hb := Bd.after_bd o.k o.wd o.sl o.cp o.sa o.ini.length o.rd.length op fails
 have hbb := Bd.bound_bd o.k o.wd o.sl o.cp o.sa o.ini.length o.rd.length op
 cases ht : Bd.trB o.k o.wd o.sl o.cp o.sa o.ini.length o.rd.length op
 ·have e : Bd.afterI o.k o.wd o.sl o.cp o.sa o.ini.length o.rd.length op fails = Fc.boundF o.k o.wd o.sl o.cp o.sa o.ini.length o.rd.length op := by
   unfold Bd.afterI Bd.cleanI Bd.failI
   rw [ht]
   simp
  rw [e]
  exact ⟨fun h => by omega, fun h => by omega⟩
 ·obtain ⟨_, _, _, h4, h5, h6⟩ := Bd.tr_yes ht
  have e1 : 3 ≤ Bd.endI o.k o.wd o.sl o.cp o.sa o.ini.length o.rd.length op := by
   unfold Bd.endI
   rw [if_pos ht]
   split <;> omega
  have e2 : ∀ f, Bd.afterI o.k o.wd o.sl o.cp o.sa o.ini.length o.rd.length op f = Bd.endI o.k o.wd o.sl o.cp o.sa o.ini.length o.rd.length op + Bd.failI o.k o.wd o.sl o.cp o.sa o.ini.length o.rd.length op * Wd.clamp f 0 (Bd.lastI o.cp) := fun f => by
   unfold Bd.afterI Bd.cleanI
   rw [if_pos ht]
  have e3 := Bd.after_cap o.k o.wd o.sl o.cp o.sa o.ini.length o.rd.length op
  have e4 := Bd.after_bd o.k o.wd o.sl o.cp o.sa o.ini.length o.rd.length op o.cp
  rw [e2] at e3
  rw [e2]
  exact ⟨fun _ => by omega, fun h => by omega⟩
theorem fitB_call : ∀ op : Int, 17 ≤ op ∧ op ≤ 20 → Is.loL.getD (Is.hasC op.toNat 1) 0 = 0 := by
 intro op h
 have : op = 17 ∨ op = 18 ∨ op = 19 ∨ op = 20 := by omega
 rcases this with rfl | rfl | rfl | rfl <;> decide +kernel
theorem call_b {x : Im.Ins} (h : rightB x.op x.a x.b x.c x.n = true) (hc : callB x.op = true) : 0 ≤ x.b := by
 unfold callB at hc
 rw [decide_eq_true_eq] at hc
 have e := fitB_call x.op hc
 unfold rightB at h
 simp only [Bool.and_eq_true] at h
 have h2 := h.2.2.1
 unfold Is.fitB at h2
 rw [e] at h2
 simp at h2
 omega
/-- the weight as the document says it -/
theorem wgt_doc (s : PS) (fails : Int) (x : Im.Ins) : wgtI s fails x = if 0 < callV x.op ∧ rightB x.op x.a x.b x.c x.n = true ∧ x.b < s.os.length ∧ 0 < boundO (s.os.getD x.b.toNat default) (callV x.op) then aftO (s.os.getD x.b.toNat default) (callV x.op) fails else 1 := by
 have hcv : callB x.op = true ↔ 0 < callV x.op := by
  unfold callB callV
  rw [decide_eq_true_eq]
  split <;> omega
 unfold wgtI
 by_cases h1 : rightB x.op x.a x.b x.c x.n = true
 ·by_cases h2 : callB x.op = true
  ·have hb := call_b h1 h2
   by_cases h3 : x.b < s.os.length
   ·have ha := aft_bound (s.os.getD x.b.toNat default) (callV x.op) fails
    rw [if_pos ⟨by rw [h1, h2]; rfl, hb, h3⟩]
    by_cases h4 : 0 < boundO (s.os.getD x.b.toNat default) (callV x.op)
    ·rw [if_pos ⟨hcv.1 h2, h1, h3, h4⟩]
     have := ha.1 h4
     omega
    ·rw [if_neg (fun h => h4 h.2.2.2), ha.2 h4]
     rfl
   ·rw [if_neg (fun h => h3 h.2.2), if_neg (fun h => h3 h.2.2.1)]
  ·have h2' : callB x.op = false := by simpa using h2
   rw [if_neg (fun h => by rw [h2', Bool.and_false] at h; cases h.1), if_neg (fun h => h2 (hcv.2 h.1))]
 ·have h1' : rightB x.op x.a x.b x.c x.n = false := by simpa using h1
  rw [if_neg (fun h => by rw [h1', Bool.false_and] at h; cases h.1), if_neg (fun h => h1 h.2.1)]
end Go.Proofs.YthhbhbfkbncegaaGreatDoor.Dm
end
section
set_option linter.unusedVariables false
set_option linter.unusedSimpArgs false
namespace Go.Proofs.YthhbhbfkbncegaaGreatDoor.Dm
open Go.ChangeShapes Go.WideShapes Go.ChangeAt Go.RowKit Ws
open Im (PT PO PS TsAt OsAt SysAt tcells ocells)
open Go.Proofs.YthhbhbfkbncegaaGreatDoor.Is (callB callV rightB)
theorem callV_b {op : Int} (h : 0 < callV op) : callB op = true := by
 unfold callV at h
 unfold callB
 rw [decide_eq_true_eq]
 split at h
 ·assumption
 ·omega
set_option maxRecDepth 100000 in
set_option maxHeartbeats 8000000 in
theorem rweights_any (A B : Option Addr) (n c m d : Nat) (s : PS) (ki : Nat) (p : PT) (fails : Int) (w : World) (hs : SysAt w A n B m s) (hp : s.ts[ki]? = some p) (hf : p.code.length ≤ 200) (hfl : fails ≤ 100) :
 Calls Tryz.prog 68 #[.agg #[.slice A n c, .slice B m d], .int .i64 ki, .int .i64 fails] w (WgtP w (p.code.map (wgtI s fails))) := by
 obtain ⟨i0, hi, hz0, hz1, hz2⟩ := info_parts int_inf
 obtain ⟨w0, hw0⟩ : ∃ w0, w0 = w.alloc (.cells #[.slice A n c, .slice B m d] 25) := ⟨_, rfl⟩
 have s0 : Same w w0 := hw0 ▸ (Same.refl w).alloc _
 have b0 : Blk w0 w.heap.size 25 #[.slice A n c, .slice B m d] := hw0 ▸ Blk.new w _ _
 have hkn : ki < n := by have := (List.getElem?_eq_some_iff.1 hp).1; have := hs.hn; omega
 obtain ⟨bA, oA, rfl, X, cX, _, _, _, _, _, _, t6, hcode, _⟩ := (hs.ht.same s0).at_ hp
 have HE0 := Lib.hid hw0
 have c0 := b0.cell 0
 simp only [Ws.q_] at c0
 have S0 := Lib.hid s0
 have B0 := Lib.hid b0
 have HCW := Lib.hid hcode
 have HLE := Lib.hid hf
 have HO_ := Lib.hid (hs.ho.same s0)
 have HM := Lib.hid hs.hm
 have HFL := Lib.hid hfl
 have hk1 : (ki : Int) < n := by omega
 have hk0 : (0 : Int) ≤ ki := by omega
 clear hw0 s0 b0 hs hf hp hcode hkn hfl
 go_enter Tryz.func68, Tryz.ntmps68
 go_upto_region 1 with fail
 rw [← HE0.out]
 clear HE0
 generalize hq0 : w.heap.size = q0 at *
 clear hq0
 have HLE2 := HLE.out
 obtain ⟨CN, hCN⟩ : ∃ CN : Im.Ins → Value, CN = fun x => Value.int .i64 (wgtI s fails x) := ⟨_, rfl⟩
 have HCN := Lib.hid (fun x => (show Value.int .i64 (wgtI s fails x) = CN x by rw [hCN]))
 obtain ⟨b4, hb4⟩ : ∃ b4, b4 = w0.heap.size := ⟨_, rfl⟩
 have HB4 := Lib.hid hb4
 clear hb4
 have HLN := Lib.hid (show (p.code.map CN) = (p.code.map (wgtI s fails)).map (Value.int .i64) by rw [hCN, List.map_map]; rfl)
 clear hCN
 go_wp2_with fail
 go_loopg [7, 19] p.code.length (fun gk lv iv wx => ∃ (j : Nat) (A' : Option Addr) (c' : Nat), j + gk = p.code.length ∧ iv = .int .i64 j ∧ lv = .slice A' j c' ∧ Ws.Own wx b4 3 A' c' ((p.code.map CN).take j) ∧ Same w0 wx)
 case atStart => exact ⟨0, none, 0, by omega, rfl, rfl, own_nil _ _ _, Same.refl _⟩
 case round =>
  clear c0 t6
  obtain ⟨j, A', c', hk, rfl, rfl, ho, sx⟩ := hrel
  have HO := Lib.hid ho
  have HSX := Lib.hid sx
  clear ho sx
  cases gk with
  | zero =>
   obtain rfl : j = p.code.length := by omega
   have hge : ¬ (p.code.length : Int) < (p.code.length : Int) := by omega
   have HR := Lib.hid (show Row wr A' ((p.code.map (wgtI s fails)).map (Value.int .i64)) from by rw [← HLN.out]; have := HO.out.row; rwa [show p.code.length = (p.code.map CN).length from (List.length_map ..).symm, List.take_length] at this)
   go_wp2_with fail
   go_ret
   exact wgt_mk (by rw [List.length_map]) HR.out (S0.out.trans HSX.out)
  | succ GK =>
   have hlt : (j : Int) < p.code.length := by omega
   have hj0 : (0 : Int) ≤ j := by omega
   have HJL := Lib.hid (show j < p.code.length by omega)
   have HJK := Lib.hid hk
   clear hk
   obtain ⟨⟨op, ia, ib, ic, iN⟩, hxj⟩ : ∃ xj : Im.Ins, p.code[j]? = some xj := ⟨p.code[j], List.getElem?_eq_getElem HJL.out⟩
   have HJ := Lib.hid hxj
   clear hxj
   obtain ⟨hxn, bX, oX, rfl, y0, y1, y2, y3, y4⟩ := (HCW.out.same HSX.out).at_ HJ.out
   dsimp only at hxn y0 y1 y2 y3 y4
   have HQ5 := Lib.hid (Blk.new wr 70 #[.int .i64 op, .int .i64 ia, .int .i64 ib, .int .i64 ic, .int .u32 iN])
   have HO5 := Lib.hid (HO.out.same ((Same.refl wr).alloc (.cells #[.int .i64 op, .int .i64 ia, .int .i64 ib, .int .i64 ic, .int .u32 iN] 70)))
   have HX5 := Lib.hid (HSX.out.alloc (.cells #[.int .i64 op, .int .i64 ia, .int .i64 ib, .int .i64 ic, .int .u32 iN] 70))
   have HWD := Lib.hid (wgt_doc s fails ⟨op, ia, ib, ic, iN⟩)
   go_upto_region 6 with fail
   generalize wr.alloc (.cells #[.int .i64 op, .int .i64 ia, .int .i64 ib, .int .i64 ic, .int .u32 iN] 70) = w5 at *
   generalize wr.heap.size = q5 at *
   obtain ⟨v0, v1, v2, v3, v4⟩ := (⟨HQ5.out.cell 0, HQ5.out.cell 1, HQ5.out.cell 2, HQ5.out.cell 3, HQ5.out.cell 4⟩ : _ ∧ _ ∧ _ ∧ _ ∧ _)
   have HB5 := Lib.hid (B0.out.same HX5.out)
   have u1 := HB5.out.cell 1
   simp only [Ws.q_] at v0 v1 v2 v3 v4 u1
   have RC := Lib.hid (Is.rcalls_any op w5)
   clear y0 y1 y2 y3 y4 HSX
   go_wp2_with fail
   refine RC.out.mono ?_
   rintro e w5 ⟨rfl, rfl⟩
   clear RC
   by_cases h1 : 0 < callV op
   ·have RR := Lib.hid (show Calls Tryz.prog 89 #[.agg #[.int .i64 op, .int .i64 ia, .int .i64 ib, .int .i64 ic, .int .u32 iN]] w5 fun e w' => e = .returned (.bool (rightB op ia ib ic iN)) ∧ Same w5 w' from Is.rright_any op ia ib ic iN hxn w5)
    cases hr : rightB op ia ib ic iN with
    | false =>
     have HR1 := Lib.hid hr
     rw [hr] at RR
     have HD := Lib.hid (show wgtI s fails ⟨op, ia, ib, ic, iN⟩ = 1 by rw [HWD.out]; exact if_neg (fun h => by have h2 : rightB op ia ib ic iN = true := h.2.1; rw [HR1.out] at h2; cases h2))
     clear hr
     go_wp2_with fail
     refine RR.out.mono ?_
     rintro e w7 ⟨rfl, s7⟩
     have HO7 := Lib.hid (HO5.out.same s7)
     have HS7 := Lib.hid (HX5.out.trans s7)
     clear s7 RR v0 v1 v2 v3 v4 u1
     go_wp2_with (at_builtin; go_loud (refine wpList_app rfl (.tmp 60) (.tmp 62) 32 rfl b4 3 i0 _ 8 Tryz.underlying32 hi hz0 hz1 hz2 rfl A' j c' ((p.code.map CN).take j) rfl ?c1 (HO7.out.same ((Same.refl _).alloc _)) _ 1 1 [.int .i64 1] rfl rfl (row_new _ _ _) ?c2 ?c3 (by omega) ?c4 ?_))
     case c1 => (try rw [List.length_take, List.length_map]); have := HJL.out; omega
     case c2 => first | rfl | (intro u hu; simp at hu; subst hu; rfl)
     case c3 => (try rw [List.length_take, List.length_map]); (try simp); omega
     case c4 => have := HB4.out; have := HS7.out.size; simp; omega
     intro A2 c2' w9 ho2 hc2 _
     have HS9 := Lib.hid (Same.more (HS7.out.alloc _) hc2 (fun g hg => by have := own_low HO.out hg; have := HB4.out; omega))
     rw [show (p.code.map CN).take j ++ [.int .i64 1] = (p.code.map CN).take (j + 1) from by rw [take_snoc (p.code.map CN) (v := CN ⟨op, ia, ib, ic, iN⟩) (by rw [List.getElem?_map, HJ.out]; rfl), ← HCN.out, HD.out]] at ho2
     have HO9 := Lib.hid ho2
     clear ho2 hc2
     go_wp2_with fail
     go_roundg GK
     case rel => exact ⟨j + 1, A2, c2', by have := HJK.out; omega, by go_num, rfl, HO9.out, HS9.out⟩
     case measure => omega
    | true =>
     have hb0 : 0 ≤ ib := call_b (x := ⟨op, ia, ib, ic, iN⟩) hr (callV_b h1)
     obtain ⟨kb, rfl⟩ : ∃ kb : Nat, ib = kb := ⟨ib.toNat, by omega⟩
     have HR1 := Lib.hid hr
     rw [hr] at RR
     have H1 := Lib.hid h1
     clear hr hb0
     have hkb0 : (0 : Int) ≤ kb := by omega
     by_cases h3 : (kb : Int) < m
     ·obtain ⟨o, ho⟩ : ∃ o, s.os[kb]? = some o := ⟨s.os[kb]'(by rw [HM.out]; omega), List.getElem?_eq_getElem _⟩
      have HGO := Lib.hid (show s.os.getD ((kb : Int)).toNat default = o by rw [Int.toNat_natCast, List.getD_eq_getElem?_getD, ho]; rfl)
      have HKL := Lib.hid (List.getElem?_eq_some_iff.1 ho).1
      obtain ⟨bB, oB, hBe, Xo, co, Yo, do_, o0, o1, o2, o3, o4, o5, o6, o7, hsa, _⟩ := (HO_.out.same HX5.out).at_ ho
      subst hBe
      clear ho
      have RB := Lib.hid (fun W => Fc.rbound_any o.k o.wd o.sl o.cp o.sa o.ow Xo Yo o.ini.length co o.rd.length do_ (callV op) W hsa)
      have RA := Lib.hid (fun W => Bd.rafter_any o.k o.wd o.sl o.cp o.sa o.ow Xo Yo o.ini.length co o.rd.length do_ (callV op) fails HFL.out W hsa)
      go_wp2_with fail
      refine RR.out.mono ?_
      rintro e w6 ⟨rfl, s6⟩
      have HO6 := Lib.hid (HO5.out.same s6)
      have HS6 := Lib.hid (HX5.out.trans s6)
      have o0 := s6.cell o0
      have o1 := s6.cell o1
      have o2 := s6.cell o2
      have o3 := s6.cell o3
      have o4 := s6.cell o4
      have o5 := s6.cell o5
      have o6 := s6.cell o6
      have o7 := s6.cell o7
      have u1 := s6.cell u1
      have v2 := s6.cell v2
      clear s6 RR v0 v1 v3 v4
      go_wp2_with fail
      refine (RB.out w6).mono ?_
      rintro e w7 ⟨rfl, s7⟩
      have HO7 := Lib.hid (HO6.out.same s7)
      have HS7 := Lib.hid (HS6.out.trans s7)
      have o0 := s7.cell o0
      have o1 := s7.cell o1
      have o2 := s7.cell o2
      have o3 := s7.cell o3
      have o4 := s7.cell o4
      have o5 := s7.cell o5
      have o6 := s7.cell o6
      have o7 := s7.cell o7
      have u1 := s7.cell u1
      have v2 := s7.cell v2
      clear s7 RB
      have HBO := Lib.hid (show boundO o (callV op) = Fc.boundF o.k o.wd o.sl o.cp o.sa o.ini.length o.rd.length (callV op) from rfl)
      rw [← HBO.out]
      by_cases h4 : 0 < boundO o (callV op)
      ·have HD := Lib.hid (show wgtI s fails ⟨op, ia, (kb : Int), ic, iN⟩ = aftO o (callV op) fails by
        rw [HWD.out]
        have e : s.os.getD (⟨op, ia, (kb : Int), ic, iN⟩ : Im.Ins).b.toNat default = o := HGO.out
        rw [e]
        exact if_pos ⟨H1.out, HR1.out, by have := HKL.out; show (kb : Int) < _; omega, h4⟩)
       have HAV := Lib.hid (show aftO o (callV op) fails = Bd.afterI o.k o.wd o.sl o.cp o.sa o.ini.length o.rd.length (callV op) fails from rfl)
       generalize boundO o (callV op) = bo at *
       go_wp2_with fail
       refine (RA.out w7).mono ?_
       rintro e w8 ⟨rfl, s8⟩
       rw [← HAV.out]
       have HO7 := Lib.hid (HO7.out.same s8)
       have HS7 := Lib.hid (HS7.out.trans s8)
       clear s8 RA o0 o1 o2 o3 o4 o5 o6 o7 u1 v2
       generalize aftO o (callV op) fails = av at *
       go_wp2_with (at_builtin; go_loud (refine wpList_app rfl (.tmp 60) (.tmp 62) 32 rfl b4 3 i0 _ 8 Tryz.underlying32 hi hz0 hz1 hz2 rfl A' j c' ((p.code.map CN).take j) rfl ?c1 (HO7.out.same ((Same.refl _).alloc _)) _ 1 1 [.int .i64 av] rfl rfl (row_new _ _ _) ?c2 ?c3 (by omega) ?c4 ?_))
       case c1 => (try rw [List.length_take, List.length_map]); have := HJL.out; omega
       case c2 => first | rfl | (intro u hu; simp at hu; subst hu; rfl)
       case c3 => (try rw [List.length_take, List.length_map]); (try simp); omega
       case c4 => have := HB4.out; have := HS7.out.size; simp; omega
       intro A2 c2' w9 ho2 hc2 _
       have HS9 := Lib.hid (Same.more (HS7.out.alloc _) hc2 (fun g hg => by have := own_low HO.out hg; have := HB4.out; omega))
       rw [show (p.code.map CN).take j ++ [.int .i64 av] = (p.code.map CN).take (j + 1) from by rw [take_snoc (p.code.map CN) (v := CN ⟨op, ia, (kb : Int), ic, iN⟩) (by rw [List.getElem?_map, HJ.out]; rfl), ← HCN.out, HD.out]] at ho2
       have HO9 := Lib.hid ho2
       clear ho2 hc2
       go_wp2_with fail
       go_roundg GK
       case rel => exact ⟨j + 1, A2, c2', by have := HJK.out; omega, by go_num, rfl, HO9.out, HS9.out⟩
       case measure => omega
      ·have HD := Lib.hid (show wgtI s fails ⟨op, ia, (kb : Int), ic, iN⟩ = 1 by
        rw [HWD.out]
        have e : s.os.getD (⟨op, ia, (kb : Int), ic, iN⟩ : Im.Ins).b.toNat default = o := HGO.out
        rw [e]
        exact if_neg (fun h => h4 h.2.2.2))
       generalize boundO o (callV op) = bo at *
       clear o0 o1 o2 o3 o4 o5 o6 o7 u1 v2 RA
       go_wp2_with (at_builtin; go_loud (refine wpList_app rfl (.tmp 60) (.tmp 62) 32 rfl b4 3 i0 _ 8 Tryz.underlying32 hi hz0 hz1 hz2 rfl A' j c' ((p.code.map CN).take j) rfl ?c1 (HO7.out.same ((Same.refl _).alloc _)) _ 1 1 [.int .i64 1] rfl rfl (row_new _ _ _) ?c2 ?c3 (by omega) ?c4 ?_))
       case c1 => (try rw [List.length_take, List.length_map]); have := HJL.out; omega
       case c2 => first | rfl | (intro u hu; simp at hu; subst hu; rfl)
       case c3 => (try rw [List.length_take, List.length_map]); (try simp); omega
       case c4 => have := HB4.out; have := HS7.out.size; simp; omega
       intro A2 c2' w9 ho2 hc2 _
       have HS9 := Lib.hid (Same.more (HS7.out.alloc _) hc2 (fun g hg => by have := own_low HO.out hg; have := HB4.out; omega))
       rw [show (p.code.map CN).take j ++ [.int .i64 1] = (p.code.map CN).take (j + 1) from by rw [take_snoc (p.code.map CN) (v := CN ⟨op, ia, (kb : Int), ic, iN⟩) (by rw [List.getElem?_map, HJ.out]; rfl), ← HCN.out, HD.out]] at ho2
       have HO9 := Lib.hid ho2
       clear ho2 hc2
       go_wp2_with fail
       go_roundg GK
       case rel => exact ⟨j + 1, A2, c2', by have := HJK.out; omega, by go_num, rfl, HO9.out, HS9.out⟩
       case measure => omega
     ·have HD := Lib.hid (show wgtI s fails ⟨op, ia, (kb : Int), ic, iN⟩ = 1 by rw [HWD.out]; exact if_neg (fun h => h3 (by have h2 : (kb : Int) < s.os.length := h.2.2.1; rw [HM.out] at h2; exact h2)))
      go_wp2_with fail
      refine RR.out.mono ?_
      rintro e w7 ⟨rfl, s7⟩
      have HO7 := Lib.hid (HO5.out.same s7)
      have HS7 := Lib.hid (HX5.out.trans s7)
      have v2 := s7.cell v2
      have u1 := s7.cell u1
      clear s7 RR v0 v1 v3 v4
      go_wp2_with (at_builtin; go_loud (refine wpList_app rfl (.tmp 60) (.tmp 62) 32 rfl b4 3 i0 _ 8 Tryz.underlying32 hi hz0 hz1 hz2 rfl A' j c' ((p.code.map CN).take j) rfl ?c1 (HO7.out.same ((Same.refl _).alloc _)) _ 1 1 [.int .i64 1] rfl rfl (row_new _ _ _) ?c2 ?c3 (by omega) ?c4 ?_))
      case c1 => (try rw [List.length_take, List.length_map]); have := HJL.out; omega
      case c2 => first | rfl | (intro u hu; simp at hu; subst hu; rfl)
      case c3 => (try rw [List.length_take, List.length_map]); (try simp); omega
      case c4 => have := HB4.out; have := HS7.out.size; simp; omega
      intro A2 c2' w9 ho2 hc2 _
      have HS9 := Lib.hid (Same.more (HS7.out.alloc _) hc2 (fun g hg => by have := own_low HO.out hg; have := HB4.out; omega))
      rw [show (p.code.map CN).take j ++ [.int .i64 1] = (p.code.map CN).take (j + 1) from by rw [take_snoc (p.code.map CN) (v := CN ⟨op, ia, (kb : Int), ic, iN⟩) (by rw [List.getElem?_map, HJ.out]; rfl), ← HCN.out, HD.out]] at ho2
      have HO9 := Lib.hid ho2
      clear ho2 hc2
      go_wp2_with fail
      go_roundg GK
      case rel => exact ⟨j + 1, A2, c2', by have := HJK.out; omega, by go_num, rfl, HO9.out, HS9.out⟩
      case measure => omega
   ·have HD := Lib.hid (show wgtI s fails ⟨op, ia, ib, ic, iN⟩ = 1 by rw [HWD.out]; exact if_neg (fun h => h1 h.1))
    have HO7 := HO5
    have HS7 := HX5
    clear v0 v1 v2 v3 v4 u1
    go_wp2_with (at_builtin; go_loud (refine wpList_app rfl (.tmp 60) (.tmp 62) 32 rfl b4 3 i0 _ 8 Tryz.underlying32 hi hz0 hz1 hz2 rfl A' j c' ((p.code.map CN).take j) rfl ?c1 (HO7.out.same ((Same.refl _).alloc _)) _ 1 1 [.int .i64 1] rfl rfl (row_new _ _ _) ?c2 ?c3 (by omega) ?c4 ?_))
    case c1 => (try rw [List.length_take, List.length_map]); have := HJL.out; omega
    case c2 => first | rfl | (intro u hu; simp at hu; subst hu; rfl)
    case c3 => (try rw [List.length_take, List.length_map]); (try simp); omega
    case c4 => have := HB4.out; have := HS7.out.size; simp; omega
    intro A2 c2' w9 ho2 hc2 _
    have HS9 := Lib.hid (Same.more (HS7.out.alloc _) hc2 (fun g hg => by have := own_low HO.out hg; have := HB4.out; omega))
    rw [show (p.code.map CN).take j ++ [.int .i64 1] = (p.code.map CN).take (j + 1) from by rw [take_snoc (p.code.map CN) (v := CN ⟨op, ia, ib, ic, iN⟩) (by rw [List.getElem?_map, HJ.out]; rfl), ← HCN.out, HD.out]] at ho2
    have HO9 := Lib.hid ho2
    clear ho2 hc2
    go_wp2_with fail
    go_roundg GK
    case rel => exact ⟨j + 1, A2, c2', by have := HJK.out; omega, by go_num, rfl, HO9.out, HS9.out⟩
    case measure => omega
end Go.Proofs.YthhbhbfkbncegaaGreatDoor.Dm
end
end
section
section
section
set_option linter.unusedVariables false
set_option linter.unusedSimpArgs false
namespace Go.Proofs.YthhbhbfkbncegaaGreatDoor.Sl
open Go.ChangeShapes Go.WideShapes Go.ChangeAt Go.RowKit Ws
open Im (PT PO PS TsAt OsAt SysAt tcells ocells)
open Dm (demI dearI dearE)
open Go.Proofs.YthhbhbfkbncegaaGreatDoor.Wd (ret_bool ret_int mulv ceilv addv)
set_option maxRecDepth 100000 in
set_option maxHeartbeats 4000000 in
theorem rreads_any (A B : Option Addr) (n c m d : Nat) (s : PS) (i k : Int) (w : World) (hs : SysAt w A n B m s) (hnm : n ≤ maxLen ∧ m ≤ maxLen) (hf : ∀ p ∈ s.ts, p.code.length ≤ 200) (ho : Sy.OFew s.os 5000) :
 Calls Tryz.prog 11 #[.agg #[.slice A n c, .slice B m d], .int .i64 i, .int .i64 k] w fun e w' => e = .returned (.bool (readsP s i k)) ∧ Same w w' := by
 obtain ⟨w0, hw0⟩ : ∃ w0, w0 = w.alloc (.cells #[.slice A n c, .slice B m d] 25) := ⟨_, rfl⟩
 obtain ⟨g, hg⟩ : ∃ g, g = w.heap.size := ⟨_, rfl⟩
 have s0 : Same w w0 := hw0 ▸ (Same.refl w).alloc _
 have b0 : Blk w0 g 25 #[.slice A n c, .slice B m d] := by rw [hw0, hg]; exact Blk.new w _ _
 have HE0 := Lib.hid hw0
 have HG := Lib.hid hg
 have S0 := Lib.hid s0
 have B0 := Lib.hid b0
 have HS := Lib.hid (hs.same s0)
 obtain ⟨c0, c1⟩ := (⟨b0.cell 0, b0.cell 1⟩ : _ ∧ _)
 simp only [Ws.q_] at c0 c1
 have HRO := Lib.hid (fun W (h : Same w0 W) => Sy.rrole_any A B n c m d s i k W (hs.same (s0.trans h)) ho)
 have HCA := Lib.hid (fun W (h : Same w0 W) => (show Calls Tryz.prog 34 #[.agg #[.slice A n c, .slice B m d], .int .i64 i, .int .i64 k, .bool false] W (fun e w' => e = .returned (.int .i64 (demI s i k 17 20)) ∧ Same W w') from Dm.rcalls_false A B n c m d s i k W (hs.same (s0.trans h)) hnm hf))
 have hdb := (dem_bd hs.ht i k 17 20).1
 clear hw0 hg s0 b0 hs
 go_enter Tryz.func11, Tryz.ntmps11
 go_upto_region 1 with fail
 rw [← HE0.out, ← HG.out]
 clear HE0 HG
 by_cases hr : Sy.roleF s i k = 1
 ·have er : (Sy.roleF s i k == 1) = true := by simpa using hr
  have HR := Lib.hid hr
  have HD := Lib.hid (show readsP s i k = decide (0 < demI s i k 17 20) by
   unfold readsP
   rw [hr]
   by_cases h : demI s i k 17 20 = 0
   ·rw [h]; rfl
   ·rw [decide_eq_true ⟨rfl, h⟩, decide_eq_true (by omega)])
  clear hr
  generalize Sy.roleF s i k = ro at *
  go_wp2_with fail
  refine (HRO.out _ (Same.refl _)).mono ?_
  rintro e w1 ⟨rfl, s1⟩
  have HS1 := Lib.hid s1
  have c0 := s1.cell c0
  have c1 := s1.cell c1
  clear s1 HRO
  go_wp2_with fail
  refine (HCA.out _ HS1.out).mono ?_
  rintro e w2 ⟨rfl, s2⟩
  go_wp2_with fail
  go_ret
  exact ⟨ret_bool HD.out.symm, S0.out.trans (HS1.out.trans s2)⟩
 ·have er : (Sy.roleF s i k == 1) = false := by simpa using hr
  have HD := Lib.hid (show readsP s i k = false from decide_eq_false (fun h => hr h.1))
  clear hr
  generalize Sy.roleF s i k = ro at *
  go_wp2_with fail
  refine (HRO.out _ (Same.refl _)).mono ?_
  rintro e w1 ⟨rfl, s1⟩
  go_wp2_with fail
  go_ret
  exact ⟨ret_bool HD.out.symm, S0.out.trans s1⟩
end Go.Proofs.YthhbhbfkbncegaaGreatDoor.Sl
end
section
set_option linter.unusedVariables false
set_option linter.unusedSimpArgs false
namespace Go.Proofs.YthhbhbfkbncegaaGreatDoor.Sl
open Go.ChangeShapes Go.WideShapes Go.ChangeAt Go.RowKit Ws
open Im (PT PO PS TsAt OsAt SysAt tcells ocells)
open Dm (demI dearI dearE)
open Go.Proofs.YthhbhbfkbncegaaGreatDoor.Wd (ret_bool ret_int mulv ceilv addv)
theorem reads_in {s : PS} {i k : Int} (h : readsP s i k = true) : (0 ≤ i ∧ i < s.ts.length) ∧ 0 ≤ k ∧ k < s.os.length := by
 have hr := (of_decide_eq_true h).1
 by_cases g : (0 ≤ i ∧ i < s.ts.length) ∧ 0 ≤ k ∧ k < s.os.length
 ·exact g
 ·have h0 : Sy.roleF s i k = 0 := if_neg g
  rw [h0] at hr
  cases hr
set_option maxRecDepth 100000 in
set_option maxHeartbeats 4000000 in
theorem rwrites37 (A B : Option Addr) (n c m d : Nat) (s : PS) (i k r : Int) (br : -9223372036854775808 ≤ r ∧ r ≤ 9223372036854775807) (w : World) (hs : SysAt w A n B m s) (hnm : n ≤ maxLen ∧ m ≤ maxLen) (hf : ∀ p ∈ s.ts, p.code.length ≤ 200) (ho : Sy.OFew s.os 5000) :
 Calls Tryz.prog 15 #[.agg #[.slice A n c, .slice B m d], .int .i64 i, .int .i64 k, .int .i64 r] w fun e w' => e = .returned (.int .i64 (wrR (ofR s i k) r)) ∧ Same w w' := by
 obtain ⟨w0, hw0⟩ : ∃ w0, w0 = w.alloc (.cells #[.slice A n c, .slice B m d] 25) := ⟨_, rfl⟩
 obtain ⟨g, hg⟩ : ∃ g, g = w.heap.size := ⟨_, rfl⟩
 have s0 : Same w w0 := hw0 ▸ (Same.refl w).alloc _
 have b0 : Blk w0 g 25 #[.slice A n c, .slice B m d] := by rw [hw0, hg]; exact Blk.new w _ _
 have HE0 := Lib.hid hw0
 have HG := Lib.hid hg
 have S0 := Lib.hid s0
 have HS := Lib.hid (hs.same s0)
 obtain ⟨c0, c1⟩ := (⟨b0.cell 0, b0.cell 1⟩ : _ ∧ _)
 simp only [Ws.q_] at c0 c1
 have RR := Lib.hid (rreads_any A B n c m d s i k w0 (hs.same s0) hnm hf ho)
 have HWD := Lib.hid (wr_doc s i k r)
 have CL := Lib.hid (fun (q : Int) W (h : Same w0 W) => (show Calls Tryz.prog 34 #[.agg #[.slice A n c, .slice B m d], .int .i64 q, .int .i64 k, .bool true] W (fun e w' => e = .returned (.int .i64 (demI s q k 18 19)) ∧ Same W w') from Dm.rcalls_true A B n c m d s q k W (hs.same (s0.trans h)) hnm hf))
 clear hw0 hg s0 b0 hs hf ho
 go_enter Tryz.func15, Tryz.ntmps15
 go_upto_region 1 with fail
 rw [← HE0.out, ← HG.out]
 clear HE0 HG
 go_wp2_with fail
 refine RR.out.mono ?_
 rintro e w1 ⟨rfl, s1⟩
 have HS1 := Lib.hid s1
 have c0 := s1.cell c0
 have c1 := s1.cell c1
 clear s1 RR
 cases hrd : readsP s i k with
 | false =>
  have HD := Lib.hid (show wrR (ofR s i k) r = 0 from HWD.out.trans (if_neg (fun h => by rw [hrd] at h; cases h.1)))
  clear hrd HWD CL
  go_wp2_with fail
  go_ret
  exact ⟨ret_int HD.out.symm, S0.out.trans HS1.out⟩
 | true =>
  have HRD := Lib.hid hrd
  obtain ⟨_, k0, k1⟩ := reads_in hrd
  obtain ⟨kk, rfl⟩ : ∃ kk : Nat, k = kk := ⟨k.toNat, by omega⟩
  obtain ⟨o, hox⟩ : ∃ o, s.os[kk]? = some o := ⟨s.os[kk]'(by omega), List.getElem?_eq_getElem _⟩
  have HOB := Lib.hid (show obj s kk = o by unfold obj; rw [Int.toNat_natCast, List.getD_eq_getElem?_getD, hox]; rfl)
  have k2 : (kk : Int) < m := by have := HS.out.hm; omega
  have AH := Lib.hid (Ah.rahead37 A B n c m d s i kk o w1 (HS.out.same HS1.out) hox)
  have HOX := Lib.hid hox
  clear hrd hox
  go_wp2_with fail
  refine AH.out.mono ?_
  rintro e w2 ⟨rfl, s2⟩
  have HS2 := Lib.hid (HS1.out.trans s2)
  have c0 := s2.cell c0
  have c1 := s2.cell c1
  clear s2 AH HS1
  cases ha : Ah.aheadI s.ts o.ow i with
  | false =>
   have HD := Lib.hid (show wrR (ofR s i (kk : Int)) r = 0 from HWD.out.trans (if_neg (fun h => by have h2 := h.2; unfold aheadP at h2; rw [HOB.out, ha] at h2; cases h2)))
   clear ha HWD CL
   go_wp2_with fail
   go_ret
   exact ⟨ret_int HD.out.symm, S0.out.trans HS2.out⟩
  | true =>
   have HD := Lib.hid (HWD.out.trans (if_pos ⟨HRD.out, by unfold aheadP; rw [HOB.out]; exact ha⟩))
   rw [HOB.out] at HD
   have hin : Ah.inI s.ts.length o.ow := by
    by_cases g : Ah.inI s.ts.length o.ow ∧ Ah.inI s.ts.length i
    ·exact g.1
    ·rw [Ah.aheadI_no g] at ha; cases ha
   obtain ⟨kw, hkw⟩ := Int.eq_ofNat_of_zero_le hin.1
   have hkn : kw < s.ts.length := by have := hin.2; omega
   have w1' : (kw : Int) < n := by have := HS.out.hn; omega
   have w0' : (0 : Int) ≤ kw := by omega
   obtain ⟨p, hp⟩ : ∃ p, s.ts[kw]? = some p := ⟨s.ts[kw], List.getElem?_eq_getElem hkn⟩
   have HPT := Lib.hid (show (Ah.pt s.ts ((kw : Nat) : Int).toNat).per = p.per by unfold Ah.pt; rw [Int.toNat_natCast, List.getD_eq_getElem?_getD, hp]; rfl)
   obtain ⟨bB, oB, rfl, Xo, co, Yo, do_, o0, o1, o2, o3, o4, o5, o6, o7, hsa, _⟩ := (HS.out.ho.same HS2.out).at_ HOX.out
   obtain ⟨bA, oA, rfl, _, _, _, _, t2, _⟩ := (HS.out.ht.same HS2.out).at_ hp
   have T2 := Lib.hid t2
   have C0 := Lib.hid c0
   have C1 := Lib.hid c1
   have CW := Lib.hid (CL.out kw)
   rw [hkw] at HD o6
   clear ha hin hkw hkn hp t2 CL HWD o0 o1 o2 o3 o4 o5 o7
   go_wp2_with fail
   refine wp_region_held_drew (S := fun w' => Same w2 w') (by kernel_rfl) ?_ (fun hHeld => ?_)
   ·exact (Same.refl w2).drew
   refine Ro.tn 0 ?_ ?_ ?_
   rotate_left
   ·intro wS hSw; (try dsimp only at hSw); go_simp; try with_reducible rfl
   try simp only [Ro.p]
   refine Ro.tn 1 ?_ ?_ ?_
   rotate_left
   ·intro wS hSw; (try dsimp only at hSw); go_simp; try with_reducible rfl
   try simp only [Ro.p]
   refine Ro.tn 2 ?_ ?_ ?_
   rotate_left
   ·intro wS hSw; (try dsimp only at hSw); have z0 := hSw.cell C0.out; go_simp; try with_reducible rfl
   try simp only [Ro.p]
   refine Ro.tn 3 ?_ ?_ ?_
   rotate_left
   ·intro wS hSw; (try dsimp only at hSw); go_simp; try with_reducible rfl
   try simp only [Ro.p]
   refine Ro.tn 4 ?_ ?_ ?_
   rotate_left
   ·intro wS hSw; (try dsimp only at hSw); go_simp; try with_reducible rfl
   try simp only [Ro.p]
   refine Ro.tn 5 ?_ ?_ ?_
   rotate_left
   ·intro wS hSw; (try dsimp only at hSw); go_simp; try with_reducible rfl
   try simp only [Ro.p]
   refine Ro.tn 6 ?_ ?_ ?_
   rotate_left
   ·intro wS hSw; (try dsimp only at hSw); have z2 := hSw.cell T2.out; go_simp; try with_reducible rfl
   try simp only [Ro.p]
   refine Ro.tn 8 ?_ ?_ ?_
   rotate_left
   ·intro wS hSw; (try dsimp only at hSw); have z0 := hSw.cell C0.out; have z1 := hSw.cell C1.out; go_simp; try with_reducible rfl
   try simp only [Ro.p]
   refine Ro.tn 9 ?_ ?_ ?_
   rotate_left
   ·intro wS hSw; (try dsimp only at hSw); go_simp; try with_reducible rfl
   try simp only [Ro.p]
   refine Ro.tn 10 ?_ ?_ ?_
   rotate_left
   ·intro wS hSw; (try dsimp only at hSw); go_simp; try with_reducible rfl
   try simp only [Ro.p]
   refine Ro.one_on (i := 7) rfl (by kernel_rfl) (by rfl) (fun K hK => ?_)
   go_simp
   go_at_call 39
   refine (Wd.rceil _ _ br _).mono ?_
   rintro e w3 ⟨rfl, rfl⟩
   refine hK.out _ _ ?_ (fun hNew => ?_)
   ·exact hHeld
   clear hK K hHeld; have hHeld := hNew; clear hNew
   try simp only [Ro.p]
   refine Ro.one_on (i := 11) rfl (by kernel_rfl) (by rfl) (fun K hK => ?_)
   go_simp
   go_at_call 34
   refine (CW.out _ (HS2.out.trans hHeld)).mono ?_
   rintro e w4 ⟨rfl, s4⟩
   refine hK.out _ _ ?_ (fun hNew => ?_)
   ·exact hHeld.trans s4
   clear hK K hHeld; have hHeld := hNew; clear hNew
   try simp only [Ro.p]
   refine Ro.one_on (i := 12) rfl (by kernel_rfl) (by rfl) (fun K hK => ?_)
   go_simp
   go_at_call 38
   refine (Wd.rmul _ _ _).mono ?_
   rintro e w5 ⟨rfl, rfl⟩
   refine hK.out _ _ ?_ (fun hNew => ?_)
   ·exact hHeld
   clear hK K hHeld; have hHeld := hNew; clear hNew
   try simp only [Ro.p]
   refine Ro.tn 13 ?_ ?_ ?_
   rotate_left
   ·intro wS hSw; (try dsimp only at hSw); go_simp; try with_reducible rfl
   try simp only [Ro.p]
   refine wpAnyH_done (by kernel_rfl) ?_ _
   go_wp2_with fail
   go_ret
   exact ⟨ret_int (by rw [HD.out, HPT.out]), S0.out.trans (HS2.out.trans hHeld)⟩
end Go.Proofs.YthhbhbfkbncegaaGreatDoor.Sl
end
end
section
section
set_option linter.unusedVariables false
set_option linter.unusedSimpArgs false
namespace Go.Proofs.YthhbhbfkbncegaaGreatDoor.Sl
open Go.ChangeShapes Go.WideShapes Go.ChangeAt Go.RowKit Ws
open Im (PT PO PS TsAt OsAt SysAt tcells ocells)
open Dm (demI dearI dearE pI prgI wgtI)
open Go.Proofs.YthhbhbfkbncegaaGreatDoor.Wd (ret_bool ret_int)
def mostI (s : PS) (k : Nat) (p : PT) (fails : Int) : Int := if Fw.okB (pI p) = true then dearI s k fails else -1
set_option maxRecDepth 100000 in
set_option maxHeartbeats 4000000 in
theorem rmost36 (A B : Option Addr) (n c m d : Nat) (s : PS) (k : Nat) (p : PT) (fails : Int) (w : World) (hs : SysAt w A n B m s) (hp : s.ts[k]? = some p) (hle : p.code.length ≤ 200) (hfl : fails ≤ 100) :
 Calls Tryz.prog 43 #[.agg #[.slice A n c, .slice B m d], .int .i64 k, .int .i64 fails] w fun e w' => e = .returned (.int .i64 (mostI s k p fails)) ∧ Same w w' := by
 obtain ⟨w0, hw0⟩ : ∃ w0, w0 = w.alloc (.cells #[.slice A n c, .slice B m d] 25) := ⟨_, rfl⟩
 obtain ⟨g, hg⟩ : ∃ g, g = w.heap.size := ⟨_, rfl⟩
 have s0 : Same w w0 := hw0 ▸ (Same.refl w).alloc _
 have b0 : Blk w0 g 25 #[.slice A n c, .slice B m d] := by rw [hw0, hg]; exact Blk.new w _ _
 have HE0 := Lib.hid hw0
 have HG := Lib.hid hg
 have S0 := Lib.hid s0
 obtain ⟨c0, c1⟩ := (⟨b0.cell 0, b0.cell 1⟩ : _ ∧ _)
 simp only [Ws.q_] at c0 c1
 have k0 : (0 : Int) ≤ k := by omega
 have k1 : (k : Int) < n := by have := (List.getElem?_eq_some_iff.1 hp).1; have := hs.hn; omega
 have RW := Lib.hid (fun W (h : Same w0 W) => (Dm.rweights_any A B n c m d s k p fails W (hs.same (s0.trans h)) hp hle hfl).mono (fun e w' ⟨OA, oc, he, hr, hs'⟩ => (show ∃ OA oc, e = Ending.returned (.slice OA p.code.length oc) ∧ Row w' OA ((p.code.map (wgtI s fails)).map (Value.int .i64)) ∧ Same W w' from ⟨OA, oc, by rw [he, List.length_map], hr, hs'⟩)))
 obtain ⟨bA, oA, rfl, X, cX, _, _, _, _, _, _, t6, hcode, _⟩ := (hs.same s0).ht.at_ hp
 have FI := Lib.hid (Fw.rfine_any X p.code.length cX (pI p) w0 (by unfold pI; rw [List.length_map]) (by omega) (prgI hcode))
 have HCW := Lib.hid hcode
 have HDE := Lib.hid (show Fw.okB (pI p) = true → dearI s (k : Int) fails = Cs.weighW Cs.btG (pI p) (p.code.map (wgtI s fails)) from fun hok => by
  rw [(Dm.dear_in (fails := fails) hp).1, Dm.wl_in hp]
  unfold Cs.weI
  have e : Cs.weE (pI p) (p.code.map (wgtI s fails)).length = 0 := by
   unfold Cs.weE
   rw [if_pos (of_decide_eq_true hok), List.length_map, show (pI p).length = p.code.length by unfold pI; rw [List.length_map], if_pos rfl]
  rw [if_pos e]
  rfl)
 clear hw0 hg s0 b0 hs hp hcode
 go_enter Tryz.func43, Tryz.ntmps43
 go_upto_region 1 with fail
 rw [← HE0.out, ← HG.out]
 clear HE0 HG
 go_wp2_with fail
 refine FI.out.mono ?_
 rintro e w1 ⟨rfl, s1⟩
 have HS1 := Lib.hid s1
 cases hok : Fw.okB (pI p) with
 | false =>
  have HD := Lib.hid (show mostI s k p fails = -1 from if_neg (by rw [hok]; exact Bool.noConfusion))
  clear hok
  go_wp2_with fail
  go_ret
  exact ⟨ret_int HD.out.symm, S0.out.trans HS1.out⟩
 | true =>
  have HD := Lib.hid (show mostI s k p fails = Cs.weighW Cs.btG (pI p) (p.code.map (wgtI s fails)) from (if_pos hok).trans (HDE.out hok))
  have RM := Lib.hid (fun OA oc W (h : Same w1 W) (hr : Row W OA ((p.code.map (wgtI s fails)).map (Value.int .i64))) => Cs.rmost_any X p.code.length cX (pI p) OA oc (p.code.map (wgtI s fails)) W (by unfold pI; rw [List.length_map]) (prgI (HCW.out.same (HS1.out.trans h))) hr (by rw [List.length_map]) hok)
  have C0 := Lib.hid (s1.cell c0)
  have C1 := Lib.hid (s1.cell c1)
  have T6 := Lib.hid (s1.cell t6)
  clear hok HDE s1 c0 c1 t6 FI
  generalize Cs.weighW Cs.btG (pI p) (p.code.map (wgtI s fails)) = wv at *
  go_wp2_with fail
  refine wp_region_held_drew (S := fun w' => Same w1 w') (by kernel_rfl) ?_ (fun hHeld => ?_)
  ·exact (Same.refl w1).drew
  refine Ro.tn 0 ?_ ?_ ?_
  rotate_left
  ·intro wS hSw; (try dsimp only at hSw); go_simp; try with_reducible rfl
  try simp only [Ro.p]
  refine Ro.tn 1 ?_ ?_ ?_
  rotate_left
  ·intro wS hSw; (try dsimp only at hSw); have z0 := hSw.cell C0.out; go_simp; try with_reducible rfl
  try simp only [Ro.p]
  refine Ro.tn 2 ?_ ?_ ?_
  rotate_left
  ·intro wS hSw; (try dsimp only at hSw); go_simp; try with_reducible rfl
  try simp only [Ro.p]
  refine Ro.tn 3 ?_ ?_ ?_
  rotate_left
  ·intro wS hSw; (try dsimp only at hSw); go_simp; try with_reducible rfl
  try simp only [Ro.p]
  refine Ro.tn 4 ?_ ?_ ?_
  rotate_left
  ·intro wS hSw; (try dsimp only at hSw); go_simp; try with_reducible rfl
  try simp only [Ro.p]
  refine Ro.tn 5 ?_ ?_ ?_
  rotate_left
  ·intro wS hSw; (try dsimp only at hSw); have z6 := hSw.cell T6.out; go_simp; try with_reducible rfl
  try simp only [Ro.p]
  refine Ro.tn 6 ?_ ?_ ?_
  rotate_left
  ·intro wS hSw; (try dsimp only at hSw); have z0 := hSw.cell C0.out; have z1 := hSw.cell C1.out; go_simp; try with_reducible rfl
  try simp only [Ro.p]
  refine Ro.tn 7 ?_ ?_ ?_
  rotate_left
  ·intro wS hSw; (try dsimp only at hSw); go_simp; try with_reducible rfl
  try simp only [Ro.p]
  refine Ro.tn 8 ?_ ?_ ?_
  rotate_left
  ·intro wS hSw; (try dsimp only at hSw); go_simp; try with_reducible rfl
  try simp only [Ro.p]
  refine Ro.one_on (i := 9) rfl (by kernel_rfl) (by rfl) (fun K hK => ?_)
  go_simp
  go_at_call 68
  refine (RW.out _ (HS1.out.trans hHeld)).mono ?_
  rintro e w2 ⟨OA, oc, rfl, hro, s2⟩
  have HRO := Lib.hid hro
  clear hro
  refine hK.out _ _ ?_ (fun hNew => ?_)
  ·exact hHeld.trans s2
  clear hK K hHeld; have hHeld := hNew; clear hNew
  try simp only [Ro.p]
  have H12 := Lib.hid hHeld
  refine Ro.one_on (i := 10) rfl (by kernel_rfl) (by rfl) (fun K hK => ?_)
  go_simp
  go_at_call 58
  refine (RM.out OA oc _ H12.out HRO.out).mono ?_
  rintro e w3 ⟨rfl, s3⟩
  refine hK.out _ _ ?_ (fun hNew => ?_)
  ·exact hHeld.trans s3
  clear hK K hHeld; have hHeld := hNew; clear hNew
  try simp only [Ro.p]
  refine Ro.tn 11 ?_ ?_ ?_
  rotate_left
  ·intro wS hSw; (try dsimp only at hSw); go_simp; try with_reducible rfl
  try simp only [Ro.p]
  refine wpAnyH_done (by kernel_rfl) ?_ _
  go_wp2_with fail
  go_ret
  exact ⟨ret_int HD.out.symm, S0.out.trans (HS1.out.trans hHeld)⟩
end Go.Proofs.YthhbhbfkbncegaaGreatDoor.Sl
end
section
section
set_option linter.unusedVariables false
set_option linter.unusedSimpArgs false
namespace Go.Proofs.YthhbhbfkbncegaaGreatDoor.Sl
open Go.ChangeShapes Go.WideShapes Go.ChangeAt Go.RowKit Ws
open Im (PT PO PS TsAt OsAt SysAt tcells ocells)
open Go.Proofs.YthhbhbfkbncegaaGreatDoor.Wd (ret_bool ret_int)
set_option maxRecDepth 100000 in
set_option maxHeartbeats 4000000 in
theorem rfails37 (A B : Option Addr) (n c m d : Nat) (s : PS) (i k r : Int) (br : -9223372036854775808 ≤ r ∧ r ≤ 9223372036854775807) (hsl : ∀ o ∈ s.os, o.sl ≤ 9223372036854775807) (w : World) (hs : SysAt w A n B m s) (hnm : n ≤ maxLen ∧ m ≤ maxLen) (hf : ∀ p ∈ s.ts, p.code.length ≤ 200) (ho : Sy.OFew s.os 5000) :
 Calls Tryz.prog 17 #[.agg #[.slice A n c, .slice B m d], .int .i64 i, .int .i64 k, .int .i64 r] w fun e w' => e = .returned (.int .i64 (flR (ofR s i k) r)) ∧ Same w w' := by
 obtain ⟨w0, hw0⟩ : ∃ w0, w0 = w.alloc (.cells #[.slice A n c, .slice B m d] 25) := ⟨_, rfl⟩
 obtain ⟨g, hg⟩ : ∃ g, g = w.heap.size := ⟨_, rfl⟩
 have s0 : Same w w0 := hw0 ▸ (Same.refl w).alloc _
 have b0 : Blk w0 g 25 #[.slice A n c, .slice B m d] := by rw [hw0, hg]; exact Blk.new w _ _
 have HE0 := Lib.hid hw0
 have HG := Lib.hid hg
 have S0 := Lib.hid s0
 have HS := Lib.hid (hs.same s0)
 obtain ⟨c0, c1⟩ := (⟨b0.cell 0, b0.cell 1⟩ : _ ∧ _)
 simp only [Ws.q_] at c0 c1
 have RW := Lib.hid (rwrites37 A B n c m d s i k r br w0 (hs.same s0) hnm hf ho)
 have HD := Lib.hid (fl_doc s i k r)
 have HZ := Lib.hid (show readsP s i k = false → wrR (ofR s i k) r = 0 from fun h => by rw [of_no h, wr_zero])
 have hnb := wr_bd (ofR s i k) r
 clear hw0 hg s0 b0 hs hf ho
 go_enter Tryz.func17, Tryz.ntmps17
 go_upto_region 1 with fail
 rw [← HE0.out, ← HG.out]
 clear HE0 HG
 generalize hN : wrR (ofR s i k) r = N at *
 go_wp2_with fail
 refine RW.out.mono ?_
 rintro e w1 ⟨rfl, s1⟩
 have HS1 := Lib.hid s1
 have c0 := s1.cell c0
 have c1 := s1.cell c1
 clear s1 RW hN
 by_cases hn0 : N = 0
 ·have HV := Lib.hid (show flR (ofR s i k) r = 0 from HD.out.trans (if_pos (.inl hn0)))
  have e0 : (N == 0) = true := by simpa using hn0
  clear hn0 HD HZ
  go_wp2_with fail
  go_ret
  exact ⟨ret_int HV.out.symm, S0.out.trans HS1.out⟩
 ·have e0 : (N == 0) = false := by simpa using hn0
  obtain ⟨k0, k1⟩ : 0 ≤ k ∧ k < s.os.length := by
   cases h : readsP s i k with
   | false => exact absurd (HZ.out h) hn0
   | true => exact (reads_in h).2
  obtain ⟨kk, rfl⟩ : ∃ kk : Nat, k = kk := ⟨k.toNat, by omega⟩
  obtain ⟨o, hox⟩ : ∃ o, s.os[kk]? = some o := ⟨s.os[kk]'(by omega), List.getElem?_eq_getElem _⟩
  have HOB := Lib.hid (show obj s kk = o by unfold obj; rw [Int.toNat_natCast, List.getD_eq_getElem?_getD, hox]; rfl)
  have k2 : (kk : Int) < m := by have := HS.out.hm; omega
  have hsl := hsl o (List.mem_of_getElem? hox)
  obtain ⟨bB, oB, rfl, Xo, co, Yo, do_, o0, o1, o2, o3, o4, o5, o6, o7, hsa, _⟩ := (HS.out.ho.same HS1.out).at_ hox
  rw [HOB.out] at HD
  clear hox HZ o1 o3 o4 o5 o6 o7
  by_cases h3 : o.k = 3
  ·have HV := Lib.hid (show flR (ofR s i (kk : Int)) r = N by rw [HD.out, if_neg (by omega), if_neg (by omega)])
   have f3 : (o.k != 3) = false := by simpa using h3
   have f4 : (o.k == 4) = false := by simp; omega
   clear h3 HD
   go_wp2_with fail
   go_ret
   exact ⟨ret_int HV.out.symm, S0.out.trans HS1.out⟩
  ·have f3 : (o.k != 3) = true := by simpa using h3
   by_cases h5 : o.k = 5
   ·have HV := Lib.hid (show flR (ofR s i (kk : Int)) r = N by rw [HD.out, if_neg (by omega), if_neg (by omega)])
    have f5 : (o.k != 5) = false := by simpa using h5
    have f4 : (o.k == 4) = false := by simp; omega
    clear h3 h5 HD
    go_wp2_with fail
    go_ret
    exact ⟨ret_int HV.out.symm, S0.out.trans HS1.out⟩
   ·have f5 : (o.k != 5) = true := by simpa using h5
    by_cases h4 : o.k = 4
    ·have f4 : (o.k == 4) = true := by simpa using h4
     have g4 : (o.k != 4) = false := by simpa using h4
     by_cases h2 : 2 < o.sl
     ·obtain ⟨p, hp⟩ : ∃ p, p = o.sl - 1 := ⟨_, rfl⟩
      have hp0 : ¬ p = 0 := by omega
      have hpw : IntKind.i64.wrap (o.sl - 1) = p := by rw [hp]; exact Go.IntWalk.i64_in _ (by omega)
      have HV := Lib.hid (show flR (ofR s i (kk : Int)) r = N / p by rw [HD.out, if_neg (by omega), if_pos ⟨h4, h2⟩, hp])
      have hdb : 0 ≤ N / p ∧ N / p ≤ N := ⟨Int.ediv_nonneg hnb.1 (by omega), Int.ediv_le_self _ hnb.1⟩
      have hdw : IntKind.i64.wrap (N.tdiv p) = N / p := by rw [Int.tdiv_eq_ediv_of_nonneg hnb.1]; exact Go.IntWalk.i64_in _ (by omega)
      clear h3 h5 h4 HD hp hdb hn0
      go_wp2_with fail
      go_ret
      exact ⟨ret_int HV.out.symm, S0.out.trans HS1.out⟩
     ·have HV := Lib.hid (show flR (ofR s i (kk : Int)) r = N by rw [HD.out, if_neg (by omega), if_neg (by omega)])
      clear h3 h5 h4 HD
      go_wp2_with fail
      go_ret
      exact ⟨ret_int HV.out.symm, S0.out.trans HS1.out⟩
    ·have f4 : (o.k == 4) = false := by simpa using h4
     have g4 : (o.k != 4) = true := by simpa using h4
     have HV := Lib.hid (show flR (ofR s i (kk : Int)) r = 0 by rw [HD.out, if_pos (.inr ⟨h3, h5, h4⟩)])
     clear h3 h5 h4 HD
     go_wp2_with fail
     go_ret
     exact ⟨ret_int HV.out.symm, S0.out.trans HS1.out⟩
end Go.Proofs.YthhbhbfkbncegaaGreatDoor.Sl
end
section
set_option linter.unusedVariables false
set_option linter.unusedSimpArgs false
namespace Go.Proofs.YthhbhbfkbncegaaGreatDoor.Sl
open Go.ChangeShapes Go.WideShapes Go.ChangeAt Go.RowKit Ws
open Im (PT PO PS TsAt OsAt SysAt tcells ocells)
open Dm (demI dearI dearE pI prgI wgtI)
open Go.Proofs.YthhbhbfkbncegaaGreatDoor.Wd (ret_bool ret_int)
theorem job_out {s : PS} {i r : Int} (h : i < 0 ∨ (s.ts.length : Int) ≤ i) : jobI s i r = 0 := if_neg (by rw [(Dm.dear_out (fails := 0) h).2]; decide)
theorem most_no {s : PS} {k : Nat} {p : PT} (hp : s.ts[k]? = some p) (h : Fw.okB (pI p) = false) (r : Int) : mostI s k p 0 = -1 ∧ jobI s k r = 0 := by
 refine ⟨if_neg (by rw [h]; exact Bool.noConfusion), if_neg ?_⟩
 rw [(Dm.dear_in (fails := 0) hp).2]
 have hc : ¬ Fw.ckE (pI p) = 0 := fun g => by unfold Fw.okB at h; rw [g] at h; cases h
 unfold Cs.weE
 rw [if_neg hc]
 exact hc
theorem most_yes {s : PS} {k : Nat} {p : PT} (hp : s.ts[k]? = some p) (h : Fw.okB (pI p) = true) (r : Int) : mostI s k p 0 = dearI s k 0 ∧ jobI s k r = stepsR (dearI s k 0) (jobL s k s.os.length) r := by
 refine ⟨if_pos h, if_pos ?_⟩
 rw [(Dm.dear_in (fails := 0) hp).2, Dm.wl_in hp]
 unfold Cs.weE
 rw [if_pos (of_decide_eq_true h), List.length_map, show (pI p).length = p.code.length by unfold pI; rw [List.length_map], if_pos rfl]
set_option maxRecDepth 100000 in
set_option maxHeartbeats 4000000 in
theorem rjob37 (A B : Option Addr) (n c m d : Nat) (s : PS) (i r : Int) (br : -9223372036854775808 ≤ r ∧ r ≤ 9223372036854775807) (hsl : ∀ o ∈ s.os, o.sl ≤ 9223372036854775807) (w : World) (hs : SysAt w A n B m s) (hnm : n ≤ maxLen ∧ m ≤ maxLen) (hf : ∀ p ∈ s.ts, p.code.length ≤ 200) (ho : Sy.OFew s.os 5000) :
 Calls Tryz.prog 19 #[.agg #[.slice A n c, .slice B m d], .int .i64 i, .int .i64 r] w fun e w' => e = .returned (.int .i64 (jobI s i r)) ∧ Same w w' := by
 have hmb : (m : Int) ≤ 9223372036854775807 := by unfold maxLen at hnm; omega
 obtain ⟨w0, hw0⟩ : ∃ w0, w0 = w.alloc (.cells #[.slice A n c, .slice B m d] 25) := ⟨_, rfl⟩
 obtain ⟨g, hg⟩ : ∃ g, g = w.heap.size := ⟨_, rfl⟩
 have s0 : Same w w0 := hw0 ▸ (Same.refl w).alloc _
 have b0 : Blk w0 g 25 #[.slice A n c, .slice B m d] := by rw [hw0, hg]; exact Blk.new w _ _
 have HE0 := Lib.hid hw0
 have HG := Lib.hid hg
 have S0 := Lib.hid s0
 have HS := Lib.hid (hs.same s0)
 have HF := Lib.hid hf
 obtain ⟨c0, c1⟩ := (⟨b0.cell 0, b0.cell 1⟩ : _ ∧ _)
 simp only [Ws.q_] at c0 c1
 have RF := Lib.hid (fun (j : Int) W (h : Same w0 W) => rfails37 A B n c m d s i j r br hsl W (hs.same (s0.trans h)) hnm hf ho)
 have RR := Lib.hid (fun (j : Int) W (h : Same w0 W) => rreads_any A B n c m d s i j W (hs.same (s0.trans h)) hnm hf ho)
 clear hw0 hg s0 b0 hs hf ho hsl
 go_enter Tryz.func19, Tryz.ntmps19
 go_upto_region 1 with fail
 rw [← HE0.out, ← HG.out]
 clear HE0 HG
 by_cases h1 : i < 0
 ·have HV := Lib.hid (show jobI s i r = 0 from job_out (.inl h1))
  go_wp2_with fail
  go_ret
  exact ⟨ret_int HV.out.symm, S0.out⟩
 by_cases h2 : i ≥ n
 ·have HV := Lib.hid (show jobI s i r = 0 from job_out (.inr (by rw [HS.out.hn]; exact h2)))
  go_wp2_with fail
  go_ret
  exact ⟨ret_int HV.out.symm, S0.out⟩
 obtain ⟨ki, rfl⟩ : ∃ ki : Nat, i = ki := ⟨i.toNat, by omega⟩
 obtain ⟨p, hp⟩ : ∃ p, s.ts[ki]? = some p := ⟨s.ts[ki]'(by have := HS.out.hn; omega), List.getElem?_eq_getElem _⟩
 have MO := Lib.hid (rmost36 A B n c m d s ki p 0 w0 HS.out hp (HF.out p (List.mem_of_getElem? hp)) (by omega))
 have HP := Lib.hid hp
 have hdb := dear_bd HS.out.ht (ki : Int) 0
 clear hp
 cases hok : Fw.okB (pI p) with
 | false =>
  obtain ⟨e1, e2⟩ := most_no HP.out hok r
  have HV := Lib.hid e2
  rw [e1] at MO
  clear e1 e2 hok
  go_wp2_with fail
  refine MO.out.mono ?_
  rintro e w1 ⟨rfl, s1⟩
  go_wp2_with fail
  go_ret
  exact ⟨ret_int HV.out.symm, S0.out.trans s1⟩
 | true =>
  obtain ⟨e1, e2⟩ := most_yes HP.out hok r
  have HV := Lib.hid e2
  rw [e1] at MO
  have HDB := Lib.hid hdb
  clear e1 e2 hok
  generalize dearI s (ki : Int) 0 = dv at *
  go_wp2_with fail
  refine MO.out.mono ?_
  rintro e w1 ⟨rfl, s1⟩
  have HS1 := Lib.hid s1
  have c0 := s1.cell c0
  have c1 := s1.cell c1
  clear s1 MO
  go_wp2_with fail
  go_loopg [7, 27] m (fun gk nv iv wx => ∃ j : Nat, j + gk = m ∧ iv = .int .i64 j ∧ nv = .int .i64 (stepsR dv (jobL s ki j) r) ∧ Same w1 wx)
  case atStart => exact ⟨0, by omega, rfl, rfl, Same.refl _⟩
  case round =>
   obtain ⟨j, hk, rfl, rfl, sx⟩ := hrel
   have HSX := Lib.hid sx
   have d0 := sx.cell c0
   have d1 := sx.cell c1
   clear sx c0 c1
   cases gk with
   | zero =>
    obtain rfl : j = m := by omega
    have hge : ¬ (j : Int) < (j : Int) := by omega
    go_wp2_with fail
    go_ret
    exact ⟨ret_int (by rw [HV.out, HS.out.hm]), S0.out.trans (HS1.out.trans HSX.out)⟩
   | succ GK =>
    have hlt : (j : Int) < m := by omega
    have hj0 : (0 : Int) ≤ j := by omega
    have HKK := Lib.hid hk
    obtain ⟨o, hox⟩ : ∃ o, s.os[j]? = some o := ⟨s.os[j]'(by have := HS.out.hm; omega), List.getElem?_eq_getElem _⟩
    have HOB := Lib.hid (show obj s j = o by unfold obj; rw [Int.toNat_natCast, List.getD_eq_getElem?_getD, hox]; rfl)
    obtain ⟨bB, oB, rfl, Xo, co, Yo, do_, o0, o1, o2, o3, o4, o5, o6, o7, hsa, _⟩ := (HS.out.ho.same (HS1.out.trans HSX.out)).at_ hox
    have FL := Lib.hid (fun W => Bd.rfail_any o.k o.wd o.sl o.cp o.sa o.ow Xo Yo o.ini.length co o.rd.length do_ 1 W hsa)
    have HOC := Lib.hid (Blk.new wr 34 #[.int .i64 o.k, .int .i64 o.wd, .int .i64 o.sl, .int .i64 o.cp, .int .u32 o.sa, .slice Xo o.ini.length co, .int .i64 o.ow, .slice Yo o.rd.length do_])
    have HX4 := Lib.hid (HSX.out.alloc (.cells #[.int .i64 o.k, .int .i64 o.wd, .int .i64 o.sl, .int .i64 o.cp, .int .u32 o.sa, .slice Xo o.ini.length co, .int .i64 o.ow, .slice Yo o.rd.length do_] 34))
    have HXR := Lib.hid ((Same.refl wr).alloc (.cells #[.int .i64 o.k, .int .i64 o.wd, .int .i64 o.sl, .int .i64 o.cp, .int .u32 o.sa, .slice Xo o.ini.length co, .int .i64 o.ow, .slice Yo o.rd.length do_] 34))
    have JN := Lib.hid (fun h => job_no (s := s) (i := (ki : Int)) (k := j) (r := r) HDB.out h)
    have JY := Lib.hid (fun h => job_yes (s := s) (i := (ki : Int)) (k := j) (r := r) (n := dv) h)
    rw [HOB.out] at JY
    clear hk hox
    generalize stepsR dv (jobL s (ki : Int) j) r = v at *
    go_upto_region 9 with fail
    generalize wr.alloc (.cells #[.int .i64 o.k, .int .i64 o.wd, .int .i64 o.sl, .int .i64 o.cp, .int .u32 o.sa, .slice Xo o.ini.length co, .int .i64 o.ow, .slice Yo o.rd.length do_] 34) = w4 at *
    generalize wr.heap.size = q4 at *
    have d0 := HXR.out.cell d0
    have d1 := HXR.out.cell d1
    clear o0 o1 o2 o3 o4 o5 o6 o7
    go_wp2_with fail
    refine (RR.out _ _ (HS1.out.trans HX4.out)).mono ?_
    rintro e w5 ⟨rfl, s5⟩
    have HS5 := Lib.hid (HS1.out.trans (HX4.out.trans s5))
    have HX5 := Lib.hid (HX4.out.trans s5)
    have HOC := Lib.hid (HOC.out.same s5)
    have C0 := Lib.hid (s5.cell d0)
    have C1 := Lib.hid (s5.cell d1)
    clear s5 d0 d1
    cases hrd : readsP s (ki : Int) (j : Int) with
    | false =>
     have HJ := Lib.hid (JN.out hrd)
     clear hrd
     go_wp2_with fail
     go_roundg GK
     case rel => exact ⟨j + 1, by have := HKK.out; omega, by go_num, by rw [HJ.out], HX5.out⟩
     case measure => omega
    | true =>
     have HJ := Lib.hid (JY.out hrd)
     clear hrd
     go_wp2_with fail
     refine wp_region_held_drew (S := fun w' => Same w5 w') (by kernel_rfl) ?_ (fun hHeld => ?_)
     ·exact (Same.refl w5).drew
     refine Ro.tn 0 ?_ ?_ ?_
     rotate_left
     ·intro wS hSw; (try dsimp only at hSw); go_simp; try with_reducible rfl
     try simp only [Ro.p]
     refine Ro.tn 1 ?_ ?_ ?_
     rotate_left
     ·intro wS hSw; (try dsimp only at hSw); have z0 := hSw.cell C0.out; have z1 := hSw.cell C1.out; go_simp; try with_reducible rfl
     try simp only [Ro.p]
     refine Ro.tn 2 ?_ ?_ ?_
     rotate_left
     ·intro wS hSw; (try dsimp only at hSw); go_simp; try with_reducible rfl
     try simp only [Ro.p]
     refine Ro.tn 3 ?_ ?_ ?_
     rotate_left
     ·intro wS hSw; (try dsimp only at hSw); go_simp; try with_reducible rfl
     try simp only [Ro.p]
     refine Ro.tn 4 ?_ ?_ ?_
     rotate_left
     ·intro wS hSw; (try dsimp only at hSw); go_simp; try with_reducible rfl
     try simp only [Ro.p]
     refine Ro.tn 6 ?_ ?_ ?_
     rotate_left
     ·intro wS hSw; (try dsimp only at hSw); obtain ⟨v0, v1, v2, v3, v4, v5, v6, v7⟩ := (⟨(HOC.out.same hSw).cell 0, (HOC.out.same hSw).cell 1, (HOC.out.same hSw).cell 2, (HOC.out.same hSw).cell 3, (HOC.out.same hSw).cell 4, (HOC.out.same hSw).cell 5, (HOC.out.same hSw).cell 6, (HOC.out.same hSw).cell 7⟩ : _ ∧ _ ∧ _ ∧ _ ∧ _ ∧ _ ∧ _ ∧ _); simp only [Ws.q_] at v0 v1 v2 v3 v4 v5 v6 v7; go_simp; try with_reducible rfl
     try simp only [Ro.p]
     refine Ro.one_on (i := 5) rfl (by kernel_rfl) (by rfl) (fun K hK => ?_)
     go_simp
     go_at_call 17
     refine (RF.out _ _ (HS5.out.trans hHeld)).mono ?_
     rintro e w6 ⟨rfl, s6⟩
     refine hK.out _ _ ?_ (fun hNew => ?_)
     ·exact hHeld.trans s6
     clear hK K hHeld; have hHeld := hNew; clear hNew
     try simp only [Ro.p]
     refine Ro.one_on (i := 7) rfl (by kernel_rfl) (by rfl) (fun K hK => ?_)
     go_simp
     go_at_call 45
     refine (FL.out _).mono ?_
     rintro e w7 ⟨rfl, s7⟩
     refine hK.out _ _ ?_ (fun hNew => ?_)
     ·exact hHeld.trans s7
     clear hK K hHeld; have hHeld := hNew; clear hNew
     try simp only [Ro.p]
     refine Ro.one_on (i := 8) rfl (by kernel_rfl) (by rfl) (fun K hK => ?_)
     go_simp
     go_at_call 38
     refine (Wd.rmul _ _ _).mono ?_
     rintro e w8 ⟨rfl, rfl⟩
     refine hK.out _ _ ?_ (fun hNew => ?_)
     ·exact hHeld
     clear hK K hHeld; have hHeld := hNew; clear hNew
     try simp only [Ro.p]
     refine Ro.one_on (i := 9) rfl (by kernel_rfl) (by rfl) (fun K hK => ?_)
     go_simp
     go_at_call 44
     refine (Wd.radd _ _ _).mono ?_
     rintro e w9 ⟨rfl, rfl⟩
     refine hK.out _ _ ?_ (fun hNew => ?_)
     ·exact hHeld
     clear hK K hHeld; have hHeld := hNew; clear hNew
     try simp only [Ro.p]
     refine Ro.tn 10 ?_ ?_ ?_
     rotate_left
     ·intro wS hSw; (try dsimp only at hSw); go_simp; try with_reducible rfl
     try simp only [Ro.p]
     refine wpAnyH_done (by kernel_rfl) ?_ _
     go_wp2_with fail
     go_roundg GK
     case rel => exact ⟨j + 1, by have := HKK.out; omega, by go_num, by rw [HJ.out]; rfl, HX5.out.trans hHeld⟩
     case measure => omega
end Go.Proofs.YthhbhbfkbncegaaGreatDoor.Sl
end
end
end
end
end
end
