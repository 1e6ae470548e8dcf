/-

  Events (layer 46): the law ObserveEvents.
-/
import Derived.Test.YtnlndkpjfgpodabObsRef
set_option linter.unusedVariables false
set_option linter.unusedSimpArgs false
namespace Go.Proofs.Ytnlndkpjfgpodab.Ob
open Go.ChangeShapes Go.WideShapes Go.ChangeAt Go.RowKit Ws
open Go.Shelf Rr

def exL : List Ev := [⟨0, 5, 0, 0, 0⟩, ⟨0, 5, 1, 0, 0⟩, ⟨0, 5, 0, 0, 0⟩, ⟨0, 7, 0, 0, 3⟩, ⟨0, 6, -1, 0, 0⟩]
theorem ex_worst : bst cmpW (ofT 0 (kindsL [7] exL)) = (3, true) := by decide +kernel
theorem ex_pre : ppN 0 (kindsL [5, 6] exL) = 1 := by decide +kernel
theorem ex_busy : cntS 0 (kindsL [5] exL) = 2 := by decide +kernel
theorem ex_idle : (kindsL [6] exL).length = 1 := by decide +kernel
set_option maxRecDepth 100000 in
theorem awake46_any (w : World) : Calls Try.prog 26 #[] w fun e w' => e = .returned (.bool true) ∧ Same w w' := by
  go_enter Try.func26, Try.ntmps26
  go_wp2_with fail
  obtain ⟨w1, hw1⟩ : ∃ w1, w1 = w.alloc (.cells #[.int .i64 0, .int .i64 5, .int .i64 0, .int .i64 0, .int .i64 0, .int .i64 0, .int .i64 5, .int .i64 1, .int .i64 0, .int .i64 0, .int .i64 0, .int .i64 5, .int .i64 0, .int .i64 0, .int .i64 0, .int .i64 0, .int .i64 7, .int .i64 0, .int .i64 0, .int .i64 3, .int .i64 0, .int .i64 6, .int .i64 (-1), .int .i64 0, .int .i64 0] 74) := ⟨_, rfl⟩
  obtain ⟨p, hp⟩ : ∃ p, p = w.heap.size := ⟨_, rfl⟩
  have hS1 : Same w w1 := by rw [hw1]; exact (Same.refl _).alloc _
  have hr : Row w1 (some ⟨p, 0, none⟩) (evCells exL) := by rw [hw1, hp]; exact row_new _ _ _
  have hE := evs_row (by decide) hr
  rw [← hw1, ← hp]
  clear hw1 hp hr
  have WA := worst_any (some ⟨p, 0, none⟩) 5 5 exL 0 w1 rfl (by omega) hE
  rw [ex_worst] at WA
  refine WA.mono ?_
  rintro e w2 ⟨rfl, s2⟩
  have hE2 := hE.same s2
  have hS2 := hS1.trans s2
  have PA := pre_any (some ⟨p, 0, none⟩) 5 5 exL 0 w2 rfl (by omega) hE2
  rw [ex_pre] at PA
  clear WA hE hS1 s2
  have HE2 := Lib.hid hE2
  have HS2 := Lib.hid hS2
  clear hE2 hS2
  go_wp2_with fail
  refine PA.mono ?_
  rintro e w3 ⟨rfl, s3⟩
  have hE3 := HE2.out.same s3
  have HS3 := Lib.hid (HS2.out.trans s3)
  have BA := busy_any (some ⟨p, 0, none⟩) 5 5 exL 0 w3 rfl (by omega) hE3
  rw [ex_busy] at BA
  have HE3 := Lib.hid hE3
  clear PA s3 hE3
  go_wp2_with fail
  refine BA.mono ?_
  rintro e w4 ⟨rfl, s4⟩
  have hE4 := HE3.out.same s4
  have HS4 := Lib.hid (HS3.out.trans s4)
  have IA := idle_any (some ⟨p, 0, none⟩) 5 5 exL w4 rfl (by omega) hE4
  rw [ex_idle] at IA
  clear BA s4 hE4
  go_wp2_with fail
  refine IA.mono ?_
  rintro e w5 ⟨rfl, s5⟩
  have HS5 := Lib.hid (HS4.out.trans s5)
  clear IA s5
  go_wp2_with fail
  go_ret
  exact ⟨rfl, HS5.out⟩
/-! ### what the law's loop counts -/
theorem bst_two (cmp : Int → Int → Bool) (l : List Ev) : (bst cmp l).2 = !l.isEmpty := by
  refine snoc_ind (P := fun l => (bst cmp l).2 = !l.isEmpty) rfl (fun t x ih => ?_) l
  rw [bst_snoc]
  have h : (t ++ [x]).isEmpty = false := by cases t <;> rfl
  rw [h]
  unfold bstS
  split
  · rfl
  · rename_i hn
    cases hb : (bst cmp t).2 with
    | false => exact absurd (.inl hb) hn
    | true => rfl
/-- worst, least, whether there is one, busy, idle -/
structure Tal where
  w : Int
  l : Int
  a : Bool
  b : Nat
  d : Nat
def tal (i : Int) (p : List Ev) : Tal := ⟨(bst cmpW (ofT i (kindsL [7] p))).1, (bst cmpL (ofT i (kindsL [7] p))).1, (bst cmpW (ofT i (kindsL [7] p))).2, cntS i (kindsL [5] p), (kindsL [6] p).length⟩
theorem tal_l (i : Int) (p : List Ev) : (bst cmpL (ofT i (kindsL [7] p))).2 = (tal i p).a := by
  show _ = (bst cmpW (ofT i (kindsL [7] p))).2
  rw [bst_two, bst_two]
theorem kindsL_snoc (ks : List Int) (l : List Ev) (x : Ev) : kindsL ks (l ++ [x]) = kindsL ks l ++ if x.k ∈ ks then [x] else [] := by
  unfold kindsL
  rw [List.filter_append]
  congr 1
  by_cases hm : x.k ∈ ks
  · rw [if_pos hm, List.filter_cons, decide_eq_true hm]; rfl
  · rw [if_neg hm, List.filter_cons, decide_eq_false hm]; rfl
def talS (i : Int) (t : Tal) (x : Ev) : Tal :=
  if x.k = 7 ∧ x.s = i then ⟨if t.a = false ∨ t.w < x.b then x.b else t.w, if t.a = false ∨ x.b < t.l then x.b else t.l, true, t.b, t.d⟩
  else if x.k = 5 ∧ x.s = i then { t with b := t.b + 1 } else if x.k = 6 then { t with d := t.d + 1 } else t
theorem kin (ks : List Int) (l : List Ev) (x : Ev) (h : x.k ∈ ks) : kindsL ks (l ++ [x]) = kindsL ks l ++ [x] := by rw [kindsL_snoc, if_pos h]
theorem kout (ks : List Int) (l : List Ev) (x : Ev) (h : ¬ x.k ∈ ks) : kindsL ks (l ++ [x]) = kindsL ks l := by rw [kindsL_snoc, if_neg h, List.append_nil]
theorem tal_snoc (i : Int) (p : List Ev) (x : Ev) : tal i (p ++ [x]) = talS i (tal i p) x := by
  have hl := tal_l i p
  by_cases h7 : x.k = 7
  · have a7 := kin [7] p x (by rw [List.mem_singleton]; exact h7)
    have a5 := kout [5] p x (by rw [List.mem_singleton]; omega)
    have a6 := kout [6] p x (by rw [List.mem_singleton]; omega)
    unfold tal at hl ⊢
    rw [a7, a5, a6]
    simp only at hl
    by_cases hs : x.s = i
    · have e : ofT i (kindsL [7] p ++ [x]) = ofT i (kindsL [7] p) ++ [x] := by rw [ofT_snoc, if_pos hs]
      rw [e, bst_snoc, bst_snoc]
      unfold talS
      rw [if_pos ⟨h7, hs⟩]
      generalize bst cmpW (ofT i (kindsL [7] p)) = W at *
      generalize bst cmpL (ofT i (kindsL [7] p)) = L at *
      obtain ⟨W1, W2⟩ := W
      obtain ⟨L1, L2⟩ := L
      simp only at hl
      subst hl
      have e1 : (cmpW x.b W1 = true) = (W1 < x.b) := by unfold cmpW; exact propext (by rw [decide_eq_true_iff])
      have e2 : (cmpL x.b L1 = true) = (x.b < L1) := by unfold cmpL; exact propext (by rw [decide_eq_true_iff])
      unfold bstS
      simp only [e1, e2]
      cases L2 with
      | false => simp
      | true =>
        simp only [Bool.true_eq_false, false_or]
        congr 1
        · split <;> rfl
        · split <;> rfl
        · split <;> rfl
    · have e : ofT i (kindsL [7] p ++ [x]) = ofT i (kindsL [7] p) := by rw [ofT_snoc, if_neg hs, List.append_nil]
      rw [e]
      unfold talS
      rw [if_neg (fun h => hs h.2), if_neg (fun h => hs h.2), if_neg (by omega)]
  · have a7 := kout [7] p x (by rw [List.mem_singleton]; exact h7)
    by_cases h5 : x.k = 5
    · have a5 := kin [5] p x (by rw [List.mem_singleton]; exact h5)
      have a6 := kout [6] p x (by rw [List.mem_singleton]; omega)
      unfold tal
      rw [a7, a5, a6]
      unfold talS
      rw [if_neg (fun h => h7 h.1)]
      by_cases hs : x.s = i
      · have e : cntS i (kindsL [5] p ++ [x]) = cntS i (kindsL [5] p) + 1 := by rw [cntS_snoc, if_pos hs]
        rw [e, if_pos ⟨h5, hs⟩]
      · have e : cntS i (kindsL [5] p ++ [x]) = cntS i (kindsL [5] p) := by rw [cntS_snoc, if_neg hs, Nat.add_zero]
        rw [e, if_neg (fun h => hs h.2), if_neg (by omega)]
    · have a5 := kout [5] p x (by rw [List.mem_singleton]; exact h5)
      by_cases h6 : x.k = 6
      · have a6 := kin [6] p x (by rw [List.mem_singleton]; exact h6)
        unfold tal
        rw [a7, a5, a6]
        unfold talS
        rw [if_neg (fun h => h7 h.1), if_neg (fun h => h5 h.1), if_pos h6, List.length_append]
        rfl
      · have a6 := kout [6] p x (by rw [List.mem_singleton]; exact h6)
        unfold tal
        rw [a7, a5, a6]
        unfold talS
        rw [if_neg (fun h => h7 h.1), if_neg (fun h => h5 h.1), if_neg h6]
/-! ### the law -/
set_option maxRecDepth 100000 in
set_option maxHeartbeats 4000000 in
theorem ev_walk (A : Option Addr) (m c : Nat) (evs : List Ev) (i : Int) (w : World) (hl : evs.length = m) (hE : Evs w A evs) :
    Calls Try.prog 8 #[.slice A m c, .int .i64 i] w fun e w' => e = .returned (.bool true) ∧ Same w w' := by
  by_cases hm : m ≤ 300
  · have hm1 : ¬ (300 : Int) < (m : Int) := by omega
    have HL := Lib.hid hl
    have HE := Lib.hid hE
    clear hl hE
    go_enter Try.func8, Try.ntmps8
    go_wp2_with fail
    go_loopg [22, 5, 6, 7, 8, 9] m (fun gk iv wv lv av bv dv wx => ∃ k : Nat, k + gk = m ∧ iv = .int .i64 k ∧ wv = .int .i64 (tal i (evs.take k)).w ∧ lv = .int .i64 (tal i (evs.take k)).l ∧ av = .bool (tal i (evs.take k)).a ∧
      bv = .int .i64 ((tal i (evs.take k)).b : Nat) ∧ dv = .int .i64 ((tal i (evs.take k)).d : Nat) ∧ Same w wx)
    case atStart => exact ⟨0, by omega, rfl, rfl, rfl, rfl, rfl, rfl, Same.refl _⟩
    case round =>
      obtain ⟨k, hk, rfl, rfl, rfl, rfl, rfl, rfl, sx⟩ := hrel
      have HS := Lib.hid sx
      clear sx
      cases gk with
      | zero =>
        obtain rfl : k = m := by omega
        have hge : ¬ (k : Int) < (k : Int) := by omega
        have e : evs.take k = evs := List.take_of_length_le (by have := HL.out; omega)
        rw [e]
        clear e
        have WA := Lib.hid (fun W (s : Same w W) => worst_any A k c evs i W HL.out hm (HE.out.same s))
        have LA := Lib.hid (fun W (s : Same w W) => least_any A k c evs i W HL.out hm (HE.out.same s))
        have BA := Lib.hid (fun W (s : Same w W) => busy_any A k c evs i W HL.out hm (HE.out.same s))
        have IA := Lib.hid (fun W (s : Same w W) => idle_any A k c evs W HL.out hm (HE.out.same s))
        have PA := Lib.hid (fun W (s : Same w W) => pre_any A k c evs i W HL.out hm (HE.out.same s))
        have RA := Lib.hid (fun W (s : Same w W) => rpre_any A k c evs i W HL.out hm (HE.out.same s))
        have hw : bst cmpW (ofT i (kindsL [7] evs)) = ((tal i evs).w, (tal i evs).a) := rfl
        have hl : bst cmpL (ofT i (kindsL [7] evs)) = ((tal i evs).l, (tal i evs).a) := Prod.ext rfl (tal_l i evs)
        have hb : cntS i (kindsL [5] evs) = (tal i evs).b := rfl
        have hd : (kindsL [6] evs).length = (tal i evs).d := rfl
        rw [hw] at WA
        rw [hl] at LA
        rw [hb] at BA
        rw [hd] at IA
        clear hw hl hb hd
        generalize tal i evs = T at *
        generalize ((ppN i (kindsL [5, 6] evs) : Nat) : Int) = P at *
        obtain ⟨tw, tl, ta, tb, td⟩ := T
        simp only at WA LA BA IA ⊢
        generalize ((tb : Nat) : Int) = ib at *
        generalize ((td : Nat) : Int) = ic at *
        go_wp2_with fail
        refine (WA.out _ HS.out).mono ?_
        rintro e w1 ⟨rfl, s1⟩
        have HS1 := Lib.hid (HS.out.trans s1)
        clear s1
        go_wp2_with fail
        refine (LA.out _ HS1.out).mono ?_
        rintro e w2 ⟨rfl, s2⟩
        have HS2 := Lib.hid (HS1.out.trans s2)
        clear s2
        have eta : (ta == ta) = true := by cases ta <;> rfl
        go_wp2_with fail
        refine (BA.out _ HS2.out).mono ?_
        rintro e w3 ⟨rfl, s3⟩
        have HS3 := Lib.hid (HS2.out.trans s3)
        clear s3
        go_wp2_with fail
        refine (IA.out _ HS3.out).mono ?_
        rintro e w4 ⟨rfl, s4⟩
        have HS4 := Lib.hid (HS3.out.trans s4)
        clear s4
        go_wp2_with fail
        refine (PA.out _ HS4.out).mono ?_
        rintro e w5 ⟨rfl, s5⟩
        have HS5 := Lib.hid (HS4.out.trans s5)
        clear s5
        go_wp2_with fail
        refine (RA.out _ HS5.out).mono ?_
        rintro e w6 ⟨rfl, s6⟩
        have HS6 := Lib.hid (HS5.out.trans s6)
        clear s6
        go_wp2_with fail
        refine (awake46_any _).mono ?_
        rintro e w7 ⟨rfl, s7⟩
        have HS7 := Lib.hid (HS6.out.trans s7)
        clear s7
        go_wp2_with fail
        go_ret
        exact ⟨rfl, HS7.out⟩
      | succ GK =>
        have hlt : (k : Int) < m := by omega
        have hk0 : (0 : Int) ≤ (k : Int) := by omega
        obtain ⟨x, hx⟩ : ∃ x, evs[k]? = some x := ⟨_, List.getElem?_eq_getElem (show k < evs.length by have := HL.out; omega)⟩
        have HT := Lib.hid (show tal i (evs.take (k + 1)) = talS i (tal i (evs.take k)) x from by rw [take_snoc hx, tal_snoc])
        obtain ⟨hwf, b, o, rfl, c0, c1, c2, c3, c4⟩ := (HE.out.same HS.out) k _ hx
        have hb3 : (tal i (evs.take k)).b ≤ 300 := by
          have h1 := cntS_le i (kindsL [5] (evs.take k))
          have h2 := kinds_len [5] (evs.take k)
          have h3 : (evs.take k).length ≤ k := by rw [List.length_take]; omega
          show cntS i (kindsL [5] (evs.take k)) ≤ 300
          omega
        have hd3 : (tal i (evs.take k)).d ≤ 300 := by
          have h2 := kinds_len [6] (evs.take k)
          have h3 : (evs.take k).length ≤ k := by rw [List.length_take]; omega
          show (kindsL [6] (evs.take k)).length ≤ 300
          omega
        obtain ⟨T, hT⟩ : ∃ T, T = tal i (evs.take k) := ⟨_, rfl⟩
        rw [← hT] at HT hb3 hd3 ⊢
        clear hT hx hwf
        obtain ⟨tw, tl, ta, tb, td⟩ := T
        simp only at hb3 hd3 ⊢
        unfold talS at HT
        simp only at HT
        have HS1 := Lib.hid (HS.out.trans ((Same.refl wr).alloc (.cells #[.int .i64 x.t, .int .i64 x.k, .int .i64 x.s, .int .i64 x.a, .int .i64 x.b] 74)))
        have hb4 : ((tb : Nat) : Int) ≤ 300 := by omega
        have hd4 : ((td : Nat) : Int) ≤ 300 := by omega
        have hb5 : (0 : Int) ≤ ((tb : Nat) : Int) := by omega
        have hd5 : (0 : Int) ≤ ((td : Nat) : Int) := by omega
        by_cases h7 : x.k = 7
        · skip
          by_cases hs : x.s = i
          · have HT1 := Lib.hid (HT.out.trans (if_pos ⟨h7, hs⟩))
            rw [h7, hs] at HS1
            clear HT
            cases ta with
            | false =>
              have HT3 := Lib.hid (show tal i (evs.take (k + 1)) = ⟨x.b, x.b, true, tb, td⟩ from by rw [HT1.out]; simp)
              clear HT1
              go_wp2_with fail
              go_roundg GK
              case rel => exact ⟨k + 1, by omega, by go_num, by rw [HT3.out], by rw [HT3.out], by rw [HT3.out], by rw [HT3.out], by rw [HT3.out], HS1.out⟩
              case measure => omega
            | true =>
              by_cases hw : tw < x.b
              · by_cases hl : x.b < tl
                · have HT3 := Lib.hid (show tal i (evs.take (k + 1)) = ⟨x.b, x.b, true, tb, td⟩ from by rw [HT1.out]; simp only [Bool.true_eq_false, false_or]; rw [if_pos hw, if_pos hl])
                  clear HT1
                  go_wp2_with fail
                  go_roundg GK
                  case rel => exact ⟨k + 1, by omega, by go_num, by rw [HT3.out], by rw [HT3.out], by rw [HT3.out], by rw [HT3.out], by rw [HT3.out], HS1.out⟩
                  case measure => omega
                · have HT3 := Lib.hid (show tal i (evs.take (k + 1)) = ⟨x.b, tl, true, tb, td⟩ from by rw [HT1.out]; simp only [Bool.true_eq_false, false_or]; rw [if_pos hw, if_neg hl])
                  clear HT1
                  go_wp2_with fail
                  go_roundg GK
                  case rel => exact ⟨k + 1, by omega, by go_num, by rw [HT3.out], by rw [HT3.out], by rw [HT3.out], by rw [HT3.out], by rw [HT3.out], HS1.out⟩
                  case measure => omega
              · by_cases hl : x.b < tl
                · have HT3 := Lib.hid (show tal i (evs.take (k + 1)) = ⟨tw, x.b, true, tb, td⟩ from by rw [HT1.out]; simp only [Bool.true_eq_false, false_or]; rw [if_neg hw, if_pos hl])
                  clear HT1
                  go_wp2_with fail
                  go_roundg GK
                  case rel => exact ⟨k + 1, by omega, by go_num, by rw [HT3.out], by rw [HT3.out], by rw [HT3.out], by rw [HT3.out], by rw [HT3.out], HS1.out⟩
                  case measure => omega
                · have HT3 := Lib.hid (show tal i (evs.take (k + 1)) = ⟨tw, tl, true, tb, td⟩ from by rw [HT1.out]; simp only [Bool.true_eq_false, false_or]; rw [if_neg hw, if_neg hl])
                  clear HT1
                  go_wp2_with fail
                  go_roundg GK
                  case rel => exact ⟨k + 1, by omega, by go_num, by rw [HT3.out], by rw [HT3.out], by rw [HT3.out], by rw [HT3.out], by rw [HT3.out], HS1.out⟩
                  case measure => omega
          · have es : (x.s == i) = false := by simpa using hs
            have HT3 := Lib.hid (((HT.out.trans (if_neg (fun h => hs h.2))).trans (if_neg (fun h => hs h.2))).trans (if_neg (by omega)))
            rw [h7] at HS1
            clear HT
            go_wp2_with fail
            go_roundg GK
            case rel => exact ⟨k + 1, by omega, by go_num, by rw [HT3.out], by rw [HT3.out], by rw [HT3.out], by rw [HT3.out], by rw [HT3.out], HS1.out⟩
            case measure => omega
        · have e7 : (x.k == 7) = false := by simpa using h7
          have HT1 := Lib.hid (HT.out.trans (if_neg (fun h => h7 h.1)))
          by_cases h5 : x.k = 5
          · skip
            by_cases hs : x.s = i
            · have HT3 := Lib.hid (HT1.out.trans (if_pos ⟨h5, hs⟩))
              rw [h5, hs] at HS1
              clear HT HT1
              go_wp2_with fail
              go_roundg GK
              case rel => exact ⟨k + 1, by omega, by go_num, by rw [HT3.out], by rw [HT3.out], by rw [HT3.out], by rw [HT3.out]; rfl, by rw [HT3.out], HS1.out⟩
              case measure => omega
            · have es : (x.s == i) = false := by simpa using hs
              have HT3 := Lib.hid ((HT1.out.trans (if_neg (fun h => hs h.2))).trans (if_neg (by omega)))
              rw [h5] at HS1
              clear HT HT1
              go_wp2_with fail
              go_roundg GK
              case rel => exact ⟨k + 1, by omega, by go_num, by rw [HT3.out], by rw [HT3.out], by rw [HT3.out], by rw [HT3.out], by rw [HT3.out], HS1.out⟩
              case measure => omega
          · have e5 : (x.k == 5) = false := by simpa using h5
            have HT2 := Lib.hid (HT1.out.trans (if_neg (fun h => h5 h.1)))
            by_cases h6 : x.k = 6
            · have HT3 := Lib.hid (HT2.out.trans (if_pos h6))
              rw [h6] at HS1
              clear HT HT1 HT2
              go_wp2_with fail
              go_roundg GK
              case rel => exact ⟨k + 1, by omega, by go_num, by rw [HT3.out], by rw [HT3.out], by rw [HT3.out], by rw [HT3.out], by rw [HT3.out]; rfl, HS1.out⟩
              case measure => omega
            · have e6 : (x.k == 6) = false := by simpa using h6
              have HT3 := Lib.hid (HT2.out.trans (if_neg h6))
              clear HT HT1 HT2
              go_wp2_with fail
              go_roundg GK
              case rel => exact ⟨k + 1, by omega, by go_num, by rw [HT3.out], by rw [HT3.out], by rw [HT3.out], by rw [HT3.out], by rw [HT3.out], HS1.out⟩
              case measure => omega
  · have hm1 : (300 : Int) < (m : Int) := by omega
    have AW := fun W => awake46_any W
    clear hl hE
    go_enter Try.func8, Try.ntmps8
    go_wp2_with fail
    refine (AW _).mono ?_
    rintro e w1 ⟨rfl, hs⟩
    have HS := Lib.hid hs
    clear hs
    go_wp2_with fail
    go_ret
    exact ⟨rfl, HS.out⟩
theorem ev_in (A : Option Addr) (m c : Nat) (rows : List (List Int)) (i : Int) (w : World) (hr : Fl.Rows w A [.i64, .i64, .i64, .i64, .i64] rows) (hl : rows.length = m) :
    Calls Try.prog 8 #[.slice A m c, .int .i64 i] w fun e w' => e = .returned (.bool true) ∧ Same w w' := by
  obtain ⟨l, h1, h2⟩ := evs_in hr
  exact ev_walk A m c l i w (by omega) h2
end Go.Proofs.Ytnlndkpjfgpodab.Ob
