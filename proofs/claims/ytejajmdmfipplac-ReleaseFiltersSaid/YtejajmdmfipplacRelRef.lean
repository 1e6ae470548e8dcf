/-

  The document's Filter (layer 27).
-/
import Derived.Test.YtejajmdmfipplacRelFilter
set_option linter.unusedVariables false
set_option linter.unusedSimpArgs false
namespace Go.Proofs.Ytejajmdmfipplac.Rl
open Go.ChangeShapes Go.WideShapes Go.ChangeAt Go.RowKit Ws

set_option maxRecDepth 100000 in
set_option maxHeartbeats 1000000 in
theorem rfilter_any (P : Int) (ts : List Int) (A : Option Addr) (n c : Nat) (w : World) (hl : ts.length = n) (hn : n ≤ 1000) (hr : Row w A (ts.map (Value.int .i64))) (hb : BD ts) :
    Calls Try.prog 6 #[.int .i64 P, .slice A n c] w (Told w (runTo P ts n).1 (runTo P ts n).2) := by
  obtain ⟨i0, hi, hz0, hz1, hz2⟩ := info_parts int_info
  have HL := Lib.hid hl
  have HR := Lib.hid hr
  have HB := Lib.hid (fun k (hk : k < n) => (show -9223372036854775808 ≤ ts.getD k 0 ∧ ts.getD k 0 ≤ 9223372036854775807 by
    rw [List.getD_eq_getElem?_getD, List.getElem?_eq_getElem (by omega)]
    exact hb _ (List.getElem_mem _)))
  have HG := Lib.hid (fun k (hk : k ≤ n) => run_good P ts (fun x hx => (hb x hx).2) k (by omega))
  clear hl hr hb
  go_enter Try.func6, Try.ntmps6
  go_wp2_with fail
  go_loopg [14, 6, 7] n (fun gk iv v1 v2 wx => ∃ (k : Nat) (A1 : Option Addr) (n1 c1 : Nat) (A2 : Option Addr) (n2 c2 : Nat), k + gk = n ∧ iv = .int .i64 k ∧ v1 = .slice A1 n1 c1 ∧ v2 = .slice A2 n2 c2 ∧ n1 = (runTo P ts k).1.length ∧ n2 = (runTo P ts k).2.length ∧ Two wx w.heap.size A1 c1 (runTo P ts k).1 A2 c2 (runTo P ts k).2 ∧ Same w wx)
  case atStart => exact ⟨0, none, 0, 0, none, 0, 0, by omega, rfl, rfl, rfl, rfl, rfl, two_nil _ _, Same.refl _⟩
  case round =>
    obtain ⟨k, A1, n1, c1, A2, n2, c2, hk, rfl, rfl, rfl, hn1, hn2, ht, sx⟩ := hrel
    have HN1 := Lib.hid hn1
    have HN2 := Lib.hid hn2
    have HT := Lib.hid ht
    have HS := Lib.hid sx
    clear hn1 hn2 ht sx
    cases gk with
    | zero =>
      obtain rfl : n = k := by omega
      have hge : ¬ (n : Int) < (n : Int) := by omega
      go_wp2_with fail
      go_ret2
      exact told_mk HT.out HN1.out HN2.out HS.out
    | succ GK =>
      have hlt : (k : Int) < n := by omega
      have hk0 : (0 : Int) ≤ k := by omega
      have hlen := run_len P ts k
      have hbk := HB.out k (by omega)
      have HGK := Lib.hid (HG.out k (by omega))
      obtain ⟨b, o, rfl, c0⟩ := (HR.out.same HS.out).at_ (k := k) (by have := HL.out; simp; omega)
      have hx : ts[k]'(by have := HL.out; omega) = ts.getD k 0 := by
        rw [List.getD_eq_getElem?_getD, List.getElem?_eq_getElem (by have := HL.out; omega)]
        rfl
      rw [List.getElem_map, hx] at c0
      clear hx
      have HYES := Lib.hid (fun h => run_yes (P := P) (ts := ts) (k := k) h)
      have HNO := Lib.hid (fun h => run_no (P := P) (ts := ts) (k := k) h)
      generalize ts.getD k 0 = t at *
      by_cases h0 : n1 = 0
      · subst h0
        have hem : (runTo P ts k).1 = [] := List.eq_nil_of_length_eq_zero HN1.out.symm
        by_cases ht0 : t < 0
        · have e1 : ¬ 0 ≤ t := by omega
          have HE := Lib.hid (HNO.out (by unfold nextB okR; rw [decide_eq_false e1]; simp))
          clear HNO HYES hem
          go_wp2_with (at_builtin; go_loud (refine wpList_app rfl (.tmp 51) (.tmp 53) 22 rfl w.heap.size 3 i0 _ 8 Try.underlying22 hi hz0 hz1 hz2 rfl A2 n2 c2 ((runTo P ts k).2.map (Value.int .i64)) rfl ?c1 (HT.out.two.same ((Same.refl _).alloc _)) _ 1 1 [.int .i64 t] rfl rfl (row_new _ _ _) (ints_one t) ?c3 (by omega) ?c4 ?_))
          case c1 => first | exact HN2.out.symm | (rw [List.length_map]; exact HN2.out.symm)
          case c3 => first | omega | (rw [List.length_map]; simp; omega)
          case c4 => have := HS.out.size; simp at this ⊢; omega
          intro A' c' w2 ho2 hc2 hA2
          have hA3 : A' = A2 ∨ A' = some ⟨(wr.alloc (.cells #[.int .i64 t] 3)).heap.size, 0, none⟩ := by simpa using hA2
          have HT2 := Lib.hid ((HT.out.same ((Same.refl _).alloc _)).app2 ho2 hc2 hA3)
          have HS2 := Lib.hid (Same.more (HS.out.alloc _) hc2 fun i h => HT.out.new2 i h)
          clear ho2 hc2 hA2 hA3
          go_wp2_with fail
          go_roundg GK
          case rel => exact ⟨k + 1, A1, 0, c1, A', n2 + 1, c', by omega, by go_num, rfl, rfl, by rw [HE.out]; exact HN1.out, by rw [HE.out, HN2.out]; simp, by rw [HE.out]; exact HT2.out, HS2.out⟩
          case measure => omega
        · by_cases hP : P < 1
          · have e1 : 0 ≤ t := by omega
            have e2 : ¬ 1 ≤ P := by omega
            have HE := Lib.hid (HNO.out (by unfold nextB okR; rw [decide_eq_false e2]; simp))
            clear HNO HYES hem
            go_wp2_with (at_builtin; go_loud (refine wpList_app rfl (.tmp 51) (.tmp 53) 22 rfl w.heap.size 3 i0 _ 8 Try.underlying22 hi hz0 hz1 hz2 rfl A2 n2 c2 ((runTo P ts k).2.map (Value.int .i64)) rfl ?c1 (HT.out.two.same ((Same.refl _).alloc _)) _ 1 1 [.int .i64 t] rfl rfl (row_new _ _ _) (ints_one t) ?c3 (by omega) ?c4 ?_))
            case c1 => first | exact HN2.out.symm | (rw [List.length_map]; exact HN2.out.symm)
            case c3 => first | omega | (rw [List.length_map]; simp; omega)
            case c4 => have := HS.out.size; simp at this ⊢; omega
            intro A' c' w2 ho2 hc2 hA2
            have hA3 : A' = A2 ∨ A' = some ⟨(wr.alloc (.cells #[.int .i64 t] 3)).heap.size, 0, none⟩ := by simpa using hA2
            have HT2 := Lib.hid ((HT.out.same ((Same.refl _).alloc _)).app2 ho2 hc2 hA3)
            have HS2 := Lib.hid (Same.more (HS.out.alloc _) hc2 fun i h => HT.out.new2 i h)
            clear ho2 hc2 hA2 hA3
            go_wp2_with fail
            go_roundg GK
            case rel => exact ⟨k + 1, A1, 0, c1, A', n2 + 1, c', by omega, by go_num, rfl, rfl, by rw [HE.out]; exact HN1.out, by rw [HE.out, HN2.out]; simp, by rw [HE.out]; exact HT2.out, HS2.out⟩
            case measure => omega
          · have e1 : 0 ≤ t := by omega
            have e2 : 1 ≤ P := by omega
            have HE := Lib.hid (HYES.out (by unfold nextB okR; rw [decide_eq_true e1, decide_eq_true e2, hem]; rfl))
            clear HNO HYES hem
            go_wp2_with (at_builtin; go_loud (refine wpList_app rfl (.tmp 47) (.tmp 49) 22 rfl w.heap.size 3 i0 _ 8 Try.underlying22 hi hz0 hz1 hz2 rfl A1 0 c1 ((runTo P ts k).1.map (Value.int .i64)) rfl ?c1 (HT.out.one.same ((Same.refl _).alloc _)) _ 1 1 [.int .i64 t] rfl rfl (row_new _ _ _) (ints_one t) ?c3 (by omega) ?c4 ?_))
            case c1 => first | exact HN1.out.symm | (rw [List.length_map]; exact HN1.out.symm) | exact List.eq_nil_of_length_eq_zero HN1.out.symm
            case c3 => first | omega | (rw [List.length_map]; simp; omega)
            case c4 => have := HS.out.size; simp at this ⊢; omega
            intro A' c' w2 ho2 hc2 hA2
            have hA3 : A' = A1 ∨ A' = some ⟨(wr.alloc (.cells #[.int .i64 t] 3)).heap.size, 0, none⟩ := by simpa using hA2
            have HT2 := Lib.hid ((HT.out.same ((Same.refl _).alloc _)).app1 ho2 hc2 hA3)
            have HS2 := Lib.hid (Same.more (HS.out.alloc _) hc2 fun i h => HT.out.new1 i h)
            clear ho2 hc2 hA2 hA3
            go_wp2_with fail
            go_roundg GK
            case rel => exact ⟨k + 1, A', 0 + 1, c', A2, n2, c2, by omega, by go_num, rfl, rfl, by rw [HE.out]; simp [← HN1.out], by rw [HE.out]; exact HN2.out, by rw [HE.out]; exact HT2.out, HS2.out⟩
            case measure => omega
      · obtain ⟨j, rfl⟩ : ∃ j, n1 = j + 1 := ⟨n1 - 1, by omega⟩
        have hne : ¬ (runTo P ts k).1 = [] := fun h => by have := HN1.out; rw [h] at this; simp at this
        have e2 : 1 ≤ P := HGK.out.one hne
        have hpos : (!(runTo P ts k).1.isEmpty) = true := by simpa using hne
        obtain ⟨b1, o1, rfl, d0⟩ := HT.out.one.row.at_ (k := j) (by rw [List.length_map, ← HN1.out]; omega)
        have hy : (runTo P ts k).1[j]'(by rw [← HN1.out]; omega) = lastI (runTo P ts k).1 := by
          rw [lastI_at hne, show (runTo P ts k).1.length - 1 = j by have := HN1.out; omega, List.getD_eq_getElem?_getD, List.getElem?_eq_getElem (by rw [← HN1.out]; omega)]
          rfl
        rw [List.getElem_map, hy] at d0
        obtain ⟨y0, y1⟩ := lastI_max HGK.out
        have HLY : Hid (lastI (runTo P ts k).1 = lastI (runTo P ts k).1) := Lib.hid rfl
        have HYES2 := Lib.hid (fun h => HYES.out (show okR P (!(runTo P ts k).1.isEmpty) (lastI (runTo P ts k).1) t = true from h))
        have HNO2 := Lib.hid (fun h => HNO.out (show okR P (!(runTo P ts k).1.isEmpty) (lastI (runTo P ts k).1) t = false from h))
        rw [hpos] at HYES2 HNO2
        clear HYES HNO hy HLY h0
        generalize lastI (runTo P ts k).1 = y at *
        have hj1 : (0 : Int) < ((j + 1 : Nat) : Int) := by omega
        have hj2 : ((j + 1 : Nat) : Int) - 1 = (j : Int) := by omega
        have hjb : j ≤ 1000 := by have := HN1.out; omega
        have hj3 : wrap64 (((j + 1 : Nat) : Int) - 1) = (j : Int) := by rw [hj2]; exact Go.IntWalk.wrap64_in _ (by omega)
        by_cases ht0 : t < 0
        · have e1 : ¬ 0 ≤ t := by omega
          have HE := Lib.hid (HNO2.out (by unfold okR; rw [decide_eq_false e1]; simp))
          clear HNO2 HYES2 hne HGK hpos
          go_wp2_with (at_builtin; go_loud (refine wpList_app rfl (.tmp 51) (.tmp 53) 22 rfl w.heap.size 3 i0 _ 8 Try.underlying22 hi hz0 hz1 hz2 rfl A2 n2 c2 ((runTo P ts k).2.map (Value.int .i64)) rfl ?c1 (HT.out.two.same ((Same.refl _).alloc _)) _ 1 1 [.int .i64 t] rfl rfl (row_new _ _ _) (ints_one t) ?c3 (by omega) ?c4 ?_))
          case c1 => first | exact HN2.out.symm | (rw [List.length_map]; exact HN2.out.symm)
          case c3 => first | omega | (rw [List.length_map]; simp; omega)
          case c4 => have := HS.out.size; simp at this ⊢; omega
          intro A' c' w2 ho2 hc2 hA2
          have hA3 : A' = A2 ∨ A' = some ⟨(wr.alloc (.cells #[.int .i64 t] 3)).heap.size, 0, none⟩ := by simpa using hA2
          have HT2 := Lib.hid ((HT.out.same ((Same.refl _).alloc _)).app2 ho2 hc2 hA3)
          have HS2 := Lib.hid (Same.more (HS.out.alloc _) hc2 fun i h => HT.out.new2 i h)
          clear ho2 hc2 hA2 hA3
          go_wp2_with fail
          go_roundg GK
          case rel => exact ⟨k + 1, (some ⟨b1, o1, none⟩), (j + 1), c1, A', n2 + 1, c', by omega, by go_num, rfl, rfl, by rw [HE.out]; exact HN1.out, by rw [HE.out, HN2.out]; simp, by rw [HE.out]; exact HT2.out, HS2.out⟩
          case measure => omega
        · by_cases hty : t < y
          · have e1 : 0 ≤ t := by omega
            have e3 : ¬ y ≤ t := by omega
            have HE := Lib.hid (HNO2.out (by unfold okR; rw [decide_eq_false (show ¬ P ≤ t - y by omega)]; simp))
            clear HNO2 HYES2 hne HGK hpos
            go_wp2_with (at_builtin; go_loud (refine wpList_app rfl (.tmp 51) (.tmp 53) 22 rfl w.heap.size 3 i0 _ 8 Try.underlying22 hi hz0 hz1 hz2 rfl A2 n2 c2 ((runTo P ts k).2.map (Value.int .i64)) rfl ?c1 (HT.out.two.same ((Same.refl _).alloc _)) _ 1 1 [.int .i64 t] rfl rfl (row_new _ _ _) (ints_one t) ?c3 (by omega) ?c4 ?_))
            case c1 => first | exact HN2.out.symm | (rw [List.length_map]; exact HN2.out.symm)
            case c3 => first | omega | (rw [List.length_map]; simp; omega)
            case c4 => have := HS.out.size; simp at this ⊢; omega
            intro A' c' w2 ho2 hc2 hA2
            have hA3 : A' = A2 ∨ A' = some ⟨(wr.alloc (.cells #[.int .i64 t] 3)).heap.size, 0, none⟩ := by simpa using hA2
            have HT2 := Lib.hid ((HT.out.same ((Same.refl _).alloc _)).app2 ho2 hc2 hA3)
            have HS2 := Lib.hid (Same.more (HS.out.alloc _) hc2 fun i h => HT.out.new2 i h)
            clear ho2 hc2 hA2 hA3
            go_wp2_with fail
            go_roundg GK
            case rel => exact ⟨k + 1, (some ⟨b1, o1, none⟩), (j + 1), c1, A', n2 + 1, c', by omega, by go_num, rfl, rfl, by rw [HE.out]; exact HN1.out, by rw [HE.out, HN2.out]; simp, by rw [HE.out]; exact HT2.out, HS2.out⟩
            case measure => omega
          · have f3 : wrap64 (t - y) = t - y := Go.IntWalk.wrap64_in _ (by omega)
            by_cases hd : t - y < P
            · have e1 : 0 ≤ t := by omega
              have e3 : y ≤ t := by omega
              have e4 : ¬ P ≤ t - y := by omega
              have HE := Lib.hid (HNO2.out (by unfold okR; rw [decide_eq_false e4]; simp))
              clear HNO2 HYES2 hne HGK hpos
              go_wp2_with (at_builtin; go_loud (refine wpList_app rfl (.tmp 51) (.tmp 53) 22 rfl w.heap.size 3 i0 _ 8 Try.underlying22 hi hz0 hz1 hz2 rfl A2 n2 c2 ((runTo P ts k).2.map (Value.int .i64)) rfl ?c1 (HT.out.two.same ((Same.refl _).alloc _)) _ 1 1 [.int .i64 t] rfl rfl (row_new _ _ _) (ints_one t) ?c3 (by omega) ?c4 ?_))
              case c1 => first | exact HN2.out.symm | (rw [List.length_map]; exact HN2.out.symm)
              case c3 => first | omega | (rw [List.length_map]; simp; omega)
              case c4 => have := HS.out.size; simp at this ⊢; omega
              intro A' c' w2 ho2 hc2 hA2
              have hA3 : A' = A2 ∨ A' = some ⟨(wr.alloc (.cells #[.int .i64 t] 3)).heap.size, 0, none⟩ := by simpa using hA2
              have HT2 := Lib.hid ((HT.out.same ((Same.refl _).alloc _)).app2 ho2 hc2 hA3)
              have HS2 := Lib.hid (Same.more (HS.out.alloc _) hc2 fun i h => HT.out.new2 i h)
              clear ho2 hc2 hA2 hA3
              go_wp2_with fail
              go_roundg GK
              case rel => exact ⟨k + 1, (some ⟨b1, o1, none⟩), (j + 1), c1, A', n2 + 1, c', by omega, by go_num, rfl, rfl, by rw [HE.out]; exact HN1.out, by rw [HE.out, HN2.out]; simp, by rw [HE.out]; exact HT2.out, HS2.out⟩
              case measure => omega
            · have e1 : 0 ≤ t := by omega
              have e3 : y ≤ t := by omega
              have e4 : P ≤ t - y := by omega
              have HE := Lib.hid (HYES2.out (by unfold okR; rw [decide_eq_true e1, decide_eq_true e2, decide_eq_true e4]; rfl))
              clear HNO2 HYES2 hne HGK hpos
              go_wp2_with (at_builtin; go_loud (refine wpList_app rfl (.tmp 47) (.tmp 49) 22 rfl w.heap.size 3 i0 _ 8 Try.underlying22 hi hz0 hz1 hz2 rfl (some ⟨b1, o1, none⟩) (j + 1) c1 ((runTo P ts k).1.map (Value.int .i64)) rfl ?c1 (HT.out.one.same ((Same.refl _).alloc _)) _ 1 1 [.int .i64 t] rfl rfl (row_new _ _ _) (ints_one t) ?c3 (by omega) ?c4 ?_))
              case c1 => first | exact HN1.out.symm | (rw [List.length_map]; exact HN1.out.symm) | exact List.eq_nil_of_length_eq_zero HN1.out.symm
              case c3 => first | omega | (rw [List.length_map]; simp; omega)
              case c4 => have := HS.out.size; simp at this ⊢; omega
              intro A' c' w2 ho2 hc2 hA2
              have hA3 : A' = (some ⟨b1, o1, none⟩) ∨ A' = some ⟨(wr.alloc (.cells #[.int .i64 t] 3)).heap.size, 0, none⟩ := by simpa using hA2
              have hc3 : Chg (fun g => (some ⟨b1, o1, none⟩ : Option Addr) = some ⟨g, 0, none⟩) _ w2 := hc2.weak (fun g _ h => by rw [h.1, h.2])
              have HT2 := Lib.hid ((HT.out.same ((Same.refl _).alloc _)).app1 ho2 hc3 hA3)
              have HS2 := Lib.hid (Same.more (HS.out.alloc _) hc3 fun i h => HT.out.new1 i h)
              clear ho2 hc2 hA2 hA3
              go_wp2_with fail
              go_roundg GK
              case rel => exact ⟨k + 1, A', (j + 1) + 1, c', A2, n2, c2, by omega, by go_num, rfl, rfl, by rw [HE.out]; simp [← HN1.out], by rw [HE.out]; exact HN2.out, by rw [HE.out]; exact HT2.out, HS2.out⟩
              case measure => omega

end Go.Proofs.Ytejajmdmfipplac.Rl
