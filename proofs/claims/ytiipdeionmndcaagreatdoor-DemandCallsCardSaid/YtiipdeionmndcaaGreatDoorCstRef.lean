/-

  The document's own answers on layer 12: more, inner, Part and Most of a program that may be.
-/
import Derived.Test.YtiipdeionmndcaaGreatDoorCstWeigh
import Derived.Test.YtiipdeionmndcaaGreatDoorRefFlow
set_option linter.unusedVariables false
set_option linter.unusedSimpArgs false
namespace Go.Proofs.YtiipdeionmndcaaGreatDoor.Cs
open Go.ChangeShapes Go.WideShapes Go.ChangeAt Go.RowKit Ws
open Go.Proofs.YtiipdeionmndcaaGreatDoor.Fp (Ins at_ Fine at_some lp loopsL nextL hasB)
open Go.Proofs.YtiipdeionmndcaaGreatDoor.Fw (Prg Spn spanCells spn_of)

theorem more_ref (a b : Int) (w : World) :
    Calls Tryz.prog 59 #[.int .i64 a, .int .i64 b] w fun e w' => e = .returned (.int .i64 (moreI a b)) ∧ w = w' := by
  unfold moreI
  by_cases ha : a < 0
  · rw [if_pos (.inl ha)]
    have b1 : decide (a < 0) = true := decide_eq_true ha
    go_enter Tryz.func59, Tryz.ntmps59
    go_wp2_with fail
    go_ret
    exact ⟨rfl, rfl⟩
  by_cases hb : b < 0
  · rw [if_pos (.inr hb)]
    have b1 : decide (a < 0) = false := decide_eq_false ha
    have b2 : decide (b < 0) = true := decide_eq_true hb
    go_enter Tryz.func59, Tryz.ntmps59
    go_wp2_with fail
    go_ret
    exact ⟨rfl, rfl⟩
  · rw [if_neg (fun h => h.elim ha hb)]
    have b1 : decide (a < 0) = false := decide_eq_false ha
    have b2 : decide (b < 0) = false := decide_eq_false hb
    have AD := Lib.hid (show Calls Tryz.prog 88 #[.int .i64 a, .int .i64 b] w fun e w' => e = .returned (.int .i64 (adI a b)) ∧ w = w' from Wd.radd a b w)
    go_enter Tryz.func59, Tryz.ntmps59
    go_wp2_with fail
    refine AD.out.mono ?_
    rintro e w' ⟨rfl, rfl⟩
    go_wp2_with fail
    go_ret
    exact ⟨rfl, rfl⟩
theorem inner_take {l : List (Int × Int)} (s : Int × Int) {k : Nat} (h : k < l.length) : innerL (l.take (k + 1)) s = innerL (l.take k) s ++ (if lp l k ≠ s ∧ s.1 ≤ (lp l k).1 ∧ (lp l k).2 ≤ s.2 then [lp l k] else []) := by
  unfold innerL
  rw [List.take_add_one, Fp.lp_get h, List.filter_append]
  congr 1
  simp [List.filter_cons]
theorem inner_len (l : List (Int × Int)) (s : Int × Int) : (innerL l s).length ≤ l.length := List.length_filter_le _ _
def InnerPost (w : World) (l : List (Int × Int)) (s : Int × Int) : Ending → World → Prop := fun e w' =>
  ∃ A c, e = .returned (.slice A (innerL l s).length c) ∧ OwnK w' w.heap.size 83 2 A (innerL l s).length c (spanCells (innerL l s)) ∧ Same w w'
set_option maxRecDepth 100000 in
theorem inner_ref (A : Option Addr) (m c : Nat) (l : List (Int × Int)) (s : Int × Int) (w : World) (hl : l.length = m) (hm : m ≤ 5000) (hp : Row w A (spanCells l)) :
    Calls Tryz.prog 58 #[.slice A m c, .agg #[.int .i64 s.1, .int .i64 s.2]] w (InnerPost w l s) := by
  obtain ⟨i0, hi, hz0, hz1, hz2⟩ := info_parts Fw.span_info
  have HL := Lib.hid hl
  have HP := Lib.hid hp
  clear hl hp
  unfold InnerPost
  obtain ⟨sa, sb⟩ := s
  simp only
  go_enter Tryz.func58, Tryz.ntmps58
  go_upto_region 1 with fail
  have B0 := Lib.hid (Blk.new w 83 #[.int .i64 sa, .int .i64 sb])
  have S0 := Lib.hid ((Same.refl w).alloc (.cells #[.int .i64 sa, .int .i64 sb] 83))
  generalize w.alloc (.cells #[.int .i64 sa, .int .i64 sb] 83) = w0 at *
  generalize hq : w.heap.size = q at *
  have HQ := Lib.hid hq
  clear hq
  go_wp2_with fail
  go_loopg [10, 5] m (fun gk iv lv wx => ∃ (k : Nat) (A' : Option Addr) (n' c' : Nat), k + gk = m ∧ iv = .int .i64 k ∧ lv = .slice A' n' c' ∧ n' = (innerL (l.take k) (sa, sb)).length ∧ OwnK wx w0.heap.size 83 2 A' n' c' (spanCells (innerL (l.take k) (sa, sb))) ∧ Same w0 wx)
  case atStart => exact ⟨0, none, 0, 0, by omega, rfl, rfl, rfl, OwnK.none _ _ _ _, Same.refl _⟩
  case round =>
    obtain ⟨k, A', n', c', hk, rfl, rfl, hn, ho, sx⟩ := hrel
    have HO := Lib.hid ho
    have HS := Lib.hid sx
    have HN := Lib.hid hn
    clear ho sx hn
    cases gk with
    | zero =>
      obtain rfl : k = m := by omega
      have hge : ¬ (k : Int) < (k : Int) := by omega
      go_wp2_with fail
      go_ret
      have e : l.take k = l := by rw [← HL.out, List.take_length]
      have h1 := HO.out
      have h2 := HN.out
      rw [e] at h1 h2
      subst h2
      exact ⟨A', c', rfl, h1.base S0.out.size, S0.out.trans HS.out⟩
    | succ GK =>
      have hlt : (k : Int) < m := by omega
      have hkl := Lib.hid (show k < l.length by have := HL.out; omega)
      obtain ⟨b, o, rfl, c0, c1⟩ := (spn_of (HP.out.same (S0.out.trans HS.out))).at_ hkl.out
      have HE := Lib.hid (inner_take (sa, sb) hkl.out)
      generalize lp l k = x at *
      obtain ⟨xa, xb⟩ := x
      simp only at c0 c1
      have b0 : wr.cell? ⟨q, 0, none⟩ = some (.int .i64 sa) := (B0.out.same HS.out).cell 0
      have b1 : wr.cell? ⟨q, 1, none⟩ = some (.int .i64 sb) := (B0.out.same HS.out).cell 1
      have hs1 := (Same.refl wr).alloc (.cells #[.int .i64 xa, .int .i64 xb] 83)
      have HS1 := Lib.hid (HS.out.trans hs1)
      have HO1 := Lib.hid (HO.out.same hs1)
      have B1 := Lib.hid (Blk.new wr 83 #[.int .i64 xa, .int .i64 xb])
      clear hs1
      go_upto_region 5 with fail
      have b0' := (HS1.out.trans (Same.refl _)).cell (show w0.cell? ⟨q, 0, none⟩ = some (.int .i64 sa) from B0.out.cell 0)
      have b1' := (HS1.out.trans (Same.refl _)).cell (show w0.cell? ⟨q, 1, none⟩ = some (.int .i64 sb) from B0.out.cell 1)
      have d0 := B1.out.cell 0
      have d1 : (wr.alloc (.cells #[.int .i64 xa, .int .i64 xb] 83)).cell? ⟨wr.heap.size, 1, none⟩ = some (.int .i64 xb) := B1.out.cell 1
      simp only [List.getElem?_toArray, List.getElem?_cons_zero] at d0
      generalize wr.alloc (.cells #[.int .i64 xa, .int .i64 xb] 83) = wA at *
      generalize wr.heap.size = qA at *
      clear b0 b1 c0 c1
      by_cases e1 : xa = sa
      · subst e1
        by_cases e2 : xb = sb
        · subst e2
          have hE := Lib.hid (HE.out.trans (by rw [if_neg (fun h => h.1 rfl)]))
          go_wp2_with fail
          go_roundg GK
          case rel => exact ⟨k + 1, A', n', c', by omega, by go_num, rfl, by rw [hE.out, List.append_nil]; exact HN.out, by rw [hE.out, List.append_nil]; exact HO1.out, HS1.out⟩
          case measure => omega
        · have f2 : (xb == sb) = false := by simpa using e2
          have g1 : decide (xa ≤ xa) = true := by simp
          by_cases e3 : xb ≤ sb
          · have g2 : decide (xb ≤ sb) = true := decide_eq_true e3
            have hE := Lib.hid (HE.out.trans (by rw [if_pos ⟨fun h => e2 (Prod.mk.inj h).2, Int.le_refl _, e3⟩]))
            go_wp2_with (at_builtin; go_loud (refine wpList_appK rfl (.tmp 31) (.tmp 33) 80 rfl w0.heap.size 83 i0 _ 2 16 Tryz.underlying80 hi hz0 hz1 hz2 rfl (by omega) A' n' c' (spanCells (innerL (l.take k) (xa, sb))) rfl (HO1.out.same ((Same.refl _).alloc _)) _ 1 1 [.int .i64 xa, .int .i64 xb] rfl rfl (row_new wA _ 83) (Fw.span_one _ _) ?c3 (by omega) ?c2 ?_))
            case c2 => have := HS1.out.size; simp at this ⊢; omega
            case c3 => have := HN.out; have h5 := inner_len (l.take k) (xa, sb); have := HL.out; rw [List.length_take] at h5; omega
            intro A2 c2' w2 ho2 hc2
            have HS2 := Lib.hid (Same.more (HS1.out.alloc _) hc2 fun g hg => by
              have hg : A' = some ⟨g, 0, none⟩ := hg
              subst hg
              exact HO.out.lt.1)
            rw [show spanCells (innerL (l.take k) (xa, sb)) ++ [.int .i64 xa, .int .i64 xb] = spanCells (innerL (l.take (k + 1)) (xa, sb)) by rw [hE.out, Fw.spanCells_app]; rfl] at ho2
            have HO2 := Lib.hid ho2
            clear ho2 hc2
            go_wp2_with fail
            go_roundg GK
            case rel => exact ⟨k + 1, A2, n' + 1, c2', by omega, by go_num, rfl, by rw [hE.out, List.length_append, HN.out]; rfl, HO2.out, HS2.out⟩
            case measure => omega
          · have g2 : decide (xb ≤ sb) = false := decide_eq_false e3
            have hE := Lib.hid (HE.out.trans (by rw [if_neg (fun h => e3 h.2.2)]))
            go_wp2_with fail
            go_roundg GK
            case rel => exact ⟨k + 1, A', n', c', by omega, by go_num, rfl, by rw [hE.out, List.append_nil]; exact HN.out, by rw [hE.out, List.append_nil]; exact HO1.out, HS1.out⟩
            case measure => omega
      · have f1 : (xa == sa) = false := by simpa using e1
        by_cases e3 : sa ≤ xa
        · have g1 : decide (sa ≤ xa) = true := decide_eq_true e3
          by_cases e4 : xb ≤ sb
          · have g2 : decide (xb ≤ sb) = true := decide_eq_true e4
            have hE := Lib.hid (HE.out.trans (by rw [if_pos ⟨fun h => e1 (Prod.mk.inj h).1, e3, e4⟩]))
            go_wp2_with (at_builtin; go_loud (refine wpList_appK rfl (.tmp 31) (.tmp 33) 80 rfl w0.heap.size 83 i0 _ 2 16 Tryz.underlying80 hi hz0 hz1 hz2 rfl (by omega) A' n' c' (spanCells (innerL (l.take k) (sa, sb))) rfl (HO1.out.same ((Same.refl _).alloc _)) _ 1 1 [.int .i64 xa, .int .i64 xb] rfl rfl (row_new wA _ 83) (Fw.span_one _ _) ?c3 (by omega) ?c2 ?_))
            case c2 => have := HS1.out.size; simp at this ⊢; omega
            case c3 => have := HN.out; have h5 := inner_len (l.take k) (sa, sb); have := HL.out; rw [List.length_take] at h5; omega
            intro A2 c2' w2 ho2 hc2
            have HS2 := Lib.hid (Same.more (HS1.out.alloc _) hc2 fun g hg => by
              have hg : A' = some ⟨g, 0, none⟩ := hg
              subst hg
              exact HO.out.lt.1)
            rw [show spanCells (innerL (l.take k) (sa, sb)) ++ [.int .i64 xa, .int .i64 xb] = spanCells (innerL (l.take (k + 1)) (sa, sb)) by rw [hE.out, Fw.spanCells_app]; rfl] at ho2
            have HO2 := Lib.hid ho2
            clear ho2 hc2
            go_wp2_with fail
            go_roundg GK
            case rel => exact ⟨k + 1, A2, n' + 1, c2', by omega, by go_num, rfl, by rw [hE.out, List.length_append, HN.out]; rfl, HO2.out, HS2.out⟩
            case measure => omega
          · have g2 : decide (xb ≤ sb) = false := decide_eq_false e4
            have hE := Lib.hid (HE.out.trans (by rw [if_neg (fun h => e4 h.2.2)]))
            go_wp2_with fail
            go_roundg GK
            case rel => exact ⟨k + 1, A', n', c', by omega, by go_num, rfl, by rw [hE.out, List.append_nil]; exact HN.out, by rw [hE.out, List.append_nil]; exact HO1.out, HS1.out⟩
            case measure => omega
        · have g1 : decide (sa ≤ xa) = false := decide_eq_false e3
          have hE := Lib.hid (HE.out.trans (by rw [if_neg (fun h => e3 h.2.1)]))
          go_wp2_with fail
          go_roundg GK
          case rel => exact ⟨k + 1, A', n', c', by omega, by go_num, rfl, by rw [hE.out, List.append_nil]; exact HN.out, by rw [hE.out, List.append_nil]; exact HO1.out, HS1.out⟩
          case measure => omega
end Go.Proofs.YtiipdeionmndcaaGreatDoor.Cs
