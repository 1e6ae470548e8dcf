/-

  Objects with their tasks: whether they may be, by a map of what was met (package object's Right).
-/
import Derived.Test.YtfpefkpbiioofabDoorObjRt2J
set_option linter.unusedVariables false
set_option linter.unusedSimpArgs false
namespace Go.Proofs.YtfpefkpbiioofabDoor.Os
open Go.ChangeShapes Go.WideShapes Go.ChangeAt Go.RowKit Go.Maps Ws

theorem om_chg {H : Type} {P : Program} {k : TypeId} {R : Value → Option (DataW H × List MemPlace)} {S : Nat → Prop} {w w' : World} {b n : Nat} {D : DataW H} (h : w.ownsMap P k R b n D) (hc : Chg S w w') (hn : ¬ S b) : w'.ownsMap P k R b n D := by
  have hlt := h.lt
  obtain ⟨es, clock, hb, F, hs, hD⟩ := h
  exact ⟨es, clock, (hc.block b hlt hn).trans hb, F, hs, hD⟩
/-- what the map tells of the numbers met so far -/
def MapOk (D : DataW Unit) (L : List Int) (i : Nat) : Prop := IsMap D ∧ (∀ y : Int, (∃ k : Nat, k < i ∧ L[k]? = some y) → D.atKey (.int .i64 y) (.lit (.int .i64 0)) = .lit (.int .i64 1)) ∧ (∀ y : Int, (∀ (k : Nat) (q : Int), k < i → L[k]? = some q → q ≠ y) → D.atKey (.int .i64 y) (.lit (.int .i64 0)) = .lit (.int .i64 0))
theorem mapok_zero (L : List Int) : MapOk (.map []) L 0 := by
  refine ⟨isMap_empty, fun y h => ?_, fun y _ => rfl⟩
  obtain ⟨k, hk, _⟩ := h
  omega
theorem key_lit (t : Int) : WideAt.IsKeyLit (.int .i64 t) := by trivial
theorem mapok_next {D : DataW Unit} {L : List Int} {i : Nat} {t : Int} (h : MapOk D L i) (ht : L[i]? = some t) : MapOk (D.put (.int .i64 t) (.lit (.int .i64 1))) L (i + 1) := by
  refine ⟨h.1.put _ _, fun y hy => ?_, fun y hy => ?_⟩
  · by_cases hyt : y = t
    · subst hyt
      exact atKey_put_same h.1 (key_lit _) _ _
    · rw [atKey_put_other (by intro h; injection h with _ h; exact hyt h)]
      obtain ⟨k, hk, hLk⟩ := hy
      refine h.2.1 y ⟨k, ?_, hLk⟩
      rcases Nat.lt_or_ge k i with hki | hki
      · exact hki
      · obtain rfl : k = i := by omega
        rw [ht] at hLk
        injection hLk with hLk
        exact absurd hLk.symm hyt
  · have hyt : ¬ y = t := fun h => hy i t (by omega) ht h.symm
    rw [atKey_put_other (by intro h; injection h with _ h; exact hyt h)]
    exact h.2.2 y (fun k q hk hq => hy k q (by omega) hq)
theorem lawI : Keyed Tryd.prog 3 := int_keyed Tryd.underlying3
theorem zeroI (w : World) : (zeroValue 3).run Tryd.prog w = .ok (.int .i64 0) w := by kernel_rfl
theorem wf_small (t : Int) (h : 0 ≤ t ∧ t ≤ 9) : (Lit.int .i64 t).wf = true := WalkArith.wf_i64 (by omega)
set_option maxRecDepth 100000 in
set_option maxHeartbeats 2000000 in
theorem oright_all (k wd sl cp sa ow : Int) (ia ra : Option Addr) (il ic rl rc : Nat) (rs : List Int) (w : World) (hl : rs.length = rl) (hrl : rl ≤ 100) (hr : Row w ra (rs.map (Value.int .i64))) (hwf : ∀ y ∈ ow :: rs, (Lit.int .i64 y).wf = true) (hsa : 0 ≤ sa ∧ sa < 4294967296) :
    Calls Tryd.prog 32 #[.agg #[.int .i64 k, .int .i64 wd, .int .i64 sl, .int .i64 cp, .int .u32 sa, .slice ia il ic, .int .i64 ow, .slice ra rl rc]] w fun e w' => e = .returned (.bool (rightO k wd sl cp sa il rl (ow :: rs))) ∧ Same w w' := by
  have hb := Blk.new w 43 #[.int .i64 k, .int .i64 wd, .int .i64 sl, .int .i64 cp, .int .u32 sa, .slice ia il ic, .int .i64 ow, .slice ra rl rc]
  have HB := Lib.hid hb
  have hs0 := (Same.refl w).alloc (.cells #[.int .i64 k, .int .i64 wd, .int .i64 sl, .int .i64 cp, .int .u32 sa, .slice ia il ic, .int .i64 ow, .slice ra rl rc] 43)
  have HS0 := Lib.hid hs0
  obtain ⟨d0, d1, d2, d3, d4, d5, d6, d7⟩ := ocs8 hb
  obtain ⟨i0, hi, hz0, hz1, hz2⟩ := info_parts int_info
  have HC := Lib.hid (fun w' => Fc.shaped_any k wd sl cp sa ow ia ra il ic rl rc w' hsa)
  have HL := Lib.hid hl
  have HR := Lib.hid hr
  have YES := Lib.hid (fun (h1 : Fc.rightF k wd sl cp sa il rl = true) (h : GoodTo (ow :: rs) (ow :: rs).length) => righto_yes h1 h)
  have BAD := Lib.hid (fun (h : ¬ GoodTo (ow :: rs) (ow :: rs).length) => righto_bad (k := k) (wd := wd) (sl := sl) (cp := cp) (sa := sa) (il := il) (rl := rl) h)
  have NO := Lib.hid (fun (h1 : Fc.rightF k wd sl cp sa il rl = false) => righto_no (l := ow :: rs) h1)
  have WFL := Lib.hid hwf
  clear hwf
  have HLL := Lib.hid (show (ow :: rs).length = rl + 1 by rw [List.length_cons, hl])
  have hone : ∀ u ∈ rs.map (Value.int .i64), u.oneCell' = true := by
    intro u hu
    obtain ⟨y, _, rfl⟩ := List.mem_map.1 hu
    rfl
  have HONE := Lib.hid hone
  clear hb hs0 hl hr hone
  generalize rightO k wd sl cp sa il rl (ow :: rs) = res at *
  cases hrt : Fc.rightF k wd sl cp sa il rl
  · have hres := NO.out hrt
    subst hres
    rw [hrt] at HC
    clear hrt YES BAD NO
    have hmm := @run_makeMap Tryd.prog
    go_enter Tryd.func32, Tryd.ntmps32
    go_wp2_with fail
    refine (HC.out _).mono ?_
    rintro e w1 ⟨rfl, s1⟩
    have HS1 := Lib.hid (HS0.out.trans s1)
    clear s1
    go_wp2_with fail
    go_ret
    exact ⟨rfl, HS1.out⟩
  · have HY := Lib.hid (YES.out hrt)
    rw [hrt] at HC
    clear hrt YES NO
    have hmm := @run_makeMap Tryd.prog
    go_enter Tryd.func32, Tryd.ntmps32
    go_wp2_with fail
    refine (HC.out _).mono ?_
    rintro e w1 ⟨rfl, s1⟩
    have HS1 := Lib.hid (HS0.out.trans s1)
    have HB1 := HB.out.same s1
    clear s1 d0 d1 d2 d3 d4 d5 d6 d7 HC
    obtain ⟨d0, d1, d2, d3, d4, d5, d6, d7⟩ := ocs8 HB1
    have d6' : (w1.alloc (.map #[] 0)).cell? ⟨w.heap.size, 6, none⟩ = some (.int .i64 ow) := ((Same.refl w1).alloc _).cell d6
    have d7' : ((w1.alloc (.map #[] 0)).alloc (.cells #[.int .i64 ow] 3)).cell? ⟨w.heap.size, 7, none⟩ = some (.slice ra rl rc) := (((Same.refl w1).alloc _).alloc _).cell d7
    have hz1m : (w1.alloc (.map #[] 0)).heap.size = w1.heap.size + 1 := World.size_alloc _ _
    have OM0 := Lib.hid (World.ownsMap_made (H := Unit) w1 Tryd.prog 3 (plainElem Tryd.prog 3))
    have OL := own_lit (w1.alloc (.map #[] 0)) 3 (.int .i64 ow)
    rw [hz1m] at OL
    have HOL := Lib.hid OL
    clear OL
    go_wp2_with (refine wpList_app rfl (.tmp 12) (.tmp 14) 41 rfl (w1.heap.size + 1) 3 i0 _ 8 Tryd.underlying41 hi hz0 hz1 hz2 rfl (some ⟨w1.heap.size + 1, 0, none⟩) 1 1 [.int .i64 ow] rfl rfl HOL.out ra rl rc (rs.map (Value.int .i64)) rfl (by rw [List.length_map]; exact HL.out) (HR.out.same ((HS1.out.alloc _).alloc _)) HONE.out (by rw [List.length_map]; have := HL.out; simp; omega) (by omega) (by simp) ?_)
    intro A3 c3 w3 ho3 hc3 _
    obtain ⟨N, hN⟩ : ∃ N, N = 1 + rl := ⟨_, rfl⟩
    rw [← hN]
    have hcc : Chg (fun g => g = w1.heap.size + 1) ((w1.alloc (.map #[] 0)).alloc (.cells #[.int .i64 ow] 3)) w3 := hc3.weak (fun g _ hg => by
      first
        | exact hg.symm
        | (have h2 : (some ⟨w1.heap.size + 1, 0, none⟩ : Option Addr) = some ⟨g, 0, none⟩ := hg
           injection h2 with h2
           injection h2 with h2
           exact h2.symm))
    have hs3 : Same w1 w3 := Same.more (((Same.refl w1).alloc _).alloc _) hcc (fun g hg => by have h1 : g = w1.heap.size + 1 := hg; omega)
    have OM3 := Lib.hid (om_chg (OM0.out.alloc _) hcc (fun h => by have h1 : w1.heap.size = w1.heap.size + 1 := h; omega))
    have HS3 := Lib.hid (HS1.out.trans hs3)
    have RL := Lib.hid (show Row w3 A3 ((ow :: rs).map (Value.int .i64)) from ho3.row)
    have HFA := Lib.hid (fun b o (h : A3 = some ⟨b, o, none⟩) => show w1.heap.size < b by
      rcases ho3.2 with ⟨h2, _⟩ | ⟨g2, cap, cur, hv, hb2, _⟩
      · rw [h] at h2
        cases h2
      · rw [h] at hv
        injection hv with hv
        injection hv with hv
        injection hv with hv
        omega)
    have hNL : (ow :: rs).length = N := by have := HLL.out; omega
    have HNL := Lib.hid hNL
    have hN5 : N ≤ 101 := by omega
    have HSW := Lib.hid hs3.size
    clear hN
    clear ho3 hc3 hs3 hcc d0 d1 d2 d3 d4 d5 d6 d7 d6' d7' hNL hz1m OM0
    generalize ow :: rs = L at *
    go_wp2_with fail
    go_loopg [17] N (fun gk iv wx => ∃ (i : Nat) (D : DataW Unit), i + gk = N ∧ iv = .int .i64 i ∧ GoodTo L i ∧ MapOk D L i ∧ wx.ownsMap Tryd.prog 3 (plainElem Tryd.prog 3) w1.heap.size i D ∧ Chg (fun b => b = w1.heap.size) w3 wx)
    case atStart => exact ⟨0, .map [], by omega, rfl, fun j t hj => by omega, mapok_zero L, OM3.out, Chg.refl _ _⟩
    case round =>
      obtain ⟨i, D, hik, rfl, hg, hmo, hown, sx⟩ := hrel
      have HG := Lib.hid hg
      have HMO := Lib.hid hmo
      have HSX := Lib.hid sx
      have HSAME := Lib.hid (HS3.out.more sx (fun b hb => by have h1 : b = w1.heap.size := hb; have := HS1.out.size; omega))
      clear hg sx hmo
      cases gk with
      | zero =>
        obtain rfl : N = i := by omega
        have hge : ¬ (N : Int) < (N : Int) := by omega
        go_wp2_with fail
        go_ret
        exact ⟨ret_bool (HY.out (by rw [HNL.out]; exact HG.out)).symm, HSAME.out⟩
      | succ GK =>
        have hlt : (i : Int) < N := by omega
        have i0' : (0 : Int) ≤ i := by omega
        obtain ⟨t, hLt⟩ : ∃ t, L[i]? = some t := ⟨_, List.getElem?_eq_getElem (by have := HNL.out; omega)⟩
        obtain ⟨b, o, hA, c1⟩ := RL.out i (.int .i64 t) (by rw [List.getElem?_map, hLt]; rfl)
        have hbb := HFA.out b (o) hA
        subst hA
        replace c1 := HSX.out.cell c1 (fun h => by have h1 : b = w1.heap.size := h; omega)
        have HLT := Lib.hid hLt
        have hin : i < L.length := by have := HNL.out; omega
        have HIN := Lib.hid hin
        have HWF := Lib.hid (show (Lit.int .i64 t).wf = true from WFL.out t (List.mem_of_getElem? hLt))
        clear hLt hin hbb
        have hkey : keyOf Tryd.prog 3 (.int .i64 t) = some (.int .i64 t) := keyOf_int_mk Tryd.underlying3 HWF.out
        by_cases hseen : ∃ k : Nat, k < i ∧ L[k]? = some t
        · have HSEEN := Lib.hid hseen
          have HAT := Lib.hid (HMO.out.2.1 t hseen)
          clear hseen
          go_wp2_with (first
            | (at_lookup; refine wpList_lookup_own_int _ rfl _ _ 71 rfl 3 3 .i64 lawI Tryd.underlying71 Tryd.underlying3 (zeroI _) w1.heap.size i _ rfl hown _ _ rfl hkey ?_; intro c hat hwc; rw [HAT.out] at hat; injection hat with hat; injection hat with _ hat; subst hat; clear hwc)
            | (at_lookup; refine wpList_lookup_own_int _ rfl _ _ 71 rfl 3 3 .i64 lawI Tryd.underlying71 Tryd.underlying3 (zeroI _) w1.heap.size (i + 1) _ rfl hown1 _ _ rfl hkey ?_; intro c hat hwc; rw [atKey_put_same HMO.out.1 (key_lit _)] at hat; injection hat with hat; injection hat with _ hat; subst hat; clear hwc)
            | (at_mapUpdate; refine wpList_mapUpdate_own _ rfl _ _ _ 71 rfl 3 3 lawI Tryd.underlying71 _ w1.heap.size i _ rfl hown (by unfold maxLen; omega) _ _ _ rfl rfl hkey (.lit (.int .i64 2)) [] (plainElem_int Tryd.underlying3 (by decide)) ?_; intro w4 hown1 hgrow1)
            | fail)
          go_ret
          exact ⟨ret_bool (BAD.out (fun h => by obtain ⟨k, hk, hLk⟩ := HSEEN.out; exact (h i t HIN.out HLT.out).2 k t hk hLk rfl)).symm, HSAME.out.more (Chg.of_grown hgrow1) (fun b hb => by have h1 : b = w1.heap.size := Option.some.inj hb; have := HS1.out.size; omega)⟩
        · have hne : ∀ (k : Nat) (q : Int), k < i → L[k]? = some q → q ≠ t := fun k q hk hq h => hseen ⟨k, hk, by rw [hq, h]⟩
          have HNE := Lib.hid hne
          have HAT := Lib.hid (HMO.out.2.2 t hne)
          have WI := Lib.hid (fun w' => Ob.within_any t 0 7 w')
          clear hseen hne
          cases hd : decide (0 ≤ t ∧ t ≤ 7)
          · rw [hd] at WI
            have HD := Lib.hid (of_decide_eq_false hd)
            clear hd
            go_wp2_with (first
              | (at_lookup; refine wpList_lookup_own_int _ rfl _ _ 71 rfl 3 3 .i64 lawI Tryd.underlying71 Tryd.underlying3 (zeroI _) w1.heap.size i _ rfl hown _ _ rfl hkey ?_; intro c hat hwc; rw [HAT.out] at hat; injection hat with hat; injection hat with _ hat; subst hat; clear hwc)
              | (at_lookup; refine wpList_lookup_own_int _ rfl _ _ 71 rfl 3 3 .i64 lawI Tryd.underlying71 Tryd.underlying3 (zeroI _) w1.heap.size (i + 1) _ rfl hown1 _ _ rfl hkey ?_; intro c hat hwc; rw [atKey_put_same HMO.out.1 (key_lit _)] at hat; injection hat with hat; injection hat with _ hat; subst hat; clear hwc)
              | (at_mapUpdate; refine wpList_mapUpdate_own _ rfl _ _ _ 71 rfl 3 3 lawI Tryd.underlying71 _ w1.heap.size i _ rfl hown (by unfold maxLen; omega) _ _ _ rfl rfl hkey (.lit (.int .i64 1)) [] (plainElem_int Tryd.underlying3 (by decide)) ?_; intro w4 hown1 hgrow1)
              | fail)
            refine (WI.out _).mono ?_
            rintro e w5 ⟨rfl, rfl⟩
            go_wp2_with fail
            go_ret
            exact ⟨ret_bool (BAD.out (fun h => HD.out (h i t HIN.out HLT.out).1)).symm, HSAME.out.more (Chg.of_grown hgrow1) (fun b hb => by have h1 : b = w1.heap.size := Option.some.inj hb; have := HS1.out.size; omega)⟩
          · rw [hd] at WI
            have HD := Lib.hid (of_decide_eq_true hd)
            clear hd
            go_wp2_with (first
              | (at_lookup; refine wpList_lookup_own_int _ rfl _ _ 71 rfl 3 3 .i64 lawI Tryd.underlying71 Tryd.underlying3 (zeroI _) w1.heap.size i _ rfl hown _ _ rfl hkey ?_; intro c hat hwc; rw [HAT.out] at hat; injection hat with hat; injection hat with _ hat; subst hat; clear hwc)
              | (at_lookup; refine wpList_lookup_own_int _ rfl _ _ 71 rfl 3 3 .i64 lawI Tryd.underlying71 Tryd.underlying3 (zeroI _) w1.heap.size (i + 1) _ rfl hown1 _ _ rfl hkey ?_; intro c hat hwc; rw [atKey_put_same HMO.out.1 (key_lit _)] at hat; injection hat with hat; injection hat with _ hat; subst hat; clear hwc)
              | (at_mapUpdate; refine wpList_mapUpdate_own _ rfl _ _ _ 71 rfl 3 3 lawI Tryd.underlying71 _ w1.heap.size i _ rfl hown (by unfold maxLen; omega) _ _ _ rfl rfl hkey (.lit (.int .i64 1)) [] (plainElem_int Tryd.underlying3 (by decide)) ?_; intro w4 hown1 hgrow1)
              | fail)
            refine (WI.out _).mono ?_
            rintro e w5 ⟨rfl, rfl⟩
            have HOW1 := Lib.hid hown1
            have HCG := Lib.hid (HSX.out.trans ((Chg.of_grown hgrow1).weak (fun b _ hb => Option.some.inj hb)))
            clear hown hown1 hgrow1
            go_wp2_with fail
            go_roundg GK
            case rel => exact ⟨i + 1, D.put (.int .i64 t) (.lit (.int .i64 1)), by omega, by go_num, good_next HG.out HLT.out HD.out HNE.out, mapok_next HMO.out HLT.out, HOW1.out, HCG.out⟩
            case measure => omega

end Go.Proofs.YtfpefkpbiioofabDoor.Os
