/-

  The document's own answers on layer 3: who goes ahead, the ranks, the order.
-/
import Derived.Test.YtikjkmomokhanaaDoorBitOrd
set_option linter.unusedVariables false
set_option linter.unusedSimpArgs false
namespace Go.Proofs.YtikjkmomokhanaaDoor.Bo
open Go.ChangeShapes Go.WideShapes Go.ChangeAt Go.RowKit Ws Od

theorem ret_bool {a b : Bool} (h : a = b) : Ending.returned (.bool a) = .returned (.bool b) := by rw [h]
set_option maxRecDepth 100000 in
theorem rahead_any (A : Option Addr) (n c : Nat) (P : List Int) (a b : Nat) (w : World) (hn : P.length = n) (ha : a < n) (hb : b < n) (hr : Row w A (P.map (Value.int .i64))) :
    Calls Tryd.prog 45 #[.slice A n c, .int .i64 a, .int .i64 b] w fun e w' => e = .returned (.bool (aheadB P a b)) ∧ Same w w' := by
  have hga : (P.map (Value.int .i64))[a]? = some (.int .i64 (pr P a)) := by rw [List.getElem?_map, get_pr (by omega)]; rfl
  have hgb : (P.map (Value.int .i64))[b]? = some (.int .i64 (pr P b)) := by rw [List.getElem?_map, get_pr (by omega)]; rfl
  obtain ⟨g, o, rfl, ca⟩ := hr a _ hga
  obtain ⟨g', o', hA, cb⟩ := hr b _ hgb
  injection hA with hA
  injection hA with e1 e2
  subst e1
  subst e2
  have a0 : (0 : Int) ≤ a := by omega
  have b0 : (0 : Int) ≤ b := by omega
  have a1 : (a : Int) < n := by omega
  have b1 : (b : Int) < n := by omega
  have hE : aheadB P a b = decide (pr P b < pr P a ∨ pr P a = pr P b ∧ a < b) := rfl
  rw [hE]
  clear hga hgb hr hn hE
  generalize pr P a = x at *
  generalize pr P b = y at *
  by_cases h1 : y < x
  · have d1 : decide (y < x) = true := decide_eq_true h1
    have hE : decide (y < x ∨ x = y ∧ a < b) = true := decide_eq_true (.inl h1)
    rw [hE]
    clear h1 hE
    go_enter Tryd.func45, Tryd.ntmps45
    go_wp2_with fail
    go_quiet (fail)
    go_wp2_with fail
    go_ret
    exact ⟨rfl, (Same.refl _).drewN _⟩
  · have d1 : decide (y < x) = false := decide_eq_false h1
    by_cases h2 : x = y
    · have d2 : (x == y) = true := by simpa using h2
      have hE : decide (y < x ∨ x = y ∧ a < b) = decide ((a : Int) < b) := by rw [decide_eq_decide]; omega
      rw [hE]
      clear h1 h2 hE
      go_enter Tryd.func45, Tryd.ntmps45
      go_wp2_with fail
      go_quiet (fail)
      go_wp2_with fail
      go_ret
      exact ⟨ret_bool (by first | rfl | simp), (Same.refl _).drewN _⟩
    · have d2 : (x == y) = false := by simpa using h2
      have hE : decide (y < x ∨ x = y ∧ a < b) = false := decide_eq_false (by omega)
      rw [hE]
      clear h1 h2 hE
      go_enter Tryd.func45, Tryd.ntmps45
      go_wp2_with fail
      go_quiet (fail)
      go_wp2_with fail
      go_ret
      exact ⟨rfl, (Same.refl _).drewN _⟩
theorem own_nil (w : World) (B : Nat) (e : TypeId) : Own w B e none 0 [] := ⟨by simp, .inl ⟨rfl, rfl⟩⟩
def rkTo (P : List Int) (k : Nat) : List Int := (List.range k).map fun i => (rankN P i : Int)
theorem rkTo_next (P : List Int) (k : Nat) : rkTo P (k + 1) = rkTo P k ++ [(rankN P k : Int)] := by unfold rkTo; rw [List.range_succ, List.map_append]; rfl
theorem rkTo_len (P : List Int) (k : Nat) : (rkTo P k).length = k := by unfold rkTo; simp
theorem rkTo_end (P : List Int) : rkTo P P.length = nI (rankL P) := by unfold rkTo nI rankL; rw [List.map_map]; rfl
set_option maxRecDepth 100000 in
set_option maxHeartbeats 1000000 in
theorem rranks_any (A : Option Addr) (n c : Nat) (P : List Int) (w : World) (hn : P.length = n) (hm : n ≤ 5000) (hr : Row w A (P.map (Value.int .i64))) :
    Calls Tryd.prog 20 #[.slice A n c] w (NumsF w (nI (rankL P))) := by
  obtain ⟨i0, hi, hz0, hz1, hz2⟩ := info_parts int_info
  have HN := Lib.hid hn
  have AH := Lib.hid (fun (a b : Nat) (ha : a < n) (hb : b < n) w' (s : Same w w') => rahead_any A n c P a b w' hn ha hb (hr.same s))
  have hE : nI (rankL P) = rkTo P n := by rw [← hn, rkTo_end]
  rw [hE]
  clear hn hr hE
  go_enter Tryd.func20, Tryd.ntmps20
  go_wp2_with fail
  go_loopg [9, 3] n (fun gk iv lv wx => ∃ (k : Nat) (A' : Option Addr) (c' : Nat), k + gk = n ∧ iv = .int .i64 k ∧ lv = .slice A' k c' ∧ Own wx w.heap.size 3 A' c' ((rkTo P k).map (Value.int .i64)) ∧ Same w wx)
  case atStart => exact ⟨0, none, 0, by omega, rfl, rfl, own_nil _ _ _, Same.refl _⟩
  case round =>
    obtain ⟨k, A', c', hk, rfl, rfl, ho, sx⟩ := hrel
    have HO := Lib.hid ho
    have HS := Lib.hid sx
    clear ho sx
    cases gk with
    | zero =>
      obtain rfl : n = k := by omega
      have hge : ¬ (n : Int) < (n : Int) := by omega
      go_wp2_with fail
      go_ret
      exact numsF_mk (rkTo_len P n).symm HO.out.row HS.out (fun b o hA => by
        subst hA
        rcases HO.out.2 with ⟨h2, _⟩ | ⟨g2, cap, cur, hv, hb2, _⟩
        · cases h2
        · injection hv with hv
          injection hv with hv
          injection hv with hv
          omega)
    | succ GK =>
      have hlt : (k : Int) < n := by omega
      have hkn : k < n := by omega
      go_wp2_with fail
      go_loopg [14, 5] n (fun gj jv cv wy => ∃ j : Nat, j + gj = n ∧ jv = .int .i64 j ∧ cv = .int .i64 ((rankTo P k j : Nat) : Int) ∧ Same wr wy)
      case atStart => exact ⟨0, by omega, rfl, rfl, Same.refl _⟩
      case round =>
        obtain ⟨j, hj, rfl, rfl, sy⟩ := hrel
        have HSY := Lib.hid sy
        clear sy
        cases gk with
        | zero =>
          obtain rfl : n = j := by omega
          have hge : ¬ (n : Int) < (n : Int) := by omega
          have HS1 := Lib.hid (HS.out.trans HSY.out)
          have HO1 := Lib.hid (HO.out.same HSY.out)
          have hrk : rankTo P k n = rankN P k := by unfold rankN; rw [HN.out]
          rw [hrk]
          have HE := Lib.hid (rkTo_next P k)
          clear hrk
          generalize rankN P k = rk at *
          go_wp2_with (at_builtin; go_loud (refine wpList_app rfl (.tmp 24) (.tmp 26) 23 rfl w.heap.size 3 i0 _ 8 Tryd.underlying23 hi hz0 hz1 hz2 rfl A' k c' ((rkTo P k).map (Value.int .i64)) rfl ?c1 (HO1.out.same ((Same.refl _).alloc _)) _ 1 1 [.int .i64 (rk : Int)] rfl rfl (row_new _ _ _) ?c2 ?c3 (by omega) ?c4 ?_))
          case c1 => first | exact rkTo_len P k | rw [List.length_map, rkTo_len]
          case c2 => first | rfl | (intro u hu; simp at hu; subst hu; rfl)
          case c3 => first | (rw [rkTo_len]; omega) | (rw [List.length_map, rkTo_len]; simp; omega)
          case c4 => have := HS1.out.size; simp at this ⊢; omega
          intro A2 c2' w2 ho2 hc2 _
          have HS2 := Lib.hid (Same.more (HS1.out.alloc _) hc2 fun g hg => by
            have hg : A' = some ⟨g, 0, none⟩ := hg
            subst hg
            rcases HO.out.2 with ⟨h2, _⟩ | ⟨g2, cap, cur, hv, hb2, _⟩
            · cases h2
            · injection hv with hv
              injection hv with hv
              injection hv with hv
              omega)
          rw [show (rkTo P k).map (Value.int .i64) ++ [.int .i64 (rk : Int)] = (rkTo P (k + 1)).map (Value.int .i64) by rw [HE.out, List.map_append]; rfl] at ho2
          have HO2 := Lib.hid ho2
          clear ho2 hc2
          go_wp2_with fail
          go_roundg GK
          case rel => exact ⟨k + 1, A2, c2', by omega, by go_num, by go_num, HO2.out, HS2.out⟩
          case measure => omega
        | succ GJ =>
          have hltj : (j : Int) < n := by omega
          have HA := Lib.hid (AH.out j k (by omega) hkn _ (HS.out.trans HSY.out))
          have HE : Hid (rankTo P k (j + 1) = rankTo P k j + if aheadB P j k then 1 else 0) := Lib.hid rfl
          have hle := rankTo_le P k j
          go_wp2_with fail
          refine HA.out.mono ?_
          rintro e w5 ⟨rfl, s5⟩
          cases hab : aheadB P j k
          · have he := HE.out
            rw [hab] at he
            have HE2 := Lib.hid he
            clear he hab
            go_wp2_with fail
            go_roundg GJ
            case rel => exact ⟨j + 1, by omega, by go_num, by rw [HE2.out]; simp, HSY.out.trans s5⟩
            case measure => omega
          · have he := HE.out
            rw [hab] at he
            have HE2 := Lib.hid he
            clear he hab
            go_wp2_with fail
            go_roundg GJ
            case rel => exact ⟨j + 1, by omega, by go_num, by rw [HE2.out]; simp, HSY.out.trans s5⟩
            case measure => omega

/-- whoever of the first k has a place stands there -/
def orF (P : List Int) (k x : Nat) : Int := if (ordL P).getD x 0 < k then (((ordL P).getD x 0 : Nat) : Int) else 0
theorem or_set {P : List Int} {k : Nat} (hk : k < P.length) : (IL P.length (orF P k)).set (rankN P k) (.int .i64 (k : Int)) = IL P.length (orF P (k + 1)) := by
  have ho := isOrd_ordL P
  have hk2 := ho.at_rank hk
  rw [IL_set _ _ (rank_lt hk)]
  apply IL_congr
  intro x hx
  unfold orF
  by_cases h : x = rankN P k
  · have e : (ordL P).getD x 0 = k := by rw [h, List.getD_eq_getElem?_getD, hk2]; rfl
    rw [if_pos h, e, if_pos (by omega)]
  · rw [if_neg h]
    have hne : (ordL P).getD x 0 ≠ k := by
      intro e
      obtain ⟨i, hi⟩ : ∃ i, (ordL P)[x]? = some i := ⟨_, List.getElem?_eq_getElem (by rw [ordL_len]; exact hx)⟩
      rw [List.getD_eq_getElem?_getD, hi] at e
      have e2 : i = k := e
      have := ho.rank hi
      rw [e2] at this
      exact h this.symm
    by_cases hr : (ordL P).getD x 0 < k
    · rw [if_pos hr, if_pos (by omega)]
    · rw [if_neg hr, if_neg (by omega)]
theorem or_end (P : List Int) : IL P.length (orF P P.length) = (nI (ordL P)).map (Value.int .i64) := by
  apply List.ext_getElem?
  intro x
  by_cases hx : x < P.length
  · obtain ⟨i, hi⟩ : ∃ i, (ordL P)[x]? = some i := ⟨_, List.getElem?_eq_getElem (by rw [ordL_len]; exact hx)⟩
    rw [IL_get _ hx, nI_get hi]
    have e : (ordL P).getD x 0 = i := by rw [List.getD_eq_getElem?_getD, hi]; rfl
    have hlt := (isOrd_ordL P).lt hi
    unfold orF
    rw [e, if_pos hlt]
  · rw [List.getElem?_eq_none (by rw [IL_len]; omega), List.getElem?_eq_none (by rw [List.length_map, nI_len, ordL_len]; omega)]
set_option maxRecDepth 100000 in
set_option maxHeartbeats 1000000 in
theorem rorder_any (A : Option Addr) (n c : Nat) (P : List Int) (w : World) (hn : P.length = n) (hm : n ≤ 5000) (hr : Row w A (P.map (Value.int .i64))) :
    Calls Tryd.prog 22 #[.slice A n c] w (Nums w (nI (ordL P))) := by
  obtain ⟨i0, hi, hz0, hz1, hz2⟩ := info_parts int_info
  have HN := Lib.hid hn
  have OD := Lib.hid (fun w' (s : Same w w') => rranks_any A n c P w' hn hm (hr.same s))
  clear hn hr
  go_enter Tryd.func22, Tryd.ntmps22
  go_wp2_with fail
  obtain ⟨w2, hrun, ho, hg⟩ := run_make_full (P := Tryd.prog) w w.heap.size 23 3 i0 _ 1 Tryd.underlying23 hi hz0 hz1 .i64 .i64 n (by rw [hz2]; omega) (by unfold maxLen; omega) (Nat.le_refl _)
  rw [hrun]
  clear hrun
  have s2 : Same w w2 := (Chg.of_grown hg).weak fun g _ h => by cases h
  rw [made_IL] at ho
  have HO2 := Lib.hid (show OwnK w2 w.heap.size 3 1 (some ⟨w.heap.size, 0, none⟩) n n (IL n (orF P 0)) from by
    have e : IL n (orF P 0) = IL n (fun _ => 0) := IL_congr fun x _ => by unfold orF; rw [if_neg (by omega)]
    rw [e]
    exact ho)
  have HS2 := Lib.hid s2
  clear ho hg s2
  generalize hq : w.heap.size = q at *
  go_wp2_with fail
  refine (OD.out _ HS2.out).mono ?_
  rintro e w3 ⟨A3, c3, rfl, r3, s3, f3⟩
  have HF3 := Lib.hid f3
  have HQ2 := Lib.hid (HO2.out.lt.2.1)
  have HR3 := Lib.hid r3
  have HO3 := Lib.hid (HO2.out.same s3)
  have HS3 := Lib.hid (HS2.out.trans s3)
  have hl3 : (nI (rankL P)).length = n := by rw [nI_len, rankL_len, HN.out]
  rw [hl3]
  have HQ := Lib.hid hq
  clear r3 s3 f3 HO2 HS2 hl3 hq
  go_wp2_with fail
  go_loopg [12] n (fun gk iv wx => ∃ k : Nat, k + gk = n ∧ iv = .int .i64 k ∧ OwnK wx q 3 1 (some ⟨q, 0, none⟩) n n (IL n (orF P k)) ∧ Row wx A3 ((nI (rankL P)).map (Value.int .i64)) ∧ Same w wx)
  case atStart => exact ⟨0, by omega, rfl, HO3.out, HR3.out, HS3.out⟩
  case round =>
    clear HO3 HR3 HS3
    obtain ⟨k, hk, rfl, ho, hr, sx⟩ := hrel
    have HO := Lib.hid ho
    have HR := Lib.hid hr
    have HS := Lib.hid sx
    clear ho hr sx
    cases gk with
    | zero =>
      obtain rfl : n = k := by omega
      have hge : ¬ (n : Int) < (n : Int) := by omega
      have HL : Hid (n = (nI (ordL P)).length) := Lib.hid (by rw [nI_len, ordL_len, HN.out])
      have hrw : Row wr (some ⟨q, 0, none⟩) ((nI (ordL P)).map (Value.int .i64)) := by
        rw [← or_end P, HN.out]
        exact HO.out.row
      have HRW := Lib.hid hrw
      clear hrw
      go_wp2_with fail
      go_ret
      exact nums_mk HL.out HRW.out HS.out
    | succ GK =>
      have hlt : (k : Int) < n := by omega
      have hk0 : (0 : Int) ≤ k := by omega
      have hkn : k < n := by omega
      have hkp : k < P.length := by rw [HN.out]; exact hkn
      obtain ⟨i, hik⟩ : ∃ i, i = rankN P k := ⟨_, rfl⟩
      have hin : i < n := by have := rank_lt hkp; rw [HN.out] at this; omega
      have hgt := nI_get (rankL_get hkp)
      rw [← hik] at hgt
      obtain ⟨b3, o3, rfl, y3⟩ := HR.out k _ hgt
      have hi0 : (0 : Int) ≤ i := by omega
      have hi1 : (i : Int) < n := by omega
      have c0 := own1_get HO.out (IL_get _ hin)
      have t0 := own1_thaw HO.out i
      have ho3 := own1_set HO.out i (.int .i64 (k : Int))
      have hrs := or_set hkp
      rw [HN.out, ← hik] at hrs
      rw [hrs] at ho3
      have HO3 := Lib.hid ho3
      have hnb : b3 ≠ q := by
        have h1 := HF3.out b3 o3 rfl
        have h2 := HQ2.out
        omega
      have HS3 := Lib.hid (HS.out.set (p := ⟨q, i, none⟩) (.inr (by have := HQ.out; simp only; omega)) (.int .i64 (k : Int)))
      have HR3 := Lib.hid (HR.out.chg (Chg.set (S := fun i => i = q) (Chg.refl _ wr) (p := ⟨q, i, none⟩) (.inl rfl) (.int .i64 (k : Int))) (by
        intro b o hA _ hb
        injection hA with hA
        injection hA with e1 _
        subst e1
        exact hnb hb))
      generalize orF P k i = u0 at *
      clear ho3 hrs hnb hik hgt hkp
      go_wp2_with fail
      go_roundg GK
      case rel => exact ⟨k + 1, by omega, by go_num, HO3.out, HR3.out, HS3.out⟩
      case measure => omega

end Go.Proofs.YtikjkmomokhanaaDoor.Bo
