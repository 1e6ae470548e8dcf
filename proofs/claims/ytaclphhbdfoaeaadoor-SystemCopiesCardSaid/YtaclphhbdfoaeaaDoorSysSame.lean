/-

  slices.EqualFunc of tasks and objects; system.Same
-/
import Derived.Test.YtaclphhbdfoaeaaDoorSysEqs
import Derived.Test.YtaclphhbdfoaeaaDoorImgSysEq
set_option linter.unusedVariables false
set_option linter.unusedSimpArgs false
namespace Go.Proofs.YtaclphhbdfoaeaaDoor.Im
open Go.ChangeShapes Go.WideShapes Go.ChangeAt Go.RowKit Ws Cd

set_option maxRecDepth 100000 in
set_option maxHeartbeats 2000000 in
theorem eft_any (A C : Option Addr) (n c m d : Nat) (s t : List PT) (w : World) (hn : s.length = n) (hm : t.length = m) (hs : TsAt w A s) (ht : TsAt w C t) (hnb : n ≤ 9223372036854775807) (E : Bool) (hE : E = decide (s = t)) :
    Calls Tryd.prog 18 #[.slice A n c, .slice C m d, .func (.func 19) #[] #[]] w fun e w' => e = .returned (.bool E) ∧ Same w w' := by
  have HN := Lib.hid hn
  have HM := Lib.hid hm
  have HE := Lib.hid hE
  have HT := Lib.hid hs
  have HT' := Lib.hid ht
  clear hn hm hE hs ht
  by_cases hnn : n = m
  rotate_left
  · have hb : ((n : Int) != (m : Int)) = true := by simp; omega
    have hF : E = false := by rw [HE.out, decide_eq_false_iff_not]; rintro rfl; exact hnn (by rw [← HN.out, ← HM.out])
    subst hF
    go_enter Tryd.func18, Tryd.ntmps18
    go_wp2_with fail
    go_ret
    exact ⟨rfl, Same.refl _⟩
  subst hnn
  have hb0 : ((n : Int) != (n : Int)) = false := by simp
  go_enter Tryd.func18, Tryd.ntmps18
  go_wp2_with fail
  clear hb0
  go_loopg [17] n (fun gk iv wx => ∃ k : Nat, k + gk = n ∧ iv = .int .i64 k ∧ s.take k = t.take k ∧ Same w wx)
  case atStart => exact ⟨0, by omega, rfl, by simp, Same.refl _⟩
  case round =>
    obtain ⟨k, hk, rfl, hp, sx⟩ := hrel
    have HP := Lib.hid hp
    have HS := Lib.hid sx
    clear hp sx
    cases gk with
    | zero =>
      obtain rfl : k = n := by omega
      have hge : ¬ (k : Int) < (k : Int) := by omega
      have hT : E = true := by
        rw [HE.out, decide_eq_true_iff]
        have h1 := HP.out
        rw [List.take_of_length_le (by have := HN.out; omega), List.take_of_length_le (by have := HM.out; omega)] at h1
        exact h1
      subst hT
      go_wp2_with fail
      go_ret
      exact ⟨rfl, HS.out⟩
    | succ GK =>
      have hlt : (k : Int) < n := by omega
      have k0 : (0 : Int) ≤ k := by omega
      obtain ⟨x, hx⟩ : ∃ x, s[k]? = some x := ⟨_, List.getElem?_eq_getElem (by have := HN.out; omega)⟩
      obtain ⟨y, hy⟩ : ∃ y, t[k]? = some y := ⟨_, List.getElem?_eq_getElem (by have := HM.out; omega)⟩
      obtain ⟨b, o, rfl, X, cX, e0, e1, e2, e3, e4, e5, e6, hcx, hlx⟩ := (HT.out.same HS.out).at_ hx
      obtain ⟨b', o', rfl, Y, cY, f0, f1, f2, f3, f4, f5, f6, hcy, hly⟩ := (HT'.out.same HS.out).at_ hy
      have HCX := Lib.hid hcx
      have HCY := Lib.hid hcy
      clear hcx hcy
      have HGX := Lib.hid (take_get hx)
      have HGY := Lib.hid (take_get hy)
      clear hx hy
      have HQ := Lib.hid (show ∀ b : Bool, b = decide (x = y) → (b = true → x = y) ∧ (b = false → ¬ x = y) from fun b h => ⟨fun hb => of_decide_eq_true (h ▸ hb), fun hb => of_decide_eq_false (h ▸ hb)⟩)
      have HEQ := Lib.hid (show ∀ b : Bool, b = decide (x = y) → b = decide (x.kind = y.kind ∧ x.prio = y.prio ∧ x.per = y.per ∧ x.off = y.off ∧ x.dl = y.dl ∧ x.own = y.own ∧ x.code = y.code) from fun b h => by
        rw [h]
        cases x
        cases y
        simp)
      clear HQ
      have hs1 := (Same.refl wr).alloc (.cells #[.int .i64 x.kind, .int .i64 x.prio, .int .i64 x.per, .int .i64 x.off, .int .i64 x.dl, .int .i64 x.own, .slice X x.code.length cX] 32)
      have hb1 := Blk.new wr 32 #[.int .i64 x.kind, .int .i64 x.prio, .int .i64 x.per, .int .i64 x.off, .int .i64 x.dl, .int .i64 x.own, .slice X x.code.length cX]
      obtain ⟨w1, hw1⟩ : ∃ w1, w1 = wr.alloc (.cells #[.int .i64 x.kind, .int .i64 x.prio, .int .i64 x.per, .int .i64 x.off, .int .i64 x.dl, .int .i64 x.own, .slice X x.code.length cX] 32) := ⟨_, rfl⟩
      have hs2 := (Same.refl w1).alloc (.cells #[.int .i64 y.kind, .int .i64 y.prio, .int .i64 y.per, .int .i64 y.off, .int .i64 y.dl, .int .i64 y.own, .slice Y y.code.length cY] 32)
      have hb2 := Blk.new w1 32 #[.int .i64 y.kind, .int .i64 y.prio, .int .i64 y.per, .int .i64 y.off, .int .i64 y.dl, .int .i64 y.own, .slice Y y.code.length cY]
      rw [← hw1] at hs1 hb1
      have hz1 : w1.heap.size = wr.heap.size + 1 := by rw [hw1, World.size_alloc]
      rw [hz1] at hb2
      have hb1' := hb1.same hs2
      have g0 := hs1.cell f0
      have g1 := hs1.cell f1
      have g2 := hs1.cell f2
      have g3 := hs1.cell f3
      have g4 := hs1.cell f4
      have g5 := hs1.cell f5
      have g6 := hs1.cell f6
      have CA := Lib.hid (fun w' (h : Same wr w') (b : Bool) hb => tsame_any x.kind x.prio x.per x.off x.dl x.own y.kind y.prio y.per y.off y.dl y.own x.code y.code X Y cX cY w' (HCX.out.same h) (HCY.out.same h) (by unfold maxLen at hlx; omega) (by unfold maxLen at hly; omega) b (HEQ.out b hb))
      have HW1 := Lib.hid hw1
      have HA := Lib.hid (HS.out.trans (hs1.trans hs2))
      have HAA := Lib.hid (hs1.trans hs2)
      have u0 := hb1'.cell 0
      have v0 := hb2.cell 0
      have u1 := hb1'.cell 1
      have v1 := hb2.cell 1
      have u2 := hb1'.cell 2
      have v2 := hb2.cell 2
      have u3 := hb1'.cell 3
      have v3 := hb2.cell 3
      have u4 := hb1'.cell 4
      have v4 := hb2.cell 4
      have u5 := hb1'.cell 5
      have v5 := hb2.cell 5
      have u6 := hb1'.cell 6
      have v6 := hb2.cell 6
      simp only [List.getElem?_toArray, List.getElem?_cons_zero, List.getElem?_cons_succ] at u0 v0 u1 v1 u2 v2 u3 v3 u4 v4 u5 v5 u6 v6
      clear hs1 hs2 hb1 hb2 hb1' hw1 hz1
      go_upto_region 6 with fail
      rw [← HW1.out]
      clear e0 e1 e2 e3 e4 e5 e6
      cases hbv : decide (x = y) with
      | true =>
        have hxy := of_decide_eq_true hbv
        have CB := Lib.hid (CA.out _ HAA.out true hbv.symm)
        have HXY := Lib.hid hxy
        clear hxy hbv
        go_wp2_with fail
        refine CB.out.mono ?_
        rintro e w3 ⟨rfl, s3⟩
        have HS3 := Lib.hid (HA.out.trans s3)
        clear s3
        go_wp2_with fail
        go_roundg GK
        case rel => exact ⟨k + 1, by omega, by go_num, by rw [HGX.out, HGY.out, HP.out, HXY.out], HS3.out⟩
        case measure => omega
      | false =>
        have hxy := of_decide_eq_false hbv
        have CB := Lib.hid (CA.out _ HAA.out false hbv.symm)
        have hF : E = false := by
          rw [HE.out, decide_eq_false_iff_not]
          exact differ HGX.out HGY.out hxy
        subst hF
        clear hxy hbv
        go_wp2_with fail
        refine CB.out.mono ?_
        rintro e w3 ⟨rfl, s3⟩
        have HS3 := Lib.hid (HA.out.trans s3)
        clear s3
        go_wp2_with fail
        go_ret
        exact ⟨rfl, HS3.out⟩
set_option maxRecDepth 100000 in
set_option maxHeartbeats 2000000 in
theorem efo_any (A C : Option Addr) (n c m d : Nat) (s t : List PO) (w : World) (hn : s.length = n) (hm : t.length = m) (hs : OsAt w A s) (ht : OsAt w C t) (hnb : n ≤ 9223372036854775807) (E : Bool) (hE : E = decide (s = t)) :
    Calls Tryd.prog 20 #[.slice A n c, .slice C m d, .func (.func 21) #[] #[]] w fun e w' => e = .returned (.bool E) ∧ Same w w' := by
  have HN := Lib.hid hn
  have HM := Lib.hid hm
  have HE := Lib.hid hE
  have HT := Lib.hid hs
  have HT' := Lib.hid ht
  clear hn hm hE hs ht
  by_cases hnn : n = m
  rotate_left
  · have hb : ((n : Int) != (m : Int)) = true := by simp; omega
    have hF : E = false := by rw [HE.out, decide_eq_false_iff_not]; rintro rfl; exact hnn (by rw [← HN.out, ← HM.out])
    subst hF
    go_enter Tryd.func20, Tryd.ntmps20
    go_wp2_with fail
    go_ret
    exact ⟨rfl, Same.refl _⟩
  subst hnn
  have hb0 : ((n : Int) != (n : Int)) = false := by simp
  go_enter Tryd.func20, Tryd.ntmps20
  go_wp2_with fail
  clear hb0
  go_loopg [17] n (fun gk iv wx => ∃ k : Nat, k + gk = n ∧ iv = .int .i64 k ∧ s.take k = t.take k ∧ Same w wx)
  case atStart => exact ⟨0, by omega, rfl, by simp, Same.refl _⟩
  case round =>
    obtain ⟨k, hk, rfl, hp, sx⟩ := hrel
    have HP := Lib.hid hp
    have HS := Lib.hid sx
    clear hp sx
    cases gk with
    | zero =>
      obtain rfl : k = n := by omega
      have hge : ¬ (k : Int) < (k : Int) := by omega
      have hT : E = true := by
        rw [HE.out, decide_eq_true_iff]
        have h1 := HP.out
        rw [List.take_of_length_le (by have := HN.out; omega), List.take_of_length_le (by have := HM.out; omega)] at h1
        exact h1
      subst hT
      go_wp2_with fail
      go_ret
      exact ⟨rfl, HS.out⟩
    | succ GK =>
      have hlt : (k : Int) < n := by omega
      have k0 : (0 : Int) ≤ k := by omega
      obtain ⟨x, hx⟩ : ∃ x, s[k]? = some x := ⟨_, List.getElem?_eq_getElem (by have := HN.out; omega)⟩
      obtain ⟨y, hy⟩ : ∃ y, t[k]? = some y := ⟨_, List.getElem?_eq_getElem (by have := HM.out; omega)⟩
      obtain ⟨b, o, rfl, X, cX, X2, dX, e0, e1, e2, e3, e4, e5, e6, e7, _, hcx, _, hcx2, hlx, hlx2⟩ := (HT.out.same HS.out).at_ hx
      obtain ⟨b', o', rfl, Y, cY, Y2, dY, f0, f1, f2, f3, f4, f5, f6, f7, _, hcy, _, hcy2, hly, hly2⟩ := (HT'.out.same HS.out).at_ hy
      have HCX := Lib.hid hcx
      have HCY := Lib.hid hcy
      have HCX2 := Lib.hid hcx2
      have HCY2 := Lib.hid hcy2
      clear hcx hcy hcx2 hcy2
      have HGX := Lib.hid (take_get hx)
      have HGY := Lib.hid (take_get hy)
      clear hx hy
      have HQ := Lib.hid (show ∀ b : Bool, b = decide (x = y) → (b = true → x = y) ∧ (b = false → ¬ x = y) from fun b h => ⟨fun hb => of_decide_eq_true (h ▸ hb), fun hb => of_decide_eq_false (h ▸ hb)⟩)
      have HEQ := Lib.hid (show ∀ b : Bool, b = decide (x = y) → b = decide (x.k = y.k ∧ x.wd = y.wd ∧ x.sl = y.sl ∧ x.cp = y.cp ∧ x.sa = y.sa ∧ x.ow = y.ow ∧ x.ini = y.ini ∧ x.rd = y.rd) from fun b h => by
        rw [h]
        cases x
        cases y
        rw [Bool.eq_iff_iff, decide_eq_true_iff, decide_eq_true_iff]
        simp
        intros
        exact And.comm)
      clear HQ
      have hs1 := (Same.refl wr).alloc (.cells #[.int .i64 x.k, .int .i64 x.wd, .int .i64 x.sl, .int .i64 x.cp, .int .u32 x.sa, .slice X x.ini.length cX, .int .i64 x.ow, .slice X2 x.rd.length dX] 39)
      have hb1 := Blk.new wr 39 #[.int .i64 x.k, .int .i64 x.wd, .int .i64 x.sl, .int .i64 x.cp, .int .u32 x.sa, .slice X x.ini.length cX, .int .i64 x.ow, .slice X2 x.rd.length dX]
      obtain ⟨w1, hw1⟩ : ∃ w1, w1 = wr.alloc (.cells #[.int .i64 x.k, .int .i64 x.wd, .int .i64 x.sl, .int .i64 x.cp, .int .u32 x.sa, .slice X x.ini.length cX, .int .i64 x.ow, .slice X2 x.rd.length dX] 39) := ⟨_, rfl⟩
      have hs2 := (Same.refl w1).alloc (.cells #[.int .i64 y.k, .int .i64 y.wd, .int .i64 y.sl, .int .i64 y.cp, .int .u32 y.sa, .slice Y y.ini.length cY, .int .i64 y.ow, .slice Y2 y.rd.length dY] 39)
      have hb2 := Blk.new w1 39 #[.int .i64 y.k, .int .i64 y.wd, .int .i64 y.sl, .int .i64 y.cp, .int .u32 y.sa, .slice Y y.ini.length cY, .int .i64 y.ow, .slice Y2 y.rd.length dY]
      rw [← hw1] at hs1 hb1
      have hz1 : w1.heap.size = wr.heap.size + 1 := by rw [hw1, World.size_alloc]
      rw [hz1] at hb2
      have hb1' := hb1.same hs2
      have g0 := hs1.cell f0
      have g1 := hs1.cell f1
      have g2 := hs1.cell f2
      have g3 := hs1.cell f3
      have g4 := hs1.cell f4
      have g5 := hs1.cell f5
      have g6 := hs1.cell f6
      have g7 := hs1.cell f7
      have CA := Lib.hid (fun w' (h : Same wr w') (b : Bool) hb => alike_any x.k x.wd x.sl x.cp x.sa x.ow y.k y.wd y.sl y.cp y.sa y.ow x.rd y.rd x.ini y.ini X X2 Y Y2 cX dX cY dY w' (HCX.out.same h) (HCY.out.same h) (HCX2.out.same h) (HCY2.out.same h) (by unfold maxLen at hlx hlx2 hly hly2; omega) b (HEQ.out b hb))
      have HW1 := Lib.hid hw1
      have HA := Lib.hid (HS.out.trans (hs1.trans hs2))
      have HAA := Lib.hid (hs1.trans hs2)
      have u0 := hb1'.cell 0
      have v0 := hb2.cell 0
      have u1 := hb1'.cell 1
      have v1 := hb2.cell 1
      have u2 := hb1'.cell 2
      have v2 := hb2.cell 2
      have u3 := hb1'.cell 3
      have v3 := hb2.cell 3
      have u4 := hb1'.cell 4
      have v4 := hb2.cell 4
      have u5 := hb1'.cell 5
      have v5 := hb2.cell 5
      have u6 := hb1'.cell 6
      have v6 := hb2.cell 6
      have u7 := hb1'.cell 7
      have v7 := hb2.cell 7
      simp only [List.getElem?_toArray, List.getElem?_cons_zero, List.getElem?_cons_succ] at u0 v0 u1 v1 u2 v2 u3 v3 u4 v4 u5 v5 u6 v6 u7 v7
      clear hs1 hs2 hb1 hb2 hb1' hw1 hz1
      go_upto_region 6 with fail
      rw [← HW1.out]
      clear e0 e1 e2 e3 e4 e5 e6 e7
      cases hbv : decide (x = y) with
      | true =>
        have hxy := of_decide_eq_true hbv
        have CB := Lib.hid (CA.out _ HAA.out true hbv.symm)
        have HXY := Lib.hid hxy
        clear hxy hbv
        go_wp2_with fail
        refine CB.out.mono ?_
        rintro e w3 ⟨rfl, s3⟩
        have HS3 := Lib.hid (HA.out.trans s3)
        clear s3
        go_wp2_with fail
        go_roundg GK
        case rel => exact ⟨k + 1, by omega, by go_num, by rw [HGX.out, HGY.out, HP.out, HXY.out], HS3.out⟩
        case measure => omega
      | false =>
        have hxy := of_decide_eq_false hbv
        have CB := Lib.hid (CA.out _ HAA.out false hbv.symm)
        have hF : E = false := by
          rw [HE.out, decide_eq_false_iff_not]
          exact differ HGX.out HGY.out hxy
        subst hF
        clear hxy hbv
        go_wp2_with fail
        refine CB.out.mono ?_
        rintro e w3 ⟨rfl, s3⟩
        have HS3 := Lib.hid (HA.out.trans s3)
        clear s3
        go_wp2_with fail
        go_ret
        exact ⟨rfl, HS3.out⟩
set_option maxRecDepth 100000 in
set_option maxHeartbeats 2000000 in
theorem ssame_any (A B C D : Option Addr) (n c m d n' c' m' d' : Nat) (s t : PS) (w : World) (hs : SysAt w A n B m s) (ht : SysAt w C n' D m' t) (l1 : n ≤ maxLen ∧ m ≤ maxLen) (E : Bool) (hE : E = decide (s = t)) :
    Calls Tryd.prog 8 #[.agg #[.slice A n c, .slice B m d], .agg #[.slice C n' c', .slice D m' d']] w fun e w' => e = .returned (.bool E) ∧ Same w w' := by
  obtain ⟨hnb, hmb⟩ := l1
  unfold maxLen at hnb hmb
  have hs1 := (Same.refl w).alloc (.cells #[.slice A n c, .slice B m d] 25)
  have hb1 := Blk.new w 25 #[.slice A n c, .slice B m d]
  obtain ⟨w1, hw1⟩ : ∃ w1, w1 = w.alloc (.cells #[.slice A n c, .slice B m d] 25) := ⟨_, rfl⟩
  have hs2 := (Same.refl w1).alloc (.cells #[.slice C n' c', .slice D m' d'] 25)
  have hb2 := Blk.new w1 25 #[.slice C n' c', .slice D m' d']
  rw [← hw1] at hs1 hb1
  rw [show w1.heap.size = w.heap.size + 1 by rw [hw1, World.size_alloc]] at hb2
  have HB1 := Lib.hid (hb1.same hs2)
  have HB2 := Lib.hid hb2
  have HSS := Lib.hid (hs1.trans hs2)
  have HW1 := Lib.hid hw1
  have ET := Lib.hid (fun w' (h : Same w w') => eft_any A C n c n' c' s.ts t.ts w' hs.hn ht.hn (hs.ht.same h) (ht.ht.same h) (by omega) _ rfl)
  have EO := Lib.hid (fun w' (h : Same w w') => efo_any B D m d m' d' s.os t.os w' hs.hm ht.hm (hs.ho.same h) (ht.ho.same h) (by omega) _ rfl)
  have HE : E = (decide (s.ts = t.ts) && decide (s.os = t.os)) := by
    rw [hE]
    cases s
    cases t
    rw [Bool.eq_iff_iff]
    simp
  subst HE
  obtain ⟨u0, u1⟩ := (⟨HB1.out.cell 0, HB1.out.cell 1⟩ : _ ∧ _)
  obtain ⟨v0, v1⟩ := (⟨HB2.out.cell 0, HB2.out.cell 1⟩ : _ ∧ _)
  simp only [List.getElem?_toArray, List.getElem?_cons_zero, List.getElem?_cons_succ] at u0 u1 v0 v1
  generalize decide (s.ts = t.ts) = p at *
  generalize decide (s.os = t.os) = q at *
  clear hs ht hs1 hs2 hb1 hb2 hE hw1
  go_enter Tryd.func8, Tryd.ntmps8
  go_upto_region 1 with fail
  rw [← HW1.out]
  cases p with
  | false =>
    go_wp2_with fail
    refine (ET.out _ HSS.out).mono ?_
    rintro e w3 ⟨rfl, s3⟩
    have HS3 := Lib.hid (HSS.out.trans s3)
    clear s3
    go_wp2_with fail
    go_ret
    exact ⟨rfl, HS3.out⟩
  | true =>
    go_wp2_with fail
    refine (ET.out _ HSS.out).mono ?_
    rintro e w3 ⟨rfl, s3⟩
    have HS3 := Lib.hid (HSS.out.trans s3)
    have x1 := s3.cell u1
    have y1 := s3.cell v1
    clear s3
    go_wp2_with fail
    refine (EO.out _ HS3.out).mono ?_
    rintro e w4 ⟨rfl, s4⟩
    have HS4 := Lib.hid (HS3.out.trans s4)
    clear s4
    go_wp2_with fail
    go_ret
    exact ⟨by first | rfl | (rw [Bool.true_and]; rfl) | simp, HS4.out⟩
end Go.Proofs.YtaclphhbdfoaeaaDoor.Im
