/-

  Layer 32: what is wrong of objects, and of who uses them.
-/
import Derived.Test.YtfpefkpbiioofabDoorSysAw
import Derived.Test.YtfpefkpbiioofabDoorSysIn2
import Derived.Test.YtfpefkpbiioofabDoorObjRt3J
set_option linter.unusedVariables false
set_option linter.unusedSimpArgs false
namespace Go.Proofs.YtfpefkpbiioofabDoor.Sy
open Go.ChangeShapes Go.WideShapes Go.ChangeAt Go.RowKit Ws
open Go.Proofs.YtfpefkpbiioofabDoor.Im (PT PO PS TsAt OsAt SysAt tcells ocells TWf OWf SysWf)
open Go.Proofs.YtfpefkpbiioofabDoor.Is (Tabs)
open Go.Proofs.YtfpefkpbiioofabDoor.Ly (three_same)

noncomputable def oR (o : PO) : Bool := Os.rightO o.k o.wd o.sl o.cp o.sa o.ini.length o.rd.length (o.ow :: o.rd)
theorem rightf_wd {k wd sl cp sa : Int} {il rl : Nat} (h : Fc.rightF k wd sl cp sa il rl = true) : kindF k = true ∧ 1 ≤ wd ∧ wd ≤ 8 := by
  by_cases hk : k < 1 ∨ 6 < k
  · rw [Fc.right_none wd sl cp sa il rl hk] at h
    cases h
  · refine ⟨decide_eq_true (by omega), ?_⟩
    rcases (show k = 1 ∨ k = 2 ∨ k = 3 ∨ k = 4 ∨ k = 5 ∨ k = 6 by omega) with rfl | rfl | rfl | rfl | rfl | rfl
    · rw [Fc.right_1] at h
      exact (of_decide_eq_true h).1
    · rw [Fc.right_2] at h
      exact (of_decide_eq_true h).1
    · rw [Fc.right_3] at h
      exact (of_decide_eq_true h).1
    · rw [Fc.right_4] at h
      exact (of_decide_eq_true h).1
    · rw [Fc.right_5] at h
      exact (of_decide_eq_true h).1
    · rw [Fc.right_6] at h
      exact (Ff.HQ h).1
/-- what one knows of an object that is right -/
def OGood (o : PO) : Prop := kindF o.k = true ∧ (1 ≤ o.wd ∧ o.wd ≤ 8) ∧ ∀ y ∈ o.ow :: o.rd, 0 ≤ y ∧ y ≤ 7
theorem good_of {o : PO} (h : oR o = true) : OGood o := by
  unfold oR Os.rightO at h
  rw [Bool.and_eq_true, decide_eq_true_iff] at h
  obtain ⟨h1, h2, h3⟩ := rightf_wd h.1
  refine ⟨h1, ⟨h2, h3⟩, fun y hy => ?_⟩
  obtain ⟨j, hj, rfl⟩ := List.getElem_of_mem hy
  exact (h.2 j _ hj (List.getElem?_eq_getElem hj)).1
noncomputable def obf (os : List PO) (k : Nat) : Option (Spt × Int) := match os[k]? with
  | none => none
  | some o => if oR o = true then none else some ((-1, (k : Int), -1), 4)
noncomputable def fObjs (os : List PO) : Spt × Int := (firstN (obf os) os.length).getD (nw, 0)
def usr (n : Nat) (k : Nat) (l : List Int) (j : Nat) : Option (Spt × Int) := match l[j]? with
  | none => none
  | some i => if 0 ≤ i ∧ i < (n : Int) then none else some ((i, (k : Int), -1), 10)
def usf (n : Nat) (os : List PO) (k : Nat) : Option (Spt × Int) := match os[k]? with
  | none => none
  | some o => firstN (usr n k (o.ow :: o.rd)) (o.rd.length + 1)
def fUsers (n : Nat) (os : List PO) : Spt × Int := (firstN (usf n os) os.length).getD (nw, 0)
set_option maxRecDepth 100000 in
set_option maxHeartbeats 1000000 in
theorem objects_any (A B : Option Addr) (n c m d : Nat) (os : List PO) (w : World) (hm : os.length = m) (ho : OsAt w B os) (hf : OFew os 5000) (hw : ∀ p ∈ os, OWf p) :
    Calls Tryd.prog 15 #[.agg #[.slice A n c, .slice B m d]] w (FltP w (fObjs os)) := by
  have HF := Lib.hid (fb_new w A n c B m d)
  have HM := Lib.hid hm
  have HO := Lib.hid ho
  have HFW := Lib.hid hf
  have HWF := Lib.hid hw
  have hmb : m ≤ 5000 := by have := hf.1; omega
  clear hm ho hf hw
  obtain ⟨a0, a1⟩ := HF.out.sc
  go_enter Tryd.func15, Tryd.ntmps15
  go_wp2_with fail
  clear a0 a1
  go_loopg [9] m (fun gk iv wx => ∃ k : Nat, k + gk = m ∧ iv = .int .i64 k ∧ Hid (∀ j, j < k → obf os j = none) ∧ FB w wx A n c B m d)
  case atStart => exact ⟨0, by omega, rfl, Lib.hid (fun j hj => by omega), HF.out⟩
  case round =>
    obtain ⟨k, hk, rfl, HQ, hfb⟩ := hrel
    have HFB := Lib.hid hfb
    clear hfb
    cases gk with
    | zero =>
      obtain rfl : m = k := by omega
      have hge : ¬ (m : Int) < (m : Int) := by omega
      have HE := Lib.hid (show fObjs os = (nw, 0) by unfold fObjs; rw [firstN_none (by rw [HM.out]; exact HQ.out)]; rfl)
      go_wp2_with fail
      refine (nowhere_any _).mono ?_
      rintro e wn ⟨rfl, sn⟩
      have HFN := Lib.hid (HFB.out.to sn)
      clear sn
      obtain ⟨⟨r0, r1, r2⟩, k0, k1, k2⟩ := HFN.out.rc
      go_wp2_with fail
      refine bodyPost_ret (v := .tuple #[.agg #[.int .i64 (-1), .int .i64 (-1), .int .i64 (-1)], .int .i64 (0)]) (res2 Tryd.results15 _ _ (w.heap.size + 1) 29 #[.int .i64 (-1), .int .i64 (-1), .int .i64 (-1)] (0, 0) _ rfl (b3put HFN.out.res _ _ _) Tryd.underlying29 rfl spot_size) rfl ?_
      exact flt_mk (HE.out) (three_same HFN.out.same (by omega) _ _ _)
    | succ GK =>
      have hlt : (k : Int) < m := by omega
      have k0 : (0 : Int) ≤ k := by omega
      obtain ⟨x, hx⟩ : ∃ x, os[k]? = some x := ⟨_, List.getElem?_eq_getElem (by have := HM.out; omega)⟩
      obtain ⟨b, o, rfl, X, cX, Y, cY, d0, d1, d2, d3, d4, d5, d6, d7, hsa, _, _, hry, _⟩ := (HO.out.same HFB.out.same).at_ hx
      have hrd := (HFW.out.2 x (List.mem_of_getElem? hx)).2
      have hwf := HWF.out x (List.mem_of_getElem? hx)
      have HTK := Lib.hid (show obf os k = if oR x = true then none else some ((-1, (k : Int), -1), 4) by unfold obf; rw [hx])
      clear hx
      obtain ⟨k_, wd, sl, cp, sa, ow, rd, ini⟩ := x
      simp only at d0 d1 d2 d3 d4 d5 d6 d7 hsa hry hrd
      have hs2 := (Same.refl wr).alloc (.cells #[.int .i64 k_, .int .i64 wd, .int .i64 sl, .int .i64 cp, .int .u32 sa, .slice X ini.length cX, .int .i64 ow, .slice Y rd.length cY] 43)
      have HF2 := Lib.hid (HFB.out.to hs2)
      obtain ⟨q0, q1, q2, q3, q4, q5, q6, q7⟩ := ocs (Blk.new wr 43 #[.int .i64 k_, .int .i64 wd, .int .i64 sl, .int .i64 cp, .int .u32 sa, .slice X ini.length cX, .int .i64 ow, .slice Y rd.length cY])
      have FA := Lib.hid (Os.oright_all k_ wd sl cp sa ow X Y ini.length cX rd.length cY rd _ rfl hrd (hry.same hs2) hwf hsa)
      have HEI := Lib.hid (show oR ⟨k_, wd, sl, cp, sa, ow, rd, ini⟩ = Os.rightO k_ wd sl cp sa ini.length rd.length (ow :: rd) from rfl)
      clear hs2 hry hwf
      generalize Os.rightO k_ wd sl cp sa ini.length rd.length (ow :: rd) = z at *
      go_wp2_with fail
      refine FA.out.mono ?_
      rintro e w3 ⟨rfl, s3⟩
      have HF3 := Lib.hid (HF2.out.to s3)
      clear s3
      cases z with
      | true =>
        have HTN := Lib.hid (show obf os k = none by rw [HTK.out, if_pos HEI.out])
        go_wp2_with fail
        go_roundg GK
        case rel => exact ⟨k + 1, by omega, by go_num, Lib.hid (none_next HQ.out HTN.out), HF3.out⟩
        case measure => omega
      | false =>
        have HE := Lib.hid (show fObjs os = ((-1, (k : Int), -1), 4) by unfold fObjs; rw [firstN_hit (by have := HM.out; omega) HQ.out (by rw [HTK.out, HEI.out, if_neg (by decide)])]; rfl)
        obtain ⟨⟨r0, r1, r2⟩, k0, k1, k2⟩ := HF3.out.rc
        go_wp2_with fail
        refine bodyPost_ret (v := .tuple #[.agg #[.int .i64 (-1), .int .i64 (k), .int .i64 (-1)], .int .i64 (4)]) (res2 Tryd.results15 _ _ (w.heap.size + 1) 29 #[.int .i64 (-1), .int .i64 (k), .int .i64 (-1)] (0, 0) _ rfl (b3put HF3.out.res _ _ _) Tryd.underlying29 rfl spot_size) rfl ?_
        exact flt_mk (HE.out) (three_same HF3.out.same (by omega) _ _ _)
set_option maxRecDepth 100000 in
set_option maxHeartbeats 2000000 in
theorem users_any (A B : Option Addr) (n c m d : Nat) (os : List PO) (w : World) (hm : os.length = m) (ho : OsAt w B os) (hf : OFew os 5000) :
    Calls Tryd.prog 16 #[.agg #[.slice A n c, .slice B m d]] w (FltP w (fUsers n os)) := by
  obtain ⟨i0, hi, hz0, hz1, hz2⟩ := info_parts Os.int_info
  have HF := Lib.hid (fb_new w A n c B m d)
  have HM := Lib.hid hm
  have HO := Lib.hid ho
  have HFW := Lib.hid hf
  have hmb : m ≤ 5000 := by have := hf.1; omega
  clear hm ho hf
  obtain ⟨a0, a1⟩ := HF.out.sc
  go_enter Tryd.func16, Tryd.ntmps16
  go_wp2_with fail
  clear a0 a1
  go_loopg [11] m (fun gk iv wx => ∃ k : Nat, k + gk = m ∧ iv = .int .i64 k ∧ Hid (∀ j, j < k → usf n os j = none) ∧ FB w wx A n c B m d)
  case atStart => exact ⟨0, by omega, rfl, Lib.hid (fun j hj => by omega), HF.out⟩
  case round =>
    rename World => wo
    obtain ⟨k, hk, rfl, HQ, hfb⟩ := hrel
    have HFB := Lib.hid hfb
    clear hfb
    cases gk with
    | zero =>
      obtain rfl : m = k := by omega
      have hge : ¬ (m : Int) < (m : Int) := by omega
      have HE := Lib.hid (show fUsers n os = (nw, 0) by unfold fUsers; rw [firstN_none (by rw [HM.out]; exact HQ.out)]; rfl)
      go_wp2_with fail
      refine (nowhere_any _).mono ?_
      rintro e wn ⟨rfl, sn⟩
      have HFN := Lib.hid (HFB.out.to sn)
      clear sn
      obtain ⟨⟨r0, r1, r2⟩, k0, k1, k2⟩ := HFN.out.rc
      go_wp2_with fail
      refine bodyPost_ret (v := .tuple #[.agg #[.int .i64 (-1), .int .i64 (-1), .int .i64 (-1)], .int .i64 (0)]) (res2 Tryd.results16 _ _ (w.heap.size + 1) 29 #[.int .i64 (-1), .int .i64 (-1), .int .i64 (-1)] (0, 0) _ rfl (b3put HFN.out.res _ _ _) Tryd.underlying29 rfl spot_size) rfl ?_
      exact flt_mk (HE.out) (three_same HFN.out.same (by omega) _ _ _)
    | succ GK =>
      have hlt : (k : Int) < m := by omega
      have k0 : (0 : Int) ≤ k := by omega
      obtain ⟨x, hx⟩ : ∃ x, os[k]? = some x := ⟨_, List.getElem?_eq_getElem (by have := HM.out; omega)⟩
      obtain ⟨b, o, rfl, X, cX, Y, cY, d0, d1, d2, d3, d4, d5, d6, d7, hsa, _, _, hry, _⟩ := (HO.out.same HFB.out.same).at_ hx
      have hrd := (HFW.out.2 x (List.mem_of_getElem? hx)).2
      have HTK := Lib.hid (show usf n os k = firstN (usr n k (x.ow :: x.rd)) (x.rd.length + 1) by unfold usf; rw [hx])
      clear hx
      obtain ⟨k_, wd, sl, cp, sa, ow, rd, ini⟩ := x
      simp only at d0 d1 d2 d3 d4 d5 d6 d7 hsa hry hrd HTK
      have hs2 := (Same.refl wo).alloc (.cells #[.int .i64 k_, .int .i64 wd, .int .i64 sl, .int .i64 cp, .int .u32 sa, .slice X ini.length cX, .int .i64 ow, .slice Y rd.length cY] 43)
      have HF2 := Lib.hid (HFB.out.to hs2)
      have hb2 := Blk.new wo 43 #[.int .i64 k_, .int .i64 wd, .int .i64 sl, .int .i64 cp, .int .u32 sa, .slice X ini.length cX, .int .i64 ow, .slice Y rd.length cY]
      obtain ⟨q0, q1, q2, q3, q4, q5, q6, q7⟩ := ocs hb2
      have HRY := Lib.hid (hry.same hs2)
      obtain ⟨rl, hrl⟩ : ∃ rl, rl = rd.length := ⟨_, rfl⟩
      have HRL := Lib.hid hrl
      rw [← hrl] at d7 q0 q1 q2 q3 q4 q5 q6 q7 hs2 hrd HF2 HRY hb2 HTK
      obtain ⟨w2, hw2⟩ : ∃ w2, w2 = wo.alloc (.cells #[.int .i64 k_, .int .i64 wd, .int .i64 sl, .int .i64 cp, .int .u32 sa, .slice X ini.length cX, .int .i64 ow, .slice Y rl cY] 43) := ⟨_, rfl⟩
      obtain ⟨gO, hgO⟩ : ∃ g, g = wo.heap.size := ⟨_, rfl⟩
      rw [← hw2, ← hgO] at q0 q1 q2 q3 q4 q5 q6 q7 hb2
      rw [← hw2] at HF2 HRY
      have E2 := Lib.hid hw2
      have q7' : (w2.alloc (.cells #[.int .i64 ow] 3)).cell? ⟨gO, 7, none⟩ = some (.slice Y rl cY) := ((Same.refl w2).alloc _).cell q7
      have OL := Os.own_lit w2 3 (.int .i64 ow)
      have HOL := Lib.hid OL
      have HONE := Lib.hid (show ∀ u ∈ rd.map (Value.int .i64), u.oneCell' = true by intro u hu; obtain ⟨y, _, rfl⟩ := List.mem_map.1 hu; rfl)
      clear OL hs2 hry hrl hb2
      go_upto_region 4 with fail
      rw [← E2.out, ← hgO]
      clear E2 hw2 hgO d0 d1 d2 d3 d4 d5 d6 d7
      go_wp2_with (refine wpList_app rfl (.tmp 18) (.tmp 20) 41 rfl w2.heap.size 3 i0 _ 8 Tryd.underlying41 hi hz0 hz1 hz2 rfl (some ⟨w2.heap.size, 0, none⟩) 1 1 [.int .i64 ow] rfl rfl HOL.out Y rl cY (rd.map (Value.int .i64)) rfl (by rw [List.length_map]; exact HRL.out.symm) (HRY.out.same ((Same.refl _).alloc _)) HONE.out (by rw [List.length_map]; have := HRL.out; simp; omega) (by omega) (by simp) ?_)
      intro A3 c3 w3 ho3 hc3 _
      obtain ⟨N, hN⟩ : ∃ N, N = 1 + rl := ⟨_, rfl⟩
      rw [← hN]
      have hs3 : Same w2 w3 := Same.more ((Same.refl w2).alloc _) hc3 (fun g hg => by first | (have h1 : w2.heap.size = g := hg; omega) | (have h1 : (some ⟨w2.heap.size, 0, none⟩ : Option Addr) = some ⟨g, 0, none⟩ := hg; injection h1 with h1; injection h1 with h1; omega))
      have HF3 := Lib.hid (HF2.out.to hs3)
      have RL := Lib.hid (show Row w3 A3 ((ow :: rd).map (Value.int .i64)) from ho3.row)
      have HNL := Lib.hid (show (ow :: rd).length = N by have := HRL.out; rw [List.length_cons]; omega)
      have HTK2 := Lib.hid (show usf n os k = firstN (usr n k (ow :: rd)) N by rw [HTK.out, hN]; congr 1; omega)
      have hN5 : N ≤ 101 := by omega
      clear hN ho3 hc3 hs3 q0 q1 q2 q3 q4 q5 q6 q7 q7' HTK HOL HONE HRY
      generalize ow :: rd = L at *
      go_wp2_with fail
      go_loopg [23] N (fun gj jv wy => ∃ j : Nat, j + gj = N ∧ jv = .int .i64 j ∧ Hid (∀ i, i < j → usr n k L i = none) ∧ Same w3 wy)
      case atStart => exact ⟨0, by omega, rfl, Lib.hid (fun j hj => by omega), Same.refl _⟩
      case round =>
        obtain ⟨j, hj, rfl, HQJ, sj⟩ := hrel
        have HFJ := Lib.hid (HF3.out.to sj)
        have HSJ := Lib.hid sj
        clear sj
        cases gk with
        | zero =>
          obtain rfl : N = j := by omega
          have hge2 : ¬ (N : Int) < (N : Int) := by omega
          have HTN := Lib.hid (show usf n os k = none by rw [HTK2.out, firstN_none HQJ.out])
          go_wp2_with fail
          go_roundg GK
          case rel => exact ⟨k + 1, by omega, by go_num, Lib.hid (none_next HQ.out HTN.out), HFJ.out⟩
          case measure => omega
        | succ GJ =>
          have hlt2 : (j : Int) < N := by omega
          have j0 : (0 : Int) ≤ j := by omega
          obtain ⟨y, hy⟩ : ∃ y, L[j]? = some y := ⟨_, List.getElem?_eq_getElem (by have := HNL.out; omega)⟩
          obtain ⟨b3, o3, hA3, cy⟩ := (RL.out.same HSJ.out) j (.int .i64 y) (by rw [List.getElem?_map, hy]; rfl)
          have HUS := Lib.hid (show usr n k L j = if 0 ≤ y ∧ y < (n : Int) then none else some ((y, (k : Int), -1), 10) by unfold usr; rw [hy])
          clear hy
          subst hA3
          have IT := Lib.hid (istask_any A (some ⟨b, o, none⟩) n c m d y wr)
          obtain ⟨a0, a1⟩ := HFJ.out.sc
          by_cases hyn : 0 ≤ y ∧ y < (n : Int)
          · rw [decide_eq_true hyn] at IT
            have HUN := Lib.hid (show usr n k L j = none by rw [HUS.out, if_pos hyn])
            clear hyn
            go_wp2_with fail
            refine IT.out.mono ?_
            rintro e w6 ⟨rfl, s6⟩
            have HS6 := Lib.hid (HSJ.out.trans s6)
            clear s6
            go_wp2_with fail
            go_roundg GJ
            case rel => exact ⟨j + 1, by omega, by go_num, Lib.hid (none_next HQJ.out HUN.out), HS6.out⟩
            case measure => omega
          · rw [decide_eq_false hyn] at IT
            have HE := Lib.hid (show fUsers n os = ((y, (k : Int), -1), 10) by
              unfold fUsers
              rw [firstN_hit (by have := HM.out; omega) HQ.out (by rw [HTK2.out, firstN_hit (by omega) HQJ.out (by rw [HUS.out, if_neg hyn])])]
              rfl)
            clear hyn
            go_wp2_with fail
            refine IT.out.mono ?_
            rintro e w6 ⟨rfl, s6⟩
            have HF6 := Lib.hid (HFJ.out.to s6)
            clear s6
            obtain ⟨⟨r0, r1, r2⟩, k0, k1, k2⟩ := HF6.out.rc
            go_wp2_with fail
            refine bodyPost_ret (v := .tuple #[.agg #[.int .i64 (y), .int .i64 (k), .int .i64 (-1)], .int .i64 (10)]) (res2 Tryd.results16 _ _ (w.heap.size + 1) 29 #[.int .i64 (y), .int .i64 (k), .int .i64 (-1)] (0, 0) _ rfl (b3put HF6.out.res _ _ _) Tryd.underlying29 rfl spot_size) rfl ?_
            exact flt_mk (HE.out) (three_same HF6.out.same (by omega) _ _ _)
end Go.Proofs.YtfpefkpbiioofabDoor.Sy
