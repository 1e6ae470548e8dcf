/-

  Layer 32: what is wrong of a system first, by the document.
-/
import Derived.Test.YtfpefkpbiioofabDoorSysAll
import Derived.Test.YtfpefkpbiioofabDoorTaskRFlt
import Derived.Test.YtfpefkpbiioofabDoorObjRt2J
import Derived.Test.YtfpefkpbiioofabDoorLayRef
set_option linter.unusedVariables false
set_option linter.unusedSimpArgs false
namespace Go.Proofs.YtfpefkpbiioofabDoor.Sy
open Go.ChangeShapes Go.WideShapes Go.ChangeAt Go.RowKit Ws
open Go.Proofs.YtfpefkpbiioofabDoor.Im (PT PO PS TsAt OsAt SysAt tcells ocells TWf OWf SysWf)
open Go.Proofs.YtfpefkpbiioofabDoor.Is (Tabs)
open Go.Proofs.YtfpefkpbiioofabDoor.Ly (three_same)

structure RB (w wx : World) (A : Option Addr) (n c : Nat) (B : Option Addr) (m d : Nat) : Prop where
  fb : FB w wx A n c B m d
  no : Blk wx (w.heap.size + 1 + 1) 29 #[.int .i64 (-1), .int .i64 (-1), .int .i64 (-1)]
theorem rb_new (w : World) (A : Option Addr) (n c : Nat) (B : Option Addr) (m d : Nat) : RB w (((w.alloc (.cells #[.slice A n c, .slice B m d] 25)).alloc (.cells #[.int .i64 0, .int .i64 0, .int .i64 0] 29)).alloc (.cells #[.int .i64 (-1), .int .i64 (-1), .int .i64 (-1)] 29)) A n c B m d := by
  have h := Blk.new ((w.alloc (.cells #[.slice A n c, .slice B m d] 25)).alloc (.cells #[.int .i64 0, .int .i64 0, .int .i64 0] 29)) 29 #[.int .i64 (-1), .int .i64 (-1), .int .i64 (-1)]
  rw [World.size_alloc, World.size_alloc] at h
  exact ⟨(fb_new w A n c B m d).to ((Same.refl _).alloc _), h⟩
theorem RB.to {w wx wy : World} {A : Option Addr} {n c : Nat} {B : Option Addr} {m d : Nat} (h : RB w wx A n c B m d) (hs : Same wx wy) : RB w wy A n c B m d := ⟨h.fb.to hs, h.no.same hs⟩
theorem RB.nc {w wx : World} {A : Option Addr} {n c : Nat} {B : Option Addr} {m d : Nat} (h : RB w wx A n c B m d) : wx.cell? ⟨w.heap.size + 1 + 1, 0, none⟩ = some (.int .i64 (-1)) ∧ wx.cell? ⟨w.heap.size + 1 + 1, 1, none⟩ = some (.int .i64 (-1)) ∧ wx.cell? ⟨w.heap.size + 1 + 1, 2, none⟩ = some (.int .i64 (-1)) := ⟨h.no.cell 0, h.no.cell 1, h.no.cell 2⟩
theorem chk_is {F : Nat → Spt × Int} {k : Nat} {r : Spt × Int} (hk : k < 6) (hn : ∀ j, j < k → (F j).2 = 0) (hr : F k = r) (hz : r.2 ≠ 0) : chk F = r := by
  unfold chk
  rw [firstN_hit (r := r) hk (fun j hj => chf_none (hn j hj)) (by unfold chf; rw [hr, if_neg hz])]
  rfl
theorem chk_last {F : Nat → Spt × Int} {e : Int} (hn : ∀ j, j < 5 → (F j).2 = 0) (hr : F 5 = (nw, e)) : chk F = (nw, e) := by
  by_cases hz : e = 0
  · subst hz
    unfold chk
    rw [firstN_none (fun j hj => chf_none (by
      by_cases h5 : j = 5
      · subst h5; rw [hr]
      · exact hn j (by omega)))]
    rfl
  · exact chk_is (by omega) hn hr hz
theorem sf0 {s : PS} {n m : Nat} {re : Int} : SF s n m re 0 = fNum n m := rfl
theorem sf1 {s : PS} {n m : Nat} {re : Int} : SF s n m re 1 = fTasks s.ts := rfl
theorem sf2 {s : PS} {n m : Nat} {re : Int} : SF s n m re 2 = fObjs s.os := rfl
theorem sf3 {s : PS} {n m : Nat} {re : Int} : SF s n m re 3 = fUsers n s.os := rfl
theorem sf4 {s : PS} {n m : Nat} {re : Int} : SF s n m re 4 = fCalls s := rfl
theorem sf5 {s : PS} {n m : Nat} {re : Int} : SF s n m re 5 = (nw, re) := rfl
theorem below1 {F : Nat → Spt × Int} (h0 : (F 0).2 = 0) : ∀ j, j < 1 → (F j).2 = 0 := fun j hj => by
  obtain rfl : j = 0 := by omega
  exact h0
theorem below_next {F : Nat → Spt × Int} {k : Nat} (h : ∀ j, j < k → (F j).2 = 0) (hk : (F k).2 = 0) : ∀ j, j < k + 1 → (F j).2 = 0 := fun j hj => by
  by_cases hjk : j < k
  · exact h j hjk
  · obtain rfl : j = k := by omega
    exact hk
set_option maxRecDepth 100000 in
set_option maxHeartbeats 8000000 in
theorem rcheck_sys (A B : Option Addr) (n c m d : Nat) (s : PS) (tks : List Tk.Task) (obs : List Ly.Objt) (w : World) (hs : SysAt w A n B m s) (htf : TFew s.ts 60) (hof : OFew s.os 60)
    (hl1 : tks.length = n) (hl2 : obs.length = m) (ht : Tk.Tasks w A tks) (ho : Ly.Objs w B obs) (hT : Tabs w) :
    Calls Tryd.prog 8 #[.agg #[.slice A n c, .slice B m d]] w (FltP w (chk (SF s n m (roomE tks obs)))) := by
  have hn60 : n ≤ 60 := by have := htf.1; have := hs.hn; omega
  have hm60 : m ≤ 60 := by have := hof.1; have := hs.hm; omega
  have HN := Lib.hid hs.hn
  have HM := Lib.hid hs.hm
  have HT := Lib.hid hs.ht
  have HO := Lib.hid hs.ho
  have HSY := Lib.hid hs
  have HTF := Lib.hid htf.2
  have HOF := Lib.hid hof.2
  have HOF5 := Lib.hid (show OFew s.os 5000 from ⟨by have := hof.1; omega, hof.2⟩)
  have HTB := Lib.hid hT
  have ROF := Lib.hid (fun w' (h : Same w w') => Ly.rof_any A B n c m d tks obs w' hl1 hl2 hn60 hm60 (ht.same h) (ho.same h))
  obtain ⟨re, hre⟩ : ∃ re, re = roomE tks obs := ⟨_, rfl⟩
  have HRE := Lib.hid hre
  rw [← hre]
  obtain ⟨F, hF⟩ : ∃ F, F = SF s n m re := ⟨_, rfl⟩
  rw [← hF]
  have F0 := Lib.hid (show F 0 = fNum n m by rw [hF]; rfl)
  have F1 := Lib.hid (show F 1 = fTasks s.ts by rw [hF]; rfl)
  have F2 := Lib.hid (show F 2 = fObjs s.os by rw [hF]; rfl)
  have F3 := Lib.hid (show F 3 = fUsers n s.os by rw [hF]; rfl)
  have F4 := Lib.hid (show F 4 = fCalls s by rw [hF]; rfl)
  have F5 := Lib.hid (show F 5 = (nw, re) by rw [hF]; rfl)
  obtain ⟨w1_, hw1⟩ : ∃ w1_, w1_ = ((w.alloc (.cells #[.slice A n c, .slice B m d] 25)).alloc (.cells #[.int .i64 0, .int .i64 0, .int .i64 0] 29)).alloc (.cells #[.int .i64 (-1), .int .i64 (-1), .int .i64 (-1)] 29) := ⟨_, rfl⟩
  have RB0 := Lib.hid (show RB w w1_ A n c B m d from hw1 ▸ rb_new w A n c B m d)
  have E1 := Lib.hid hw1.symm
  clear hw1
  clear hs htf hof hl1 hl2 ht ho hT hre hF
  obtain ⟨a0, a1⟩ := RB0.out.fb.sc
  by_cases h0 : n < 1
  · have HE := Lib.hid (chk_is (F := F) (k := 0) (r := (nw, 1)) (by omega) (fun j hj => by omega) (by rw [F0.out]; exact if_pos (by omega)) (by decide))
    have h1 : (n : Int) < 1 := by omega
    clear h0
    obtain ⟨⟨r0, r1, r2⟩, k0_, k1_, k2_⟩ := RB0.out.fb.rc
    obtain ⟨n0, n1, n2⟩ := RB0.out.nc
    go_enter Tryd.func8, Tryd.ntmps8
    go_upto_region 2 with fail
    rw [E1.out]
    go_wp2_with fail
    refine bodyPost_ret (v := .tuple #[.agg #[.int .i64 (-1), .int .i64 (-1), .int .i64 (-1)], .int .i64 (1)]) (res2 Tryd.results8 _ _ (w.heap.size + 1) 29 #[.int .i64 (-1), .int .i64 (-1), .int .i64 (-1)] (0, 0) _ rfl (b3put RB0.out.fb.res _ _ _) Tryd.underlying29 rfl spot_size) rfl ?_
    exact flt_mk (HE.out) (three_same RB0.out.fb.same (by omega) _ _ _)
  by_cases h8 : 8 < n
  · have HE := Lib.hid (chk_is (F := F) (k := 0) (r := (nw, 1)) (by omega) (fun j hj => by omega) (by rw [F0.out]; exact if_pos (by omega)) (by decide))
    have h1 : ¬ (n : Int) < 1 := by omega
    have h2 : (n : Int) > 8 := by omega
    clear h0 h8
    obtain ⟨⟨r0, r1, r2⟩, k0_, k1_, k2_⟩ := RB0.out.fb.rc
    obtain ⟨n0, n1, n2⟩ := RB0.out.nc
    go_enter Tryd.func8, Tryd.ntmps8
    go_upto_region 2 with fail
    rw [E1.out]
    go_wp2_with fail
    refine bodyPost_ret (v := .tuple #[.agg #[.int .i64 (-1), .int .i64 (-1), .int .i64 (-1)], .int .i64 (1)]) (res2 Tryd.results8 _ _ (w.heap.size + 1) 29 #[.int .i64 (-1), .int .i64 (-1), .int .i64 (-1)] (0, 0) _ rfl (b3put RB0.out.fb.res _ _ _) Tryd.underlying29 rfl spot_size) rfl ?_
    exact flt_mk (HE.out) (three_same RB0.out.fb.same (by omega) _ _ _)
  by_cases hm8 : 8 < m
  · have HE := Lib.hid (chk_is (F := F) (k := 0) (r := (nw, 1)) (by omega) (fun j hj => by omega) (by rw [F0.out]; exact if_pos (by omega)) (by decide))
    have h1 : ¬ (n : Int) < 1 := by omega
    have h2 : ¬ (n : Int) > 8 := by omega
    have h3 : (m : Int) > 8 := by omega
    clear h0 h8 hm8
    obtain ⟨⟨r0, r1, r2⟩, k0_, k1_, k2_⟩ := RB0.out.fb.rc
    obtain ⟨n0, n1, n2⟩ := RB0.out.nc
    go_enter Tryd.func8, Tryd.ntmps8
    go_upto_region 2 with fail
    rw [E1.out]
    go_wp2_with fail
    refine bodyPost_ret (v := .tuple #[.agg #[.int .i64 (-1), .int .i64 (-1), .int .i64 (-1)], .int .i64 (1)]) (res2 Tryd.results8 _ _ (w.heap.size + 1) 29 #[.int .i64 (-1), .int .i64 (-1), .int .i64 (-1)] (0, 0) _ rfl (b3put RB0.out.fb.res _ _ _) Tryd.underlying29 rfl spot_size) rfl ?_
    exact flt_mk (HE.out) (three_same RB0.out.fb.same (by omega) _ _ _)
  have B1 := Lib.hid (below1 (F := F) (by rw [F0.out]; unfold fNum; rw [if_neg (by omega)]))
  have h1 : ¬ (n : Int) < 1 := by omega
  have h2 : ¬ (n : Int) > 8 := by omega
  have h3 : ¬ (m : Int) > 8 := by omega
  clear h0 h8 hm8
  go_enter Tryd.func8, Tryd.ntmps8
  go_upto_region 2 with fail
  rw [E1.out]
  go_wp2_with fail
  clear a0 a1
  go_loopg [44] n (fun gk iv wx => ∃ k : Nat, k + gk = n ∧ iv = .int .i64 k ∧ Hid (∀ j, j < k → tkf s.ts j = none) ∧ RB w wx A n c B m d)
  case atStart => exact ⟨0, by omega, rfl, Lib.hid (fun j hj => by omega), RB0.out⟩
  case round =>
    obtain ⟨k, hk, rfl, HQ, hrb⟩ := hrel
    have HRB := Lib.hid hrb
    clear hrb
    cases gk with
    | zero =>
      obtain rfl : n = k := by omega
      have hge : ¬ (n : Int) < (n : Int) := by omega
      have HTK := Lib.hid (show ∀ j, j < s.ts.length → tkf s.ts j = none from fun j hj => HQ.out j (by have := HN.out; omega))
      have B2 := Lib.hid (below_next B1.out (by rw [F1.out]; unfold fTasks; rw [firstN_none HTK.out]; rfl))
      have HRC := Lib.hid (right_code HTK.out)
      obtain ⟨a0, a1⟩ := HRB.out.fb.sc
      go_wp2_with fail
      clear a0 a1 B1 HQ RB0
      go_loopg [64] m (fun gk iv wx => ∃ k : Nat, k + gk = m ∧ iv = .int .i64 k ∧ Hid (∀ j, j < k → obf s.os j = none) ∧ RB w wx A n c B m d)
      case atStart => exact ⟨0, by omega, rfl, Lib.hid (fun j hj => by omega), HRB.out⟩
      case round =>
        clear HRB
        obtain ⟨k, hk, rfl, HQ, hrb⟩ := hrel
        have HRB := Lib.hid hrb
        clear hrb
        cases gk with
        | zero =>
          obtain rfl : m = k := by omega
          have hge2 : ¬ (m : Int) < (m : Int) := by omega
          have HOK := Lib.hid (show ∀ j, j < s.os.length → obf s.os j = none from fun j hj => HQ.out j (by have := HM.out; omega))
          have B3 := Lib.hid (below_next B2.out (by rw [F2.out]; unfold fObjs; rw [firstN_none HOK.out]; rfl))
          have HOG := Lib.hid (good_objs HOK.out)
          obtain ⟨a0, a1⟩ := HRB.out.fb.sc
          go_wp2_with fail
          clear a0 a1 B2 HQ
          go_loopg [78] m (fun gk iv wx => ∃ k : Nat, k + gk = m ∧ iv = .int .i64 k ∧ Hid (∀ j, j < k → usf n s.os j = none) ∧ RB w wx A n c B m d)
          case atStart => exact ⟨0, by omega, rfl, Lib.hid (fun j hj => by omega), HRB.out⟩
          case round =>
            clear HRB
            rename World => wo
            obtain ⟨k, hk, rfl, HQ, hrb⟩ := hrel
            have HRB := Lib.hid hrb
            clear hrb
            cases gk with
            | zero =>
              obtain rfl : m = k := by omega
              have hge3 : ¬ (m : Int) < (m : Int) := by omega
              have B4 := Lib.hid (below_next B3.out (by rw [F3.out]; unfold fUsers; rw [firstN_none (by rw [HM.out]; exact HQ.out)]; rfl))
              obtain ⟨a0, a1⟩ := HRB.out.fb.sc
              go_wp2_with fail
              clear a0 a1 B3 HQ
              go_loopg [113] n (fun gk iv wx => ∃ k : Nat, k + gk = n ∧ iv = .int .i64 k ∧ Hid (∀ j, j < k → ctf s j = none) ∧ RB w wx A n c B m d)
              case atStart => exact ⟨0, by omega, rfl, Lib.hid (fun j hj => by omega), HRB.out⟩
              case round =>
                clear HRB
                rename World => wp
                obtain ⟨k, hk, rfl, HQ, hrb⟩ := hrel
                have HRB := Lib.hid hrb
                clear hrb
                cases gk with
                | zero =>
                  obtain rfl : n = k := by omega
                  have hge4 : ¬ (n : Int) < (n : Int) := by omega
                  have B5 := Lib.hid (below_next B4.out (by rw [F4.out]; unfold fCalls; rw [firstN_none (by rw [HN.out]; exact HQ.out)]; rfl))
                  have HE := Lib.hid (chk_last B5.out F5.out)
                  obtain ⟨a0, a1⟩ := HRB.out.fb.sc
                  go_wp2_with fail
                  refine (ROF.out _ HRB.out.fb.same).mono ?_
                  intro e w1 hofp
                  obtain ⟨A1, n1, c1, B1', m1, d1, zz, rfl, s1⟩ := ofp_is hofp
                  rw [← HRE.out]
                  have HR1 := Lib.hid ((HRB.out.to s1).to ((Same.refl _).alloc (.cells #[.slice A1 n1 c1, .slice B1' m1 d1, .int .i64 zz] 57)))
                  clear hofp s1 a0 a1 HRB B4 HQ
                  obtain ⟨⟨r0, r1, r2⟩, k0_, k1_, k2_⟩ := HR1.out.fb.rc
                  obtain ⟨n0, n1, n2⟩ := HR1.out.nc
                  go_wp2_with fail
                  refine bodyPost_ret (v := .tuple #[.agg #[.int .i64 (-1), .int .i64 (-1), .int .i64 (-1)], .int .i64 (re)]) (res2 Tryd.results8 _ _ (w.heap.size + 1) 29 #[.int .i64 (-1), .int .i64 (-1), .int .i64 (-1)] (0, 0) _ rfl (b3put HR1.out.fb.res _ _ _) Tryd.underlying29 rfl spot_size) rfl ?_
                  exact flt_mk (HE.out) (three_same HR1.out.fb.same (by omega) _ _ _)
                | succ GK =>
                  have hlt : (k : Int) < n := by omega
                  have k0 : (0 : Int) ≤ k := by omega
                  obtain ⟨x, hx⟩ : ∃ x, s.ts[k]? = some x := ⟨_, List.getElem?_eq_getElem (by have := HN.out; omega)⟩
                  obtain ⟨b, o, hA, X, cX, c0, c1, c2, c3, c4, c5, c6, hcode, _⟩ := (HT.out.same HRB.out.fb.same).at_ hx
                  have hcl := HTF.out x (List.mem_of_getElem? hx)
                  have hcr := HRC.out x (List.mem_of_getElem? hx)
                  have HCT := Lib.hid (show ctf s k = firstN (clf s k x) x.code.length by unfold ctf; rw [hx])
                  have HXE := Lib.hid (show ∀ (own : Int) (code : List Im.Ins), x.own = own → x.code = code → ∀ j y, code[j]? = some y → clf s k x j = if (callR s k own y).2 = 0 then none else some (((k : Int), (callR s k own y).1, (j : Int)), (callR s k own y).2) from fun own code h1 h2 j y hy => by
                    subst h1 h2
                    unfold clf
                    rw [hy])
                  clear hx
                  obtain ⟨code, hcode2⟩ : ∃ code, code = x.code := ⟨_, rfl⟩
                  rw [← hcode2] at hcl hcode c6 HCT hcr
                  have HCE := Lib.hid hcode2
                  clear hcode2
                  obtain ⟨own, hown⟩ : ∃ z, z = x.own := ⟨_, rfl⟩
                  have HOW := Lib.hid hown
                  rw [← hown] at c5
                  clear hown
                  generalize x.kind = kind at *
                  generalize x.prio = prio at *
                  generalize x.per = per at *
                  generalize x.off = off at *
                  generalize x.dl = dl at *
                  subst hA
                  obtain ⟨ml, hmle⟩ : ∃ ml, ml = code.length := ⟨_, rfl⟩
                  have HML := Lib.hid hmle
                  rw [← hmle] at c6 hcl HCT
                  have hs2 := (Same.refl wp).alloc (.cells #[.int .i64 kind, .int .i64 prio, .int .i64 per, .int .i64 off, .int .i64 dl, .int .i64 own, .slice X ml cX] 49)
                  have HR2 := Lib.hid (HRB.out.to hs2)
                  have HCD := Lib.hid (hcode.same hs2)
                  have HCR := Lib.hid hcr
                  have hb2 := Blk.new wp 49 #[.int .i64 kind, .int .i64 prio, .int .i64 per, .int .i64 off, .int .i64 dl, .int .i64 own, .slice X ml cX]
                  obtain ⟨w2, hw2⟩ : ∃ w2, w2 = wp.alloc (.cells #[.int .i64 kind, .int .i64 prio, .int .i64 per, .int .i64 off, .int .i64 dl, .int .i64 own, .slice X ml cX] 49) := ⟨_, rfl⟩
                  obtain ⟨gT, hgT⟩ : ∃ g, g = wp.heap.size := ⟨_, rfl⟩
                  rw [← hw2, ← hgT] at hb2
                  rw [← hw2] at HR2 HCD
                  have E2 := Lib.hid hw2
                  have HB2 := Lib.hid hb2
                  obtain ⟨q0, q1, q2, q3, q4, q5, q6⟩ := tcs hb2
                  clear hs2 hcode hmle hb2 hcr
                  go_upto_region 32 with fail
                  rw [← E2.out, ← hgT]
                  clear E2 hw2 hgT c0 c1 c2 c3 c4 c5 c6
                  go_wp2_with fail
                  clear q0 q1 q2 q3 q4 q5 q6
                  go_loopg [121] ml (fun gj jv wy => ∃ j : Nat, j + gj = ml ∧ jv = .int .i64 j ∧ Hid (∀ i, i < j → clf s k x i = none) ∧ Same w2 wy)
                  case atStart => exact ⟨0, by omega, rfl, Lib.hid (fun j hj => by omega), Same.refl _⟩
                  case round =>
                    obtain ⟨j, hj, rfl, HQJ, sj⟩ := hrel
                    have HSJ := Lib.hid sj
                    clear sj
                    cases gk with
                    | zero =>
                      obtain rfl : ml = j := by omega
                      have hgeJ : ¬ (ml : Int) < (ml : Int) := by omega
                      have HRJ := Lib.hid (HR2.out.to HSJ.out)
                      have HTN := Lib.hid (show ctf s k = none by rw [HCT.out, firstN_none HQJ.out])
                      go_wp2_with fail
                      go_roundg GK
                      case rel => exact ⟨k + 1, by omega, by go_num, Lib.hid (none_next HQ.out HTN.out), HRJ.out⟩
                      case measure => omega
                    | succ GJ =>
                      have hltJ : (j : Int) < ml := by omega
                      have j0 : (0 : Int) ≤ j := by omega
                      obtain ⟨y, hy⟩ : ∃ y, code[j]? = some y := ⟨_, List.getElem?_eq_getElem (by have := HML.out; omega)⟩
                      obtain ⟨hyn, b2, o2, hX, hcells⟩ := (HCD.out.same HSJ.out) j y hy
                      have hcb := HCR.out y (List.mem_of_getElem? hy)
                      have HCF := Lib.hid (HXE.out own code HOW.out.symm HCE.out.symm j y hy)
                      clear hy
                      obtain ⟨op, xa, xb, xc, xn⟩ := y
                      subst hX
                      have e0 := hcells 0 _ rfl
                      have e1 := hcells 1 _ rfl
                      have e2 := hcells 2 _ rfl
                      have e3 := hcells 3 _ rfl
                      have e4 := hcells 4 _ rfl
                      rw [Nat.add_zero] at e0
                      simp only at hyn hcb e0 e1 e2 e3 e4
                      clear hcells
                      have hs5 := (Same.refl wr).alloc (.cells #[.int .i64 op, .int .i64 xa, .int .i64 xb, .int .i64 xc, .int .u32 xn] 46)
                      have hb5 := Blk.new wr 46 #[.int .i64 op, .int .i64 xa, .int .i64 xb, .int .i64 xc, .int .u32 xn]
                      obtain ⟨y0, y1, y2, y3, y4⟩ := ics hb5
                      have RC := Lib.hid (fun w' => Is.rcalls_any op w')
                      by_cases hcv : Is.callV op = 0
                      · have HTN := Lib.hid (show clf s k x j = none by rw [HCF.out, call_none (x := ⟨op, xa, xb, xc, xn⟩) (by cases hq : Is.callB op with | false => rfl | true => exact absurd hcv (callv_b.1 hq))]; rfl)
                        have HS5 := Lib.hid (HSJ.out.trans hs5)
                        rw [hcv] at RC
                        clear hcv hs5 hb5
                        go_wp2_with fail
                        refine (RC.out _).mono ?_
                        rintro e w6 ⟨rfl, rfl⟩
                        go_wp2_with fail
                        go_roundg GJ
                        case rel => exact ⟨j + 1, by omega, by go_num, Lib.hid (none_next HQJ.out HTN.out), HS5.out⟩
                        case measure => omega
                      · have hcB : Is.callB op = true := callv_b.2 hcv
                        have hxb := calls_b hcb hcB
                        have hcv1 : (Is.callV op == 0) = false := by simpa using hcv
                        have HCB := Lib.hid hcB
                        have hs6 := (Same.refl (wr.alloc (.cells #[.int .i64 op, .int .i64 xa, .int .i64 xb, .int .i64 xc, .int .u32 xn] 46))).alloc (.cells #[.int .i64 k, .int .i64 xb, .int .i64 j] 29)
                        have hbS := Blk.new (wr.alloc (.cells #[.int .i64 op, .int .i64 xa, .int .i64 xb, .int .i64 xc, .int .u32 xn] 46)) 29 #[.int .i64 k, .int .i64 xb, .int .i64 j]
                        rw [World.size_alloc] at hbS
                        obtain ⟨w7, hw7⟩ : ∃ w7, w7 = (wr.alloc (.cells #[.int .i64 op, .int .i64 xa, .int .i64 xb, .int .i64 xc, .int .u32 xn] 46)).alloc (.cells #[.int .i64 k, .int .i64 xb, .int .i64 j] 29) := ⟨_, rfl⟩
                        obtain ⟨gI, hgI⟩ : ∃ g, g = wr.heap.size := ⟨_, rfl⟩
                        have HB7 := Lib.hid (show Blk w7 gI 46 #[.int .i64 op, .int .i64 xa, .int .i64 xb, .int .i64 xc, .int .u32 xn] by rw [hw7, hgI]; exact hb5.same hs6)
                        have HS7 := Lib.hid (show Blk w7 (gI + 1) 29 #[.int .i64 k, .int .i64 xb, .int .i64 j] by rw [hw7, hgI]; exact hbS)
                        have HSAM := Lib.hid (show Same w2 w7 by rw [hw7]; exact (HSJ.out.trans hs5).trans hs6)
                        have E7 := Lib.hid hw7
                        have HR7 := Lib.hid (HR2.out.to HSAM.out)
                        have HBT := Lib.hid (HB2.out.same HSAM.out)
                        generalize hcve : Is.callV op = cv at *
                        have HCVE := Lib.hid hcve
                        clear hs5 hb5 hs6 hbS hcv hcB hcb hw7 hcve
                        go_wp2_with fail
                        refine (RC.out _).mono ?_
                        rintro e w6 ⟨rfl, rfl⟩
                        go_upto_region 38 with fail
                        rw [← E7.out, ← hgI]
                        clear E7 hgI e0 e1 e2 e3 e4 y0 y1 y2 y3 y4 RC
                        obtain ⟨y0, y1, y2, y3, y4⟩ := ics HB7.out
                        obtain ⟨a0, a1⟩ := HR7.out.fb.sc
                        obtain ⟨s0, s1, s2⟩ := (⟨HS7.out.cell 0, HS7.out.cell 1, HS7.out.cell 2⟩ : _ ∧ _ ∧ _)
                        simp only [List.getElem?_toArray, List.getElem?_cons_zero, List.getElem?_cons_succ] at s0 s1 s2
                        by_cases hbm : xb ≥ (m : Int)
                        · have HCR2 := Lib.hid (call_noobj (s := s) (i := k) (own := own) (x := ⟨op, xa, xb, xc, xn⟩) HCB.out (by have := HM.out; show s.os.length ≤ xb.toNat; omega))
                          have HE := Lib.hid (chk_is (F := F) (k := 4) (r := (((k : Int), xb, (j : Int)), 9)) (by omega) B4.out (by rw [F4.out]; unfold fCalls; rw [firstN_hit (by have := HN.out; omega) HQ.out (by rw [HCT.out, firstN_hit (by omega) HQJ.out (by rw [HCF.out, HCR2.out]; exact if_neg (by simp))])]; rfl) (show (9 : Int) ≠ 0 by decide))
                          obtain ⟨⟨r0, r1, r2⟩, k0_, k1_, k2_⟩ := HR7.out.fb.rc
                          go_wp2_with fail
                          refine bodyPost_ret (v := .tuple #[.agg #[.int .i64 (k), .int .i64 (xb), .int .i64 (j)], .int .i64 (9)]) (res2 Tryd.results8 _ _ (w.heap.size + 1) 29 #[.int .i64 (k), .int .i64 (xb), .int .i64 (j)] (0, 0) _ rfl (b3put HR7.out.fb.res _ _ _) Tryd.underlying29 rfl spot_size) rfl ?_
                          exact flt_mk (HE.out) (three_same HR7.out.fb.same (by omega) _ _ _)
                        · obtain ⟨k', hk'⟩ : ∃ k' : Nat, xb = k' := ⟨xb.toNat, by omega⟩
                          obtain ⟨ob, hob⟩ : ∃ x, s.os[k']? = some x := ⟨_, List.getElem?_eq_getElem (by have := HM.out; omega)⟩
                          have HCA := Lib.hid (call_at (s := s) (i := k) (own := own) (x := ⟨op, xa, xb, xc, xn⟩) (k := k') HCB.out hk' hob)
                          have hog := HOG.out ob (List.mem_of_getElem? hob)
                          obtain ⟨b9, o9, hB9, X9, cX9, Y9, cY9, d0, d1, _⟩ := (HO.out.same HR7.out.fb.same).at_ hob
                          clear hob
                          obtain ⟨k_, wd, sl, cp, sa, ow, rd, ini⟩ := ob
                          obtain ⟨hk1, ⟨hw1, hw2⟩, _⟩ := hog
                          simp only at d0 d1 hw1 hw2 HCA
                          rw [HCVE.out] at HCA
                          subst hk'
                          have k0' : (0 : Int) ≤ k' := by omega
                          have hkm : (k' : Int) < m := by omega
                          have WR := Lib.hid (fun w' => writes_any k_ w')
                          have RR := Lib.hid (fun w' => reads_any k_ w')
                          have RO := Lib.hid (fun w' (h : Same w w') => rrole_any (some ⟨b, o, none⟩) B n c m d s k k' w' (HSY.out.same h) HOF5.out)
                          generalize roleF s k k' = ro at *
                          generalize wrF k_ = z1 at *
                          generalize rdF k_ = z2 at *
                          subst hB9
                          by_cases hop : cv ≠ z1 ∧ cv ≠ z2
                          · have HCR2 := Lib.hid (HCA.out.trans (if_pos hop))
                            have g1 : (cv != z1) = true := by simpa using hop.1
                            have g2 : (cv != z2) = true := by simpa using hop.2
                            clear hop
                            have HE := Lib.hid (chk_is (F := F) (k := 4) (r := (((k : Int), (k' : Int), (j : Int)), 9)) (by omega) B4.out (by rw [F4.out]; unfold fCalls; rw [firstN_hit (by have := HN.out; omega) HQ.out (by rw [HCT.out, firstN_hit (by omega) HQJ.out (by rw [HCF.out, HCR2.out]; exact if_neg (by simp))])]; rfl) (show (9 : Int) ≠ 0 by decide))
                            go_wp2_with fail
                            refine (WR.out _).mono ?_
                            rintro e w8 ⟨rfl, rfl⟩
                            go_wp2_with fail
                            refine (RR.out _).mono ?_
                            rintro e w8 ⟨rfl, rfl⟩
                            obtain ⟨⟨r0, r1, r2⟩, k0_, k1_, k2_⟩ := HR7.out.fb.rc
                            go_wp2_with fail
                            refine bodyPost_ret (v := .tuple #[.agg #[.int .i64 (k), .int .i64 (k'), .int .i64 (j)], .int .i64 (9)]) (res2 Tryd.results8 _ _ (w.heap.size + 1) 29 #[.int .i64 (k), .int .i64 (k'), .int .i64 (j)] (0, 0) _ rfl (b3put HR7.out.fb.res _ _ _) Tryd.underlying29 rfl spot_size) rfl ?_
                            exact flt_mk (HE.out) (three_same HR7.out.fb.same (by omega) _ _ _)
                          · have HC1 := Lib.hid (HCA.out.trans (if_neg hop))
                            have hee : (cv != z1) = false ∨ ((cv != z1) = true ∧ (cv != z2) = false) := by
                              by_cases h1 : cv = z1
                              · left; simpa using h1
                              · right
                                have h2 : cv = z2 := Classical.byContradiction fun h2 => hop ⟨h1, h2⟩
                                exact ⟨by simpa using h1, by simpa using h2⟩
                            clear hop
                            rcases hee with g1 | ⟨g1, g2⟩
                            · go_wp2_with fail
                              refine (WR.out _).mono ?_
                              rintro e w8 ⟨rfl, rfl⟩
                              go_wp2_with fail
                              refine (RO.out _ HR7.out.fb.same).mono ?_
                              rintro e w9 ⟨rfl, s9⟩
                              have HR9 := Lib.hid (HR7.out.to s9)
                              have hi9 := HB7.out.same s9
                              have hs9 := HS7.out.same s9
                              have ht9 := HBT.out.same s9
                              have HS79 := Lib.hid s9
                              have hd1 := s9.cell d1
                              clear s9 a0 a1 s0 s1 s2 y0 y1 y2 y3 y4 d0 d1
                              obtain ⟨y0, y1, y2, y3, y4⟩ := ics hi9
                              obtain ⟨q0, q1, q2, q3, q4, q5, q6⟩ := tcs ht9
                              obtain ⟨a0, a1⟩ := HR9.out.fb.sc
                              obtain ⟨s0, s1, s2⟩ := (⟨hs9.cell 0, hs9.cell 1, hs9.cell 2⟩ : _ ∧ _ ∧ _)
                              simp only [List.getElem?_toArray, List.getElem?_cons_zero, List.getElem?_cons_succ] at s0 s1 s2
                              by_cases hro : ro = cv
                              · have HC2 := Lib.hid (HC1.out.trans (if_neg (fun h => h hro)))
                                have er : (cv != ro) = false := by simpa using hro.symm
                                clear hro
                                have hcvt : IntKind.i64.wrap xn = xn := Go.IntWalk.i64_in _ (by omega)
                                have hadd : IntKind.i64.wrap (xn + wd) = xn + wd := Go.IntWalk.i64_in _ (by omega)
                                have hkm2 : k' < m := by omega
                                by_cases hrg : own < xn + wd
                                · have HCR2 := Lib.hid (HC2.out.trans (if_pos hrg))
                                  have hrg' : decide (own < xn + wd) = true := decide_eq_true hrg
                                  have hrg2 : decide (xn + wd > own) = true := decide_eq_true hrg
                                  have HE := Lib.hid (chk_is (F := F) (k := 4) (r := (((k : Int), (k' : Int), (j : Int)), 5)) (by omega) B4.out (by rw [F4.out]; unfold fCalls; rw [firstN_hit (by have := HN.out; omega) HQ.out (by rw [HCT.out, firstN_hit (by omega) HQJ.out (by rw [HCF.out, HCR2.out]; exact if_neg (by simp))])]; rfl) (show (5 : Int) ≠ 0 by decide))
                                  have HRD := Lib.hid (fun NQ => HR9.out.to ((Same.refl w9).drewN NQ))
                                  go_wp2_with fail
                                  go_quiet (fail)
                                  have HR10 := Lib.hid (HRD.out nq)
                                  obtain ⟨⟨r0, r1, r2⟩, k0_, k1_, k2_⟩ := HR10.out.fb.rc
                                  go_wp2_with fail
                                  refine bodyPost_ret (v := .tuple #[.agg #[.int .i64 (k), .int .i64 (k'), .int .i64 (j)], .int .i64 (5)]) (res2 Tryd.results8 _ _ (w.heap.size + 1) 29 #[.int .i64 (k), .int .i64 (k'), .int .i64 (j)] (0, 0) _ rfl (b3put HR10.out.fb.res _ _ _) Tryd.underlying29 rfl spot_size) rfl ?_
                                  exact flt_mk (HE.out) (three_same HR10.out.fb.same (by omega) _ _ _)
                                · have HCR2 := Lib.hid (HC2.out.trans (if_neg hrg))
                                  have hrg' : decide (own < xn + wd) = false := decide_eq_false hrg
                                  have hrg2 : decide (xn + wd > own) = false := decide_eq_false hrg
                                  have HTN := Lib.hid (show clf s k x j = none by rw [HCF.out, HCR2.out]; exact if_pos rfl)
                                  have HSD := Lib.hid (fun NQ => (HSAM.out.trans (show Same w7 w9 from HS79.out)).trans ((Same.refl w9).drewN NQ))
                                  go_wp2_with fail
                                  go_quiet (fail)
                                  go_wp2_with fail
                                  go_roundg GJ
                                  case rel => exact ⟨j + 1, by omega, by go_num, Lib.hid (none_next HQJ.out HTN.out), HSD.out _⟩
                                  case measure => omega
                              · have HCR2 := Lib.hid (HC1.out.trans (if_pos hro))
                                have er : (cv != ro) = true := by simpa using fun h => hro h.symm
                                clear hro
                                have HE := Lib.hid (chk_is (F := F) (k := 4) (r := (((k : Int), (k' : Int), (j : Int)), 10)) (by omega) B4.out (by rw [F4.out]; unfold fCalls; rw [firstN_hit (by have := HN.out; omega) HQ.out (by rw [HCT.out, firstN_hit (by omega) HQJ.out (by rw [HCF.out, HCR2.out]; exact if_neg (by simp))])]; rfl) (show (10 : Int) ≠ 0 by decide))
                                obtain ⟨⟨r0, r1, r2⟩, k0_, k1_, k2_⟩ := HR9.out.fb.rc
                                go_wp2_with fail
                                refine bodyPost_ret (v := .tuple #[.agg #[.int .i64 (k), .int .i64 (k'), .int .i64 (j)], .int .i64 (10)]) (res2 Tryd.results8 _ _ (w.heap.size + 1) 29 #[.int .i64 (k), .int .i64 (k'), .int .i64 (j)] (0, 0) _ rfl (b3put HR9.out.fb.res _ _ _) Tryd.underlying29 rfl spot_size) rfl ?_
                                exact flt_mk (HE.out) (three_same HR9.out.fb.same (by omega) _ _ _)
                            · go_wp2_with fail
                              refine (WR.out _).mono ?_
                              rintro e w8 ⟨rfl, rfl⟩
                              go_wp2_with fail
                              refine (RR.out _).mono ?_
                              rintro e w8 ⟨rfl, rfl⟩
                              go_wp2_with fail
                              refine (RO.out _ HR7.out.fb.same).mono ?_
                              rintro e w9 ⟨rfl, s9⟩
                              have HR9 := Lib.hid (HR7.out.to s9)
                              have hi9 := HB7.out.same s9
                              have hs9 := HS7.out.same s9
                              have ht9 := HBT.out.same s9
                              have HS79 := Lib.hid s9
                              have hd1 := s9.cell d1
                              clear s9 a0 a1 s0 s1 s2 y0 y1 y2 y3 y4 d0 d1
                              obtain ⟨y0, y1, y2, y3, y4⟩ := ics hi9
                              obtain ⟨q0, q1, q2, q3, q4, q5, q6⟩ := tcs ht9
                              obtain ⟨a0, a1⟩ := HR9.out.fb.sc
                              obtain ⟨s0, s1, s2⟩ := (⟨hs9.cell 0, hs9.cell 1, hs9.cell 2⟩ : _ ∧ _ ∧ _)
                              simp only [List.getElem?_toArray, List.getElem?_cons_zero, List.getElem?_cons_succ] at s0 s1 s2
                              by_cases hro : ro = cv
                              · have HC2 := Lib.hid (HC1.out.trans (if_neg (fun h => h hro)))
                                have er : (cv != ro) = false := by simpa using hro.symm
                                clear hro
                                have hcvt : IntKind.i64.wrap xn = xn := Go.IntWalk.i64_in _ (by omega)
                                have hadd : IntKind.i64.wrap (xn + wd) = xn + wd := Go.IntWalk.i64_in _ (by omega)
                                have hkm2 : k' < m := by omega
                                by_cases hrg : own < xn + wd
                                · have HCR2 := Lib.hid (HC2.out.trans (if_pos hrg))
                                  have hrg' : decide (own < xn + wd) = true := decide_eq_true hrg
                                  have hrg2 : decide (xn + wd > own) = true := decide_eq_true hrg
                                  have HE := Lib.hid (chk_is (F := F) (k := 4) (r := (((k : Int), (k' : Int), (j : Int)), 5)) (by omega) B4.out (by rw [F4.out]; unfold fCalls; rw [firstN_hit (by have := HN.out; omega) HQ.out (by rw [HCT.out, firstN_hit (by omega) HQJ.out (by rw [HCF.out, HCR2.out]; exact if_neg (by simp))])]; rfl) (show (5 : Int) ≠ 0 by decide))
                                  have HRD := Lib.hid (fun NQ => HR9.out.to ((Same.refl w9).drewN NQ))
                                  go_wp2_with fail
                                  go_quiet (fail)
                                  have HR10 := Lib.hid (HRD.out nq)
                                  obtain ⟨⟨r0, r1, r2⟩, k0_, k1_, k2_⟩ := HR10.out.fb.rc
                                  go_wp2_with fail
                                  refine bodyPost_ret (v := .tuple #[.agg #[.int .i64 (k), .int .i64 (k'), .int .i64 (j)], .int .i64 (5)]) (res2 Tryd.results8 _ _ (w.heap.size + 1) 29 #[.int .i64 (k), .int .i64 (k'), .int .i64 (j)] (0, 0) _ rfl (b3put HR10.out.fb.res _ _ _) Tryd.underlying29 rfl spot_size) rfl ?_
                                  exact flt_mk (HE.out) (three_same HR10.out.fb.same (by omega) _ _ _)
                                · have HCR2 := Lib.hid (HC2.out.trans (if_neg hrg))
                                  have hrg' : decide (own < xn + wd) = false := decide_eq_false hrg
                                  have hrg2 : decide (xn + wd > own) = false := decide_eq_false hrg
                                  have HTN := Lib.hid (show clf s k x j = none by rw [HCF.out, HCR2.out]; exact if_pos rfl)
                                  have HSD := Lib.hid (fun NQ => (HSAM.out.trans (show Same w7 w9 from HS79.out)).trans ((Same.refl w9).drewN NQ))
                                  go_wp2_with fail
                                  go_quiet (fail)
                                  go_wp2_with fail
                                  go_roundg GJ
                                  case rel => exact ⟨j + 1, by omega, by go_num, Lib.hid (none_next HQJ.out HTN.out), HSD.out _⟩
                                  case measure => omega
                              · have HCR2 := Lib.hid (HC1.out.trans (if_pos hro))
                                have er : (cv != ro) = true := by simpa using fun h => hro h.symm
                                clear hro
                                have HE := Lib.hid (chk_is (F := F) (k := 4) (r := (((k : Int), (k' : Int), (j : Int)), 10)) (by omega) B4.out (by rw [F4.out]; unfold fCalls; rw [firstN_hit (by have := HN.out; omega) HQ.out (by rw [HCT.out, firstN_hit (by omega) HQJ.out (by rw [HCF.out, HCR2.out]; exact if_neg (by simp))])]; rfl) (show (10 : Int) ≠ 0 by decide))
                                obtain ⟨⟨r0, r1, r2⟩, k0_, k1_, k2_⟩ := HR9.out.fb.rc
                                go_wp2_with fail
                                refine bodyPost_ret (v := .tuple #[.agg #[.int .i64 (k), .int .i64 (k'), .int .i64 (j)], .int .i64 (10)]) (res2 Tryd.results8 _ _ (w.heap.size + 1) 29 #[.int .i64 (k), .int .i64 (k'), .int .i64 (j)] (0, 0) _ rfl (b3put HR9.out.fb.res _ _ _) Tryd.underlying29 rfl spot_size) rfl ?_
                                exact flt_mk (HE.out) (three_same HR9.out.fb.same (by omega) _ _ _)
            | succ GK =>
              have hlt : (k : Int) < m := by omega
              have k0 : (0 : Int) ≤ k := by omega
              obtain ⟨x, hx⟩ : ∃ x, s.os[k]? = some x := ⟨_, List.getElem?_eq_getElem (by have := HM.out; omega)⟩
              obtain ⟨b, o, rfl, X, cX, Y, cY, d0, d1, d2, d3, d4, d5, d6, d7, hsa, _, _, hry, _⟩ := (HO.out.same HRB.out.fb.same).at_ hx
              have hrd := (HOF.out x (List.mem_of_getElem? hx)).2
              have hog := (HOG.out x (List.mem_of_getElem? hx)).2.2
              have HTKU := Lib.hid (show usf n s.os k = firstN (usr n k (x.ow :: x.rd)) (x.rd.length + 1) by unfold usf; rw [hx])
              clear hx
              obtain ⟨k_, wd, sl, cp, sa, ow, rd, ini⟩ := x
              simp only at d0 d1 d2 d3 d4 d5 d6 d7 hsa hry hrd hog HTKU
              obtain ⟨rl, hrl⟩ : ∃ rl, rl = rd.length := ⟨_, rfl⟩
              have HRL := Lib.hid hrl
              rw [← hrl] at d7 hrd HTKU
              have hs2 := (Same.refl wo).alloc (.cells #[.int .i64 k_, .int .i64 wd, .int .i64 sl, .int .i64 cp, .int .u32 sa, .slice X ini.length cX, .int .i64 ow, .slice Y rl cY] 43)
              have HR2 := Lib.hid (HRB.out.to hs2)
              have hb2 := Blk.new wo 43 #[.int .i64 k_, .int .i64 wd, .int .i64 sl, .int .i64 cp, .int .u32 sa, .slice X ini.length cX, .int .i64 ow, .slice Y rl cY]
              have HRY := Lib.hid (hry.same hs2)
              obtain ⟨w2, hw2⟩ : ∃ w2, w2 = wo.alloc (.cells #[.int .i64 k_, .int .i64 wd, .int .i64 sl, .int .i64 cp, .int .u32 sa, .slice X ini.length cX, .int .i64 ow, .slice Y rl cY] 43) := ⟨_, rfl⟩
              obtain ⟨gO, hgO⟩ : ∃ g, g = wo.heap.size := ⟨_, rfl⟩
              rw [← hw2, ← hgO] at hb2
              rw [← hw2] at HR2 HRY
              have E2 := Lib.hid hw2
              obtain ⟨q0, q1, q2, q3, q4, q5, q6, q7⟩ := ocs hb2
              have HOW := Lib.hid (hog ow (by simp))
              have HRDG := Lib.hid (fun y hy => (hog y (List.mem_cons_of_mem _ hy)).1)
              clear hs2 hry hb2 hrl hog
              obtain ⟨a0, a1⟩ := HR2.out.fb.sc
              go_upto_region 20 with fail
              rw [← E2.out, ← hgO]
              clear E2 hw2 hgO d0 d1 d2 d3 d4 d5 d6 d7
              by_cases hwn : ow ≥ (n : Int)
              · have HE := Lib.hid (chk_is (F := F) (k := 3) (r := ((ow, (k : Int), -1), 10)) (by omega) B3.out (by rw [F3.out]; unfold fUsers; rw [firstN_hit (by have := HM.out; omega) HQ.out (by rw [HTKU.out, firstN_hit (k := 0) (by omega) (fun j hj => by omega) (show usr n k (ow :: rd) 0 = some ((ow, (k : Int), -1), 10) from if_neg (by omega))])]; rfl) (show (10 : Int) ≠ 0 by decide))
                obtain ⟨⟨r0, r1, r2⟩, k0_, k1_, k2_⟩ := HR2.out.fb.rc
                go_wp2_with fail
                refine bodyPost_ret (v := .tuple #[.agg #[.int .i64 (ow), .int .i64 (k), .int .i64 (-1)], .int .i64 (10)]) (res2 Tryd.results8 _ _ (w.heap.size + 1) 29 #[.int .i64 (ow), .int .i64 (k), .int .i64 (-1)] (0, 0) _ rfl (b3put HR2.out.fb.res _ _ _) Tryd.underlying29 rfl spot_size) rfl ?_
                exact flt_mk (HE.out) (three_same HR2.out.fb.same (by omega) _ _ _)
              · have HU0 := Lib.hid (show ∀ i, i < 0 + 1 → usr n k (ow :: rd) i = none from fun i hi => by
                  obtain rfl : i = 0 := by omega
                  exact if_pos ⟨HOW.out.1, by omega⟩)
                go_wp2_with fail
                clear a0 a1 q0 q1 q2 q3 q4 q5 q6 q7
                go_loopg [96] rl (fun gj jv wy => ∃ j : Nat, j + gj = rl ∧ jv = .int .i64 j ∧ Hid (∀ i, i < j + 1 → usr n k (ow :: rd) i = none) ∧ Same w2 wy)
                case atStart => exact ⟨0, by omega, rfl, HU0, Same.refl _⟩
                case round =>
                  obtain ⟨j, hj, rfl, HQJ, sj⟩ := hrel
                  have HRJ := Lib.hid (HR2.out.to sj)
                  have HSJ := Lib.hid sj
                  clear sj
                  cases gk with
                  | zero =>
                    obtain rfl : rl = j := by omega
                    have hgeJ : ¬ (rl : Int) < (rl : Int) := by omega
                    have HTN := Lib.hid (show usf n s.os k = none by rw [HTKU.out, firstN_none HQJ.out])
                    go_wp2_with fail
                    go_roundg GK
                    case rel => exact ⟨k + 1, by omega, by go_num, Lib.hid (none_next HQ.out HTN.out), HRJ.out⟩
                    case measure => omega
                  | succ GJ =>
                    have hltJ : (j : Int) < rl := by omega
                    have j0 : (0 : Int) ≤ j := by omega
                    obtain ⟨y, hy⟩ : ∃ y, rd[j]? = some y := ⟨_, List.getElem?_eq_getElem (by have := HRL.out; omega)⟩
                    obtain ⟨b3, o3, hY3, cy⟩ := (HRY.out.same HSJ.out) j (.int .i64 y) (by rw [List.getElem?_map, hy]; rfl)
                    have hy0 := HRDG.out y (List.mem_of_getElem? hy)
                    have HUS := Lib.hid (show usr n k (ow :: rd) (j + 1) = if 0 ≤ y ∧ y < (n : Int) then none else some ((y, (k : Int), -1), 10) by unfold usr; rw [List.getElem?_cons_succ, hy])
                    clear hy
                    subst hY3
                    obtain ⟨a0, a1⟩ := HRJ.out.fb.sc
                    by_cases hyn : y ≥ (n : Int)
                    · have HE := Lib.hid (chk_is (F := F) (k := 3) (r := ((y, (k : Int), -1), 10)) (by omega) B3.out (by rw [F3.out]; unfold fUsers; rw [firstN_hit (by have := HM.out; omega) HQ.out (by rw [HTKU.out, firstN_hit (k := j + 1) (by omega) HQJ.out (by rw [HUS.out, if_neg (by omega)])])]; rfl) (show (10 : Int) ≠ 0 by decide))
                      obtain ⟨⟨r0, r1, r2⟩, k0_, k1_, k2_⟩ := HRJ.out.fb.rc
                      go_wp2_with fail
                      refine bodyPost_ret (v := .tuple #[.agg #[.int .i64 (y), .int .i64 (k), .int .i64 (-1)], .int .i64 (10)]) (res2 Tryd.results8 _ _ (w.heap.size + 1) 29 #[.int .i64 (y), .int .i64 (k), .int .i64 (-1)] (0, 0) _ rfl (b3put HRJ.out.fb.res _ _ _) Tryd.underlying29 rfl spot_size) rfl ?_
                      exact flt_mk (HE.out) (three_same HRJ.out.fb.same (by omega) _ _ _)
                    · have HUN := Lib.hid (show usr n k (ow :: rd) (j + 1) = none by rw [HUS.out, if_pos ⟨hy0, by omega⟩])
                      go_wp2_with fail
                      go_roundg GJ
                      case rel => exact ⟨j + 1, by omega, by go_num, Lib.hid (none_next HQJ.out HUN.out), HSJ.out⟩
                      case measure => omega
        | succ GK =>
          have hlt : (k : Int) < m := by omega
          have k0 : (0 : Int) ≤ k := by omega
          obtain ⟨x, hx⟩ : ∃ x, s.os[k]? = some x := ⟨_, List.getElem?_eq_getElem (by have := HM.out; omega)⟩
          obtain ⟨b, o, rfl, X, cX, Y, cY, d0, d1, d2, d3, d4, d5, d6, d7, hsa, _, _, hry, _⟩ := (HO.out.same HRB.out.fb.same).at_ hx
          have hrd := (HOF.out x (List.mem_of_getElem? hx)).2
          have HTKO := Lib.hid (show obf s.os k = if oR x = true then none else some ((-1, (k : Int), -1), 4) by unfold obf; rw [hx])
          clear hx
          obtain ⟨k_, wd, sl, cp, sa, ow, rd, ini⟩ := x
          simp only at d0 d1 d2 d3 d4 d5 d6 d7 hsa hry hrd
          have hs2 := (Same.refl wr).alloc (.cells #[.int .i64 k_, .int .i64 wd, .int .i64 sl, .int .i64 cp, .int .u32 sa, .slice X ini.length cX, .int .i64 ow, .slice Y rd.length cY] 43)
          have HR2 := Lib.hid (HRB.out.to hs2)
          obtain ⟨q0, q1, q2, q3, q4, q5, q6, q7⟩ := ocs (Blk.new wr 43 #[.int .i64 k_, .int .i64 wd, .int .i64 sl, .int .i64 cp, .int .u32 sa, .slice X ini.length cX, .int .i64 ow, .slice Y rd.length cY])
          have FA := Lib.hid (Os.rright_all k_ wd sl cp sa ow X Y ini.length cX rd.length cY rd _ rfl hrd (hry.same hs2) hsa)
          have HEI := Lib.hid (show oR ⟨k_, wd, sl, cp, sa, ow, rd, ini⟩ = Os.rightO k_ wd sl cp sa ini.length rd.length (ow :: rd) from rfl)
          clear hs2 hry
          generalize Os.rightO k_ wd sl cp sa ini.length rd.length (ow :: rd) = zz at *
          go_wp2_with fail
          refine FA.out.mono ?_
          rintro e w3 ⟨rfl, s3⟩
          have HR3 := Lib.hid (HR2.out.to s3)
          clear s3
          cases zz with
          | true =>
            have HTN := Lib.hid (show obf s.os k = none by rw [HTKO.out, if_pos HEI.out])
            go_wp2_with fail
            go_roundg GK
            case rel => exact ⟨k + 1, by omega, by go_num, Lib.hid (none_next HQ.out HTN.out), HR3.out⟩
            case measure => omega
          | false =>
            have HE := Lib.hid (chk_is (F := F) (k := 2) (r := ((-1, (k : Int), -1), 4)) (by omega) B2.out (by rw [F2.out]; unfold fObjs; rw [firstN_hit (by have := HM.out; omega) HQ.out (by rw [HTKO.out, HEI.out, if_neg (by decide)])]; rfl) (show (4 : Int) ≠ 0 by decide))
            obtain ⟨⟨r0, r1, r2⟩, k0_, k1_, k2_⟩ := HR3.out.fb.rc
            go_wp2_with fail
            refine bodyPost_ret (v := .tuple #[.agg #[.int .i64 (-1), .int .i64 (k), .int .i64 (-1)], .int .i64 (4)]) (res2 Tryd.results8 _ _ (w.heap.size + 1) 29 #[.int .i64 (-1), .int .i64 (k), .int .i64 (-1)] (0, 0) _ rfl (b3put HR3.out.fb.res _ _ _) Tryd.underlying29 rfl spot_size) rfl ?_
            exact flt_mk (HE.out) (three_same HR3.out.fb.same (by omega) _ _ _)
    | succ GK =>
      have hlt : (k : Int) < n := by omega
      have k0 : (0 : Int) ≤ k := by omega
      obtain ⟨x, hx⟩ : ∃ x, s.ts[k]? = some x := ⟨_, List.getElem?_eq_getElem (by have := HN.out; omega)⟩
      obtain ⟨b, o, rfl, X, cX, c0, c1, c2, c3, c4, c5, c6, hcode, _⟩ := (HT.out.same HRB.out.fb.same).at_ hx
      have hcl := HTF.out x (List.mem_of_getElem? hx)
      have HTK := Lib.hid (show tkf s.ts k = if tE x = 0 then none else some (((k : Int), -1, tI x), tE x) by unfold tkf; rw [hx])
      clear hx
      obtain ⟨kind, prio, per, off, dl, own, code⟩ := x
      simp only at c0 c1 c2 c3 c4 c5 c6 hcode hcl
      have hs2 := (Same.refl wr).alloc (.cells #[.int .i64 kind, .int .i64 prio, .int .i64 per, .int .i64 off, .int .i64 dl, .int .i64 own, .slice X code.length cX] 49)
      have HR2 := Lib.hid (HRB.out.to hs2)
      obtain ⟨q0, q1, q2, q3, q4, q5, q6⟩ := tcs (Blk.new wr 49 #[.int .i64 kind, .int .i64 prio, .int .i64 per, .int .i64 off, .int .i64 dl, .int .i64 own, .slice X code.length cX])
      have FA := Lib.hid (Tp.rfault_any kind prio per off dl own X code.length cX (code.map toP) _ (by rw [List.length_map]) hcl ((prg_of hcode).same hs2) ((HTB.out.same HRB.out.fb.same).same hs2))
      have HEI := Lib.hid (show tE ⟨kind, prio, per, off, dl, own, code⟩ = Tp.fE kind prio per off dl own (code.map toP) ∧ tI ⟨kind, prio, per, off, dl, own, code⟩ = Tp.fI kind prio per off dl own (code.map toP) from ⟨rfl, rfl⟩)
      clear hs2 hcode hcl
      generalize Tp.fE kind prio per off dl own (code.map toP) = fe at *
      generalize Tp.fI kind prio per off dl own (code.map toP) = fi at *
      go_wp2_with fail
      refine FA.out.mono ?_
      rintro e w3 ⟨rfl, s3⟩
      have HR3 := Lib.hid (HR2.out.to s3)
      clear s3
      by_cases hz : fe = 0
      · have HTN := Lib.hid (show tkf s.ts k = none by rw [HTK.out, if_pos (by rw [HEI.out.1]; exact hz)])
        have hz' : (fe != 0) = false := by simpa using hz
        clear hz
        go_wp2_with fail
        go_roundg GK
        case rel => exact ⟨k + 1, by omega, by go_num, Lib.hid (none_next HQ.out HTN.out), HR3.out⟩
        case measure => omega
      · have HE := Lib.hid (chk_is (F := F) (k := 1) (r := (((k : Int), -1, fi), fe)) (by omega) B1.out (by rw [F1.out]; unfold fTasks; rw [firstN_hit (by have := HN.out; omega) HQ.out (by rw [HTK.out, HEI.out.1, HEI.out.2, if_neg hz])]; rfl) hz)
        have hz' : (fe != 0) = true := by simpa using hz
        clear hz
        obtain ⟨⟨r0, r1, r2⟩, k0_, k1_, k2_⟩ := HR3.out.fb.rc
        go_wp2_with fail
        refine bodyPost_ret (v := .tuple #[.agg #[.int .i64 (k), .int .i64 (-1), .int .i64 (fi)], .int .i64 (fe)]) (res2 Tryd.results8 _ _ (w.heap.size + 1) 29 #[.int .i64 (k), .int .i64 (-1), .int .i64 (fi)] (0, 0) _ rfl (b3put HR3.out.fb.res _ _ _) Tryd.underlying29 rfl spot_size) rfl ?_
        exact flt_mk (HE.out) (three_same HR3.out.fb.same (by omega) _ _ _)
end Go.Proofs.YtfpefkpbiioofabDoor.Sy
