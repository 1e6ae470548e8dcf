/-

  The document's Ticks, Slots and Caps (layer 39).
-/
import Derived.Test.YthhbhbfkbncegabGreatDoorAhead
import Derived.Test.YthhbhbfkbncegabGreatDoorRegionOff
import Derived.Deep.RegionHeld3
import Derived.Deep.Cut
import Derived.Lib.Hide
import Derived.ProofKit
import Derived.Test.YthhbhbfkbncegabGreatDoorSplSpec
import Derived.Test.YthhbhbfkbncegabGreatDoorDmdRef
import Derived.Test.YthhbhbfkbncegabGreatDoorSizPure
section
section
section
set_option linter.unusedVariables false
set_option linter.unusedSimpArgs false
namespace Go.Proofs.YthhbhbfkbncegabGreatDoor.Ah
open Go.ChangeShapes Go.WideShapes Go.ChangeAt Go.RowKit Ws
open Im (PT PO PS TsAt OsAt SysAt tcells ocells)
open Go.Proofs.YthhbhbfkbncegabGreatDoor.Wd (ret_bool ret_int)
set_option maxRecDepth 100000 in
theorem rahead37 (A B : Option Addr) (n c m d : Nat) (s : PS) (i : Int) (k : Nat) (o : PO) (w : World) (hs : SysAt w A n B m s) (hk : s.os[k]? = some o) :
    Calls Tryz.prog 50 #[.agg #[.slice A n c, .slice B m d], .int .i64 i, .int .i64 k] w fun e w' => e = .returned (.bool (aheadI s.ts o.ow i)) ∧ Same w w' := by
  obtain ⟨w0, hw0⟩ : ∃ w0, w0 = w.alloc (.cells #[.slice A n c, .slice B m d] 25) := ⟨_, rfl⟩
  obtain ⟨g, hg⟩ : ∃ g, g = w.heap.size := ⟨_, rfl⟩
  have s0 : Same w w0 := hw0 ▸ (Same.refl w).alloc _
  have b0 : Blk w0 g 25 #[.slice A n c, .slice B m d] := by rw [hw0, hg]; exact Blk.new w _ _
  have HE0 := Lib.hid hw0
  have HG := Lib.hid hg
  have S0 := Lib.hid s0
  obtain ⟨c0, c1⟩ := (⟨b0.cell 0, b0.cell 1⟩ : _ ∧ _)
  simp only [List.getElem?_toArray, List.getElem?_cons_zero, List.getElem?_cons_succ] at c0 c1
  have AG := Lib.hid (fun W (h : Same w0 W) => rahead_gen A n c s.ts o.ow i W hs.hn ((hs.same (s0.trans h)).ht))
  obtain ⟨bB, oB, rfl, Xo, co, Yo, do_, o0, o1, o2, o3, o4, o5, o6, o7, _⟩ := (hs.same s0).ho.at_ hk
  have k0 : (0 : Int) ≤ k := by omega
  have k1 : (k : Int) < m := by have := (List.getElem?_eq_some_iff.1 hk).1; have := hs.hm; omega
  clear hw0 hg s0 b0 hs hk o0 o1 o2 o3 o4 o5 o7
  go_enter Tryz.func50, Tryz.ntmps50
  go_upto_region 1 with fail
  rw [← HE0.out, ← HG.out]
  clear HE0 HG
  refine wp_region_held_drew (S := fun w' => Same w0 w') (by kernel_rfl) ?_ (fun hHeld => ?_)
  · exact (Same.refl w0).drew
  refine Ro.tn 0 ?_ ?_ ?_
  rotate_left
  · intro wS hSw; (try dsimp only at hSw); go_simp; try with_reducible rfl
  try simp only [Ro.p]
  refine Ro.tn 1 ?_ ?_ ?_
  rotate_left
  · intro wS hSw; (try dsimp only at hSw); have z0 := hSw.cell c0; go_simp; try with_reducible rfl
  try simp only [Ro.p]
  refine Ro.tn 2 ?_ ?_ ?_
  rotate_left
  · intro wS hSw; (try dsimp only at hSw); go_simp; try with_reducible rfl
  try simp only [Ro.p]
  refine Ro.tn 3 ?_ ?_ ?_
  rotate_left
  · intro wS hSw; (try dsimp only at hSw); have z1 := hSw.cell c1; go_simp; try with_reducible rfl
  try simp only [Ro.p]
  refine Ro.tn 4 ?_ ?_ ?_
  rotate_left
  · intro wS hSw; (try dsimp only at hSw); go_simp; try with_reducible rfl
  try simp only [Ro.p]
  refine Ro.tn 5 ?_ ?_ ?_
  rotate_left
  · intro wS hSw; (try dsimp only at hSw); go_simp; try with_reducible rfl
  try simp only [Ro.p]
  refine Ro.tn 6 ?_ ?_ ?_
  rotate_left
  · intro wS hSw; (try dsimp only at hSw); go_simp; try with_reducible rfl
  try simp only [Ro.p]
  refine Ro.tn 7 ?_ ?_ ?_
  rotate_left
  · intro wS hSw; (try dsimp only at hSw); have z6 := hSw.cell o6; go_simp; try with_reducible rfl
  try simp only [Ro.p]
  refine Ro.tn 8 ?_ ?_ ?_
  rotate_left
  · intro wS hSw; (try dsimp only at hSw); go_simp; try with_reducible rfl
  try simp only [Ro.p]
  refine Ro.one_on (i := 9) rfl (by kernel_rfl) (by rfl) (fun K hK => ?_)
  go_simp
  go_at_call 63
  refine (AG.out _ hHeld).mono ?_
  rintro e w1 ⟨rfl, s1⟩
  refine hK.out _ _ ?_ (fun hNew => ?_)
  · exact hHeld.trans s1
  clear hK K hHeld; have hHeld := hNew; clear hNew
  try simp only [Ro.p]
  refine Ro.tn 10 ?_ ?_ ?_
  rotate_left
  · intro wS hSw; (try dsimp only at hSw); go_simp; try with_reducible rfl
  try simp only [Ro.p]
  refine wpAnyH_done (by kernel_rfl) ?_ _
  go_wp2_with fail
  go_ret
  exact ⟨rfl, S0.out.trans hHeld⟩
end Go.Proofs.YthhbhbfkbncegabGreatDoor.Ah
end
section
section
set_option linter.unusedVariables false
set_option linter.unusedSimpArgs false
namespace Go.Proofs.YthhbhbfkbncegabGreatDoor.Sl
open Go.ChangeShapes Go.WideShapes Go.ChangeAt Go.RowKit Ws
open Im (PT PO PS TsAt OsAt SysAt tcells ocells)
open Dm (demI dearI dearE)
open Go.Proofs.YthhbhbfkbncegabGreatDoor.Wd (ret_bool ret_int mulv ceilv addv)
set_option maxRecDepth 100000 in
set_option maxHeartbeats 4000000 in
theorem rreads_any (A B : Option Addr) (n c m d : Nat) (s : PS) (i k : Int) (w : World) (hs : SysAt w A n B m s) (hnm : n ≤ maxLen ∧ m ≤ maxLen) (hf : ∀ p ∈ s.ts, p.code.length ≤ 200) (ho : Sy.OFew s.os 5000) :
    Calls Tryz.prog 49 #[.agg #[.slice A n c, .slice B m d], .int .i64 i, .int .i64 k] w fun e w' => e = .returned (.bool (readsP s i k)) ∧ Same w w' := by
  obtain ⟨w0, hw0⟩ : ∃ w0, w0 = w.alloc (.cells #[.slice A n c, .slice B m d] 25) := ⟨_, rfl⟩
  obtain ⟨g, hg⟩ : ∃ g, g = w.heap.size := ⟨_, rfl⟩
  have s0 : Same w w0 := hw0 ▸ (Same.refl w).alloc _
  have b0 : Blk w0 g 25 #[.slice A n c, .slice B m d] := by rw [hw0, hg]; exact Blk.new w _ _
  have HE0 := Lib.hid hw0
  have HG := Lib.hid hg
  have S0 := Lib.hid s0
  have B0 := Lib.hid b0
  have HS := Lib.hid (hs.same s0)
  obtain ⟨c0, c1⟩ := (⟨b0.cell 0, b0.cell 1⟩ : _ ∧ _)
  simp only [List.getElem?_toArray, List.getElem?_cons_zero, List.getElem?_cons_succ] at c0 c1
  have HRO := Lib.hid (fun W (h : Same w0 W) => Sy.rrole_any A B n c m d s i k W (hs.same (s0.trans h)) ho)
  have HCA := Lib.hid (fun W (h : Same w0 W) => (show Calls Tryz.prog 53 #[.agg #[.slice A n c, .slice B m d], .int .i64 i, .int .i64 k, .bool false] W (fun e w' => e = .returned (.int .i64 (demI s i k 17 20)) ∧ Same W w') from Dm.rcalls_false A B n c m d s i k W (hs.same (s0.trans h)) hnm hf))
  have hdb := (dem_bd hs.ht i k 17 20).1
  clear hw0 hg s0 b0 hs
  go_enter Tryz.func49, Tryz.ntmps49
  go_upto_region 1 with fail
  rw [← HE0.out, ← HG.out]
  clear HE0 HG
  by_cases hr : Sy.roleF s i k = 1
  · have er : (Sy.roleF s i k == 1) = true := by simpa using hr
    have HR := Lib.hid hr
    have HD := Lib.hid (show readsP s i k = decide (0 < demI s i k 17 20) by
      unfold readsP
      rw [hr]
      by_cases h : demI s i k 17 20 = 0
      · rw [h]; rfl
      · rw [decide_eq_true ⟨rfl, h⟩, decide_eq_true (by omega)])
    clear hr
    generalize Sy.roleF s i k = ro at *
    go_wp2_with fail
    refine (HRO.out _ (Same.refl _)).mono ?_
    rintro e w1 ⟨rfl, s1⟩
    have HS1 := Lib.hid s1
    have c0 := s1.cell c0
    have c1 := s1.cell c1
    clear s1 HRO
    go_wp2_with fail
    refine (HCA.out _ HS1.out).mono ?_
    rintro e w2 ⟨rfl, s2⟩
    go_wp2_with fail
    go_ret
    exact ⟨ret_bool HD.out.symm, S0.out.trans (HS1.out.trans s2)⟩
  · have er : (Sy.roleF s i k == 1) = false := by simpa using hr
    have HD := Lib.hid (show readsP s i k = false from decide_eq_false (fun h => hr h.1))
    clear hr
    generalize Sy.roleF s i k = ro at *
    go_wp2_with fail
    refine (HRO.out _ (Same.refl _)).mono ?_
    rintro e w1 ⟨rfl, s1⟩
    go_wp2_with fail
    go_ret
    exact ⟨ret_bool HD.out.symm, S0.out.trans s1⟩
end Go.Proofs.YthhbhbfkbncegabGreatDoor.Sl
end
section
set_option linter.unusedVariables false
set_option linter.unusedSimpArgs false
namespace Go.Proofs.YthhbhbfkbncegabGreatDoor.Sl
open Go.ChangeShapes Go.WideShapes Go.ChangeAt Go.RowKit Ws
open Im (PT PO PS TsAt OsAt SysAt tcells ocells)
open Dm (demI dearI dearE)
open Go.Proofs.YthhbhbfkbncegabGreatDoor.Wd (ret_bool ret_int mulv ceilv addv)
theorem reads_in {s : PS} {i k : Int} (h : readsP s i k = true) : (0 ≤ i ∧ i < s.ts.length) ∧ 0 ≤ k ∧ k < s.os.length := by
  have hr := (of_decide_eq_true h).1
  by_cases g : (0 ≤ i ∧ i < s.ts.length) ∧ 0 ≤ k ∧ k < s.os.length
  · exact g
  · have h0 : Sy.roleF s i k = 0 := if_neg g
    rw [h0] at hr
    cases hr
set_option maxRecDepth 100000 in
set_option maxHeartbeats 4000000 in
theorem rwrites37 (A B : Option Addr) (n c m d : Nat) (s : PS) (i k r : Int) (br : -9223372036854775808 ≤ r ∧ r ≤ 9223372036854775807) (w : World) (hs : SysAt w A n B m s) (hnm : n ≤ maxLen ∧ m ≤ maxLen) (hf : ∀ p ∈ s.ts, p.code.length ≤ 200) (ho : Sy.OFew s.os 5000) :
    Calls Tryz.prog 34 #[.agg #[.slice A n c, .slice B m d], .int .i64 i, .int .i64 k, .int .i64 r] w fun e w' => e = .returned (.int .i64 (wrR (ofR s i k) r)) ∧ Same w w' := by
  obtain ⟨w0, hw0⟩ : ∃ w0, w0 = w.alloc (.cells #[.slice A n c, .slice B m d] 25) := ⟨_, rfl⟩
  obtain ⟨g, hg⟩ : ∃ g, g = w.heap.size := ⟨_, rfl⟩
  have s0 : Same w w0 := hw0 ▸ (Same.refl w).alloc _
  have b0 : Blk w0 g 25 #[.slice A n c, .slice B m d] := by rw [hw0, hg]; exact Blk.new w _ _
  have HE0 := Lib.hid hw0
  have HG := Lib.hid hg
  have S0 := Lib.hid s0
  have HS := Lib.hid (hs.same s0)
  obtain ⟨c0, c1⟩ := (⟨b0.cell 0, b0.cell 1⟩ : _ ∧ _)
  simp only [List.getElem?_toArray, List.getElem?_cons_zero, List.getElem?_cons_succ] at c0 c1
  have RR := Lib.hid (rreads_any A B n c m d s i k w0 (hs.same s0) hnm hf ho)
  have HWD := Lib.hid (wr_doc s i k r)
  have CL := Lib.hid (fun (q : Int) W (h : Same w0 W) => (show Calls Tryz.prog 53 #[.agg #[.slice A n c, .slice B m d], .int .i64 q, .int .i64 k, .bool true] W (fun e w' => e = .returned (.int .i64 (demI s q k 18 19)) ∧ Same W w') from Dm.rcalls_true A B n c m d s q k W (hs.same (s0.trans h)) hnm hf))
  clear hw0 hg s0 b0 hs hf ho
  go_enter Tryz.func34, Tryz.ntmps34
  go_upto_region 1 with fail
  rw [← HE0.out, ← HG.out]
  clear HE0 HG
  go_wp2_with fail
  refine RR.out.mono ?_
  rintro e w1 ⟨rfl, s1⟩
  have HS1 := Lib.hid s1
  have c0 := s1.cell c0
  have c1 := s1.cell c1
  clear s1 RR
  cases hrd : readsP s i k with
  | false =>
    have HD := Lib.hid (show wrR (ofR s i k) r = 0 from HWD.out.trans (if_neg (fun h => by rw [hrd] at h; cases h.1)))
    clear hrd HWD CL
    go_wp2_with fail
    go_ret
    exact ⟨ret_int HD.out.symm, S0.out.trans HS1.out⟩
  | true =>
    have HRD := Lib.hid hrd
    obtain ⟨_, k0, k1⟩ := reads_in hrd
    obtain ⟨kk, rfl⟩ : ∃ kk : Nat, k = kk := ⟨k.toNat, by omega⟩
    obtain ⟨o, hox⟩ : ∃ o, s.os[kk]? = some o := ⟨s.os[kk]'(by omega), List.getElem?_eq_getElem _⟩
    have HOB := Lib.hid (show obj s kk = o by unfold obj; rw [Int.toNat_natCast, List.getD_eq_getElem?_getD, hox]; rfl)
    have k2 : (kk : Int) < m := by have := HS.out.hm; omega
    have AH := Lib.hid (Ah.rahead37 A B n c m d s i kk o w1 (HS.out.same HS1.out) hox)
    have HOX := Lib.hid hox
    clear hrd hox
    go_wp2_with fail
    refine AH.out.mono ?_
    rintro e w2 ⟨rfl, s2⟩
    have HS2 := Lib.hid (HS1.out.trans s2)
    have c0 := s2.cell c0
    have c1 := s2.cell c1
    clear s2 AH HS1
    cases ha : Ah.aheadI s.ts o.ow i with
    | false =>
      have HD := Lib.hid (show wrR (ofR s i (kk : Int)) r = 0 from HWD.out.trans (if_neg (fun h => by have h2 := h.2; unfold aheadP at h2; rw [HOB.out, ha] at h2; cases h2)))
      clear ha HWD CL
      go_wp2_with fail
      go_ret
      exact ⟨ret_int HD.out.symm, S0.out.trans HS2.out⟩
    | true =>
      have HD := Lib.hid (HWD.out.trans (if_pos ⟨HRD.out, by unfold aheadP; rw [HOB.out]; exact ha⟩))
      rw [HOB.out] at HD
      have hin : Ah.inI s.ts.length o.ow := by
        by_cases g : Ah.inI s.ts.length o.ow ∧ Ah.inI s.ts.length i
        · exact g.1
        · rw [Ah.aheadI_no g] at ha; cases ha
      obtain ⟨kw, hkw⟩ := Int.eq_ofNat_of_zero_le hin.1
      have hkn : kw < s.ts.length := by have := hin.2; omega
      have w1' : (kw : Int) < n := by have := HS.out.hn; omega
      have w0' : (0 : Int) ≤ kw := by omega
      obtain ⟨p, hp⟩ : ∃ p, s.ts[kw]? = some p := ⟨s.ts[kw], List.getElem?_eq_getElem hkn⟩
      have HPT := Lib.hid (show (Ah.pt s.ts ((kw : Nat) : Int).toNat).per = p.per by unfold Ah.pt; rw [Int.toNat_natCast, List.getD_eq_getElem?_getD, hp]; rfl)
      obtain ⟨bB, oB, rfl, Xo, co, Yo, do_, o0, o1, o2, o3, o4, o5, o6, o7, hsa, _⟩ := (HS.out.ho.same HS2.out).at_ HOX.out
      obtain ⟨bA, oA, rfl, _, _, _, _, t2, _⟩ := (HS.out.ht.same HS2.out).at_ hp
      have T2 := Lib.hid t2
      have C0 := Lib.hid c0
      have C1 := Lib.hid c1
      have CW := Lib.hid (CL.out kw)
      rw [hkw] at HD o6
      clear ha hin hkw hkn hp t2 CL HWD o0 o1 o2 o3 o4 o5 o7
      go_wp2_with fail
      refine wp_region_held_drew (S := fun w' => Same w2 w') (by kernel_rfl) ?_ (fun hHeld => ?_)
      · exact (Same.refl w2).drew
      refine Ro.tn 0 ?_ ?_ ?_
      rotate_left
      · intro wS hSw; (try dsimp only at hSw); go_simp; try with_reducible rfl
      try simp only [Ro.p]
      refine Ro.tn 1 ?_ ?_ ?_
      rotate_left
      · intro wS hSw; (try dsimp only at hSw); go_simp; try with_reducible rfl
      try simp only [Ro.p]
      refine Ro.tn 2 ?_ ?_ ?_
      rotate_left
      · intro wS hSw; (try dsimp only at hSw); have z0 := hSw.cell C0.out; go_simp; try with_reducible rfl
      try simp only [Ro.p]
      refine Ro.tn 3 ?_ ?_ ?_
      rotate_left
      · intro wS hSw; (try dsimp only at hSw); go_simp; try with_reducible rfl
      try simp only [Ro.p]
      refine Ro.tn 4 ?_ ?_ ?_
      rotate_left
      · intro wS hSw; (try dsimp only at hSw); go_simp; try with_reducible rfl
      try simp only [Ro.p]
      refine Ro.tn 5 ?_ ?_ ?_
      rotate_left
      · intro wS hSw; (try dsimp only at hSw); go_simp; try with_reducible rfl
      try simp only [Ro.p]
      refine Ro.tn 6 ?_ ?_ ?_
      rotate_left
      · intro wS hSw; (try dsimp only at hSw); have z2 := hSw.cell T2.out; go_simp; try with_reducible rfl
      try simp only [Ro.p]
      refine Ro.tn 8 ?_ ?_ ?_
      rotate_left
      · intro wS hSw; (try dsimp only at hSw); have z0 := hSw.cell C0.out; have z1 := hSw.cell C1.out; go_simp; try with_reducible rfl
      try simp only [Ro.p]
      refine Ro.tn 9 ?_ ?_ ?_
      rotate_left
      · intro wS hSw; (try dsimp only at hSw); go_simp; try with_reducible rfl
      try simp only [Ro.p]
      refine Ro.tn 10 ?_ ?_ ?_
      rotate_left
      · intro wS hSw; (try dsimp only at hSw); go_simp; try with_reducible rfl
      try simp only [Ro.p]
      refine Ro.one_on (i := 7) rfl (by kernel_rfl) (by rfl) (fun K hK => ?_)
      go_simp
      go_at_call 52
      refine (Wd.rceil _ _ br _).mono ?_
      rintro e w3 ⟨rfl, rfl⟩
      refine hK.out _ _ ?_ (fun hNew => ?_)
      · exact hHeld
      clear hK K hHeld; have hHeld := hNew; clear hNew
      try simp only [Ro.p]
      refine Ro.one_on (i := 11) rfl (by kernel_rfl) (by rfl) (fun K hK => ?_)
      go_simp
      go_at_call 53
      refine (CW.out _ (HS2.out.trans hHeld)).mono ?_
      rintro e w4 ⟨rfl, s4⟩
      refine hK.out _ _ ?_ (fun hNew => ?_)
      · exact hHeld.trans s4
      clear hK K hHeld; have hHeld := hNew; clear hNew
      try simp only [Ro.p]
      refine Ro.one_on (i := 12) rfl (by kernel_rfl) (by rfl) (fun K hK => ?_)
      go_simp
      go_at_call 51
      refine (Wd.rmul _ _ _).mono ?_
      rintro e w5 ⟨rfl, rfl⟩
      refine hK.out _ _ ?_ (fun hNew => ?_)
      · exact hHeld
      clear hK K hHeld; have hHeld := hNew; clear hNew
      try simp only [Ro.p]
      refine Ro.tn 13 ?_ ?_ ?_
      rotate_left
      · intro wS hSw; (try dsimp only at hSw); go_simp; try with_reducible rfl
      try simp only [Ro.p]
      refine wpAnyH_done (by kernel_rfl) ?_ _
      go_wp2_with fail
      go_ret
      exact ⟨ret_int (by rw [HD.out, HPT.out]), S0.out.trans (HS2.out.trans hHeld)⟩
end Go.Proofs.YthhbhbfkbncegabGreatDoor.Sl
end
end
end
section
set_option linter.unusedVariables false
set_option linter.unusedSimpArgs false
namespace Go.Proofs.YthhbhbfkbncegabGreatDoor.Sl
open Go.ChangeShapes Go.WideShapes Go.ChangeAt Go.RowKit Ws
open Im (PT PO PS TsAt OsAt SysAt tcells ocells)
open Go.Proofs.YthhbhbfkbncegabGreatDoor.Wd (ret_bool ret_int)
set_option maxRecDepth 100000 in
set_option maxHeartbeats 4000000 in
theorem rfails37 (A B : Option Addr) (n c m d : Nat) (s : PS) (i k r : Int) (br : -9223372036854775808 ≤ r ∧ r ≤ 9223372036854775807) (hsl : ∀ o ∈ s.os, o.sl ≤ 9223372036854775807) (w : World) (hs : SysAt w A n B m s) (hnm : n ≤ maxLen ∧ m ≤ maxLen) (hf : ∀ p ∈ s.ts, p.code.length ≤ 200) (ho : Sy.OFew s.os 5000) :
    Calls Tryz.prog 35 #[.agg #[.slice A n c, .slice B m d], .int .i64 i, .int .i64 k, .int .i64 r] w fun e w' => e = .returned (.int .i64 (flR (ofR s i k) r)) ∧ Same w w' := by
  obtain ⟨w0, hw0⟩ : ∃ w0, w0 = w.alloc (.cells #[.slice A n c, .slice B m d] 25) := ⟨_, rfl⟩
  obtain ⟨g, hg⟩ : ∃ g, g = w.heap.size := ⟨_, rfl⟩
  have s0 : Same w w0 := hw0 ▸ (Same.refl w).alloc _
  have b0 : Blk w0 g 25 #[.slice A n c, .slice B m d] := by rw [hw0, hg]; exact Blk.new w _ _
  have HE0 := Lib.hid hw0
  have HG := Lib.hid hg
  have S0 := Lib.hid s0
  have HS := Lib.hid (hs.same s0)
  obtain ⟨c0, c1⟩ := (⟨b0.cell 0, b0.cell 1⟩ : _ ∧ _)
  simp only [List.getElem?_toArray, List.getElem?_cons_zero, List.getElem?_cons_succ] at c0 c1
  have RW := Lib.hid (rwrites37 A B n c m d s i k r br w0 (hs.same s0) hnm hf ho)
  have HD := Lib.hid (fl_doc s i k r)
  have HZ := Lib.hid (show readsP s i k = false → wrR (ofR s i k) r = 0 from fun h => by rw [of_no h, wr_zero])
  have hnb := wr_bd (ofR s i k) r
  clear hw0 hg s0 b0 hs hf ho
  go_enter Tryz.func35, Tryz.ntmps35
  go_upto_region 1 with fail
  rw [← HE0.out, ← HG.out]
  clear HE0 HG
  generalize hN : wrR (ofR s i k) r = N at *
  go_wp2_with fail
  refine RW.out.mono ?_
  rintro e w1 ⟨rfl, s1⟩
  have HS1 := Lib.hid s1
  have c0 := s1.cell c0
  have c1 := s1.cell c1
  clear s1 RW hN
  by_cases hn0 : N = 0
  · have HV := Lib.hid (show flR (ofR s i k) r = 0 from HD.out.trans (if_pos (.inl hn0)))
    have e0 : (N == 0) = true := by simpa using hn0
    clear hn0 HD HZ
    go_wp2_with fail
    go_ret
    exact ⟨ret_int HV.out.symm, S0.out.trans HS1.out⟩
  · have e0 : (N == 0) = false := by simpa using hn0
    obtain ⟨k0, k1⟩ : 0 ≤ k ∧ k < s.os.length := by
      cases h : readsP s i k with
      | false => exact absurd (HZ.out h) hn0
      | true => exact (reads_in h).2
    obtain ⟨kk, rfl⟩ : ∃ kk : Nat, k = kk := ⟨k.toNat, by omega⟩
    obtain ⟨o, hox⟩ : ∃ o, s.os[kk]? = some o := ⟨s.os[kk]'(by omega), List.getElem?_eq_getElem _⟩
    have HOB := Lib.hid (show obj s kk = o by unfold obj; rw [Int.toNat_natCast, List.getD_eq_getElem?_getD, hox]; rfl)
    have k2 : (kk : Int) < m := by have := HS.out.hm; omega
    have hsl := hsl o (List.mem_of_getElem? hox)
    obtain ⟨bB, oB, rfl, Xo, co, Yo, do_, o0, o1, o2, o3, o4, o5, o6, o7, hsa, _⟩ := (HS.out.ho.same HS1.out).at_ hox
    rw [HOB.out] at HD
    clear hox HZ o1 o3 o4 o5 o6 o7
    by_cases h3 : o.k = 3
    · have HV := Lib.hid (show flR (ofR s i (kk : Int)) r = N by rw [HD.out, if_neg (by omega), if_neg (by omega)])
      have f3 : (o.k != 3) = false := by simpa using h3
      have f4 : (o.k == 4) = false := by simp; omega
      clear h3 HD
      go_wp2_with fail
      go_ret
      exact ⟨ret_int HV.out.symm, S0.out.trans HS1.out⟩
    · have f3 : (o.k != 3) = true := by simpa using h3
      by_cases h5 : o.k = 5
      · have HV := Lib.hid (show flR (ofR s i (kk : Int)) r = N by rw [HD.out, if_neg (by omega), if_neg (by omega)])
        have f5 : (o.k != 5) = false := by simpa using h5
        have f4 : (o.k == 4) = false := by simp; omega
        clear h3 h5 HD
        go_wp2_with fail
        go_ret
        exact ⟨ret_int HV.out.symm, S0.out.trans HS1.out⟩
      · have f5 : (o.k != 5) = true := by simpa using h5
        by_cases h4 : o.k = 4
        · have f4 : (o.k == 4) = true := by simpa using h4
          have g4 : (o.k != 4) = false := by simpa using h4
          by_cases h2 : 2 < o.sl
          · obtain ⟨p, hp⟩ : ∃ p, p = o.sl - 1 := ⟨_, rfl⟩
            have hp0 : ¬ p = 0 := by omega
            have hpw : IntKind.i64.wrap (o.sl - 1) = p := by rw [hp]; exact Go.IntWalk.i64_in _ (by omega)
            have HV := Lib.hid (show flR (ofR s i (kk : Int)) r = N / p by rw [HD.out, if_neg (by omega), if_pos ⟨h4, h2⟩, hp])
            have hdb : 0 ≤ N / p ∧ N / p ≤ N := ⟨Int.ediv_nonneg hnb.1 (by omega), Int.ediv_le_self _ hnb.1⟩
            have hdw : IntKind.i64.wrap (N.tdiv p) = N / p := by rw [Int.tdiv_eq_ediv_of_nonneg hnb.1]; exact Go.IntWalk.i64_in _ (by omega)
            clear h3 h5 h4 HD hp hdb hn0
            go_wp2_with fail
            go_ret
            exact ⟨ret_int HV.out.symm, S0.out.trans HS1.out⟩
          · have HV := Lib.hid (show flR (ofR s i (kk : Int)) r = N by rw [HD.out, if_neg (by omega), if_neg (by omega)])
            clear h3 h5 h4 HD
            go_wp2_with fail
            go_ret
            exact ⟨ret_int HV.out.symm, S0.out.trans HS1.out⟩
        · have f4 : (o.k == 4) = false := by simpa using h4
          have g4 : (o.k != 4) = true := by simpa using h4
          have HV := Lib.hid (show flR (ofR s i (kk : Int)) r = 0 by rw [HD.out, if_pos (.inr ⟨h3, h5, h4⟩)])
          clear h3 h5 h4 HD
          go_wp2_with fail
          go_ret
          exact ⟨ret_int HV.out.symm, S0.out.trans HS1.out⟩
end Go.Proofs.YthhbhbfkbncegabGreatDoor.Sl
end
end
section
set_option linter.unusedVariables false
set_option linter.unusedSimpArgs false
namespace Go.Proofs.YthhbhbfkbncegabGreatDoor.Sz
open Go.ChangeShapes Go.WideShapes Go.ChangeAt Go.RowKit Ws
open Im (PT PO PS TsAt OsAt SysAt tcells ocells)
open Go.Proofs.YthhbhbfkbncegabGreatDoor.Wd (ret_bool ret_int)
open Sl (ofR wrR flR obj)
theorem ticks_any (A : Option Addr) (n c : Nat) (l : List Int) (i : Int) (w : World) (hl : l.length = n) (hr : Row w A (l.map (Value.int .i64))) :
    Calls Tryz.prog 17 #[.slice A n c, .int .i64 i] w fun e w' => e = .returned (.int .i64 (gI l i)) ∧ Same w w' := by
  rcases (show i < 0 ∨ (¬ i < 0 ∧ (n : Int) ≤ i) ∨ (¬ i < 0 ∧ ¬ (n : Int) ≤ i) by omega) with h0 | ⟨h1, h2⟩ | ⟨h1, h2⟩
  · have d0 : decide (i < 0) = true := decide_eq_true h0
    have HG := Lib.hid (gI_no (l := l) (.inl h0))
    clear h0 hr
    go_enter Tryz.func17, Tryz.ntmps17
    go_wp2_with fail
    go_ret
    exact ⟨ret_int HG.out.symm, Same.refl _⟩
  · have d0 : decide (i < 0) = false := decide_eq_false h1
    have d1 : decide ((n : Int) ≤ i) = true := decide_eq_true h2
    have HG := Lib.hid (gI_no (l := l) (.inr (by rw [hl]; exact h2)))
    clear h1 h2 hr
    go_enter Tryz.func17, Tryz.ntmps17
    go_wp2_with fail
    go_ret
    exact ⟨ret_int HG.out.symm, Same.refl _⟩
  · have d0 : decide (i < 0) = false := decide_eq_false h1
    have d1 : decide ((n : Int) ≤ i) = false := decide_eq_false h2
    obtain ⟨k, rfl⟩ : ∃ k : Nat, i = k := ⟨i.toNat, by omega⟩
    obtain ⟨v, hk⟩ : ∃ v, l[k]? = some v := ⟨l[k]'(by omega), List.getElem?_eq_getElem _⟩
    obtain ⟨b, o, rfl, c0⟩ := hr k (.int .i64 v) (by rw [List.getElem?_map, hk]; rfl)
    have HG := Lib.hid (gI_at hk)
    have hlt : (k : Int) < n := by omega
    have hk0 : (0 : Int) ≤ k := by omega
    clear hr hk h1 h2
    go_enter Tryz.func17, Tryz.ntmps17
    go_wp2_with fail
    go_ret
    exact ⟨ret_int HG.out.symm, Same.refl _⟩
set_option maxRecDepth 100000 in
set_option maxHeartbeats 4000000 in
theorem rslots_any (A B : Option Addr) (n c m d : Nat) (s : PS) (k : Int) (C : Option Addr) (cl cc : Nat) (rs : List Int) (hrs : ∀ y ∈ rs, (Lit.int .i64 y).wf = true) (w : World) (hs : SysAt w A n B m s) (hnm : n ≤ maxLen ∧ m ≤ maxLen) (hf : ∀ p ∈ s.ts, p.code.length ≤ 200) (ho : Sy.OFew s.os 5000) (hcl : rs.length = cl) (hr : Row w C (rs.map (Value.int .i64))) :
    Calls Tryz.prog 14 #[.agg #[.slice A n c, .slice B m d], .int .i64 k, .slice C cl cc] w fun e w' => e = .returned (.int .i64 (slotsI s k rs)) ∧ Same w w' := by
  obtain ⟨w0, hw0⟩ : ∃ w0, w0 = w.alloc (.cells #[.slice A n c, .slice B m d] 25) := ⟨_, rfl⟩
  obtain ⟨g, hg⟩ : ∃ g, g = w.heap.size := ⟨_, rfl⟩
  have s0 : Same w w0 := hw0 ▸ (Same.refl w).alloc _
  have b0 : Blk w0 g 25 #[.slice A n c, .slice B m d] := by rw [hw0, hg]; exact Blk.new w _ _
  have HE0 := Lib.hid hw0
  have HG := Lib.hid hg
  have S0 := Lib.hid s0
  obtain ⟨c0, c1⟩ := (⟨b0.cell 0, b0.cell 1⟩ : _ ∧ _)
  simp only [List.getElem?_toArray, List.getElem?_cons_zero, List.getElem?_cons_succ] at c0 c1
  have B0 := Lib.hid b0
  have hmb := wrM_bd s k rs
  rcases (show k < 0 ∨ (¬ k < 0 ∧ (m : Int) ≤ k) ∨ (¬ k < 0 ∧ ¬ (m : Int) ≤ k) by omega) with h0 | ⟨h1, h2⟩ | ⟨h1, h2⟩
  · have d0 : decide (k < 0) = true := decide_eq_true h0
    have HVV := Lib.hid (show slotsI s k rs = 0 from if_neg (fun g => by omega))
    clear h0 hw0 hg s0 b0 hs hf ho hcl hr B0
    go_enter Tryz.func14, Tryz.ntmps14
    go_upto_region 1 with fail
    rw [← HE0.out, ← HG.out]
    clear HE0 HG
    go_wp2_with fail
    go_ret
    exact ⟨ret_int (by rw [HVV.out]), S0.out⟩
  · have d0 : decide (k < 0) = false := decide_eq_false h1
    have d1 : decide ((m : Int) ≤ k) = true := decide_eq_true h2
    have HVV := Lib.hid (show slotsI s k rs = 0 from if_neg (fun g => by have := hs.hm; omega))
    clear h1 h2 hw0 hg s0 b0 hs hf ho hcl hr B0
    go_enter Tryz.func14, Tryz.ntmps14
    go_upto_region 1 with fail
    rw [← HE0.out, ← HG.out]
    clear HE0 HG
    go_wp2_with fail
    go_ret
    exact ⟨ret_int (by rw [HVV.out]), S0.out⟩
  · obtain ⟨kk, rfl⟩ : ∃ kk : Nat, k = kk := ⟨k.toNat, by omega⟩
    obtain ⟨o, hox⟩ : ∃ o, s.os[kk]? = some o := ⟨s.os[kk]'(by have := hs.hm; omega), List.getElem?_eq_getElem _⟩
    have d0 : decide ((kk : Int) < 0) = false := decide_eq_false h1
    have d1 : decide ((m : Int) ≤ kk) = false := decide_eq_false h2
    have d1n : decide (m ≤ kk) = false := decide_eq_false (by omega)
    have HOB := obj_in hox
    have hkl := (List.getElem?_eq_some_iff.1 hox).1
    have HVY := Lib.hid (show o.k = 4 → slotsI s (kk : Int) rs = 2 + wrM s kk rs from fun h => if_pos ⟨by omega, by rw [HOB]; exact h⟩)
    have HVN := Lib.hid (show ¬ o.k = 4 → slotsI s (kk : Int) rs = 0 from fun h => if_neg (fun g => h (by rw [← HOB]; exact g.2)))
    have HM := Lib.hid (show wrM s kk rs = mostL (fun i => wrR (ofR s i kk) (gI rs i)) o.rd from by unfold wrM; rw [HOB])
    have HTT := Lib.hid (fun (j : Nat) (x : Int) (h : o.rd[j]? = some x) => mostL_take (f := fun i => wrR (ofR s i (kk : Int)) (gI rs i)) h)
    have HTK := Lib.hid (show mostL (fun i => wrR (ofR s i (kk : Int)) (gI rs i)) (o.rd.take o.rd.length) = mostL (fun i => wrR (ofR s i kk) (gI rs i)) o.rd from by rw [List.take_length])
    have k2 : (kk : Int) < m := by omega
    have k0 : (0 : Int) ≤ kk := by omega
    have RI := Lib.hid (fun (i : Int) W (h : Same w0 W) => ticks_any C cl cc rs i W hcl (hr.same (s0.trans h)))
    have CT := Lib.hid (fun (i r : Int) (br : -9223372036854775808 ≤ r ∧ r ≤ 9223372036854775807) W (h : Same w0 W) => Sl.rwrites37 A B n c m d s i kk r br W (hs.same (s0.trans h)) hnm hf ho)
    have OO := (hs.ho.same s0).at_ hox
    obtain ⟨bB, oB, rfl, Xo, co, Yo, do_, o0, o1, o2, o3, o4, o5, o6, o7, hsa, _, _, hrd, _, hrl⟩ := OO
    have hdb : (o.rd.length : Int) ≤ 9223372036854775807 := by unfold maxLen at hrl; omega
    have HRD := Lib.hid hrd
    have HRS := Lib.hid hrs
    clear h1 h2 hw0 hg s0 b0 hs hf ho hcl hr hox HOB hkl hrd hrs o1 o2 o3 o4 o5 o6
    go_enter Tryz.func14, Tryz.ntmps14
    go_upto_region 1 with fail
    rw [← HE0.out, ← HG.out]
    clear HE0 HG
    by_cases h4 : o.k = 4
    · have f4 : (o.k != 4) = false := by simpa using h4
      have HVV := Lib.hid (HVY.out (by omega))
      clear HVY HVN
      try clear h4
      try clear hn
      go_wp2_with fail
      go_loopg [35, 7] o.rd.length (fun gk iv nv wx => ∃ j : Nat, j + gk = o.rd.length ∧ iv = .int .i64 (j : Int) ∧ nv = .int .i64 (mostL (fun i => wrR (ofR s i (kk : Int)) (gI rs i)) (o.rd.take j)) ∧ Same w0 wx)
      case atStart => exact ⟨0, by omega, rfl, rfl, Same.refl _⟩
      case round =>
        obtain ⟨j, hk, rfl, rfl, sx⟩ := hrel
        have HSX := Lib.hid sx
        have c0 := sx.cell c0
        have c1 := sx.cell c1
        clear o7 o0
        cases gk with
        | zero =>
          obtain rfl : j = o.rd.length := by omega
          have hge : ¬ (o.rd.length : Int) < (o.rd.length : Int) := by omega
          rw [HTK.out]
          obtain ⟨mv, hmv⟩ : ∃ mv, mv = mostL (fun i => wrR (ofR s i (kk : Int)) (gI rs i)) o.rd := ⟨_, rfl⟩
          have HMV := Lib.hid (show wrM s kk rs = mv by rw [HM.out, hmv])
          have hb := hmb
          rw [HMV.out] at hb
          rw [← hmv]
          clear sx hmv hmb
          go_wp2_with fail
          go_ret
          exact ⟨ret_int (by rw [HVV.out, HMV.out]; omega), S0.out.trans HSX.out⟩
        | succ GK =>
          have hlt : (j : Int) < o.rd.length := by omega
          have hj0 : (0 : Int) ≤ j := by omega
          obtain ⟨x, hx⟩ : ∃ x, o.rd[j]? = some x := ⟨o.rd[j]'(by omega), List.getElem?_eq_getElem _⟩
          obtain ⟨bY, oY, rfl, y0⟩ := (HRD.out.same sx) j (.int .i64 x) (by rw [List.getElem?_map, hx]; rfl)
          have HTJ := Lib.hid (HTT.out j x hx)
          have HKK := Lib.hid hk
          have CX := Lib.hid (CT.out x (gI rs x) (gI_bd HRS.out x))
          have RX := Lib.hid (RI.out x)
          clear hk hx sx CT RI
          try dsimp only at HTJ
          generalize mostL (fun i => wrR (ofR s i (kk : Int)) (gI rs i)) (o.rd.take j) = v at *
          generalize wrR (ofR s x (kk : Int)) (gI rs x) = y at *
          generalize gI rs x = r at *
          obtain ⟨v', hv'⟩ : ∃ v', v' = max v y := ⟨_, rfl⟩
          have hmx : (if v < y then y else v) = v' := by rw [hv']; split <;> omega
          have HV := Lib.hid hv'
          clear hv'
          go_wp2_with fail
          have BB0 := Lib.hid (B0.out.same HSX.out)
          refine wp_region_held_drew (S := fun w' => Same wr w') (by kernel_rfl) ?_ (fun hHeld => ?_)
          · exact (Same.refl wr).drew
          refine Ro.tn 0 ?_ ?_ ?_
          rotate_left
          · intro wS hSw; (try dsimp only at hSw); go_simp; try with_reducible rfl
          try simp only [Ro.p]
          refine Ro.tn 1 ?_ ?_ ?_
          rotate_left
          · intro wS hSw; (try dsimp only at hSw); obtain ⟨v0, v1⟩ := (⟨(BB0.out.same hSw).cell 0, (BB0.out.same hSw).cell 1⟩ : _ ∧ _); simp only [List.getElem?_toArray, List.getElem?_cons_zero, List.getElem?_cons_succ] at v0 v1; go_simp; try with_reducible rfl
          try simp only [Ro.p]
          refine Ro.tn 2 ?_ ?_ ?_
          rotate_left
          · intro wS hSw; (try dsimp only at hSw); go_simp; try with_reducible rfl
          try simp only [Ro.p]
          refine Ro.tn 3 ?_ ?_ ?_
          rotate_left
          · intro wS hSw; (try dsimp only at hSw); go_simp; try with_reducible rfl
          try simp only [Ro.p]
          refine Ro.tn 4 ?_ ?_ ?_
          rotate_left
          · intro wS hSw; (try dsimp only at hSw); go_simp; try with_reducible rfl
          try simp only [Ro.p]
          refine Ro.tn 5 ?_ ?_ ?_
          rotate_left
          · intro wS hSw; (try dsimp only at hSw); go_simp; try with_reducible rfl
          try simp only [Ro.p]
          refine Ro.one_on (i := 6) rfl (by kernel_rfl) (by rfl) (fun K hK => ?_)
          go_simp
          go_at_call 17
          refine (RX.out _ (HSX.out.trans hHeld)).mono ?_
          rintro e wN ⟨rfl, sN⟩
          refine hK.out _ _ ?_ (fun hNew => ?_)
          · exact hHeld.trans sN
          clear hK K hHeld; have hHeld := hNew; clear hNew
          try simp only [Ro.p]
          refine Ro.one_on (i := 7) rfl (by kernel_rfl) (by rfl) (fun K hK => ?_)
          go_simp
          go_at_call 34
          refine (CX.out _ (HSX.out.trans hHeld)).mono ?_
          rintro e wN ⟨rfl, sN⟩
          refine hK.out _ _ ?_ (fun hNew => ?_)
          · exact hHeld.trans sN
          clear hK K hHeld; have hHeld := hNew; clear hNew
          try simp only [Ro.p]
          refine Ro.tn 8 ?_ ?_ ?_
          rotate_left
          · intro wS hSw; (try dsimp only at hSw); go_simp; try with_reducible rfl
          try simp only [Ro.p]
          refine Ro.tn 9 ?_ ?_ ?_
          rotate_left
          · intro wS hSw; (try dsimp only at hSw); go_simp; try with_reducible rfl
          try simp only [Ro.p]
          refine wpAnyH_done (by kernel_rfl) ?_ _
          go_wp2_with fail
          go_roundg GK
          case rel => exact ⟨j + 1, by have := HKK.out; omega, by go_num, by rw [HTJ.out, HV.out], HSX.out.trans hHeld⟩
          case measure => omega
    · have f4 : (o.k != 4) = true := by simpa using h4
      have HVV := Lib.hid (HVN.out (by omega))
      clear HVY HVN
      try clear h4
      try clear hn
      go_wp2_with fail
      go_ret
      exact ⟨ret_int (by rw [HVV.out]), S0.out⟩
set_option maxRecDepth 100000 in
set_option maxHeartbeats 4000000 in
theorem rcaps_any (A B : Option Addr) (n c m d : Nat) (s : PS) (k : Int) (C : Option Addr) (cl cc : Nat) (rs : List Int) (hrs : ∀ y ∈ rs, (Lit.int .i64 y).wf = true) (hsl : ∀ o ∈ s.os, o.sl ≤ 9223372036854775807) (w : World) (hs : SysAt w A n B m s) (hnm : n ≤ maxLen ∧ m ≤ maxLen) (hf : ∀ p ∈ s.ts, p.code.length ≤ 200) (ho : Sy.OFew s.os 5000) (hcl : rs.length = cl) (hr : Row w C (rs.map (Value.int .i64))) :
    Calls Tryz.prog 16 #[.agg #[.slice A n c, .slice B m d], .int .i64 k, .slice C cl cc] w fun e w' => e = .returned (.int .i64 (capsI s k rs)) ∧ Same w w' := by
  obtain ⟨w0, hw0⟩ : ∃ w0, w0 = w.alloc (.cells #[.slice A n c, .slice B m d] 25) := ⟨_, rfl⟩
  obtain ⟨g, hg⟩ : ∃ g, g = w.heap.size := ⟨_, rfl⟩
  have s0 : Same w w0 := hw0 ▸ (Same.refl w).alloc _
  have b0 : Blk w0 g 25 #[.slice A n c, .slice B m d] := by rw [hw0, hg]; exact Blk.new w _ _
  have HE0 := Lib.hid hw0
  have HG := Lib.hid hg
  have S0 := Lib.hid s0
  obtain ⟨c0, c1⟩ := (⟨b0.cell 0, b0.cell 1⟩ : _ ∧ _)
  simp only [List.getElem?_toArray, List.getElem?_cons_zero, List.getElem?_cons_succ] at c0 c1
  have B0 := Lib.hid b0
  have hmb := flM_bd s k rs
  rcases (show k < 0 ∨ (¬ k < 0 ∧ (m : Int) ≤ k) ∨ (¬ k < 0 ∧ ¬ (m : Int) ≤ k) by omega) with h0 | ⟨h1, h2⟩ | ⟨h1, h2⟩
  · have d0 : decide (k < 0) = true := decide_eq_true h0
    have HVV := Lib.hid (show capsI s k rs = 0 from if_neg (fun g => by omega))
    clear h0 hw0 hg s0 b0 hs hf ho hcl hr B0
    go_enter Tryz.func16, Tryz.ntmps16
    go_upto_region 1 with fail
    rw [← HE0.out, ← HG.out]
    clear HE0 HG
    go_wp2_with fail
    go_ret
    exact ⟨ret_int (by rw [HVV.out]), S0.out⟩
  · have d0 : decide (k < 0) = false := decide_eq_false h1
    have d1 : decide ((m : Int) ≤ k) = true := decide_eq_true h2
    have HVV := Lib.hid (show capsI s k rs = 0 from if_neg (fun g => by have := hs.hm; omega))
    clear h1 h2 hw0 hg s0 b0 hs hf ho hcl hr B0
    go_enter Tryz.func16, Tryz.ntmps16
    go_upto_region 1 with fail
    rw [← HE0.out, ← HG.out]
    clear HE0 HG
    go_wp2_with fail
    go_ret
    exact ⟨ret_int (by rw [HVV.out]), S0.out⟩
  · obtain ⟨kk, rfl⟩ : ∃ kk : Nat, k = kk := ⟨k.toNat, by omega⟩
    obtain ⟨o, hox⟩ : ∃ o, s.os[kk]? = some o := ⟨s.os[kk]'(by have := hs.hm; omega), List.getElem?_eq_getElem _⟩
    have d0 : decide ((kk : Int) < 0) = false := decide_eq_false h1
    have d1 : decide ((m : Int) ≤ kk) = false := decide_eq_false h2
    have d1n : decide (m ≤ kk) = false := decide_eq_false (by omega)
    have HOB := obj_in hox
    have hkl := (List.getElem?_eq_some_iff.1 hox).1
    have HVY := Lib.hid (show (o.k = 3 ∨ o.k = 4 ∨ o.k = 5) → capsI s (kk : Int) rs = 1 + flM s kk rs from fun h => if_pos ⟨by omega, by rw [HOB]; exact h⟩)
    have HVN := Lib.hid (show ¬ (o.k = 3 ∨ o.k = 4 ∨ o.k = 5) → capsI s (kk : Int) rs = 0 from fun h => if_neg (fun g => h (by rw [← HOB]; exact g.2)))
    have HM := Lib.hid (show flM s kk rs = mostL (fun i => flR (ofR s i kk) (gI rs i)) o.rd from by unfold flM; rw [HOB])
    have HTT := Lib.hid (fun (j : Nat) (x : Int) (h : o.rd[j]? = some x) => mostL_take (f := fun i => flR (ofR s i (kk : Int)) (gI rs i)) h)
    have HTK := Lib.hid (show mostL (fun i => flR (ofR s i (kk : Int)) (gI rs i)) (o.rd.take o.rd.length) = mostL (fun i => flR (ofR s i kk) (gI rs i)) o.rd from by rw [List.take_length])
    have k2 : (kk : Int) < m := by omega
    have k0 : (0 : Int) ≤ kk := by omega
    have RI := Lib.hid (fun (i : Int) W (h : Same w0 W) => ticks_any C cl cc rs i W hcl (hr.same (s0.trans h)))
    have CT := Lib.hid (fun (i r : Int) (br : -9223372036854775808 ≤ r ∧ r ≤ 9223372036854775807) W (h : Same w0 W) => Sl.rfails37 A B n c m d s i kk r br hsl W (hs.same (s0.trans h)) hnm hf ho)
    have OO := (hs.ho.same s0).at_ hox
    obtain ⟨bB, oB, rfl, Xo, co, Yo, do_, o0, o1, o2, o3, o4, o5, o6, o7, hsa, _, _, hrd, _, hrl⟩ := OO
    have hdb : (o.rd.length : Int) ≤ 9223372036854775807 := by unfold maxLen at hrl; omega
    have HRD := Lib.hid hrd
    have HRS := Lib.hid hrs
    clear h1 h2 hw0 hg s0 b0 hs hf ho hcl hr hox HOB hkl hrd hrs o1 o2 o3 o4 o5 o6
    go_enter Tryz.func16, Tryz.ntmps16
    go_upto_region 1 with fail
    rw [← HE0.out, ← HG.out]
    clear HE0 HG
    by_cases hn : o.k = 3 ∨ o.k = 4 ∨ o.k = 5
    case' pos =>
      rcases hn with hn | hn | hn
      case' inl =>
        have f3 : (o.k != 3) = false := by simp <;> omega
        have f4 : (o.k != 4) = true := by simp <;> omega
        have f5 : (o.k != 5) = true := by simp <;> omega
      case' inr.inl =>
        have f3 : (o.k != 3) = true := by simp <;> omega
        have f4 : (o.k != 4) = false := by simp <;> omega
        have f5 : (o.k != 5) = true := by simp <;> omega
      case' inr.inr =>
        have f3 : (o.k != 3) = true := by simp <;> omega
        have f4 : (o.k != 4) = true := by simp <;> omega
        have f5 : (o.k != 5) = false := by simp <;> omega
    case' neg =>
      have f3 : (o.k != 3) = true := by simp <;> omega
      have f4 : (o.k != 4) = true := by simp <;> omega
      have f5 : (o.k != 5) = true := by simp <;> omega
      have HVV := Lib.hid (HVN.out (by omega))
      clear HVY HVN
      try clear h4
      try clear hn
      go_wp2_with fail
      go_ret
      exact ⟨ret_int (by rw [HVV.out]), S0.out⟩
    all_goals
      have HVV := Lib.hid (HVY.out (by omega))
      clear HVY HVN
      try clear h4
      try clear hn
      go_wp2_with fail
      go_loopg [43, 8] o.rd.length (fun gk iv nv wx => ∃ j : Nat, j + gk = o.rd.length ∧ iv = .int .i64 (j : Int) ∧ nv = .int .i64 (mostL (fun i => flR (ofR s i (kk : Int)) (gI rs i)) (o.rd.take j)) ∧ Same w0 wx)
      case atStart => exact ⟨0, by omega, rfl, rfl, Same.refl _⟩
      case round =>
        obtain ⟨j, hk, rfl, rfl, sx⟩ := hrel
        have HSX := Lib.hid sx
        have c0 := sx.cell c0
        have c1 := sx.cell c1
        clear o7 o0
        cases gk with
        | zero =>
          obtain rfl : j = o.rd.length := by omega
          have hge : ¬ (o.rd.length : Int) < (o.rd.length : Int) := by omega
          rw [HTK.out]
          obtain ⟨mv, hmv⟩ : ∃ mv, mv = mostL (fun i => flR (ofR s i (kk : Int)) (gI rs i)) o.rd := ⟨_, rfl⟩
          have HMV := Lib.hid (show flM s kk rs = mv by rw [HM.out, hmv])
          have hb := hmb
          rw [HMV.out] at hb
          rw [← hmv]
          clear sx hmv hmb
          go_wp2_with fail
          go_ret
          exact ⟨ret_int (by rw [HVV.out, HMV.out]; omega), S0.out.trans HSX.out⟩
        | succ GK =>
          have hlt : (j : Int) < o.rd.length := by omega
          have hj0 : (0 : Int) ≤ j := by omega
          obtain ⟨x, hx⟩ : ∃ x, o.rd[j]? = some x := ⟨o.rd[j]'(by omega), List.getElem?_eq_getElem _⟩
          obtain ⟨bY, oY, rfl, y0⟩ := (HRD.out.same sx) j (.int .i64 x) (by rw [List.getElem?_map, hx]; rfl)
          have HTJ := Lib.hid (HTT.out j x hx)
          have HKK := Lib.hid hk
          have CX := Lib.hid (CT.out x (gI rs x) (gI_bd HRS.out x))
          have RX := Lib.hid (RI.out x)
          clear hk hx sx CT RI
          try dsimp only at HTJ
          generalize mostL (fun i => flR (ofR s i (kk : Int)) (gI rs i)) (o.rd.take j) = v at *
          generalize flR (ofR s x (kk : Int)) (gI rs x) = y at *
          generalize gI rs x = r at *
          obtain ⟨v', hv'⟩ : ∃ v', v' = max v y := ⟨_, rfl⟩
          have hmx : (if v < y then y else v) = v' := by rw [hv']; split <;> omega
          have HV := Lib.hid hv'
          clear hv'
          go_wp2_with fail
          have BB0 := Lib.hid (B0.out.same HSX.out)
          refine wp_region_held_drew (S := fun w' => Same wr w') (by kernel_rfl) ?_ (fun hHeld => ?_)
          · exact (Same.refl wr).drew
          refine Ro.tn 0 ?_ ?_ ?_
          rotate_left
          · intro wS hSw; (try dsimp only at hSw); go_simp; try with_reducible rfl
          try simp only [Ro.p]
          refine Ro.tn 1 ?_ ?_ ?_
          rotate_left
          · intro wS hSw; (try dsimp only at hSw); obtain ⟨v0, v1⟩ := (⟨(BB0.out.same hSw).cell 0, (BB0.out.same hSw).cell 1⟩ : _ ∧ _); simp only [List.getElem?_toArray, List.getElem?_cons_zero, List.getElem?_cons_succ] at v0 v1; go_simp; try with_reducible rfl
          try simp only [Ro.p]
          refine Ro.tn 2 ?_ ?_ ?_
          rotate_left
          · intro wS hSw; (try dsimp only at hSw); go_simp; try with_reducible rfl
          try simp only [Ro.p]
          refine Ro.tn 3 ?_ ?_ ?_
          rotate_left
          · intro wS hSw; (try dsimp only at hSw); go_simp; try with_reducible rfl
          try simp only [Ro.p]
          refine Ro.tn 4 ?_ ?_ ?_
          rotate_left
          · intro wS hSw; (try dsimp only at hSw); go_simp; try with_reducible rfl
          try simp only [Ro.p]
          refine Ro.tn 5 ?_ ?_ ?_
          rotate_left
          · intro wS hSw; (try dsimp only at hSw); go_simp; try with_reducible rfl
          try simp only [Ro.p]
          refine Ro.one_on (i := 6) rfl (by kernel_rfl) (by rfl) (fun K hK => ?_)
          go_simp
          go_at_call 17
          refine (RX.out _ (HSX.out.trans hHeld)).mono ?_
          rintro e wN ⟨rfl, sN⟩
          refine hK.out _ _ ?_ (fun hNew => ?_)
          · exact hHeld.trans sN
          clear hK K hHeld; have hHeld := hNew; clear hNew
          try simp only [Ro.p]
          refine Ro.one_on (i := 7) rfl (by kernel_rfl) (by rfl) (fun K hK => ?_)
          go_simp
          go_at_call 35
          refine (CX.out _ (HSX.out.trans hHeld)).mono ?_
          rintro e wN ⟨rfl, sN⟩
          refine hK.out _ _ ?_ (fun hNew => ?_)
          · exact hHeld.trans sN
          clear hK K hHeld; have hHeld := hNew; clear hNew
          try simp only [Ro.p]
          refine Ro.tn 8 ?_ ?_ ?_
          rotate_left
          · intro wS hSw; (try dsimp only at hSw); go_simp; try with_reducible rfl
          try simp only [Ro.p]
          refine Ro.tn 9 ?_ ?_ ?_
          rotate_left
          · intro wS hSw; (try dsimp only at hSw); go_simp; try with_reducible rfl
          try simp only [Ro.p]
          refine wpAnyH_done (by kernel_rfl) ?_ _
          go_wp2_with fail
          go_roundg GK
          case rel => exact ⟨j + 1, by have := HKK.out; omega, by go_num, by rw [HTJ.out, HV.out], HSX.out.trans hHeld⟩
          case measure => omega
end Go.Proofs.YthhbhbfkbncegabGreatDoor.Sz
end
