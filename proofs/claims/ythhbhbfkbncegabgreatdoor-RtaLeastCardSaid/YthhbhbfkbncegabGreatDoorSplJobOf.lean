/-

 Package spoil: JobOf: what a job takes, and all its reads; package interfere: Job.
-/
import Derived.Test.YthhbhbfkbncegabGreatDoorSplSpec
import Derived.Test.YthhbhbfkbncegabGreatDoorDmdMost
import Derived.Test.YthhbhbfkbncegabGreatDoorRegionOff
import Derived.Laws.Tables
import Derived.Deep.RegionHeld3
import Derived.Test.YthhbhbfkbncegabGreatDoorSplSteps
import Derived.Test.YthhbhbfkbncegabGreatDoorOperApp
import Derived.Test.YthhbhbfkbncegabGreatDoorHeldB
import Derived.Test.YthhbhbfkbncegabGreatDoorCstWeigh
section
set_option linter.unusedVariables false
set_option linter.unusedSimpArgs false
namespace Go.Proofs.YthhbhbfkbncegabGreatDoor.Sl
open Go.ChangeShapes Go.WideShapes Go.ChangeAt Go.RowKit Ws
open Im (PT PO PS TsAt OsAt SysAt tcells ocells)
open Dm (demI dearI dearE)
theorem res_cell1 {P : Program} {fn : Func} {p : Tmp} {ty : TypeId} (h : fn.results = #[.cell p ty]) (tmps : Array Value) (w : World) (g : Nat) (T : TypeId) (cs : Array Value) (fr : Nat × Nat) (d : TypeDesc)
 (hp : tmps.getD p undef = .pointer (some ⟨g, 0, none⟩)) (hg : w.heap[g]? = some (.cells cs T fr))
 (hu : P.underlying ty = some d) (hd : (match d with | .struct _ | .array _ _ => true | _ => false) = true) (hi : (P.info? ty).map (·.size) = some cs.size) :
 (results fn tmps).run P w = .ok (.agg cs) w := by
 have hp' : tmps[p]?.getD undef = .pointer (some ⟨g, 0, none⟩) := by simpa using hp
 simp [results, h, hp', asAddr, run_loadVar_row w g T ty cs fr d hg hu hd hi]
theorem role_in {s : PS} {i k : Int} (h : Sy.roleF s i k ≠ 0) : (0 ≤ i ∧ i < s.ts.length) ∧ 0 ≤ k ∧ k < s.os.length := by
 by_cases g : (0 ≤ i ∧ i < s.ts.length) ∧ 0 ≤ k ∧ k < s.os.length
 ·exact g
 ·exact absurd (if_neg g) h
set_option maxRecDepth 100000 in
set_option maxHeartbeats 4000000 in
theorem of_any (A B : Option Addr) (n c m d : Nat) (s : PS) (i k : Int) (w : World) (hs : SysAt w A n B m s) (hnm : n ≤ maxLen ∧ m ≤ maxLen) (hf : ∀ p ∈ s.ts, p.code.length ≤ 200) (ho : Sy.OFew s.os 5000) (hT : Is.Tabs w) :
 Calls Tryz.prog 36 #[.agg #[.slice A n c, .slice B m d], .int .i64 i, .int .i64 k] w fun e w' => e = .returned (.agg (rcells (ofR s i k)).toArray) ∧ Same w w' := by
 obtain ⟨w0, hw0⟩ : ∃ w0, w0 = w.alloc (.cells #[.slice A n c, .slice B m d] 25) := ⟨_, rfl⟩
 obtain ⟨g, hg⟩ : ∃ g, g = w0.heap.size := ⟨_, rfl⟩
 obtain ⟨w1, hw1⟩ : ∃ w1, w1 = w0.alloc (.cells #[.int .i64 0, .int .i64 0, .int .i64 0, .bool false, .int .i64 0, .int .i64 0] 71) := ⟨_, rfl⟩
 have s0 : Same w w0 := hw0 ▸ (Same.refl w).alloc _
 have s1 : Same w0 w1 := hw1 ▸ (Same.refl w0).alloc _
 have b0 : Blk w0 w.heap.size 25 #[.slice A n c, .slice B m d] := hw0 ▸ Blk.new w _ _
 have b1 : Blk w1 g 71 #[.int .i64 0, .int .i64 0, .int .i64 0, .bool false, .int .i64 0, .int .i64 0] := by rw [hw1, hg]; exact Blk.new w0 _ _
 have HE0 := Lib.hid hw0
 have HE1 := Lib.hid hw1
 have HG := Lib.hid (show w.heap.size + 1 = g by rw [hg, hw0]; show _ = (w.heap.push _).size; rw [Array.size_push])
 have S1 := Lib.hid (s0.trans s1)
 have HS := Lib.hid (hs.same (s0.trans s1))
 have HF := Lib.hid hf
 have HT := Lib.hid (hT.same (s0.trans s1))
 have HGW := Lib.hid (show w.heap.size ≤ g by rw [hg]; exact s0.size)
 have B0 := Lib.hid (b0.same s1)
 have B1 := Lib.hid b1
 have RO := Lib.hid (Sy.role_any A B n c m d s i k w1 (hs.same (s0.trans s1)) ho)
 have RD := Lib.hid (fun W (h : Same w1 W) => Dm.reads_any A B n c m d s i k W (hs.same ((s0.trans s1).trans h)) hnm hf (hT.same ((s0.trans s1).trans h)))
 obtain ⟨c0, c1⟩ := (⟨(b0.same s1).cell 0, (b0.same s1).cell 1⟩ : _ ∧ _)
 simp only [Ws.q_] at c0 c1
 clear hw0 hw1 hg s0 s1 b0 b1 hs hT hf ho
 go_enter Tryz.func36, Tryz.ntmps36
 go_upto_region 1 with fail
 rw [HG.out, ← HE0.out, ← HE1.out]
 clear HE0 HE1
 go_wp2_with fail
 refine RO.out.mono ?_
 rintro e w2 ⟨rfl, s2⟩
 clear RO
 have HS2 := Lib.hid s2
 have c0 := s2.cell c0
 have c1 := s2.cell c1
 have B0 := Lib.hid (B0.out.same s2)
 have B1 := Lib.hid (B1.out.same s2)
 have HIF := Lib.hid (show (Tryz.prog.info? 71).map (·.size) = some (#[.int .i64 0, .int .i64 0, .int .i64 0, .bool false, .int .i64 0, .int .i64 0] : Array Value).size by kernel_rfl)
 clear s2
 by_cases hr : Sy.roleF s i k = 1
 ·have er : (Sy.roleF s i k != 1) = false := by simpa using hr
  have HR := Lib.hid hr
  have HK := Lib.hid (role_in (by rw [hr]; decide))
  have HRX := Lib.hid (show ¬ demI s i k 17 20 = 0 → readsP s i k = true from fun h => decide_eq_true ⟨hr, h⟩)
  clear hr
  generalize Sy.roleF s i k = ro at *
  go_wp2_with fail
  refine (RD.out _ HS2.out).mono ?_
  rintro e w3 ⟨rfl, s3⟩
  have HS2 := Lib.hid (HS2.out.trans s3)
  have c0 := s3.cell c0
  have c1 := s3.cell c1
  have B0 := Lib.hid (B0.out.same s3)
  have B1 := Lib.hid (B1.out.same s3)
  clear s3 RD
  by_cases hd : demI s i k 17 20 = 0
  ·have ed : (demI s i k 17 20 == 0) = true := by simpa using hd
   have HD := Lib.hid (show ofR s i k = zeroR from of_no (decide_eq_false (fun h => h.2 hd)))
   clear hd
   generalize demI s i k 17 20 = de at *
   go_wp2_with (first | (refine wpList_store_row rfl 71 (.tmp 6) (.tmp 27) rfl g #[.int .i64 0, .int .i64 0, .int .i64 0, .bool false, .int .i64 0, .int .i64 0] rfl rfl 71 #[.int .i64 0, .int .i64 0, .int .i64 0, .bool false, .int .i64 0, .int .i64 0] B1.out HIF.out rfl (by simp [Value.oneCell']) ?_))
   refine bodyPost_ret (v := .agg #[.int .i64 0, .int .i64 0, .int .i64 0, .bool false, .int .i64 0, .int .i64 0]) (res_cell1 Tryz.results36 _ _ g 71 #[.int .i64 0, .int .i64 0, .int .i64 0, .bool false, .int .i64 0, .int .i64 0] (0, 0) _ rfl (Dm.rowb B1.out) Tryz.underlying71 rfl HIF.out) rfl ?_
   exact ⟨by rw [HD.out]; rfl, Dm.chgRow (S1.out.trans HS2.out) (.inr HGW.out) _⟩
  ·have ed : (demI s i k 17 20 == 0) = false := by simpa using hd
   have HRP := Lib.hid (show readsP s i k = true from HRX.out hd)
   clear hd HRX
   generalize demI s i k 17 20 = de at *
   obtain ⟨k0, k1⟩ := HK.out.2
   obtain ⟨kk, rfl⟩ : ∃ kk : Nat, k = kk := ⟨k.toNat, by omega⟩
   obtain ⟨o, hox⟩ : ∃ o, s.os[kk]? = some o := ⟨s.os[kk]'(by omega), List.getElem?_eq_getElem _⟩
   have HOX := Lib.hid hox
   have HOB := Lib.hid (show obj s kk = o by unfold obj; rw [Int.toNat_natCast, List.getD_eq_getElem?_getD, hox]; rfl)
   have k2 : (kk : Int) < m := by have := HS.out.hm; omega
   obtain ⟨bB, oB, rfl, Xo, co, Yo, do_, o0, o1, o2, o3, o4, o5, o6, o7, hsa, _⟩ := (HS.out.ho.same HS2.out).at_ hox
   have FA := Lib.hid (fun W => Bd.fail_any o.k o.wd o.sl o.cp o.sa o.ow Xo Yo o.ini.length co o.rd.length do_ 1 W hsa)
   have HOC := Lib.hid (Blk.new w3 43 #[.int .i64 o.k, .int .i64 o.wd, .int .i64 o.sl, .int .i64 o.cp, .int .u32 o.sa, .slice Xo o.ini.length co, .int .i64 o.ow, .slice Yo o.rd.length do_])
   have HX4 := Lib.hid (HS2.out.alloc (.cells #[.int .i64 o.k, .int .i64 o.wd, .int .i64 o.sl, .int .i64 o.cp, .int .u32 o.sa, .slice Xo o.ini.length co, .int .i64 o.ow, .slice Yo o.rd.length do_] 43))
   have HX34 := Lib.hid ((Same.refl w3).alloc (.cells #[.int .i64 o.k, .int .i64 o.wd, .int .i64 o.sl, .int .i64 o.cp, .int .u32 o.sa, .slice Xo o.ini.length co, .int .i64 o.ow, .slice Yo o.rd.length do_] 43))
   have AH := Lib.hid (fun W (h : Same w1 W) => Ah.ahead_gen A n c s.ts o.ow i W HS.out.hn ((HS.out.same h).ht))
   have WA := Lib.hid (fun W (h : Same w1 W) => Dm.writes_any A (some ⟨bB, oB, none⟩) n c m d s o.ow (kk : Int) W (HS.out.same h) hnm HF.out (HT.out.same h))
   clear hox
   go_upto_region 5 with fail
   generalize w3.alloc (.cells #[.int .i64 o.k, .int .i64 o.wd, .int .i64 o.sl, .int .i64 o.cp, .int .u32 o.sa, .slice Xo o.ini.length co, .int .i64 o.ow, .slice Yo o.rd.length do_] 43) = w4 at *
   generalize w3.heap.size = q4 at *
   clear o0 o1 o2 o3 o4 o5 o6 o7
   refine wp_region_held_drew (S := fun w' => Same w4 w') (by kernel_rfl) ?_ (fun hHeld => ?_)
   ·exact (Same.refl w4).drew
   refine Ro.tn 0 ?_ ?_ ?_
   rotate_left
   ·intro wS hSw; (try dsimp only at hSw); go_simp; try with_reducible rfl
   try simp only [Ro.p]
   refine Ro.tn 1 ?_ ?_ ?_
   rotate_left
   ·intro wS hSw; (try dsimp only at hSw); obtain ⟨v0, v1, v2, v3, v4, v5, v6, v7⟩ := (⟨(HOC.out.same hSw).cell 0, (HOC.out.same hSw).cell 1, (HOC.out.same hSw).cell 2, (HOC.out.same hSw).cell 3, (HOC.out.same hSw).cell 4, (HOC.out.same hSw).cell 5, (HOC.out.same hSw).cell 6, (HOC.out.same hSw).cell 7⟩ : _ ∧ _ ∧ _ ∧ _ ∧ _ ∧ _ ∧ _ ∧ _); simp only [Ws.q_] at v0 v1 v2 v3 v4 v5 v6 v7; go_simp; try with_reducible rfl
   try simp only [Ro.p]
   refine Ro.tn 2 ?_ ?_ ?_
   rotate_left
   ·intro wS hSw; (try dsimp only at hSw); go_simp; try with_reducible rfl
   try simp only [Ro.p]
   refine Ro.tn 3 ?_ ?_ ?_
   rotate_left
   ·intro wS hSw; (try dsimp only at hSw); obtain ⟨v0, v1, v2, v3, v4, v5, v6, v7⟩ := (⟨(HOC.out.same hSw).cell 0, (HOC.out.same hSw).cell 1, (HOC.out.same hSw).cell 2, (HOC.out.same hSw).cell 3, (HOC.out.same hSw).cell 4, (HOC.out.same hSw).cell 5, (HOC.out.same hSw).cell 6, (HOC.out.same hSw).cell 7⟩ : _ ∧ _ ∧ _ ∧ _ ∧ _ ∧ _ ∧ _ ∧ _); simp only [Ws.q_] at v0 v1 v2 v3 v4 v5 v6 v7; go_simp; try with_reducible rfl
   try simp only [Ro.p]
   refine Ro.tn 4 ?_ ?_ ?_
   rotate_left
   ·intro wS hSw; (try dsimp only at hSw); obtain ⟨v0, v1, v2, v3, v4, v5, v6, v7⟩ := (⟨(HOC.out.same hSw).cell 0, (HOC.out.same hSw).cell 1, (HOC.out.same hSw).cell 2, (HOC.out.same hSw).cell 3, (HOC.out.same hSw).cell 4, (HOC.out.same hSw).cell 5, (HOC.out.same hSw).cell 6, (HOC.out.same hSw).cell 7⟩ : _ ∧ _ ∧ _ ∧ _ ∧ _ ∧ _ ∧ _ ∧ _); simp only [Ws.q_] at v0 v1 v2 v3 v4 v5 v6 v7; go_simp; try with_reducible rfl
   try simp only [Ro.p]
   have HKP := Lib.hid hHeld
   refine Ra.two_on (i := 5) (j := 7) rfl rfl (by kernel_rfl) (by rfl) (by rfl) (fun K hK => ?_) (fun K hK => ?_)
   ·go_simp
    go_at_call 56
    refine (FA.out _).mono ?_
    rintro e w5 ⟨rfl, s5⟩
    refine hK.out _ _ ?_ (fun hNew => ?_)
    ·exact hHeld.trans s5
    clear hK K hHeld; have hHeld := hNew; clear hNew
    try simp only [Ro.p]
    refine Ro.tn 6 ?_ ?_ ?_
    rotate_left
    ·intro wS hSw; (try dsimp only at hSw); go_simp; try with_reducible rfl
    try simp only [Ro.p]
    have HKP := Lib.hid hHeld
    refine Ro.one_on (i := 7) rfl (by kernel_rfl) (by rfl) (fun K hK => ?_)
    go_simp
    refine hK.out _ _ ?_ (fun hNew => ?_)
    ·exact hHeld.alloc _
    clear hK K hHeld; have hHeld := hNew; clear hNew
    try simp only [Ro.p]
    obtain ⟨wA, hwA⟩ : ∃ wA, wA = w5.alloc (.cells #[.int .i64 0, .int .i64 0, .int .i64 0, .bool false, .int .i64 0, .int .i64 0] 71) := ⟨_, rfl⟩
    obtain ⟨gx, hgx⟩ : ∃ gx, gx = w5.heap.size := ⟨_, rfl⟩
    have HBA := Lib.hid (show Blk wA gx 71 #[.int .i64 0, .int .i64 0, .int .i64 0, .bool false, .int .i64 0, .int .i64 0] by rw [hwA, hgx]; exact Blk.new _ _ _)
    have HSA := Lib.hid (show Same w5 wA by rw [hwA]; exact (Same.refl _).alloc _)
    have HGX := Lib.hid (show w4.heap.size ≤ gx by rw [hgx]; exact HKP.out.size)
    rw [← hwA, ← hgx]
    clear hHeld
    have hHeld : Same w4 wA := HKP.out.trans HSA.out
    clear hwA hgx HKP
    refine Ro.one_on (i := 8) rfl (by kernel_rfl) (by rfl) (fun K hK => ?_)
    refine wp_store_row 71 (.tmp 10) (.tmp 39) rfl gx #[.int .i64 o.k, .int .i64 o.sl, .int .i64 (failO o), .bool false, .int .i64 0, .int .i64 0] rfl rfl 71 #[.int .i64 0, .int .i64 0, .int .i64 0, .bool false, .int .i64 0, .int .i64 0] HBA.out HIF.out rfl (by simp [Value.oneCell']) ?_
    refine hK.out _ _ ?_ (fun hNew => ?_)
    ·exact Dm.chgRow hHeld (.inr HGX.out) _
    clear hK K hHeld; have hHeld := hNew; clear hNew
    try simp only [Ro.p]
    refine wpAnyH_done (by kernel_rfl) ?_ _
    have HBX := Lib.hid (show Blk (World.setRow wA gx #[.int .i64 o.k, .int .i64 o.sl, .int .i64 (failO o), .bool false, .int .i64 0, .int .i64 0]) gx 71 #[.int .i64 o.k, .int .i64 o.sl, .int .i64 (failO o), .bool false, .int .i64 0, .int .i64 0] from Dm.rowb HBA.out)
    have HX5 := Lib.hid hHeld
    clear hHeld
    generalize World.setRow wA gx #[.int .i64 o.k, .int .i64 o.sl, .int .i64 (failO o), .bool false, .int .i64 0, .int .i64 0] = w6 at *
    have B14 := Lib.hid (B1.out.same HX34.out)
    have HS36 := Lib.hid (HX34.out.trans HX5.out)
    have HS16 := Lib.hid (HX4.out.trans HX5.out)
    have c03 := c0
    have c13 := c1
    have c0 := HS36.out.cell c0
    have c1 := HS36.out.cell c1
    have HOC4 := Lib.hid HOC.out
    have HX46 := Lib.hid HX5.out
    have HOC := Lib.hid (HOC.out.same HX5.out)
    have B1 := Lib.hid (B1.out.same HS36.out)
    obtain ⟨o0, o1, o2, o3, o4, o5, o6, o7⟩ := (⟨HOC.out.cell 0, HOC.out.cell 1, HOC.out.cell 2, HOC.out.cell 3, HOC.out.cell 4, HOC.out.cell 5, HOC.out.cell 6, HOC.out.cell 7⟩ : _ ∧ _ ∧ _ ∧ _ ∧ _ ∧ _ ∧ _ ∧ _)
    simp only [Ws.q_] at o0 o1 o2 o3 o4 o5 o6 o7
    have AHW := Lib.hid (AH.out w6 HS16.out)
    have HC04 := Lib.hid (HX34.out.cell c03)
    have HC14 := Lib.hid (HX34.out.cell c13)
    clear AH FA HX34 HX5
    cases ha : Ah.aheadI s.ts o.ow i with
    | false =>
     have HD := Lib.hid (show ofR s i (kk : Int) = ⟨o.k, o.sl, failO o, false, 0, 0⟩ by rw [of_behind HRP.out (by unfold aheadP; rw [HOB.out]; exact ha), HOB.out])
     rw [ha] at AHW
     clear ha
     go_wp2_with fail
     refine AHW.out.mono ?_
     rintro e w7 ⟨rfl, s7⟩
     have B1 := Lib.hid (B1.out.same s7)
     have HS17 := Lib.hid (HS16.out.trans s7)
     have HBX := Lib.hid (HBX.out.same s7)
     clear s7 AHW o0 o1 o2 o3 o4 o5 o6 o7
     obtain ⟨x0, x1, x2, x3, x4, x5⟩ := (⟨HBX.out.cell 0, HBX.out.cell 1, HBX.out.cell 2, HBX.out.cell 3, HBX.out.cell 4, HBX.out.cell 5⟩ : _ ∧ _ ∧ _ ∧ _ ∧ _ ∧ _)
     simp only [Ws.q_] at x0 x1 x2 x3 x4 x5
     go_wp2_with (first | (refine wpList_store_row rfl 71 (.tmp 6) (.tmp 61) rfl g #[.int .i64 o.k, .int .i64 o.sl, .int .i64 (failO o), .bool false, .int .i64 0, .int .i64 0] rfl rfl 71 #[.int .i64 0, .int .i64 0, .int .i64 0, .bool false, .int .i64 0, .int .i64 0] B1.out HIF.out rfl (by simp [Value.oneCell']) ?_))
     refine bodyPost_ret (v := .agg #[.int .i64 o.k, .int .i64 o.sl, .int .i64 (failO o), .bool false, .int .i64 0, .int .i64 0]) (res_cell1 Tryz.results36 _ _ g 71 #[.int .i64 o.k, .int .i64 o.sl, .int .i64 (failO o), .bool false, .int .i64 0, .int .i64 0] (0, 0) _ rfl (Dm.rowb B1.out) Tryz.underlying71 rfl HIF.out) rfl ?_
     exact ⟨by rw [HD.out]; rfl, Dm.chgRow (S1.out.trans HS17.out) (.inr HGW.out) _⟩
    | true =>
     have HD := Lib.hid (show ofR s i (kk : Int) = ⟨o.k, o.sl, failO o, true, demI s o.ow (kk : Int) 18 19, (Ah.pt s.ts o.ow.toNat).per⟩ by rw [of_ahead HRP.out (by unfold aheadP; rw [HOB.out]; exact ha), HOB.out])
     have hin : Ah.inI s.ts.length o.ow := by
      by_cases g : Ah.inI s.ts.length o.ow ∧ Ah.inI s.ts.length i
      ·exact g.1
      ·rw [Ah.aheadI_no g] at ha; cases ha
     obtain ⟨kw, hkw⟩ := Int.eq_ofNat_of_zero_le hin.1
     have hkn : kw < s.ts.length := by have := hin.2; omega
     have w1' : (kw : Int) < n := by have := HS.out.hn; omega
     have w0' : (0 : Int) ≤ kw := by omega
     obtain ⟨p, hp⟩ : ∃ p, s.ts[kw]? = some p := ⟨s.ts[kw], List.getElem?_eq_getElem hkn⟩
     have HPT := Lib.hid (show (Ah.pt s.ts o.ow.toNat).per = p.per by rw [hkw]; unfold Ah.pt; rw [Int.toNat_natCast, List.getD_eq_getElem?_getD, hp]; rfl)
     obtain ⟨bA, oA, rfl, _, _, _, _, t2, _⟩ := (HS.out.ht.same HX4.out).at_ hp
     have HT2 := Lib.hid t2
     rw [ha] at AHW
     rw [hkw] at WA AHW o6
     have HKW := Lib.hid hkw
     clear ha hin hkw hkn hp t2
     go_wp2_with fail
     refine AHW.out.mono ?_
     rintro e w7 ⟨rfl, s7⟩
     have HS67 := Lib.hid s7
     have B1 := Lib.hid (B1.out.same s7)
     have HBX := Lib.hid (HBX.out.same s7)
     clear s7 AHW o0 o1 o2 o3 o4 o5 o6 o7
     go_wp2_with fail
     refine wp_region_held_drew (S := fun w' => Same w4 w') (by kernel_rfl) ?_ (fun hHeld => ?_)
     ·exact (HX46.out.trans HS67.out).drew
     refine Ro.tn 0 ?_ ?_ ?_
     rotate_left
     ·intro wS hSw; (try dsimp only at hSw); have z0 := hSw.cell HC04.out; have z1 := hSw.cell HC14.out; go_simp; try with_reducible rfl
     try simp only [Ro.p]
     refine Ro.tn 1 ?_ ?_ ?_
     rotate_left
     ·intro wS hSw; (try dsimp only at hSw); go_simp; try with_reducible rfl
     try simp only [Ro.p]
     refine Ro.tn 2 ?_ ?_ ?_
     rotate_left
     ·intro wS hSw; (try dsimp only at hSw); have z6 := (HOC4.out.same hSw).cell 6; simp only [Ws.q_] at z6; rw [HKW.out] at z6; go_simp; try with_reducible rfl
     try simp only [Ro.p]
     refine Ro.tn 3 ?_ ?_ ?_
     rotate_left
     ·intro wS hSw; (try dsimp only at hSw); go_simp; try with_reducible rfl
     try simp only [Ro.p]
     refine Ro.tn 5 ?_ ?_ ?_
     rotate_left
     ·intro wS hSw; (try dsimp only at hSw); go_simp; try with_reducible rfl
     try simp only [Ro.p]
     refine Ro.tn 6 ?_ ?_ ?_
     rotate_left
     ·intro wS hSw; (try dsimp only at hSw); have z0 := hSw.cell HC04.out; go_simp; try with_reducible rfl
     try simp only [Ro.p]
     refine Ro.tn 7 ?_ ?_ ?_
     rotate_left
     ·intro wS hSw; (try dsimp only at hSw); go_simp; try with_reducible rfl
     try simp only [Ro.p]
     refine Ro.tn 8 ?_ ?_ ?_
     rotate_left
     ·intro wS hSw; (try dsimp only at hSw); have z6 := (HOC4.out.same hSw).cell 6; simp only [Ws.q_] at z6; rw [HKW.out] at z6; go_simp; try with_reducible rfl
     try simp only [Ro.p]
     refine Ro.tn 9 ?_ ?_ ?_
     rotate_left
     ·intro wS hSw; (try dsimp only at hSw); go_simp; try with_reducible rfl
     try simp only [Ro.p]
     refine Ro.tn 10 ?_ ?_ ?_
     rotate_left
     ·intro wS hSw; (try dsimp only at hSw); go_simp; try with_reducible rfl
     try simp only [Ro.p]
     refine Ro.tn 11 ?_ ?_ ?_
     rotate_left
     ·intro wS hSw; (try dsimp only at hSw); have z2 := hSw.cell HT2.out; go_simp; try with_reducible rfl
     try simp only [Ro.p]
     refine Ro.tn 12 ?_ ?_ ?_
     rotate_left
     ·intro wS hSw; (try dsimp only at hSw); go_simp; try with_reducible rfl
     try simp only [Ro.p]
     refine Ro.one_on (i := 4) rfl (by kernel_rfl) (by rfl) (fun K hK => ?_)
     go_simp
     go_at_call 58
     refine (WA.out _ (HX4.out.trans hHeld)).mono ?_
     rintro e w8 ⟨rfl, s8⟩
     have HB8 := Lib.hid (show Blk w8 gx 71 #[.int .i64 o.k, .int .i64 o.sl, .int .i64 (failO o), .bool false, .int .i64 0, .int .i64 0] from by first | exact HBX.out.same s8 | exact HBX.out.same ((Same.refl w7).drew.trans s8))
     refine hK.out _ _ ?_ (fun hNew => ?_)
     ·exact hHeld.trans s8
     clear hK K hHeld; have hHeld := hNew; clear hNew
     try simp only [Ro.p]
     have tz := HB8.out.thaw 3
     have yz := HB8.out.cell 3
     simp only [Ws.q_] at yz
     refine Ro.one_on (i := 13) rfl (by kernel_rfl) (by rfl) (fun K hK => ?_)
     go_simp
     refine hK.out _ _ ?_ (fun hNew => ?_)
     ·exact Chg.set hHeld (.inr HGX.out) _
     clear hK K hHeld; have hHeld := hNew; clear hNew
     try simp only [Ro.p]
     clear tz yz
     obtain ⟨w9, hwz⟩ : ∃ w9, w9 = World.setCell w8 ⟨gx, 3, none⟩ (.bool true) := ⟨_, rfl⟩
     have HB9 := Lib.hid (show Blk w9 gx 71 #[.int .i64 o.k, .int .i64 o.sl, .int .i64 (failO o), .bool true, .int .i64 0, .int .i64 0] from by rw [hwz]; exact HB8.out.put 3 _)
     rw [← hwz] at hHeld ⊢
     clear hwz
     refine Ro.tn 14 ?_ ?_ ?_
     rotate_left
     ·intro wS hSw; (try dsimp only at hSw); go_simp; try with_reducible rfl
     try simp only [Ro.p]
     have tz := HB9.out.thaw 4
     have yz := HB9.out.cell 4
     simp only [Ws.q_] at yz
     refine Ro.one_on (i := 15) rfl (by kernel_rfl) (by rfl) (fun K hK => ?_)
     go_simp
     refine hK.out _ _ ?_ (fun hNew => ?_)
     ·exact Chg.set hHeld (.inr HGX.out) _
     clear hK K hHeld; have hHeld := hNew; clear hNew
     try simp only [Ro.p]
     clear tz yz
     obtain ⟨w10, hwz⟩ : ∃ w10, w10 = World.setCell w9 ⟨gx, 4, none⟩ (.int .i64 (demI s (kw : Int) (kk : Int) 18 19)) := ⟨_, rfl⟩
     have HB10 := Lib.hid (show Blk w10 gx 71 #[.int .i64 o.k, .int .i64 o.sl, .int .i64 (failO o), .bool true, .int .i64 (demI s (kw : Int) (kk : Int) 18 19), .int .i64 0] from by rw [hwz]; exact HB9.out.put 4 _)
     rw [← hwz] at hHeld ⊢
     clear hwz
     refine Ro.tn 16 ?_ ?_ ?_
     rotate_left
     ·intro wS hSw; (try dsimp only at hSw); go_simp; try with_reducible rfl
     try simp only [Ro.p]
     have tz := HB10.out.thaw 5
     have yz := HB10.out.cell 5
     simp only [Ws.q_] at yz
     refine Ro.one_on (i := 17) rfl (by kernel_rfl) (by rfl) (fun K hK => ?_)
     go_simp
     refine hK.out _ _ ?_ (fun hNew => ?_)
     ·exact Chg.set hHeld (.inr HGX.out) _
     clear hK K hHeld; have hHeld := hNew; clear hNew
     try simp only [Ro.p]
     clear tz yz
     obtain ⟨w11, hwz⟩ : ∃ w11, w11 = World.setCell w10 ⟨gx, 5, none⟩ (.int .i64 p.per) := ⟨_, rfl⟩
     have HB11 := Lib.hid (show Blk w11 gx 71 #[.int .i64 o.k, .int .i64 o.sl, .int .i64 (failO o), .bool true, .int .i64 (demI s (kw : Int) (kk : Int) 18 19), .int .i64 p.per] from by rw [hwz]; exact HB10.out.put 5 _)
     rw [← hwz] at hHeld ⊢
     clear hwz
     refine wpAnyH_done (by kernel_rfl) ?_ _
     have B1 := Lib.hid (B14.out.same hHeld)
     have HEND := Lib.hid (HX4.out.trans hHeld)
     clear hHeld
     obtain ⟨x0, x1, x2, x3, x4, x5⟩ := (⟨HB11.out.cell 0, HB11.out.cell 1, HB11.out.cell 2, HB11.out.cell 3, HB11.out.cell 4, HB11.out.cell 5⟩ : _ ∧ _ ∧ _ ∧ _ ∧ _ ∧ _)
     simp only [Ws.q_] at x0 x1 x2 x3 x4 x5
     go_wp2_with (first | (refine wpList_store_row rfl 71 (.tmp 6) (.tmp 61) rfl g #[.int .i64 o.k, .int .i64 o.sl, .int .i64 (failO o), .bool true, .int .i64 (demI s (kw : Int) (kk : Int) 18 19), .int .i64 p.per] rfl rfl 71 #[.int .i64 0, .int .i64 0, .int .i64 0, .bool false, .int .i64 0, .int .i64 0] B1.out HIF.out rfl (by simp [Value.oneCell']) ?_))
     refine bodyPost_ret (v := .agg #[.int .i64 o.k, .int .i64 o.sl, .int .i64 (failO o), .bool true, .int .i64 (demI s (kw : Int) (kk : Int) 18 19), .int .i64 p.per]) (res_cell1 Tryz.results36 _ _ g 71 #[.int .i64 o.k, .int .i64 o.sl, .int .i64 (failO o), .bool true, .int .i64 (demI s (kw : Int) (kk : Int) 18 19), .int .i64 p.per] (0, 0) _ rfl (Dm.rowb B1.out) Tryz.underlying71 rfl HIF.out) rfl ?_
     exact ⟨by rw [HD.out, HPT.out, HKW.out]; rfl, Dm.chgRow (S1.out.trans HEND.out) (.inr HGW.out) _⟩
   ·go_simp
    refine hK.out _ _ ?_ (fun hNew => ?_)
    ·exact hHeld.alloc _
    clear hK K hHeld; have hHeld := hNew; clear hNew
    try simp only [Ro.p]
    obtain ⟨wA, hwA⟩ : ∃ wA, wA = (w4.alloc (.cells #[.int .i64 0, .int .i64 0, .int .i64 0, .bool false, .int .i64 0, .int .i64 0] 71)).drew := ⟨_, rfl⟩
    obtain ⟨gx, hgx⟩ : ∃ gx, gx = w4.heap.size := ⟨_, rfl⟩
    have HBA := Lib.hid (show Blk wA gx 71 #[.int .i64 0, .int .i64 0, .int .i64 0, .bool false, .int .i64 0, .int .i64 0] by rw [hwA, hgx]; exact Blk.new _ _ _)
    have HSA := Lib.hid (show Same w4 wA by rw [hwA]; exact ((Same.refl _).alloc _).drew)
    have HGX := Lib.hid (show w4.heap.size ≤ gx by rw [hgx]; exact Nat.le_refl _)
    rw [← hwA, ← hgx]
    clear hHeld
    have hHeld : Same w4 wA := HSA.out
    clear hwA hgx HKP
    refine Ro.one_on (i := 5) rfl (by kernel_rfl) (by rfl) (fun K hK => ?_)
    go_simp
    go_at_call 56
    refine (FA.out _).mono ?_
    rintro e w5 ⟨rfl, s5⟩
    have HBA := Lib.hid (HBA.out.same s5)
    refine hK.out _ _ ?_ (fun hNew => ?_)
    ·exact hHeld.trans s5
    clear hK K hHeld; have hHeld := hNew; clear hNew
    try simp only [Ro.p]
    refine Ro.tn 6 ?_ ?_ ?_
    rotate_left
    ·intro wS hSw; (try dsimp only at hSw); go_simp; try with_reducible rfl
    try simp only [Ro.p]
    refine Ro.one_on (i := 8) rfl (by kernel_rfl) (by rfl) (fun K hK => ?_)
    refine wp_store_row 71 (.tmp 10) (.tmp 39) rfl gx #[.int .i64 o.k, .int .i64 o.sl, .int .i64 (failO o), .bool false, .int .i64 0, .int .i64 0] rfl rfl 71 #[.int .i64 0, .int .i64 0, .int .i64 0, .bool false, .int .i64 0, .int .i64 0] HBA.out HIF.out rfl (by simp [Value.oneCell']) ?_
    refine hK.out _ _ ?_ (fun hNew => ?_)
    ·exact Dm.chgRow hHeld (.inr HGX.out) _
    clear hK K hHeld; have hHeld := hNew; clear hNew
    try simp only [Ro.p]
    refine wpAnyH_done (by kernel_rfl) ?_ _
    have HBX := Lib.hid (show Blk (World.setRow w5 gx #[.int .i64 o.k, .int .i64 o.sl, .int .i64 (failO o), .bool false, .int .i64 0, .int .i64 0]) gx 71 #[.int .i64 o.k, .int .i64 o.sl, .int .i64 (failO o), .bool false, .int .i64 0, .int .i64 0] from Dm.rowb HBA.out)
    have HX5 := Lib.hid hHeld
    clear hHeld
    generalize World.setRow w5 gx #[.int .i64 o.k, .int .i64 o.sl, .int .i64 (failO o), .bool false, .int .i64 0, .int .i64 0] = w6 at *
    have B14 := Lib.hid (B1.out.same HX34.out)
    have HS36 := Lib.hid (HX34.out.trans HX5.out)
    have HS16 := Lib.hid (HX4.out.trans HX5.out)
    have c03 := c0
    have c13 := c1
    have c0 := HS36.out.cell c0
    have c1 := HS36.out.cell c1
    have HOC4 := Lib.hid HOC.out
    have HX46 := Lib.hid HX5.out
    have HOC := Lib.hid (HOC.out.same HX5.out)
    have B1 := Lib.hid (B1.out.same HS36.out)
    obtain ⟨o0, o1, o2, o3, o4, o5, o6, o7⟩ := (⟨HOC.out.cell 0, HOC.out.cell 1, HOC.out.cell 2, HOC.out.cell 3, HOC.out.cell 4, HOC.out.cell 5, HOC.out.cell 6, HOC.out.cell 7⟩ : _ ∧ _ ∧ _ ∧ _ ∧ _ ∧ _ ∧ _ ∧ _)
    simp only [Ws.q_] at o0 o1 o2 o3 o4 o5 o6 o7
    have AHW := Lib.hid (AH.out w6 HS16.out)
    have HC04 := Lib.hid (HX34.out.cell c03)
    have HC14 := Lib.hid (HX34.out.cell c13)
    clear AH FA HX34 HX5
    cases ha : Ah.aheadI s.ts o.ow i with
    | false =>
     have HD := Lib.hid (show ofR s i (kk : Int) = ⟨o.k, o.sl, failO o, false, 0, 0⟩ by rw [of_behind HRP.out (by unfold aheadP; rw [HOB.out]; exact ha), HOB.out])
     rw [ha] at AHW
     clear ha
     go_wp2_with fail
     refine AHW.out.mono ?_
     rintro e w7 ⟨rfl, s7⟩
     have B1 := Lib.hid (B1.out.same s7)
     have HS17 := Lib.hid (HS16.out.trans s7)
     have HBX := Lib.hid (HBX.out.same s7)
     clear s7 AHW o0 o1 o2 o3 o4 o5 o6 o7
     obtain ⟨x0, x1, x2, x3, x4, x5⟩ := (⟨HBX.out.cell 0, HBX.out.cell 1, HBX.out.cell 2, HBX.out.cell 3, HBX.out.cell 4, HBX.out.cell 5⟩ : _ ∧ _ ∧ _ ∧ _ ∧ _ ∧ _)
     simp only [Ws.q_] at x0 x1 x2 x3 x4 x5
     go_wp2_with (first | (refine wpList_store_row rfl 71 (.tmp 6) (.tmp 61) rfl g #[.int .i64 o.k, .int .i64 o.sl, .int .i64 (failO o), .bool false, .int .i64 0, .int .i64 0] rfl rfl 71 #[.int .i64 0, .int .i64 0, .int .i64 0, .bool false, .int .i64 0, .int .i64 0] B1.out HIF.out rfl (by simp [Value.oneCell']) ?_))
     refine bodyPost_ret (v := .agg #[.int .i64 o.k, .int .i64 o.sl, .int .i64 (failO o), .bool false, .int .i64 0, .int .i64 0]) (res_cell1 Tryz.results36 _ _ g 71 #[.int .i64 o.k, .int .i64 o.sl, .int .i64 (failO o), .bool false, .int .i64 0, .int .i64 0] (0, 0) _ rfl (Dm.rowb B1.out) Tryz.underlying71 rfl HIF.out) rfl ?_
     exact ⟨by rw [HD.out]; rfl, Dm.chgRow (S1.out.trans HS17.out) (.inr HGW.out) _⟩
    | true =>
     have HD := Lib.hid (show ofR s i (kk : Int) = ⟨o.k, o.sl, failO o, true, demI s o.ow (kk : Int) 18 19, (Ah.pt s.ts o.ow.toNat).per⟩ by rw [of_ahead HRP.out (by unfold aheadP; rw [HOB.out]; exact ha), HOB.out])
     have hin : Ah.inI s.ts.length o.ow := by
      by_cases g : Ah.inI s.ts.length o.ow ∧ Ah.inI s.ts.length i
      ·exact g.1
      ·rw [Ah.aheadI_no g] at ha; cases ha
     obtain ⟨kw, hkw⟩ := Int.eq_ofNat_of_zero_le hin.1
     have hkn : kw < s.ts.length := by have := hin.2; omega
     have w1' : (kw : Int) < n := by have := HS.out.hn; omega
     have w0' : (0 : Int) ≤ kw := by omega
     obtain ⟨p, hp⟩ : ∃ p, s.ts[kw]? = some p := ⟨s.ts[kw], List.getElem?_eq_getElem hkn⟩
     have HPT := Lib.hid (show (Ah.pt s.ts o.ow.toNat).per = p.per by rw [hkw]; unfold Ah.pt; rw [Int.toNat_natCast, List.getD_eq_getElem?_getD, hp]; rfl)
     obtain ⟨bA, oA, rfl, _, _, _, _, t2, _⟩ := (HS.out.ht.same HX4.out).at_ hp
     have HT2 := Lib.hid t2
     rw [ha] at AHW
     rw [hkw] at WA AHW o6
     have HKW := Lib.hid hkw
     clear ha hin hkw hkn hp t2
     go_wp2_with fail
     refine AHW.out.mono ?_
     rintro e w7 ⟨rfl, s7⟩
     have HS67 := Lib.hid s7
     have B1 := Lib.hid (B1.out.same s7)
     have HBX := Lib.hid (HBX.out.same s7)
     clear s7 AHW o0 o1 o2 o3 o4 o5 o6 o7
     go_wp2_with fail
     refine wp_region_held_drew (S := fun w' => Same w4 w') (by kernel_rfl) ?_ (fun hHeld => ?_)
     ·exact (HX46.out.trans HS67.out).drew
     refine Ro.tn 0 ?_ ?_ ?_
     rotate_left
     ·intro wS hSw; (try dsimp only at hSw); have z0 := hSw.cell HC04.out; have z1 := hSw.cell HC14.out; go_simp; try with_reducible rfl
     try simp only [Ro.p]
     refine Ro.tn 1 ?_ ?_ ?_
     rotate_left
     ·intro wS hSw; (try dsimp only at hSw); go_simp; try with_reducible rfl
     try simp only [Ro.p]
     refine Ro.tn 2 ?_ ?_ ?_
     rotate_left
     ·intro wS hSw; (try dsimp only at hSw); have z6 := (HOC4.out.same hSw).cell 6; simp only [Ws.q_] at z6; rw [HKW.out] at z6; go_simp; try with_reducible rfl
     try simp only [Ro.p]
     refine Ro.tn 3 ?_ ?_ ?_
     rotate_left
     ·intro wS hSw; (try dsimp only at hSw); go_simp; try with_reducible rfl
     try simp only [Ro.p]
     refine Ro.tn 5 ?_ ?_ ?_
     rotate_left
     ·intro wS hSw; (try dsimp only at hSw); go_simp; try with_reducible rfl
     try simp only [Ro.p]
     refine Ro.tn 6 ?_ ?_ ?_
     rotate_left
     ·intro wS hSw; (try dsimp only at hSw); have z0 := hSw.cell HC04.out; go_simp; try with_reducible rfl
     try simp only [Ro.p]
     refine Ro.tn 7 ?_ ?_ ?_
     rotate_left
     ·intro wS hSw; (try dsimp only at hSw); go_simp; try with_reducible rfl
     try simp only [Ro.p]
     refine Ro.tn 8 ?_ ?_ ?_
     rotate_left
     ·intro wS hSw; (try dsimp only at hSw); have z6 := (HOC4.out.same hSw).cell 6; simp only [Ws.q_] at z6; rw [HKW.out] at z6; go_simp; try with_reducible rfl
     try simp only [Ro.p]
     refine Ro.tn 9 ?_ ?_ ?_
     rotate_left
     ·intro wS hSw; (try dsimp only at hSw); go_simp; try with_reducible rfl
     try simp only [Ro.p]
     refine Ro.tn 10 ?_ ?_ ?_
     rotate_left
     ·intro wS hSw; (try dsimp only at hSw); go_simp; try with_reducible rfl
     try simp only [Ro.p]
     refine Ro.tn 11 ?_ ?_ ?_
     rotate_left
     ·intro wS hSw; (try dsimp only at hSw); have z2 := hSw.cell HT2.out; go_simp; try with_reducible rfl
     try simp only [Ro.p]
     refine Ro.tn 12 ?_ ?_ ?_
     rotate_left
     ·intro wS hSw; (try dsimp only at hSw); go_simp; try with_reducible rfl
     try simp only [Ro.p]
     refine Ro.one_on (i := 4) rfl (by kernel_rfl) (by rfl) (fun K hK => ?_)
     go_simp
     go_at_call 58
     refine (WA.out _ (HX4.out.trans hHeld)).mono ?_
     rintro e w8 ⟨rfl, s8⟩
     have HB8 := Lib.hid (show Blk w8 gx 71 #[.int .i64 o.k, .int .i64 o.sl, .int .i64 (failO o), .bool false, .int .i64 0, .int .i64 0] from by first | exact HBX.out.same s8 | exact HBX.out.same ((Same.refl w7).drew.trans s8))
     refine hK.out _ _ ?_ (fun hNew => ?_)
     ·exact hHeld.trans s8
     clear hK K hHeld; have hHeld := hNew; clear hNew
     try simp only [Ro.p]
     have tz := HB8.out.thaw 3
     have yz := HB8.out.cell 3
     simp only [Ws.q_] at yz
     refine Ro.one_on (i := 13) rfl (by kernel_rfl) (by rfl) (fun K hK => ?_)
     go_simp
     refine hK.out _ _ ?_ (fun hNew => ?_)
     ·exact Chg.set hHeld (.inr HGX.out) _
     clear hK K hHeld; have hHeld := hNew; clear hNew
     try simp only [Ro.p]
     clear tz yz
     obtain ⟨w9, hwz⟩ : ∃ w9, w9 = World.setCell w8 ⟨gx, 3, none⟩ (.bool true) := ⟨_, rfl⟩
     have HB9 := Lib.hid (show Blk w9 gx 71 #[.int .i64 o.k, .int .i64 o.sl, .int .i64 (failO o), .bool true, .int .i64 0, .int .i64 0] from by rw [hwz]; exact HB8.out.put 3 _)
     rw [← hwz] at hHeld ⊢
     clear hwz
     refine Ro.tn 14 ?_ ?_ ?_
     rotate_left
     ·intro wS hSw; (try dsimp only at hSw); go_simp; try with_reducible rfl
     try simp only [Ro.p]
     have tz := HB9.out.thaw 4
     have yz := HB9.out.cell 4
     simp only [Ws.q_] at yz
     refine Ro.one_on (i := 15) rfl (by kernel_rfl) (by rfl) (fun K hK => ?_)
     go_simp
     refine hK.out _ _ ?_ (fun hNew => ?_)
     ·exact Chg.set hHeld (.inr HGX.out) _
     clear hK K hHeld; have hHeld := hNew; clear hNew
     try simp only [Ro.p]
     clear tz yz
     obtain ⟨w10, hwz⟩ : ∃ w10, w10 = World.setCell w9 ⟨gx, 4, none⟩ (.int .i64 (demI s (kw : Int) (kk : Int) 18 19)) := ⟨_, rfl⟩
     have HB10 := Lib.hid (show Blk w10 gx 71 #[.int .i64 o.k, .int .i64 o.sl, .int .i64 (failO o), .bool true, .int .i64 (demI s (kw : Int) (kk : Int) 18 19), .int .i64 0] from by rw [hwz]; exact HB9.out.put 4 _)
     rw [← hwz] at hHeld ⊢
     clear hwz
     refine Ro.tn 16 ?_ ?_ ?_
     rotate_left
     ·intro wS hSw; (try dsimp only at hSw); go_simp; try with_reducible rfl
     try simp only [Ro.p]
     have tz := HB10.out.thaw 5
     have yz := HB10.out.cell 5
     simp only [Ws.q_] at yz
     refine Ro.one_on (i := 17) rfl (by kernel_rfl) (by rfl) (fun K hK => ?_)
     go_simp
     refine hK.out _ _ ?_ (fun hNew => ?_)
     ·exact Chg.set hHeld (.inr HGX.out) _
     clear hK K hHeld; have hHeld := hNew; clear hNew
     try simp only [Ro.p]
     clear tz yz
     obtain ⟨w11, hwz⟩ : ∃ w11, w11 = World.setCell w10 ⟨gx, 5, none⟩ (.int .i64 p.per) := ⟨_, rfl⟩
     have HB11 := Lib.hid (show Blk w11 gx 71 #[.int .i64 o.k, .int .i64 o.sl, .int .i64 (failO o), .bool true, .int .i64 (demI s (kw : Int) (kk : Int) 18 19), .int .i64 p.per] from by rw [hwz]; exact HB10.out.put 5 _)
     rw [← hwz] at hHeld ⊢
     clear hwz
     refine wpAnyH_done (by kernel_rfl) ?_ _
     have B1 := Lib.hid (B14.out.same hHeld)
     have HEND := Lib.hid (HX4.out.trans hHeld)
     clear hHeld
     obtain ⟨x0, x1, x2, x3, x4, x5⟩ := (⟨HB11.out.cell 0, HB11.out.cell 1, HB11.out.cell 2, HB11.out.cell 3, HB11.out.cell 4, HB11.out.cell 5⟩ : _ ∧ _ ∧ _ ∧ _ ∧ _ ∧ _)
     simp only [Ws.q_] at x0 x1 x2 x3 x4 x5
     go_wp2_with (first | (refine wpList_store_row rfl 71 (.tmp 6) (.tmp 61) rfl g #[.int .i64 o.k, .int .i64 o.sl, .int .i64 (failO o), .bool true, .int .i64 (demI s (kw : Int) (kk : Int) 18 19), .int .i64 p.per] rfl rfl 71 #[.int .i64 0, .int .i64 0, .int .i64 0, .bool false, .int .i64 0, .int .i64 0] B1.out HIF.out rfl (by simp [Value.oneCell']) ?_))
     refine bodyPost_ret (v := .agg #[.int .i64 o.k, .int .i64 o.sl, .int .i64 (failO o), .bool true, .int .i64 (demI s (kw : Int) (kk : Int) 18 19), .int .i64 p.per]) (res_cell1 Tryz.results36 _ _ g 71 #[.int .i64 o.k, .int .i64 o.sl, .int .i64 (failO o), .bool true, .int .i64 (demI s (kw : Int) (kk : Int) 18 19), .int .i64 p.per] (0, 0) _ rfl (Dm.rowb B1.out) Tryz.underlying71 rfl HIF.out) rfl ?_
     exact ⟨by rw [HD.out, HPT.out, HKW.out]; rfl, Dm.chgRow (S1.out.trans HEND.out) (.inr HGW.out) _⟩
 ·have er : (Sy.roleF s i k != 1) = true := by simpa using hr
  have HD := Lib.hid (show ofR s i k = zeroR from of_no (decide_eq_false (fun h => hr h.1)))
  clear hr
  generalize Sy.roleF s i k = ro at *
  go_wp2_with (first | (refine wpList_store_row rfl 71 (.tmp 6) (.tmp 27) rfl g #[.int .i64 0, .int .i64 0, .int .i64 0, .bool false, .int .i64 0, .int .i64 0] rfl rfl 71 #[.int .i64 0, .int .i64 0, .int .i64 0, .bool false, .int .i64 0, .int .i64 0] B1.out HIF.out rfl (by simp [Value.oneCell']) ?_))
  refine bodyPost_ret (v := .agg #[.int .i64 0, .int .i64 0, .int .i64 0, .bool false, .int .i64 0, .int .i64 0]) (res_cell1 Tryz.results36 _ _ g 71 #[.int .i64 0, .int .i64 0, .int .i64 0, .bool false, .int .i64 0, .int .i64 0] (0, 0) _ rfl (Dm.rowb B1.out) Tryz.underlying71 rfl HIF.out) rfl ?_
  exact ⟨by rw [HD.out]; rfl, Dm.chgRow (S1.out.trans HS2.out) (.inr HGW.out) _⟩
end Go.Proofs.YthhbhbfkbncegabGreatDoor.Sl
end
section
set_option linter.unusedVariables false
set_option linter.unusedSimpArgs false
namespace Go.Proofs.YthhbhbfkbncegabGreatDoor.Sl
open Go.ChangeShapes Go.WideShapes Go.ChangeAt Go.RowKit Ws
open Im (PT PO PS TsAt OsAt SysAt tcells ocells)
open Dm (demI dearI dearE)
theorem reads_info3 : (Tryz.prog.info? 71).map (fun i => (i.zero, i.size, i.bytes)) = some (some (.agg #[.int .i64 0, .int .i64 0, .int .i64 0, .bool false, .int .i64 0, .int .i64 0]), 6, 48) := by kernel_rfl
theorem rcells_one (x : SR) : ∀ u ∈ rcells x, u.oneCell' = true := by
 intro u hu
 simp only [rcells, List.mem_cons, List.not_mem_nil, or_false] at hu
 rcases hu with rfl | rfl | rfl | rfl | rfl | rfl <;> rfl
noncomputable def jobC (s : PS) (i : Int) : Int := if dearE s i 0 = 0 then dearI s i 0 else 0
noncomputable def jobR (s : PS) (i : Int) : List SR := if dearE s i 0 = 0 then jobL s i s.os.length else []
theorem job_is (s : PS) (i r : Int) : stepsR (jobC s i) (jobR s i) r = jobI s i r := by
 unfold jobC jobR jobI
 split <;> rfl
theorem job_no' {s : PS} {i : Int} (h : ¬ dearE s i 0 = 0) : jobC s i = 0 ∧ jobR s i = [] := ⟨if_neg h, if_neg h⟩
theorem job_yes' {s : PS} {i : Int} (h : dearE s i 0 = 0) : jobC s i = dearI s i 0 ∧ jobR s i = jobL s i s.os.length := ⟨if_pos h, if_pos h⟩
def JobP (w : World) (s : PS) (i : Int) (e : Ending) (w' : World) : Prop := ∃ RA rc, e = .returned (.agg #[.int .i64 (jobC s i), .slice RA (jobR s i).length rc]) ∧ Row w' RA ((jobR s i).flatMap rcells) ∧ Same w w'
theorem jobP_mk {w w' : World} {s : PS} {i cl : Int} {RA : Option Addr} {k rc : Nat} (h1 : cl = jobC s i) (h2 : k = (jobR s i).length) (h3 : Row w' RA ((jobR s i).flatMap rcells)) (h4 : Same w w') : JobP w s i (.returned (.agg #[.int .i64 cl, .slice RA k rc])) w' := by
 subst h1 h2
 exact ⟨RA, rc, rfl, h3, h4⟩
theorem of_sl' {s : PS} {i k : Int} (h : ∀ o ∈ s.os, o.sl ≤ 9223372036854775807) : (ofR s i k).sl ≤ 9223372036854775807 := by
 cases g : readsP s i k with
 | false => rw [of_no g]; decide
 | true =>
  rw [(of_k g).2.1]
  unfold obj
  rw [List.getD_eq_getElem?_getD]
  cases e : s.os[k.toNat]? with
  | none => decide
  | some o => exact h o (List.mem_of_getElem? e)
theorem job_sl {s : PS} {i : Int} (h : ∀ o ∈ s.os, o.sl ≤ 9223372036854775807) : ∀ x ∈ jobR s i, x.sl ≤ 9223372036854775807 := by
 intro x hx
 unfold jobR at hx
 split at hx
 ·unfold jobL at hx
  obtain ⟨k, _, rfl⟩ := List.mem_map.1 hx
  exact of_sl' h
 ·cases hx
theorem job_len {s : PS} {i : Int} {m : Nat} (hm : s.os.length = m) (ho : Sy.OFew s.os 5000) : ((jobR s i).length : Int) ≤ 9223372036854775807 := by
 have := ho.1
 unfold jobR
 split
 ·rw [jobL_len]; omega
 ·simp
theorem row_set {w : World} {B : Nat} {e : TypeId} {s : Nat} {A : Option Addr} {n c : Nat} {l : List Value} (h : OwnK w B e s A n c l) {g : Nat} (hg : g < B) (cs : Array Value) : Row (World.setRow w g cs) A l := by
 have hc : Chg (fun i => i = g) w (World.setRow w g cs) := Dm.chgRow (S := fun i => i = g) (Chg.refl _ w) (.inl rfl) cs
 exact (h.chg hc (fun g' e' f => by subst f; have := h.base_ge _ e'; omega)).row
/-- what stands between two objects -/
structure JI (w1 : World) (gj gB : Nat) (s : PS) (i cl : Int) (RA : Option Addr) (k rc : Nat) (W : World) : Prop where
 b : Blk W gj 64 #[.int .i64 cl, .slice RA k rc]
 o : OwnK W gB 71 6 RA k rc ((jobL s i k).flatMap rcells)
 same : Same w1 W
 sz : gB ≤ W.heap.size
set_option maxRecDepth 100000 in
set_option maxHeartbeats 4000000 in
theorem jobof_any (A B : Option Addr) (n c m d : Nat) (s : PS) (i : Int) (w : World) (hs : SysAt w A n B m s) (hnm : n ≤ maxLen ∧ m ≤ maxLen) (hf : ∀ p ∈ s.ts, p.code.length ≤ 200) (ho : Sy.OFew s.os 5000) (hT : Is.Tabs w) :
 Calls Tryz.prog 28 #[.agg #[.slice A n c, .slice B m d], .int .i64 i] w (JobP w s i) := by
 obtain ⟨i0, hi, hz0, hz1, hz2⟩ := info_parts reads_info3
 have hmb : m ≤ 5000 := by have := ho.1; rw [hs.hm] at this; omega
 obtain ⟨w0, hw0⟩ : ∃ w0, w0 = w.alloc (.cells #[.slice A n c, .slice B m d] 25) := ⟨_, rfl⟩
 obtain ⟨q0, hq0⟩ : ∃ q0, q0 = w.heap.size := ⟨_, rfl⟩
 obtain ⟨g, hg⟩ : ∃ g, g = w0.heap.size := ⟨_, rfl⟩
 obtain ⟨w1, hw1⟩ : ∃ w1, w1 = w0.alloc (.cells #[.int .i64 0, .slice none 0 0] 64) := ⟨_, rfl⟩
 have s0 : Same w w0 := hw0 ▸ (Same.refl w).alloc _
 have s1 : Same w0 w1 := hw1 ▸ (Same.refl w0).alloc _
 have b0 : Blk w0 q0 25 #[.slice A n c, .slice B m d] := by rw [hw0, hq0]; exact Blk.new w _ _
 have b1 : Blk w1 g 64 #[.int .i64 0, .slice none 0 0] := by rw [hw1, hg]; exact Blk.new w0 _ _
 have HE0 := Lib.hid hw0
 have HE1 := Lib.hid hw1
 have HQ0 := Lib.hid hq0
 have HG := Lib.hid (show q0 + 1 = g by rw [hg, hw0, hq0]; show _ = (w.heap.push _).size; rw [Array.size_push])
 have S1 := Lib.hid (s0.trans s1)
 have HGW := Lib.hid (show w.heap.size ≤ g by rw [hg]; exact s0.size)
 have HM := Lib.hid hs.hm
 have B0 := Lib.hid (b0.same s1)
 have B1 := Lib.hid b1
 have B1o := Lib.hid b1
 have HQ1 := Lib.hid (show q0 < w1.heap.size from (b0.same s1).lt)
 have CL := Lib.hid (Dm.clean36_any A B n c m d s i w1 (hs.same (s0.trans s1)) hf (hT.same (s0.trans s1)))
 have OF := Lib.hid (fun (k : Int) W (h : Same w1 W) => of_any A B n c m d s i k W (hs.same ((s0.trans s1).trans h)) hnm hf ho (hT.same ((s0.trans s1).trans h)))
 obtain ⟨c0, c1⟩ := (⟨(b0.same s1).cell 0, (b0.same s1).cell 1⟩ : _ ∧ _)
 simp only [Ws.q_] at c0 c1
 have HIF := Lib.hid (show (Tryz.prog.info? 64).map (·.size) = some (#[.int .i64 0, .slice none 0 0] : Array Value).size by kernel_rfl)
 have HG1 := Lib.hid (show g < w1.heap.size from b1.lt)
 clear hw0 hw1 hg hq0 s0 s1 b0 b1 hs hT hf ho
 go_enter Tryz.func28, Tryz.ntmps28
 go_upto_region 1 with fail
 rw [← HQ0.out, HG.out, ← HE0.out, ← HE1.out]
 clear HE0 HE1
 go_wp2_with fail
 refine CL.out.mono ?_
 rintro e w2 ⟨rfl, s2⟩
 clear CL
 have HS2 := Lib.hid s2
 have c0 := s2.cell c0
 have c1 := s2.cell c1
 have B1 := Lib.hid (B1.out.same s2)
 clear s2
 by_cases he : dearE s i 0 = 0
 ·have HJ := Lib.hid (job_yes' he)
  have ee : (dearE s i 0 != 0) = false := by simpa using he
  clear he
  generalize dearE s i 0 = de at *
  generalize dearI s i 0 = cl at *
  have BN := Lib.hid (Blk.new w2 64 #[.int .i64 0, .slice none 0 0])
  have HX := Lib.hid ((Same.refl w2).alloc (.cells #[.int .i64 0, .slice none 0 0] 64))
  obtain ⟨gj, hgj⟩ : ∃ gj, gj = w2.heap.size := ⟨_, rfl⟩
  have HGJ := Lib.hid hgj
  clear hgj
  go_upto_region 5 with (first | (refine wpList_store_row rfl 64 (.tmp 7) (.tmp 19) rfl w2.heap.size #[.int .i64 cl, .slice none 0 0] rfl rfl 64 #[.int .i64 0, .slice none 0 0] BN.out HIF.out rfl (by simp [Value.oneCell']) ?_))
  obtain ⟨wJ, hwJ⟩ : ∃ x, x = World.setRow (w2.alloc (.cells #[.int .i64 0, .slice none 0 0] 64)) w2.heap.size #[.int .i64 cl, .slice none 0 0] := ⟨_, rfl⟩
  have BJ := Lib.hid (show Blk wJ gj 64 #[.int .i64 cl, .slice none 0 0] by rw [hwJ, HGJ.out]; exact Dm.rowb BN.out)
  have SJ := Lib.hid (show Same w2 wJ by rw [hwJ]; exact Dm.chgRow HX.out (.inr (Nat.le_refl _)) _)
  rw [← hwJ, ← HGJ.out]
  have c0 := SJ.out.cell c0
  have c1 := SJ.out.cell c1
  have HGB := Lib.hid (show w1.heap.size ≤ gj from by rw [HGJ.out]; exact HS2.out.size)
  clear hwJ HX BN
  obtain ⟨gB, hgB⟩ : ∃ gB, gB = wJ.heap.size := ⟨_, rfl⟩
  have W0 := Lib.hid (show JI w1 gj gB s i cl none 0 0 wJ from ⟨BJ.out, OwnK.none _ _ _ _, HS2.out.trans SJ.out, by rw [hgB]; exact Nat.le_refl _⟩)
  have HLT := Lib.hid (show gj < gB from by rw [hgB]; exact BJ.out.lt)
  clear hgB BJ
  go_wp2_with fail
  go_loopg [23] m (fun gk iv wx => ∃ (k : Nat) (RA : Option Addr) (rc : Nat), k + gk = m ∧ iv = .int .i64 (k : Int) ∧ Hid (JI w1 gj gB s i cl RA k rc wx))
  case atStart => exact ⟨0, none, 0, by omega, rfl, W0⟩
  case round =>
   obtain ⟨k, RA, rc, hk, rfl, HW⟩ := hrel
   clear W0 c0 c1 SJ
   cases gk with
   | zero =>
    obtain rfl : k = m := by omega
    have hge : ¬ (k : Int) < k := by omega
    have BQ := Lib.hid (HW.out.b)
    obtain ⟨z0, z1⟩ := (⟨BQ.out.cell 0, BQ.out.cell 1⟩ : _ ∧ _)
    simp only [Ws.q_] at z0 z1
    have BR := Lib.hid (show Blk wr g 64 #[.int .i64 0, .slice none 0 0] from B1o.out.same HW.out.same)
    go_wp2_with (first | (refine wpList_store_row rfl 64 (.tmp 4) (.tmp 36) rfl g #[.int .i64 cl, .slice RA k rc] rfl rfl 64 #[.int .i64 0, .slice none 0 0] BR.out HIF.out rfl (by simp [Value.oneCell']) ?_))
    refine bodyPost_ret (v := .agg #[.int .i64 cl, .slice RA k rc]) (res_cell1 Tryz.results28 _ _ g 64 #[.int .i64 cl, .slice RA k rc] (0, 0) _ rfl (Dm.rowb BR.out) Tryz.underlying64 rfl HIF.out) rfl ?_
    have hc : Same w1 wr := HW.out.same
    refine jobP_mk HJ.out.1.symm (by rw [HJ.out.2, jobL_len, HM.out]) ?_ (Dm.chgRow (S1.out.trans hc) (.inr HGW.out) _)
    ·rw [HJ.out.2, HM.out]
     exact row_set HW.out.o (by have := HG1.out; have := HGB.out; have := HLT.out; omega) _
   | succ GK =>
    have hlt : (k : Int) < m := by omega
    have hk0 : (0 : Int) ≤ k := by omega
    have HKK := Lib.hid hk
    have hgg := HGB.out
    have hgl := HLT.out
    have hq1 := HQ1.out
    have hkb : k ≤ 5000 := by omega
    clear hk
    obtain ⟨x, hx⟩ : ∃ x, x = ofR s i (k : Int) := ⟨_, rfl⟩
    have OFK := Lib.hid (OF.out (k : Int))
    rw [← hx] at OFK
    have HX := Lib.hid hx
    clear hx
    obtain ⟨xk, xs, xf, xa, xw, xp⟩ := x
    replace OFK := Lib.hid (show ∀ W, Same w1 W → Calls Tryz.prog 36 #[.agg #[.slice A n c, .slice B m d], .int .i64 i, .int .i64 (k : Int)] W fun e w' => e = .returned (.agg #[.int .i64 xk, .int .i64 xs, .int .i64 xf, .bool xa, .int .i64 xw, .int .i64 xp]) ∧ Same W w' from OFK.out)
    go_wp2_with fail
    refine Hb.region_b (S := fun w' => w'.cell? ⟨q0, 0, none⟩ = some (.slice A n c) ∧ w'.cell? ⟨q0, 1, none⟩ = some (.slice B m d)) (T := fun w' => w'.cell? ⟨gj, 1, none⟩ = some (.slice RA k rc)) (Hd := fun i => decide (i < 9)) (by kernel_rfl) ?_
    have hs : Same wr wr.drew := (Same.refl _).drew
    have BJ := Lib.hid (HW.out.b.same hs)
    have OR := Lib.hid (HW.out.o.same hs)
    have SM := Lib.hid (HW.out.same.trans hs)
    have SZ := Lib.hid (Nat.le_trans HW.out.sz hs.size)
    have B0 := Lib.hid (B0.out.same (HW.out.same.trans hs))
    clear hs HW
    obtain ⟨wd, hwd⟩ : ∃ wd, wd = wr.drew := ⟨_, rfl⟩
    rw [← hwd] at BJ OR SM SZ B0
    rw [← hwd]
    clear hwd
    have hHeld' := (show wd.cell? ⟨q0, 0, none⟩ = some (.slice A n c) ∧ wd.cell? ⟨q0, 1, none⟩ = some (.slice B m d) from ⟨B0.out.cell 0, B0.out.cell 1⟩)
    have hTop' := (show wd.cell? ⟨gj, 1, none⟩ = some (.slice RA k rc) from BJ.out.cell 1)
    have hHeld := hHeld'
    have hTop := hTop'
    clear hHeld' hTop'
    refine Hb.b_take (i := 0) (v := ?_) rfl (by kernel_rfl) (by kernel_rfl) (by kernel_rfl) (fun _ _ _ h => h) (by rfl) hHeld ?_ ?_
    rotate_left
    ·intro wS hSw; (try dsimp only at hSw); go_simp; try with_reducible rfl
    try simp only [Ro.p]
    refine Hb.b_take (i := 2) (v := ?_) rfl (by kernel_rfl) (by kernel_rfl) (by kernel_rfl) (fun _ _ _ h => h) (by rfl) hHeld ?_ ?_
    rotate_left
    ·intro wS hSw; (try dsimp only at hSw); go_simp; try with_reducible rfl
    try simp only [Ro.p]
    refine Hb.b_take (i := 3) (v := ?_) rfl (by kernel_rfl) (by kernel_rfl) (by kernel_rfl) (fun _ _ _ h => h) (by rfl) hHeld ?_ ?_
    rotate_left
    ·intro wS hSw; (try dsimp only at hSw); go_simp; try with_reducible rfl
    try simp only [Ro.p]
    refine Hb.b_take (i := 4) (v := ?_) rfl (by kernel_rfl) (by kernel_rfl) (by kernel_rfl) (fun _ _ _ h => h) (by rfl) hHeld ?_ ?_
    rotate_left
    ·intro wS hSw; (try dsimp only at hSw); go_simp; try with_reducible rfl
    try simp only [Ro.p]
    refine Hb.b_take_t (i := 1) (v := ?_) (by kernel_rfl) rfl (by kernel_rfl) (by kernel_rfl) (by kernel_rfl) (fun _ _ _ h => h) (by rfl) hHeld hTop ?_ ?_
    rotate_left
    ·intro wS hSw hTw; (try dsimp only at hSw hTw); go_simp; try with_reducible rfl
    try simp only [Ro.p]
    refine Hb.b_one (i := 5) rfl (by kernel_rfl) (by rfl) (fun K hK => ?_)
    go_simp
    go_at_call 36
    refine (OFK.out _ SM.out).mono ?_
    rintro e wo ⟨rfl, so⟩
    have BJ := Lib.hid (BJ.out.same so)
    have OR := Lib.hid (OR.out.same so)
    have B0 := Lib.hid (B0.out.same so)
    have SM := Lib.hid (SM.out.trans so)
    have SZ := Lib.hid (Nat.le_trans SZ.out so.size)
    clear so
    have hHeld' := (show wo.cell? ⟨q0, 0, none⟩ = some (.slice A n c) ∧ wo.cell? ⟨q0, 1, none⟩ = some (.slice B m d) from ⟨B0.out.cell 0, B0.out.cell 1⟩)
    have hTop' := (show wo.cell? ⟨gj, 1, none⟩ = some (.slice RA k rc) from BJ.out.cell 1)
    refine hK.out _ _ hHeld' (fun _ _ => hTop') ?_
    clear hK K hHeld hTop
    have hHeld := hHeld'
    have hTop := hTop'
    clear hHeld' hTop'
    try simp only [Ro.p]
    refine Hb.b_one (i := 6) rfl (by kernel_rfl) (by rfl) (fun K hK => ?_)
    go_simp
    obtain ⟨wb, hn⟩ : ∃ x, x = wo.alloc (.cells #[.int .i64 xk, .int .i64 xs, .int .i64 xf, .bool xa, .int .i64 xw, .int .i64 xp] 71) := ⟨_, rfl⟩
    obtain ⟨gb, hg⟩ : ∃ g, g = wo.heap.size := ⟨_, rfl⟩
    have hs : Same wo wb := by rw [hn]; exact (Same.refl _).alloc _
    have RB := Lib.hid (show Blk wb gb 71 #[.int .i64 xk, .int .i64 xs, .int .i64 xf, .bool xa, .int .i64 xw, .int .i64 xp] from by rw [hn, hg]; exact Blk.new wo _ _)
    rw [← hn, ← hg]
    clear hn hg
    have BJ := Lib.hid (BJ.out.same hs)
    have OR := Lib.hid (OR.out.same hs)
    have B0 := Lib.hid (B0.out.same hs)
    have SM := Lib.hid (SM.out.trans hs)
    have SZ := Lib.hid (Nat.le_trans SZ.out hs.size)
    clear hs
    have hHeld' := (show wb.cell? ⟨q0, 0, none⟩ = some (.slice A n c) ∧ wb.cell? ⟨q0, 1, none⟩ = some (.slice B m d) from ⟨B0.out.cell 0, B0.out.cell 1⟩)
    have hTop' := (show wb.cell? ⟨gj, 1, none⟩ = some (.slice RA k rc) from BJ.out.cell 1)
    refine hK.out _ _ hHeld' (fun _ _ => hTop') ?_
    clear hK K hHeld hTop
    have hHeld := hHeld'
    have hTop := hTop'
    clear hHeld' hTop'
    try simp only [Ro.p]
    refine Hb.b_one (i := 7) rfl (by kernel_rfl) (by rfl) (fun K hK => ?_)
    refine Ra.oper_app (.tmp 27) (.tmp 32) 62 rfl gB 71 i0 _ 6 48 Tryz.underlying62 hi hz0 hz1 hz2 rfl (by omega) RA k rc _ rfl OR.out (some ⟨gb, 0, none⟩) 1 1 [.int .i64 xk, .int .i64 xs, .int .i64 xf, .bool xa, .int .i64 xw, .int .i64 xp] rfl rfl (Cs.blk_row RB.out) (rcells_one ⟨xk, xs, xf, xa, xw, xp⟩) (by omega) (by omega) SZ.out (k + 1) rfl ?_
    intro R1 r1 wa ho hc
    try simp only [Ro.p]
    have BJ := Lib.hid (BJ.out.chg hc (fun h => by have := OR.out.base_ge gj h; omega))
    have B0 := Lib.hid (B0.out.chg hc (fun h => by have := OR.out.base_ge q0 h; omega))
    have SM := Lib.hid (Same.more SM.out hc (fun g h => by have := OR.out.base_ge g h; omega))
    have SZ := Lib.hid (Nat.le_trans SZ.out hc.size)
    have OR := Lib.hid ho
    clear ho hc
    have hHeld' := (show wa.cell? ⟨q0, 0, none⟩ = some (.slice A n c) ∧ wa.cell? ⟨q0, 1, none⟩ = some (.slice B m d) from ⟨B0.out.cell 0, B0.out.cell 1⟩)
    have hTop' := (show wa.cell? ⟨gj, 1, none⟩ = some (.slice RA k rc) from BJ.out.cell 1)
    refine hK.out _ _ hHeld' (fun _ _ => hTop') ?_
    clear hK K hHeld hTop
    have hHeld := hHeld'
    have hTop := hTop'
    clear hHeld' hTop'
    try simp only [Ro.p]
    refine Hb.b_take (i := 8) (v := ?_) rfl (by kernel_rfl) (by kernel_rfl) (by kernel_rfl) (fun _ _ _ h => h) (by rfl) hHeld ?_ ?_
    rotate_left
    ·intro wS hSw; (try dsimp only at hSw); go_simp; try with_reducible rfl
    try simp only [Ro.p]
    refine Hb.b_one (i := 9) rfl (by kernel_rfl) (by rfl) (fun K hK => ?_)
    have z1 := BJ.out.cell 1
    simp only [Ws.q_] at z1
    have f1 := BJ.out.thaw 1
    go_simp
    obtain ⟨we, hn⟩ : ∃ x, x = wa.setCell ⟨gj, 1, none⟩ (.slice R1 (k + 1) r1) := ⟨_, rfl⟩
    have hc : Chg (fun i => i = gj) wa we := by rw [hn]; exact (Chg.refl (fun i => i = gj) wa).set (p := ⟨gj, 1, none⟩) (.inl rfl) _
    have BJ := Lib.hid (show Blk we gj 64 _ from by rw [hn]; exact BJ.out.put 1 _)
    rw [← hn]
    clear hn z1 f1
    have B0 := Lib.hid (B0.out.chg hc (by omega))
    have OR := Lib.hid (OR.out.chg hc (fun g h e => by have := OR.out.base_ge g h; omega))
    have SM := Lib.hid (Same.more SM.out hc (fun g h => by omega))
    have SZ := Lib.hid (Nat.le_trans SZ.out hc.size)
    clear hc
    have hHeld' := (show we.cell? ⟨q0, 0, none⟩ = some (.slice A n c) ∧ we.cell? ⟨q0, 1, none⟩ = some (.slice B m d) from ⟨B0.out.cell 0, B0.out.cell 1⟩)
    refine hK.out _ _ hHeld' (fun h => by simp at h) ?_
    clear hK K hHeld hTop
    try simp only [Ro.p]
    refine Hb.anyB_done (by kernel_rfl) ?_ _
    clear hHeld'
    go_wp2_with fail
    go_roundg GK
    case measure => omega
    case rel =>
     refine ⟨k + 1, R1, r1, by have := HKK.out; omega, by go_num, Lib.hid ⟨BJ.out, ?_, SM.out, SZ.out⟩⟩
     have h := OR.out
     rw [jobL_succ, List.flatMap_append, ← HX.out]
     simpa [rcells] using h
 ·have HJ := Lib.hid (job_no' he)
  have ee : (dearE s i 0 != 0) = true := by simpa using he
  clear he
  generalize dearE s i 0 = de at *
  generalize dearI s i 0 = cl at *
  go_wp2_with (first | (refine wpList_store_row rfl 64 (.tmp 4) (.tmp 17) rfl g #[.int .i64 0, .slice none 0 0] rfl rfl 64 #[.int .i64 0, .slice none 0 0] B1.out HIF.out rfl (by simp [Value.oneCell']) ?_))
  refine bodyPost_ret (v := .agg #[.int .i64 0, .slice none 0 0]) (res_cell1 Tryz.results28 _ _ g 64 #[.int .i64 0, .slice none 0 0] (0, 0) _ rfl (Dm.rowb B1.out) Tryz.underlying64 rfl HIF.out) rfl ?_
  exact jobP_mk HJ.out.1.symm (by rw [HJ.out.2]; rfl) (by rw [HJ.out.2]; intro j u hj; cases hj) (Dm.chgRow (S1.out.trans HS2.out) (.inr HGW.out) _)

set_option maxRecDepth 100000 in
theorem ijob_any (A B : Option Addr) (n c m d : Nat) (s : PS) (i : Int) (r : Int) (br : -9223372036854775808 ≤ r ∧ r ≤ 9223372036854775807) (hsl : ∀ o ∈ s.os, o.sl ≤ 9223372036854775807) (w : World) (hs : SysAt w A n B m s) (hnm : n ≤ maxLen ∧ m ≤ maxLen) (hf : ∀ p ∈ s.ts, p.code.length ≤ 200) (ho : Sy.OFew s.os 5000) (hT : Is.Tabs w) :
 Calls Tryz.prog 11 #[.agg #[.slice A n c, .slice B m d], .int .i64 i, .int .i64 r] w fun e w' => e = .returned (.int .i64 (jobI s i r)) ∧ Same w w' := by
 obtain ⟨w0, hw0⟩ : ∃ w0, w0 = w.alloc (.cells #[.slice A n c, .slice B m d] 25) := ⟨_, rfl⟩
 obtain ⟨g, hg⟩ : ∃ g, g = w.heap.size := ⟨_, rfl⟩
 have s0 : Same w w0 := hw0 ▸ (Same.refl w).alloc _
 have b0 : Blk w0 g 25 #[.slice A n c, .slice B m d] := by rw [hw0, hg]; exact Blk.new w _ _
 have HE0 := Lib.hid hw0
 have HG := Lib.hid hg
 have S0 := Lib.hid s0
 obtain ⟨c0, c1⟩ := (⟨b0.cell 0, b0.cell 1⟩ : _ ∧ _)
 simp only [Ws.q_] at c0 c1
 have JO := Lib.hid (jobof_any A B n c m d s i w0 (hs.same s0) hnm hf ho (hT.same s0))
 have LM := Lib.hid (fun RA rc W (h : Row W RA ((jobR s i).flatMap rcells)) => steps_any (jobC s i) RA (jobR s i).length rc (jobR s i) r br (job_sl hsl) W rfl (job_len hs.hm ho) h)
 have HJ := Lib.hid (job_is s i r)
 clear hw0 hg s0 b0 hs hT hf ho
 unfold JobP at JO
 generalize jobC s i = cl at *
 generalize jobR s i = l at *
 go_enter Tryz.func11, Tryz.ntmps11
 go_upto_region 1 with fail
 rw [← HE0.out, ← HG.out]
 clear HE0 HG
 go_wp2_with fail
 refine JO.out.mono ?_
 rintro e w1 ⟨RA, rc, rfl, hr, s1⟩
 have LR := Lib.hid (LM.out RA rc w1 hr)
 clear hr
 go_wp2_with fail
 refine LR.out.mono ?_
 rintro e w2 ⟨rfl, s2⟩
 go_wp2_with fail
 go_ret
 exact ⟨Wd.ret_int HJ.out, S0.out.trans (s1.trans s2)⟩
end Go.Proofs.YthhbhbfkbncegabGreatDoor.Sl
end
