/-

 Package spoil: Of: the reads that a task makes of an object, and who writes it.
-/
import Derived.Test.YthhbhbfkbncegabGreatDoorSplSpec
import Derived.Test.YthhbhbfkbncegabGreatDoorDmdMost
import Derived.Test.YthhbhbfkbncegabGreatDoorRegionOff
import Derived.Laws.Tables
import Derived.Deep.RegionHeld3
set_option linter.unusedVariables false
set_option linter.unusedSimpArgs false
namespace Go.Proofs.YthhbhbfkbncegabGreatDoor.Sl
open Go.ChangeShapes Go.WideShapes Go.ChangeAt Go.RowKit Ws
open Im (PT PO PS TsAt OsAt SysAt tcells ocells)
open Dm (demI dearI dearE)
theorem res_cell1 {P : Program} {fn : Func} {p : Tmp} {ty : TypeId} (h : fn.results = #[.cell p ty]) (tmps : Array Value) (w : World) (g : Nat) (T : TypeId) (cs : Array Value) (fr : Nat × Nat) (d : TypeDesc)
 (hp : tmps.getD p undef = .pointer (some ⟨g, 0, none⟩)) (hg : w.heap[g]? = some (.cells cs T fr))
 (hu : P.underlying ty = some d) (hd : (match d with | .struct _ | .array _ _ => true | _ => false) = true) (hi : (P.info? ty).map (·.size) = some cs.size) :
 (results fn tmps).run P w = .ok (.agg cs) w := by
 have hp' : tmps[p]?.getD undef = .pointer (some ⟨g, 0, none⟩) := by simpa using hp
 simp [results, h, hp', asAddr, run_loadVar_row w g T ty cs fr d hg hu hd hi]
theorem role_in {s : PS} {i k : Int} (h : Sy.roleF s i k ≠ 0) : (0 ≤ i ∧ i < s.ts.length) ∧ 0 ≤ k ∧ k < s.os.length := by
 by_cases g : (0 ≤ i ∧ i < s.ts.length) ∧ 0 ≤ k ∧ k < s.os.length
 ·exact g
 ·exact absurd (if_neg g) h
set_option maxRecDepth 100000 in
set_option maxHeartbeats 4000000 in
theorem of_any (A B : Option Addr) (n c m d : Nat) (s : PS) (i k : Int) (w : World) (hs : SysAt w A n B m s) (hnm : n ≤ maxLen ∧ m ≤ maxLen) (hf : ∀ p ∈ s.ts, p.code.length ≤ 200) (ho : Sy.OFew s.os 5000) (hT : Is.Tabs w) :
 Calls Tryz.prog 36 #[.agg #[.slice A n c, .slice B m d], .int .i64 i, .int .i64 k] w fun e w' => e = .returned (.agg (rcells (ofR s i k)).toArray) ∧ Same w w' := by
 obtain ⟨w0, hw0⟩ : ∃ w0, w0 = w.alloc (.cells #[.slice A n c, .slice B m d] 25) := ⟨_, rfl⟩
 obtain ⟨g, hg⟩ : ∃ g, g = w0.heap.size := ⟨_, rfl⟩
 obtain ⟨w1, hw1⟩ : ∃ w1, w1 = w0.alloc (.cells #[.int .i64 0, .int .i64 0, .int .i64 0, .bool false, .int .i64 0, .int .i64 0] 71) := ⟨_, rfl⟩
 have s0 : Same w w0 := hw0 ▸ (Same.refl w).alloc _
 have s1 : Same w0 w1 := hw1 ▸ (Same.refl w0).alloc _
 have b0 : Blk w0 w.heap.size 25 #[.slice A n c, .slice B m d] := hw0 ▸ Blk.new w _ _
 have b1 : Blk w1 g 71 #[.int .i64 0, .int .i64 0, .int .i64 0, .bool false, .int .i64 0, .int .i64 0] := by rw [hw1, hg]; exact Blk.new w0 _ _
 have HE0 := Lib.hid hw0
 have HE1 := Lib.hid hw1
 have HG := Lib.hid (show w.heap.size + 1 = g by rw [hg, hw0]; show _ = (w.heap.push _).size; rw [Array.size_push])
 have S1 := Lib.hid (s0.trans s1)
 have HS := Lib.hid (hs.same (s0.trans s1))
 have HF := Lib.hid hf
 have HT := Lib.hid (hT.same (s0.trans s1))
 have HGW := Lib.hid (show w.heap.size ≤ g by rw [hg]; exact s0.size)
 have B0 := Lib.hid (b0.same s1)
 have B1 := Lib.hid b1
 have RO := Lib.hid (Sy.role_any A B n c m d s i k w1 (hs.same (s0.trans s1)) ho)
 have RD := Lib.hid (fun W (h : Same w1 W) => Dm.reads_any A B n c m d s i k W (hs.same ((s0.trans s1).trans h)) hnm hf (hT.same ((s0.trans s1).trans h)))
 obtain ⟨c0, c1⟩ := (⟨(b0.same s1).cell 0, (b0.same s1).cell 1⟩ : _ ∧ _)
 simp only [Ws.q_] at c0 c1
 clear hw0 hw1 hg s0 s1 b0 b1 hs hT hf ho
 go_enter Tryz.func36, Tryz.ntmps36
 go_upto_region 1 with fail
 rw [HG.out, ← HE0.out, ← HE1.out]
 clear HE0 HE1
 go_wp2_with fail
 refine RO.out.mono ?_
 rintro e w2 ⟨rfl, s2⟩
 clear RO
 have HS2 := Lib.hid s2
 have c0 := s2.cell c0
 have c1 := s2.cell c1
 have B0 := Lib.hid (B0.out.same s2)
 have B1 := Lib.hid (B1.out.same s2)
 have HIF := Lib.hid (show (Tryz.prog.info? 71).map (·.size) = some (#[.int .i64 0, .int .i64 0, .int .i64 0, .bool false, .int .i64 0, .int .i64 0] : Array Value).size by kernel_rfl)
 clear s2
 by_cases hr : Sy.roleF s i k = 1
 ·have er : (Sy.roleF s i k != 1) = false := by simpa using hr
  have HR := Lib.hid hr
  have HK := Lib.hid (role_in (by rw [hr]; decide))
  have HRX := Lib.hid (show ¬ demI s i k 17 20 = 0 → readsP s i k = true from fun h => decide_eq_true ⟨hr, h⟩)
  clear hr
  generalize Sy.roleF s i k = ro at *
  go_wp2_with fail
  refine (RD.out _ HS2.out).mono ?_
  rintro e w3 ⟨rfl, s3⟩
  have HS2 := Lib.hid (HS2.out.trans s3)
  have c0 := s3.cell c0
  have c1 := s3.cell c1
  have B0 := Lib.hid (B0.out.same s3)
  have B1 := Lib.hid (B1.out.same s3)
  clear s3 RD
  by_cases hd : demI s i k 17 20 = 0
  ·have ed : (demI s i k 17 20 == 0) = true := by simpa using hd
   have HD := Lib.hid (show ofR s i k = zeroR from of_no (decide_eq_false (fun h => h.2 hd)))
   clear hd
   generalize demI s i k 17 20 = de at *
   go_wp2_with (first | (refine wpList_store_row rfl 71 (.tmp 6) (.tmp 27) rfl g #[.int .i64 0, .int .i64 0, .int .i64 0, .bool false, .int .i64 0, .int .i64 0] rfl rfl 71 #[.int .i64 0, .int .i64 0, .int .i64 0, .bool false, .int .i64 0, .int .i64 0] B1.out HIF.out rfl (by simp [Value.oneCell']) ?_))
   refine bodyPost_ret (v := .agg #[.int .i64 0, .int .i64 0, .int .i64 0, .bool false, .int .i64 0, .int .i64 0]) (res_cell1 Tryz.results36 _ _ g 71 #[.int .i64 0, .int .i64 0, .int .i64 0, .bool false, .int .i64 0, .int .i64 0] (0, 0) _ rfl (Dm.rowb B1.out) Tryz.underlying71 rfl HIF.out) rfl ?_
   exact ⟨by rw [HD.out]; rfl, Dm.chgRow (S1.out.trans HS2.out) (.inr HGW.out) _⟩
  ·have ed : (demI s i k 17 20 == 0) = false := by simpa using hd
   have HRP := Lib.hid (show readsP s i k = true from HRX.out hd)
   clear hd HRX
   generalize demI s i k 17 20 = de at *
   obtain ⟨k0, k1⟩ := HK.out.2
   obtain ⟨kk, rfl⟩ : ∃ kk : Nat, k = kk := ⟨k.toNat, by omega⟩
   obtain ⟨o, hox⟩ : ∃ o, s.os[kk]? = some o := ⟨s.os[kk]'(by omega), List.getElem?_eq_getElem _⟩
   have HOX := Lib.hid hox
   have HOB := Lib.hid (show obj s kk = o by unfold obj; rw [Int.toNat_natCast, List.getD_eq_getElem?_getD, hox]; rfl)
   have k2 : (kk : Int) < m := by have := HS.out.hm; omega
   obtain ⟨bB, oB, rfl, Xo, co, Yo, do_, o0, o1, o2, o3, o4, o5, o6, o7, hsa, _⟩ := (HS.out.ho.same HS2.out).at_ hox
   have FA := Lib.hid (fun W => Bd.fail_any o.k o.wd o.sl o.cp o.sa o.ow Xo Yo o.ini.length co o.rd.length do_ 1 W hsa)
   have HOC := Lib.hid (Blk.new w3 43 #[.int .i64 o.k, .int .i64 o.wd, .int .i64 o.sl, .int .i64 o.cp, .int .u32 o.sa, .slice Xo o.ini.length co, .int .i64 o.ow, .slice Yo o.rd.length do_])
   have HX4 := Lib.hid (HS2.out.alloc (.cells #[.int .i64 o.k, .int .i64 o.wd, .int .i64 o.sl, .int .i64 o.cp, .int .u32 o.sa, .slice Xo o.ini.length co, .int .i64 o.ow, .slice Yo o.rd.length do_] 43))
   have HX34 := Lib.hid ((Same.refl w3).alloc (.cells #[.int .i64 o.k, .int .i64 o.wd, .int .i64 o.sl, .int .i64 o.cp, .int .u32 o.sa, .slice Xo o.ini.length co, .int .i64 o.ow, .slice Yo o.rd.length do_] 43))
   have AH := Lib.hid (fun W (h : Same w1 W) => Ah.ahead_gen A n c s.ts o.ow i W HS.out.hn ((HS.out.same h).ht))
   have WA := Lib.hid (fun W (h : Same w1 W) => Dm.writes_any A (some ⟨bB, oB, none⟩) n c m d s o.ow (kk : Int) W (HS.out.same h) hnm HF.out (HT.out.same h))
   clear hox
   go_upto_region 5 with fail
   generalize w3.alloc (.cells #[.int .i64 o.k, .int .i64 o.wd, .int .i64 o.sl, .int .i64 o.cp, .int .u32 o.sa, .slice Xo o.ini.length co, .int .i64 o.ow, .slice Yo o.rd.length do_] 43) = w4 at *
   generalize w3.heap.size = q4 at *
   clear o0 o1 o2 o3 o4 o5 o6 o7
   refine wp_region_held_drew (S := fun w' => Same w4 w') (by kernel_rfl) ?_ (fun hHeld => ?_)
   ·exact (Same.refl w4).drew
   refine Ro.tn 0 ?_ ?_ ?_
   rotate_left
   ·intro wS hSw; (try dsimp only at hSw); go_simp; try with_reducible rfl
   try simp only [Ro.p]
   refine Ro.tn 1 ?_ ?_ ?_
   rotate_left
   ·intro wS hSw; (try dsimp only at hSw); obtain ⟨v0, v1, v2, v3, v4, v5, v6, v7⟩ := (⟨(HOC.out.same hSw).cell 0, (HOC.out.same hSw).cell 1, (HOC.out.same hSw).cell 2, (HOC.out.same hSw).cell 3, (HOC.out.same hSw).cell 4, (HOC.out.same hSw).cell 5, (HOC.out.same hSw).cell 6, (HOC.out.same hSw).cell 7⟩ : _ ∧ _ ∧ _ ∧ _ ∧ _ ∧ _ ∧ _ ∧ _); simp only [Ws.q_] at v0 v1 v2 v3 v4 v5 v6 v7; go_simp; try with_reducible rfl
   try simp only [Ro.p]
   refine Ro.tn 2 ?_ ?_ ?_
   rotate_left
   ·intro wS hSw; (try dsimp only at hSw); go_simp; try with_reducible rfl
   try simp only [Ro.p]
   refine Ro.tn 3 ?_ ?_ ?_
   rotate_left
   ·intro wS hSw; (try dsimp only at hSw); obtain ⟨v0, v1, v2, v3, v4, v5, v6, v7⟩ := (⟨(HOC.out.same hSw).cell 0, (HOC.out.same hSw).cell 1, (HOC.out.same hSw).cell 2, (HOC.out.same hSw).cell 3, (HOC.out.same hSw).cell 4, (HOC.out.same hSw).cell 5, (HOC.out.same hSw).cell 6, (HOC.out.same hSw).cell 7⟩ : _ ∧ _ ∧ _ ∧ _ ∧ _ ∧ _ ∧ _ ∧ _); simp only [Ws.q_] at v0 v1 v2 v3 v4 v5 v6 v7; go_simp; try with_reducible rfl
   try simp only [Ro.p]
   refine Ro.tn 4 ?_ ?_ ?_
   rotate_left
   ·intro wS hSw; (try dsimp only at hSw); obtain ⟨v0, v1, v2, v3, v4, v5, v6, v7⟩ := (⟨(HOC.out.same hSw).cell 0, (HOC.out.same hSw).cell 1, (HOC.out.same hSw).cell 2, (HOC.out.same hSw).cell 3, (HOC.out.same hSw).cell 4, (HOC.out.same hSw).cell 5, (HOC.out.same hSw).cell 6, (HOC.out.same hSw).cell 7⟩ : _ ∧ _ ∧ _ ∧ _ ∧ _ ∧ _ ∧ _ ∧ _); simp only [Ws.q_] at v0 v1 v2 v3 v4 v5 v6 v7; go_simp; try with_reducible rfl
   try simp only [Ro.p]
   have HKP := Lib.hid hHeld
   refine Ra.two_on (i := 5) (j := 7) rfl rfl (by kernel_rfl) (by rfl) (by rfl) (fun K hK => ?_) (fun K hK => ?_)
   ·go_simp
    go_at_call 56
    refine (FA.out _).mono ?_
    rintro e w5 ⟨rfl, s5⟩
    refine hK.out _ _ ?_ (fun hNew => ?_)
    ·exact hHeld.trans s5
    clear hK K hHeld; have hHeld := hNew; clear hNew
    try simp only [Ro.p]
    refine Ro.tn 6 ?_ ?_ ?_
    rotate_left
    ·intro wS hSw; (try dsimp only at hSw); go_simp; try with_reducible rfl
    try simp only [Ro.p]
    have HKP := Lib.hid hHeld
    refine Ro.one_on (i := 7) rfl (by kernel_rfl) (by rfl) (fun K hK => ?_)
    go_simp
    refine hK.out _ _ ?_ (fun hNew => ?_)
    ·exact hHeld.alloc _
    clear hK K hHeld; have hHeld := hNew; clear hNew
    try simp only [Ro.p]
    obtain ⟨wA, hwA⟩ : ∃ wA, wA = w5.alloc (.cells #[.int .i64 0, .int .i64 0, .int .i64 0, .bool false, .int .i64 0, .int .i64 0] 71) := ⟨_, rfl⟩
    obtain ⟨gx, hgx⟩ : ∃ gx, gx = w5.heap.size := ⟨_, rfl⟩
    have HBA := Lib.hid (show Blk wA gx 71 #[.int .i64 0, .int .i64 0, .int .i64 0, .bool false, .int .i64 0, .int .i64 0] by rw [hwA, hgx]; exact Blk.new _ _ _)
    have HSA := Lib.hid (show Same w5 wA by rw [hwA]; exact (Same.refl _).alloc _)
    have HGX := Lib.hid (show w4.heap.size ≤ gx by rw [hgx]; exact HKP.out.size)
    rw [← hwA, ← hgx]
    clear hHeld
    have hHeld : Same w4 wA := HKP.out.trans HSA.out
    clear hwA hgx HKP
    refine Ro.one_on (i := 8) rfl (by kernel_rfl) (by rfl) (fun K hK => ?_)
    refine wp_store_row 71 (.tmp 10) (.tmp 39) rfl gx #[.int .i64 o.k, .int .i64 o.sl, .int .i64 (failO o), .bool false, .int .i64 0, .int .i64 0] rfl rfl 71 #[.int .i64 0, .int .i64 0, .int .i64 0, .bool false, .int .i64 0, .int .i64 0] HBA.out HIF.out rfl (by simp [Value.oneCell']) ?_
    refine hK.out _ _ ?_ (fun hNew => ?_)
    ·exact Dm.chgRow hHeld (.inr HGX.out) _
    clear hK K hHeld; have hHeld := hNew; clear hNew
    try simp only [Ro.p]
    refine wpAnyH_done (by kernel_rfl) ?_ _
    have HBX := Lib.hid (show Blk (World.setRow wA gx #[.int .i64 o.k, .int .i64 o.sl, .int .i64 (failO o), .bool false, .int .i64 0, .int .i64 0]) gx 71 #[.int .i64 o.k, .int .i64 o.sl, .int .i64 (failO o), .bool false, .int .i64 0, .int .i64 0] from Dm.rowb HBA.out)
    have HX5 := Lib.hid hHeld
    clear hHeld
    generalize World.setRow wA gx #[.int .i64 o.k, .int .i64 o.sl, .int .i64 (failO o), .bool false, .int .i64 0, .int .i64 0] = w6 at *
    have B14 := Lib.hid (B1.out.same HX34.out)
    have HS36 := Lib.hid (HX34.out.trans HX5.out)
    have HS16 := Lib.hid (HX4.out.trans HX5.out)
    have c03 := c0
    have c13 := c1
    have c0 := HS36.out.cell c0
    have c1 := HS36.out.cell c1
    have HOC4 := Lib.hid HOC.out
    have HX46 := Lib.hid HX5.out
    have HOC := Lib.hid (HOC.out.same HX5.out)
    have B1 := Lib.hid (B1.out.same HS36.out)
    obtain ⟨o0, o1, o2, o3, o4, o5, o6, o7⟩ := (⟨HOC.out.cell 0, HOC.out.cell 1, HOC.out.cell 2, HOC.out.cell 3, HOC.out.cell 4, HOC.out.cell 5, HOC.out.cell 6, HOC.out.cell 7⟩ : _ ∧ _ ∧ _ ∧ _ ∧ _ ∧ _ ∧ _ ∧ _)
    simp only [Ws.q_] at o0 o1 o2 o3 o4 o5 o6 o7
    have AHW := Lib.hid (AH.out w6 HS16.out)
    have HC04 := Lib.hid (HX34.out.cell c03)
    have HC14 := Lib.hid (HX34.out.cell c13)
    clear AH FA HX34 HX5
    cases ha : Ah.aheadI s.ts o.ow i with
    | false =>
     have HD := Lib.hid (show ofR s i (kk : Int) = ⟨o.k, o.sl, failO o, false, 0, 0⟩ by rw [of_behind HRP.out (by unfold aheadP; rw [HOB.out]; exact ha), HOB.out])
     rw [ha] at AHW
     clear ha
     go_wp2_with fail
     refine AHW.out.mono ?_
     rintro e w7 ⟨rfl, s7⟩
     have B1 := Lib.hid (B1.out.same s7)
     have HS17 := Lib.hid (HS16.out.trans s7)
     have HBX := Lib.hid (HBX.out.same s7)
     clear s7 AHW o0 o1 o2 o3 o4 o5 o6 o7
     obtain ⟨x0, x1, x2, x3, x4, x5⟩ := (⟨HBX.out.cell 0, HBX.out.cell 1, HBX.out.cell 2, HBX.out.cell 3, HBX.out.cell 4, HBX.out.cell 5⟩ : _ ∧ _ ∧ _ ∧ _ ∧ _ ∧ _)
     simp only [Ws.q_] at x0 x1 x2 x3 x4 x5
     go_wp2_with (first | (refine wpList_store_row rfl 71 (.tmp 6) (.tmp 61) rfl g #[.int .i64 o.k, .int .i64 o.sl, .int .i64 (failO o), .bool false, .int .i64 0, .int .i64 0] rfl rfl 71 #[.int .i64 0, .int .i64 0, .int .i64 0, .bool false, .int .i64 0, .int .i64 0] B1.out HIF.out rfl (by simp [Value.oneCell']) ?_))
     refine bodyPost_ret (v := .agg #[.int .i64 o.k, .int .i64 o.sl, .int .i64 (failO o), .bool false, .int .i64 0, .int .i64 0]) (res_cell1 Tryz.results36 _ _ g 71 #[.int .i64 o.k, .int .i64 o.sl, .int .i64 (failO o), .bool false, .int .i64 0, .int .i64 0] (0, 0) _ rfl (Dm.rowb B1.out) Tryz.underlying71 rfl HIF.out) rfl ?_
     exact ⟨by rw [HD.out]; rfl, Dm.chgRow (S1.out.trans HS17.out) (.inr HGW.out) _⟩
    | true =>
     have HD := Lib.hid (show ofR s i (kk : Int) = ⟨o.k, o.sl, failO o, true, demI s o.ow (kk : Int) 18 19, (Ah.pt s.ts o.ow.toNat).per⟩ by rw [of_ahead HRP.out (by unfold aheadP; rw [HOB.out]; exact ha), HOB.out])
     have hin : Ah.inI s.ts.length o.ow := by
      by_cases g : Ah.inI s.ts.length o.ow ∧ Ah.inI s.ts.length i
      ·exact g.1
      ·rw [Ah.aheadI_no g] at ha; cases ha
     obtain ⟨kw, hkw⟩ := Int.eq_ofNat_of_zero_le hin.1
     have hkn : kw < s.ts.length := by have := hin.2; omega
     have w1' : (kw : Int) < n := by have := HS.out.hn; omega
     have w0' : (0 : Int) ≤ kw := by omega
     obtain ⟨p, hp⟩ : ∃ p, s.ts[kw]? = some p := ⟨s.ts[kw], List.getElem?_eq_getElem hkn⟩
     have HPT := Lib.hid (show (Ah.pt s.ts o.ow.toNat).per = p.per by rw [hkw]; unfold Ah.pt; rw [Int.toNat_natCast, List.getD_eq_getElem?_getD, hp]; rfl)
     obtain ⟨bA, oA, rfl, _, _, _, _, t2, _⟩ := (HS.out.ht.same HX4.out).at_ hp
     have HT2 := Lib.hid t2
     rw [ha] at AHW
     rw [hkw] at WA AHW o6
     have HKW := Lib.hid hkw
     clear ha hin hkw hkn hp t2
     go_wp2_with fail
     refine AHW.out.mono ?_
     rintro e w7 ⟨rfl, s7⟩
     have HS67 := Lib.hid s7
     have B1 := Lib.hid (B1.out.same s7)
     have HBX := Lib.hid (HBX.out.same s7)
     clear s7 AHW o0 o1 o2 o3 o4 o5 o6 o7
     go_wp2_with fail
     refine wp_region_held_drew (S := fun w' => Same w4 w') (by kernel_rfl) ?_ (fun hHeld => ?_)
     ·exact (HX46.out.trans HS67.out).drew
     refine Ro.tn 0 ?_ ?_ ?_
     rotate_left
     ·intro wS hSw; (try dsimp only at hSw); have z0 := hSw.cell HC04.out; have z1 := hSw.cell HC14.out; go_simp; try with_reducible rfl
     try simp only [Ro.p]
     refine Ro.tn 1 ?_ ?_ ?_
     rotate_left
     ·intro wS hSw; (try dsimp only at hSw); go_simp; try with_reducible rfl
     try simp only [Ro.p]
     refine Ro.tn 2 ?_ ?_ ?_
     rotate_left
     ·intro wS hSw; (try dsimp only at hSw); have z6 := (HOC4.out.same hSw).cell 6; simp only [Ws.q_] at z6; rw [HKW.out] at z6; go_simp; try with_reducible rfl
     try simp only [Ro.p]
     refine Ro.tn 3 ?_ ?_ ?_
     rotate_left
     ·intro wS hSw; (try dsimp only at hSw); go_simp; try with_reducible rfl
     try simp only [Ro.p]
     refine Ro.tn 5 ?_ ?_ ?_
     rotate_left
     ·intro wS hSw; (try dsimp only at hSw); go_simp; try with_reducible rfl
     try simp only [Ro.p]
     refine Ro.tn 6 ?_ ?_ ?_
     rotate_left
     ·intro wS hSw; (try dsimp only at hSw); have z0 := hSw.cell HC04.out; go_simp; try with_reducible rfl
     try simp only [Ro.p]
     refine Ro.tn 7 ?_ ?_ ?_
     rotate_left
     ·intro wS hSw; (try dsimp only at hSw); go_simp; try with_reducible rfl
     try simp only [Ro.p]
     refine Ro.tn 8 ?_ ?_ ?_
     rotate_left
     ·intro wS hSw; (try dsimp only at hSw); have z6 := (HOC4.out.same hSw).cell 6; simp only [Ws.q_] at z6; rw [HKW.out] at z6; go_simp; try with_reducible rfl
     try simp only [Ro.p]
     refine Ro.tn 9 ?_ ?_ ?_
     rotate_left
     ·intro wS hSw; (try dsimp only at hSw); go_simp; try with_reducible rfl
     try simp only [Ro.p]
     refine Ro.tn 10 ?_ ?_ ?_
     rotate_left
     ·intro wS hSw; (try dsimp only at hSw); go_simp; try with_reducible rfl
     try simp only [Ro.p]
     refine Ro.tn 11 ?_ ?_ ?_
     rotate_left
     ·intro wS hSw; (try dsimp only at hSw); have z2 := hSw.cell HT2.out; go_simp; try with_reducible rfl
     try simp only [Ro.p]
     refine Ro.tn 12 ?_ ?_ ?_
     rotate_left
     ·intro wS hSw; (try dsimp only at hSw); go_simp; try with_reducible rfl
     try simp only [Ro.p]
     refine Ro.one_on (i := 4) rfl (by kernel_rfl) (by rfl) (fun K hK => ?_)
     go_simp
     go_at_call 58
     refine (WA.out _ (HX4.out.trans hHeld)).mono ?_
     rintro e w8 ⟨rfl, s8⟩
     have HB8 := Lib.hid (show Blk w8 gx 71 #[.int .i64 o.k, .int .i64 o.sl, .int .i64 (failO o), .bool false, .int .i64 0, .int .i64 0] from by first | exact HBX.out.same s8 | exact HBX.out.same ((Same.refl w7).drew.trans s8))
     refine hK.out _ _ ?_ (fun hNew => ?_)
     ·exact hHeld.trans s8
     clear hK K hHeld; have hHeld := hNew; clear hNew
     try simp only [Ro.p]
     have tz := HB8.out.thaw 3
     have yz := HB8.out.cell 3
     simp only [Ws.q_] at yz
     refine Ro.one_on (i := 13) rfl (by kernel_rfl) (by rfl) (fun K hK => ?_)
     go_simp
     refine hK.out _ _ ?_ (fun hNew => ?_)
     ·exact Chg.set hHeld (.inr HGX.out) _
     clear hK K hHeld; have hHeld := hNew; clear hNew
     try simp only [Ro.p]
     clear tz yz
     obtain ⟨w9, hwz⟩ : ∃ w9, w9 = World.setCell w8 ⟨gx, 3, none⟩ (.bool true) := ⟨_, rfl⟩
     have HB9 := Lib.hid (show Blk w9 gx 71 #[.int .i64 o.k, .int .i64 o.sl, .int .i64 (failO o), .bool true, .int .i64 0, .int .i64 0] from by rw [hwz]; exact HB8.out.put 3 _)
     rw [← hwz] at hHeld ⊢
     clear hwz
     refine Ro.tn 14 ?_ ?_ ?_
     rotate_left
     ·intro wS hSw; (try dsimp only at hSw); go_simp; try with_reducible rfl
     try simp only [Ro.p]
     have tz := HB9.out.thaw 4
     have yz := HB9.out.cell 4
     simp only [Ws.q_] at yz
     refine Ro.one_on (i := 15) rfl (by kernel_rfl) (by rfl) (fun K hK => ?_)
     go_simp
     refine hK.out _ _ ?_ (fun hNew => ?_)
     ·exact Chg.set hHeld (.inr HGX.out) _
     clear hK K hHeld; have hHeld := hNew; clear hNew
     try simp only [Ro.p]
     clear tz yz
     obtain ⟨w10, hwz⟩ : ∃ w10, w10 = World.setCell w9 ⟨gx, 4, none⟩ (.int .i64 (demI s (kw : Int) (kk : Int) 18 19)) := ⟨_, rfl⟩
     have HB10 := Lib.hid (show Blk w10 gx 71 #[.int .i64 o.k, .int .i64 o.sl, .int .i64 (failO o), .bool true, .int .i64 (demI s (kw : Int) (kk : Int) 18 19), .int .i64 0] from by rw [hwz]; exact HB9.out.put 4 _)
     rw [← hwz] at hHeld ⊢
     clear hwz
     refine Ro.tn 16 ?_ ?_ ?_
     rotate_left
     ·intro wS hSw; (try dsimp only at hSw); go_simp; try with_reducible rfl
     try simp only [Ro.p]
     have tz := HB10.out.thaw 5
     have yz := HB10.out.cell 5
     simp only [Ws.q_] at yz
     refine Ro.one_on (i := 17) rfl (by kernel_rfl) (by rfl) (fun K hK => ?_)
     go_simp
     refine hK.out _ _ ?_ (fun hNew => ?_)
     ·exact Chg.set hHeld (.inr HGX.out) _
     clear hK K hHeld; have hHeld := hNew; clear hNew
     try simp only [Ro.p]
     clear tz yz
     obtain ⟨w11, hwz⟩ : ∃ w11, w11 = World.setCell w10 ⟨gx, 5, none⟩ (.int .i64 p.per) := ⟨_, rfl⟩
     have HB11 := Lib.hid (show Blk w11 gx 71 #[.int .i64 o.k, .int .i64 o.sl, .int .i64 (failO o), .bool true, .int .i64 (demI s (kw : Int) (kk : Int) 18 19), .int .i64 p.per] from by rw [hwz]; exact HB10.out.put 5 _)
     rw [← hwz] at hHeld ⊢
     clear hwz
     refine wpAnyH_done (by kernel_rfl) ?_ _
     have B1 := Lib.hid (B14.out.same hHeld)
     have HEND := Lib.hid (HX4.out.trans hHeld)
     clear hHeld
     obtain ⟨x0, x1, x2, x3, x4, x5⟩ := (⟨HB11.out.cell 0, HB11.out.cell 1, HB11.out.cell 2, HB11.out.cell 3, HB11.out.cell 4, HB11.out.cell 5⟩ : _ ∧ _ ∧ _ ∧ _ ∧ _ ∧ _)
     simp only [Ws.q_] at x0 x1 x2 x3 x4 x5
     go_wp2_with (first | (refine wpList_store_row rfl 71 (.tmp 6) (.tmp 61) rfl g #[.int .i64 o.k, .int .i64 o.sl, .int .i64 (failO o), .bool true, .int .i64 (demI s (kw : Int) (kk : Int) 18 19), .int .i64 p.per] rfl rfl 71 #[.int .i64 0, .int .i64 0, .int .i64 0, .bool false, .int .i64 0, .int .i64 0] B1.out HIF.out rfl (by simp [Value.oneCell']) ?_))
     refine bodyPost_ret (v := .agg #[.int .i64 o.k, .int .i64 o.sl, .int .i64 (failO o), .bool true, .int .i64 (demI s (kw : Int) (kk : Int) 18 19), .int .i64 p.per]) (res_cell1 Tryz.results36 _ _ g 71 #[.int .i64 o.k, .int .i64 o.sl, .int .i64 (failO o), .bool true, .int .i64 (demI s (kw : Int) (kk : Int) 18 19), .int .i64 p.per] (0, 0) _ rfl (Dm.rowb B1.out) Tryz.underlying71 rfl HIF.out) rfl ?_
     exact ⟨by rw [HD.out, HPT.out, HKW.out]; rfl, Dm.chgRow (S1.out.trans HEND.out) (.inr HGW.out) _⟩
   ·go_simp
    refine hK.out _ _ ?_ (fun hNew => ?_)
    ·exact hHeld.alloc _
    clear hK K hHeld; have hHeld := hNew; clear hNew
    try simp only [Ro.p]
    obtain ⟨wA, hwA⟩ : ∃ wA, wA = (w4.alloc (.cells #[.int .i64 0, .int .i64 0, .int .i64 0, .bool false, .int .i64 0, .int .i64 0] 71)).drew := ⟨_, rfl⟩
    obtain ⟨gx, hgx⟩ : ∃ gx, gx = w4.heap.size := ⟨_, rfl⟩
    have HBA := Lib.hid (show Blk wA gx 71 #[.int .i64 0, .int .i64 0, .int .i64 0, .bool false, .int .i64 0, .int .i64 0] by rw [hwA, hgx]; exact Blk.new _ _ _)
    have HSA := Lib.hid (show Same w4 wA by rw [hwA]; exact ((Same.refl _).alloc _).drew)
    have HGX := Lib.hid (show w4.heap.size ≤ gx by rw [hgx]; exact Nat.le_refl _)
    rw [← hwA, ← hgx]
    clear hHeld
    have hHeld : Same w4 wA := HSA.out
    clear hwA hgx HKP
    refine Ro.one_on (i := 5) rfl (by kernel_rfl) (by rfl) (fun K hK => ?_)
    go_simp
    go_at_call 56
    refine (FA.out _).mono ?_
    rintro e w5 ⟨rfl, s5⟩
    have HBA := Lib.hid (HBA.out.same s5)
    refine hK.out _ _ ?_ (fun hNew => ?_)
    ·exact hHeld.trans s5
    clear hK K hHeld; have hHeld := hNew; clear hNew
    try simp only [Ro.p]
    refine Ro.tn 6 ?_ ?_ ?_
    rotate_left
    ·intro wS hSw; (try dsimp only at hSw); go_simp; try with_reducible rfl
    try simp only [Ro.p]
    refine Ro.one_on (i := 8) rfl (by kernel_rfl) (by rfl) (fun K hK => ?_)
    refine wp_store_row 71 (.tmp 10) (.tmp 39) rfl gx #[.int .i64 o.k, .int .i64 o.sl, .int .i64 (failO o), .bool false, .int .i64 0, .int .i64 0] rfl rfl 71 #[.int .i64 0, .int .i64 0, .int .i64 0, .bool false, .int .i64 0, .int .i64 0] HBA.out HIF.out rfl (by simp [Value.oneCell']) ?_
    refine hK.out _ _ ?_ (fun hNew => ?_)
    ·exact Dm.chgRow hHeld (.inr HGX.out) _
    clear hK K hHeld; have hHeld := hNew; clear hNew
    try simp only [Ro.p]
    refine wpAnyH_done (by kernel_rfl) ?_ _
    have HBX := Lib.hid (show Blk (World.setRow w5 gx #[.int .i64 o.k, .int .i64 o.sl, .int .i64 (failO o), .bool false, .int .i64 0, .int .i64 0]) gx 71 #[.int .i64 o.k, .int .i64 o.sl, .int .i64 (failO o), .bool false, .int .i64 0, .int .i64 0] from Dm.rowb HBA.out)
    have HX5 := Lib.hid hHeld
    clear hHeld
    generalize World.setRow w5 gx #[.int .i64 o.k, .int .i64 o.sl, .int .i64 (failO o), .bool false, .int .i64 0, .int .i64 0] = w6 at *
    have B14 := Lib.hid (B1.out.same HX34.out)
    have HS36 := Lib.hid (HX34.out.trans HX5.out)
    have HS16 := Lib.hid (HX4.out.trans HX5.out)
    have c03 := c0
    have c13 := c1
    have c0 := HS36.out.cell c0
    have c1 := HS36.out.cell c1
    have HOC4 := Lib.hid HOC.out
    have HX46 := Lib.hid HX5.out
    have HOC := Lib.hid (HOC.out.same HX5.out)
    have B1 := Lib.hid (B1.out.same HS36.out)
    obtain ⟨o0, o1, o2, o3, o4, o5, o6, o7⟩ := (⟨HOC.out.cell 0, HOC.out.cell 1, HOC.out.cell 2, HOC.out.cell 3, HOC.out.cell 4, HOC.out.cell 5, HOC.out.cell 6, HOC.out.cell 7⟩ : _ ∧ _ ∧ _ ∧ _ ∧ _ ∧ _ ∧ _ ∧ _)
    simp only [Ws.q_] at o0 o1 o2 o3 o4 o5 o6 o7
    have AHW := Lib.hid (AH.out w6 HS16.out)
    have HC04 := Lib.hid (HX34.out.cell c03)
    have HC14 := Lib.hid (HX34.out.cell c13)
    clear AH FA HX34 HX5
    cases ha : Ah.aheadI s.ts o.ow i with
    | false =>
     have HD := Lib.hid (show ofR s i (kk : Int) = ⟨o.k, o.sl, failO o, false, 0, 0⟩ by rw [of_behind HRP.out (by unfold aheadP; rw [HOB.out]; exact ha), HOB.out])
     rw [ha] at AHW
     clear ha
     go_wp2_with fail
     refine AHW.out.mono ?_
     rintro e w7 ⟨rfl, s7⟩
     have B1 := Lib.hid (B1.out.same s7)
     have HS17 := Lib.hid (HS16.out.trans s7)
     have HBX := Lib.hid (HBX.out.same s7)
     clear s7 AHW o0 o1 o2 o3 o4 o5 o6 o7
     obtain ⟨x0, x1, x2, x3, x4, x5⟩ := (⟨HBX.out.cell 0, HBX.out.cell 1, HBX.out.cell 2, HBX.out.cell 3, HBX.out.cell 4, HBX.out.cell 5⟩ : _ ∧ _ ∧ _ ∧ _ ∧ _ ∧ _)
     simp only [Ws.q_] at x0 x1 x2 x3 x4 x5
     go_wp2_with (first | (refine wpList_store_row rfl 71 (.tmp 6) (.tmp 61) rfl g #[.int .i64 o.k, .int .i64 o.sl, .int .i64 (failO o), .bool false, .int .i64 0, .int .i64 0] rfl rfl 71 #[.int .i64 0, .int .i64 0, .int .i64 0, .bool false, .int .i64 0, .int .i64 0] B1.out HIF.out rfl (by simp [Value.oneCell']) ?_))
     refine bodyPost_ret (v := .agg #[.int .i64 o.k, .int .i64 o.sl, .int .i64 (failO o), .bool false, .int .i64 0, .int .i64 0]) (res_cell1 Tryz.results36 _ _ g 71 #[.int .i64 o.k, .int .i64 o.sl, .int .i64 (failO o), .bool false, .int .i64 0, .int .i64 0] (0, 0) _ rfl (Dm.rowb B1.out) Tryz.underlying71 rfl HIF.out) rfl ?_
     exact ⟨by rw [HD.out]; rfl, Dm.chgRow (S1.out.trans HS17.out) (.inr HGW.out) _⟩
    | true =>
     have HD := Lib.hid (show ofR s i (kk : Int) = ⟨o.k, o.sl, failO o, true, demI s o.ow (kk : Int) 18 19, (Ah.pt s.ts o.ow.toNat).per⟩ by rw [of_ahead HRP.out (by unfold aheadP; rw [HOB.out]; exact ha), HOB.out])
     have hin : Ah.inI s.ts.length o.ow := by
      by_cases g : Ah.inI s.ts.length o.ow ∧ Ah.inI s.ts.length i
      ·exact g.1
      ·rw [Ah.aheadI_no g] at ha; cases ha
     obtain ⟨kw, hkw⟩ := Int.eq_ofNat_of_zero_le hin.1
     have hkn : kw < s.ts.length := by have := hin.2; omega
     have w1' : (kw : Int) < n := by have := HS.out.hn; omega
     have w0' : (0 : Int) ≤ kw := by omega
     obtain ⟨p, hp⟩ : ∃ p, s.ts[kw]? = some p := ⟨s.ts[kw], List.getElem?_eq_getElem hkn⟩
     have HPT := Lib.hid (show (Ah.pt s.ts o.ow.toNat).per = p.per by rw [hkw]; unfold Ah.pt; rw [Int.toNat_natCast, List.getD_eq_getElem?_getD, hp]; rfl)
     obtain ⟨bA, oA, rfl, _, _, _, _, t2, _⟩ := (HS.out.ht.same HX4.out).at_ hp
     have HT2 := Lib.hid t2
     rw [ha] at AHW
     rw [hkw] at WA AHW o6
     have HKW := Lib.hid hkw
     clear ha hin hkw hkn hp t2
     go_wp2_with fail
     refine AHW.out.mono ?_
     rintro e w7 ⟨rfl, s7⟩
     have HS67 := Lib.hid s7
     have B1 := Lib.hid (B1.out.same s7)
     have HBX := Lib.hid (HBX.out.same s7)
     clear s7 AHW o0 o1 o2 o3 o4 o5 o6 o7
     go_wp2_with fail
     refine wp_region_held_drew (S := fun w' => Same w4 w') (by kernel_rfl) ?_ (fun hHeld => ?_)
     ·exact (HX46.out.trans HS67.out).drew
     refine Ro.tn 0 ?_ ?_ ?_
     rotate_left
     ·intro wS hSw; (try dsimp only at hSw); have z0 := hSw.cell HC04.out; have z1 := hSw.cell HC14.out; go_simp; try with_reducible rfl
     try simp only [Ro.p]
     refine Ro.tn 1 ?_ ?_ ?_
     rotate_left
     ·intro wS hSw; (try dsimp only at hSw); go_simp; try with_reducible rfl
     try simp only [Ro.p]
     refine Ro.tn 2 ?_ ?_ ?_
     rotate_left
     ·intro wS hSw; (try dsimp only at hSw); have z6 := (HOC4.out.same hSw).cell 6; simp only [Ws.q_] at z6; rw [HKW.out] at z6; go_simp; try with_reducible rfl
     try simp only [Ro.p]
     refine Ro.tn 3 ?_ ?_ ?_
     rotate_left
     ·intro wS hSw; (try dsimp only at hSw); go_simp; try with_reducible rfl
     try simp only [Ro.p]
     refine Ro.tn 5 ?_ ?_ ?_
     rotate_left
     ·intro wS hSw; (try dsimp only at hSw); go_simp; try with_reducible rfl
     try simp only [Ro.p]
     refine Ro.tn 6 ?_ ?_ ?_
     rotate_left
     ·intro wS hSw; (try dsimp only at hSw); have z0 := hSw.cell HC04.out; go_simp; try with_reducible rfl
     try simp only [Ro.p]
     refine Ro.tn 7 ?_ ?_ ?_
     rotate_left
     ·intro wS hSw; (try dsimp only at hSw); go_simp; try with_reducible rfl
     try simp only [Ro.p]
     refine Ro.tn 8 ?_ ?_ ?_
     rotate_left
     ·intro wS hSw; (try dsimp only at hSw); have z6 := (HOC4.out.same hSw).cell 6; simp only [Ws.q_] at z6; rw [HKW.out] at z6; go_simp; try with_reducible rfl
     try simp only [Ro.p]
     refine Ro.tn 9 ?_ ?_ ?_
     rotate_left
     ·intro wS hSw; (try dsimp only at hSw); go_simp; try with_reducible rfl
     try simp only [Ro.p]
     refine Ro.tn 10 ?_ ?_ ?_
     rotate_left
     ·intro wS hSw; (try dsimp only at hSw); go_simp; try with_reducible rfl
     try simp only [Ro.p]
     refine Ro.tn 11 ?_ ?_ ?_
     rotate_left
     ·intro wS hSw; (try dsimp only at hSw); have z2 := hSw.cell HT2.out; go_simp; try with_reducible rfl
     try simp only [Ro.p]
     refine Ro.tn 12 ?_ ?_ ?_
     rotate_left
     ·intro wS hSw; (try dsimp only at hSw); go_simp; try with_reducible rfl
     try simp only [Ro.p]
     refine Ro.one_on (i := 4) rfl (by kernel_rfl) (by rfl) (fun K hK => ?_)
     go_simp
     go_at_call 58
     refine (WA.out _ (HX4.out.trans hHeld)).mono ?_
     rintro e w8 ⟨rfl, s8⟩
     have HB8 := Lib.hid (show Blk w8 gx 71 #[.int .i64 o.k, .int .i64 o.sl, .int .i64 (failO o), .bool false, .int .i64 0, .int .i64 0] from by first | exact HBX.out.same s8 | exact HBX.out.same ((Same.refl w7).drew.trans s8))
     refine hK.out _ _ ?_ (fun hNew => ?_)
     ·exact hHeld.trans s8
     clear hK K hHeld; have hHeld := hNew; clear hNew
     try simp only [Ro.p]
     have tz := HB8.out.thaw 3
     have yz := HB8.out.cell 3
     simp only [Ws.q_] at yz
     refine Ro.one_on (i := 13) rfl (by kernel_rfl) (by rfl) (fun K hK => ?_)
     go_simp
     refine hK.out _ _ ?_ (fun hNew => ?_)
     ·exact Chg.set hHeld (.inr HGX.out) _
     clear hK K hHeld; have hHeld := hNew; clear hNew
     try simp only [Ro.p]
     clear tz yz
     obtain ⟨w9, hwz⟩ : ∃ w9, w9 = World.setCell w8 ⟨gx, 3, none⟩ (.bool true) := ⟨_, rfl⟩
     have HB9 := Lib.hid (show Blk w9 gx 71 #[.int .i64 o.k, .int .i64 o.sl, .int .i64 (failO o), .bool true, .int .i64 0, .int .i64 0] from by rw [hwz]; exact HB8.out.put 3 _)
     rw [← hwz] at hHeld ⊢
     clear hwz
     refine Ro.tn 14 ?_ ?_ ?_
     rotate_left
     ·intro wS hSw; (try dsimp only at hSw); go_simp; try with_reducible rfl
     try simp only [Ro.p]
     have tz := HB9.out.thaw 4
     have yz := HB9.out.cell 4
     simp only [Ws.q_] at yz
     refine Ro.one_on (i := 15) rfl (by kernel_rfl) (by rfl) (fun K hK => ?_)
     go_simp
     refine hK.out _ _ ?_ (fun hNew => ?_)
     ·exact Chg.set hHeld (.inr HGX.out) _
     clear hK K hHeld; have hHeld := hNew; clear hNew
     try simp only [Ro.p]
     clear tz yz
     obtain ⟨w10, hwz⟩ : ∃ w10, w10 = World.setCell w9 ⟨gx, 4, none⟩ (.int .i64 (demI s (kw : Int) (kk : Int) 18 19)) := ⟨_, rfl⟩
     have HB10 := Lib.hid (show Blk w10 gx 71 #[.int .i64 o.k, .int .i64 o.sl, .int .i64 (failO o), .bool true, .int .i64 (demI s (kw : Int) (kk : Int) 18 19), .int .i64 0] from by rw [hwz]; exact HB9.out.put 4 _)
     rw [← hwz] at hHeld ⊢
     clear hwz
     refine Ro.tn 16 ?_ ?_ ?_
     rotate_left
     ·intro wS hSw; (try dsimp only at hSw); go_simp; try with_reducible rfl
     try simp only [Ro.p]
     have tz := HB10.out.thaw 5
     have yz := HB10.out.cell 5
     simp only [Ws.q_] at yz
     refine Ro.one_on (i := 17) rfl (by kernel_rfl) (by rfl) (fun K hK => ?_)
     go_simp
     refine hK.out _ _ ?_ (fun hNew => ?_)
     ·exact Chg.set hHeld (.inr HGX.out) _
     clear hK K hHeld; have hHeld := hNew; clear hNew
     try simp only [Ro.p]
     clear tz yz
     obtain ⟨w11, hwz⟩ : ∃ w11, w11 = World.setCell w10 ⟨gx, 5, none⟩ (.int .i64 p.per) := ⟨_, rfl⟩
     have HB11 := Lib.hid (show Blk w11 gx 71 #[.int .i64 o.k, .int .i64 o.sl, .int .i64 (failO o), .bool true, .int .i64 (demI s (kw : Int) (kk : Int) 18 19), .int .i64 p.per] from by rw [hwz]; exact HB10.out.put 5 _)
     rw [← hwz] at hHeld ⊢
     clear hwz
     refine wpAnyH_done (by kernel_rfl) ?_ _
     have B1 := Lib.hid (B14.out.same hHeld)
     have HEND := Lib.hid (HX4.out.trans hHeld)
     clear hHeld
     obtain ⟨x0, x1, x2, x3, x4, x5⟩ := (⟨HB11.out.cell 0, HB11.out.cell 1, HB11.out.cell 2, HB11.out.cell 3, HB11.out.cell 4, HB11.out.cell 5⟩ : _ ∧ _ ∧ _ ∧ _ ∧ _ ∧ _)
     simp only [Ws.q_] at x0 x1 x2 x3 x4 x5
     go_wp2_with (first | (refine wpList_store_row rfl 71 (.tmp 6) (.tmp 61) rfl g #[.int .i64 o.k, .int .i64 o.sl, .int .i64 (failO o), .bool true, .int .i64 (demI s (kw : Int) (kk : Int) 18 19), .int .i64 p.per] rfl rfl 71 #[.int .i64 0, .int .i64 0, .int .i64 0, .bool false, .int .i64 0, .int .i64 0] B1.out HIF.out rfl (by simp [Value.oneCell']) ?_))
     refine bodyPost_ret (v := .agg #[.int .i64 o.k, .int .i64 o.sl, .int .i64 (failO o), .bool true, .int .i64 (demI s (kw : Int) (kk : Int) 18 19), .int .i64 p.per]) (res_cell1 Tryz.results36 _ _ g 71 #[.int .i64 o.k, .int .i64 o.sl, .int .i64 (failO o), .bool true, .int .i64 (demI s (kw : Int) (kk : Int) 18 19), .int .i64 p.per] (0, 0) _ rfl (Dm.rowb B1.out) Tryz.underlying71 rfl HIF.out) rfl ?_
     exact ⟨by rw [HD.out, HPT.out, HKW.out]; rfl, Dm.chgRow (S1.out.trans HEND.out) (.inr HGW.out) _⟩
 ·have er : (Sy.roleF s i k != 1) = true := by simpa using hr
  have HD := Lib.hid (show ofR s i k = zeroR from of_no (decide_eq_false (fun h => hr h.1)))
  clear hr
  generalize Sy.roleF s i k = ro at *
  go_wp2_with (first | (refine wpList_store_row rfl 71 (.tmp 6) (.tmp 27) rfl g #[.int .i64 0, .int .i64 0, .int .i64 0, .bool false, .int .i64 0, .int .i64 0] rfl rfl 71 #[.int .i64 0, .int .i64 0, .int .i64 0, .bool false, .int .i64 0, .int .i64 0] B1.out HIF.out rfl (by simp [Value.oneCell']) ?_))
  refine bodyPost_ret (v := .agg #[.int .i64 0, .int .i64 0, .int .i64 0, .bool false, .int .i64 0, .int .i64 0]) (res_cell1 Tryz.results36 _ _ g 71 #[.int .i64 0, .int .i64 0, .int .i64 0, .bool false, .int .i64 0, .int .i64 0] (0, 0) _ rfl (Dm.rowb B1.out) Tryz.underlying71 rfl HIF.out) rfl ?_
  exact ⟨by rw [HD.out]; rfl, Dm.chgRow (S1.out.trans HS2.out) (.inr HGW.out) _⟩
end Go.Proofs.YthhbhbfkbncegabGreatDoor.Sl
