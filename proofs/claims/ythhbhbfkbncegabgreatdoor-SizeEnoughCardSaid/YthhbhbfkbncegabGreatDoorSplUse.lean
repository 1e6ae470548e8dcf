/-

 Package spoil: Hopeless, Writes, Fails of the reads of an object.
-/
import Derived.Test.YthhbhbfkbncegabGreatDoorSplPure
import Derived.Test.YthhbhbfkbncegabGreatDoorImgIn
import Derived.Test.YthhbhbfkbncegabGreatDoorRegionOff
import Derived.WalkKit
import Derived.Deep.LoopGhost
import Derived.Deep.RegionHeld3
import Derived.BigQuiet
import Derived.Deep.Cut
import Derived.Lib.Hide
import Derived.ProofKit
set_option linter.unusedVariables false
set_option linter.unusedSimpArgs false
namespace Go.Proofs.YthhbhbfkbncegabGreatDoor.Sl
open Go.ChangeShapes Go.WideShapes Go.ChangeAt Go.RowKit Ws
open Go.Proofs.YthhbhbfkbncegabGreatDoor.Wd (ret_bool ret_int mulv ceilv addv)

set_option maxRecDepth 100000 in
theorem writes_sp (x : SR) (r : Int) (br : -9223372036854775808 ≤ r ∧ r ≤ 9223372036854775807) (w : World) : Calls Tryz.prog 48 #[.agg (rcells x).toArray, .int .i64 r] w fun e w' => e = .returned (.int .i64 (wrR x r)) ∧ Same w w' := by
 obtain ⟨k, sl, fl, ah, wr, pr⟩ := x
 obtain ⟨w0, hw0⟩ : ∃ w0, w0 = w.alloc (.cells #[.int .i64 k, .int .i64 sl, .int .i64 fl, .bool ah, .int .i64 wr, .int .i64 pr] 71) := ⟨_, rfl⟩
 obtain ⟨g, hg⟩ : ∃ g, g = w.heap.size := ⟨_, rfl⟩
 have s0 : Same w w0 := hw0 ▸ (Same.refl w).alloc _
 have b0 : Blk w0 g 71 #[.int .i64 k, .int .i64 sl, .int .i64 fl, .bool ah, .int .i64 wr, .int .i64 pr] := by rw [hw0, hg]; exact Blk.new w _ _
 have HE0 := Lib.hid hw0
 have HG := Lib.hid hg
 have S0 := Lib.hid s0
 have B0 := Lib.hid b0
 obtain ⟨c0, c1, c2, c3, c4, c5⟩ := (⟨b0.cell 0, b0.cell 1, b0.cell 2, b0.cell 3, b0.cell 4, b0.cell 5⟩ : _ ∧ _ ∧ _ ∧ _ ∧ _ ∧ _)
 simp only [Ws.q_] at c0 c1 c2 c3 c4 c5
 clear hw0 hg s0 b0
 have WC := Lib.hid (fun W => Wd.wceil r pr br W)
 have WM := Lib.hid (fun W => Wd.wmul wr (ceilv r pr) W)
 have HD := Lib.hid (show wrR ⟨k, sl, fl, ah, wr, pr⟩ r = mulv wr (ceilv r pr) from rfl)
 show Calls Tryz.prog 48 #[.agg #[.int .i64 k, .int .i64 sl, .int .i64 fl, .bool ah, .int .i64 wr, .int .i64 pr], .int .i64 r] w _
 go_enter Tryz.func48, Tryz.ntmps48
 go_upto_region 1 with fail
 rw [← HE0.out, ← HG.out]
 clear HE0 HG
 generalize ceilv r pr = cv at *
 go_quiet (first | (go_at_call 45; exact Calls.quiet_of_same ((WC.out _).mono fun _ _ ⟨he, hw⟩ => ⟨he, hw.symm⟩)) | (go_at_call 44; exact Calls.quiet_of_same ((WM.out _).mono fun _ _ ⟨he, hw⟩ => ⟨he, hw.symm⟩)))
 go_wp2_with fail
 go_ret
 exact ⟨ret_int HD.out.symm, S0.out.drewN _⟩
set_option maxRecDepth 100000 in
set_option maxHeartbeats 2000000 in
theorem fails_sp (x : SR) (r : Int) (bs : x.sl ≤ 9223372036854775807) (br : -9223372036854775808 ≤ r ∧ r ≤ 9223372036854775807) (w : World) : Calls Tryz.prog 37 #[.agg (rcells x).toArray, .int .i64 r] w fun e w' => e = .returned (.int .i64 (flR x r)) ∧ Same w w' := by
 have WS := Lib.hid (fun W => writes_sp x r br W)
 have HB := Lib.hid (wr_bd x r)
 have HD := Lib.hid (show flR x r = if x.k = 3 ∨ x.k = 5 then wrR x r else if x.k = 4 then wrR x r / (max x.sl 2 - 1) else 0 from rfl)
 obtain ⟨k, sl, fl, ah, wr, pr⟩ := x
 obtain ⟨w0, hw0⟩ : ∃ w0, w0 = w.alloc (.cells #[.int .i64 k, .int .i64 sl, .int .i64 fl, .bool ah, .int .i64 wr, .int .i64 pr] 71) := ⟨_, rfl⟩
 obtain ⟨g, hg⟩ : ∃ g, g = w.heap.size := ⟨_, rfl⟩
 have s0 : Same w w0 := hw0 ▸ (Same.refl w).alloc _
 have b0 : Blk w0 g 71 #[.int .i64 k, .int .i64 sl, .int .i64 fl, .bool ah, .int .i64 wr, .int .i64 pr] := by rw [hw0, hg]; exact Blk.new w _ _
 have HE0 := Lib.hid hw0
 have HG := Lib.hid hg
 have S0 := Lib.hid s0
 have B0 := Lib.hid b0
 obtain ⟨c0, c1, c2, c3, c4, c5⟩ := (⟨b0.cell 0, b0.cell 1, b0.cell 2, b0.cell 3, b0.cell 4, b0.cell 5⟩ : _ ∧ _ ∧ _ ∧ _ ∧ _ ∧ _)
 simp only [Ws.q_] at c0 c1 c2 c3 c4 c5
 clear hw0 hg s0 b0
 replace WS := Lib.hid (fun W => (show Calls Tryz.prog 48 #[.agg #[.int .i64 k, .int .i64 sl, .int .i64 fl, .bool ah, .int .i64 wr, .int .i64 pr], .int .i64 r] W fun e w' => e = .returned (.int .i64 (wrR ⟨k, sl, fl, ah, wr, pr⟩ r)) ∧ Same W w' from WS.out W))
 dsimp only at HD bs
 show Calls Tryz.prog 37 #[.agg #[.int .i64 k, .int .i64 sl, .int .i64 fl, .bool ah, .int .i64 wr, .int .i64 pr], .int .i64 r] w _
 go_enter Tryz.func37, Tryz.ntmps37
 go_upto_region 1 with fail
 rw [← HE0.out, ← HG.out]
 clear HE0 HG
 generalize wrR ⟨k, sl, fl, ah, wr, pr⟩ r = n at *
 by_cases h1 : k = 3
 ·subst h1
  go_wp2_with fail
  refine (WS.out _).mono ?_
  rintro e w1 ⟨rfl, s1⟩
  go_wp2_with fail
  go_ret
  exact ⟨ret_int (by rw [HD.out, if_pos (.inl trivial)]), S0.out.trans s1⟩
 ·by_cases h2 : k = 5
  ·subst h2
   go_wp2_with fail
   refine (WS.out _).mono ?_
   rintro e w1 ⟨rfl, s1⟩
   go_wp2_with fail
   go_ret
   exact ⟨ret_int (by rw [HD.out, if_pos (.inr trivial)]), S0.out.trans s1⟩
  ·have e1 : (k == 3) = false := by simpa using h1
   have e2 : (k == 5) = false := by simpa using h2
   by_cases h3 : k = 4
   ·subst h3
    have HV := Lib.hid (show flR ⟨4, sl, fl, ah, wr, pr⟩ r = n / (max sl 2 - 1) by rw [HD.out, if_neg (by omega), if_pos rfl])
    clear h1 h2 e1 e2 HD
    go_wp2_with fail
    obtain ⟨q, hq⟩ : ∃ q, q = max sl 2 := ⟨_, rfl⟩
    have HQ := Lib.hid hq
    have hqm : (if sl < 2 then 2 else sl) = q := by rw [hq]; split <;> omega
    have hbn : 0 ≤ n ∧ n ≤ 1099511627776 := HB.out
    obtain ⟨p, hp⟩ : ∃ p, p = q - 1 := ⟨_, rfl⟩
    have HPQ := Lib.hid hp
    have hp0 : ¬ p = 0 := by omega
    have hpw : IntKind.i64.wrap (q - 1) = p := by rw [hp]; exact Go.IntWalk.i64_in _ (by omega)
    have hdb : 0 ≤ n / p ∧ n / p ≤ n := ⟨Int.ediv_nonneg hbn.1 (by omega), Int.ediv_le_self _ hbn.1⟩
    have hdw : IntKind.i64.wrap (n.tdiv p) = n / p := by rw [Int.tdiv_eq_ediv_of_nonneg hbn.1]; exact Go.IntWalk.i64_in _ (by omega)
    clear hp hdb hbn
    have hq1 : 2 ≤ q ∧ q ≤ 9223372036854775807 := by omega
    clear hq
    refine wp_region_held_drew (S := fun w' => Same w0 w') (by kernel_rfl) ?_ (fun hHeld => ?_)
    ·exact (Same.refl w0).drew
    refine Ro.tn 0 ?_ ?_ ?_
    rotate_left
    ·intro wS hSw; (try dsimp only at hSw); obtain ⟨v0, v1, v2, v3, v4, v5⟩ := (⟨(B0.out.same hSw).cell 0, (B0.out.same hSw).cell 1, (B0.out.same hSw).cell 2, (B0.out.same hSw).cell 3, (B0.out.same hSw).cell 4, (B0.out.same hSw).cell 5⟩ : _ ∧ _ ∧ _ ∧ _ ∧ _ ∧ _); simp only [Ws.q_] at v0 v1 v2 v3 v4 v5; go_simp; try with_reducible rfl
    try simp only [Ro.p]
    refine Ro.tn 1 ?_ ?_ ?_
    rotate_left
    ·intro wS hSw; (try dsimp only at hSw); go_simp; try with_reducible rfl
    try simp only [Ro.p]
    refine Ro.tn 3 ?_ ?_ ?_
    rotate_left
    ·intro wS hSw; (try dsimp only at hSw); go_simp; try with_reducible rfl
    try simp only [Ro.p]
    refine Ro.tn 4 ?_ ?_ ?_
    rotate_left
    ·intro wS hSw; (try dsimp only at hSw); obtain ⟨v0, v1, v2, v3, v4, v5⟩ := (⟨(B0.out.same hSw).cell 0, (B0.out.same hSw).cell 1, (B0.out.same hSw).cell 2, (B0.out.same hSw).cell 3, (B0.out.same hSw).cell 4, (B0.out.same hSw).cell 5⟩ : _ ∧ _ ∧ _ ∧ _ ∧ _ ∧ _); simp only [Ws.q_] at v0 v1 v2 v3 v4 v5; go_simp; try with_reducible rfl
    try simp only [Ro.p]
    refine Ro.tn 5 ?_ ?_ ?_
    rotate_left
    ·intro wS hSw; (try dsimp only at hSw); go_simp; try with_reducible rfl
    try simp only [Ro.p]
    refine Ro.tn 6 ?_ ?_ ?_
    rotate_left
    ·intro wS hSw; (try dsimp only at hSw); go_simp; try with_reducible rfl
    try simp only [Ro.p]
    refine Ro.one_on (i := 2) rfl (by kernel_rfl) (by rfl) (fun K hK => ?_)
    go_simp
    go_at_call 48
    refine (WS.out _).mono ?_
    rintro e w1 ⟨rfl, s1⟩
    refine hK.out _ _ ?_ (fun hNew => ?_)
    ·exact hHeld.trans s1
    clear hK K hHeld; have hHeld := hNew; clear hNew
    try simp only [Ro.p]
    refine Ro.tn 7 ?_ ?_ ?_
    rotate_left
    ·intro wS hSw; (try dsimp only at hSw); go_simp; try with_reducible rfl
    try simp only [Ro.p]
    refine Ro.tn 8 ?_ ?_ ?_
    rotate_left
    ·intro wS hSw; (try dsimp only at hSw); go_simp; try with_reducible rfl
    try simp only [Ro.p]
    refine wpAnyH_done (by kernel_rfl) ?_ _
    go_wp2_with fail
    go_ret
    exact ⟨ret_int (by rw [HV.out, ← HQ.out, ← HPQ.out]), S0.out.trans hHeld⟩
   ·have e3 : (k == 4) = false := by simpa using h3
    have HV := Lib.hid (show flR ⟨k, sl, fl, ah, wr, pr⟩ r = 0 by rw [HD.out, if_neg (by omega), if_neg h3])
    clear h1 h2 h3
    go_wp2_with fail
    go_ret
    exact ⟨ret_int HV.out.symm, S0.out⟩
end Go.Proofs.YthhbhbfkbncegabGreatDoor.Sl
