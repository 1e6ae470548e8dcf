/-

  The law InterfereGrows.
-/
import Derived.Test.YthhbhbfkbncegaaGreatDoorIntHead
set_option linter.unusedVariables false
set_option linter.unusedSimpArgs false
namespace Go.Proofs.YthhbhbfkbncegaaGreatDoor.Sl
open Go.ChangeShapes Go.WideShapes Go.ChangeAt Go.RowKit Ws
open Im (PT PO PS TsAt OsAt SysAt tcells ocells SysWg)
open Dm (demI dearI dearE)

set_option maxRecDepth 100000 in
set_option maxHeartbeats 8000000 in
theorem interfereGrows_walk (A B : Option Addr) (n c m d : Nat) (s : PS) (i k : Int) (r0 r1 : Int) (br0 : -9223372036854775808 ≤ r0 ∧ r0 ≤ 9223372036854775807) (br1 : -9223372036854775808 ≤ r1 ∧ r1 ≤ 9223372036854775807) (w : World) (hs : SysAt w A n B m s) (wf : SysWg s) (hnm : n ≤ maxLen ∧ m ≤ maxLen) (hT : Is.Tabs w) :
    Calls Tryz.prog 4 #[.agg #[.slice A n c, .slice B m d], .agg #[.int .i64 i, .int .i64 k], .agg #[.int .i64 r0, .int .i64 r1]] w fun e w' => e = .returned (.bool true) ∧ Same w w' := by
  obtain ⟨w0, hw0⟩ : ∃ w0, w0 = w.alloc (.cells #[.slice A n c, .slice B m d] 25) := ⟨_, rfl⟩
  obtain ⟨q0, hq0⟩ : ∃ q0, q0 = w.heap.size := ⟨_, rfl⟩
  obtain ⟨q1, hq1⟩ : ∃ q1, q1 = w0.heap.size := ⟨_, rfl⟩
  obtain ⟨w1, hw1⟩ : ∃ w1, w1 = w0.alloc (.cells #[.int .i64 i, .int .i64 k] 26) := ⟨_, rfl⟩
  have s0 : Same w w0 := hw0 ▸ (Same.refl w).alloc _
  have s1 : Same w0 w1 := hw1 ▸ (Same.refl w0).alloc _
  have b0 : Blk w0 q0 25 #[.slice A n c, .slice B m d] := by rw [hw0, hq0]; exact Blk.new w _ _
  have b1 : Blk w1 q1 26 #[.int .i64 i, .int .i64 k] := by rw [hw1, hq1]; exact Blk.new w0 _ _
  have e1 : w.heap.size + 1 = q1 := by rw [hq1, hw0]; show _ = (w.heap.push _).size; rw [Array.size_push]
  obtain ⟨q2, hq2⟩ : ∃ q2, q2 = w1.heap.size := ⟨_, rfl⟩
  obtain ⟨w2, hw2⟩ : ∃ w2, w2 = w1.alloc (.cells #[.int .i64 r0, .int .i64 r1] 26) := ⟨_, rfl⟩
  have s2 : Same w1 w2 := hw2 ▸ (Same.refl w1).alloc _
  have b2 : Blk w2 q2 26 #[.int .i64 r0, .int .i64 r1] := by rw [hw2, hq2]; exact Blk.new w1 _ _
  have e2 : w.heap.size + 1 + 1 = q2 := by rw [hq2, hw1, e1, hq1]; show _ = (w0.heap.push _).size; rw [Array.size_push]
  have S0 := Lib.hid (s0.trans (s1.trans s2))
  have B0 := Lib.hid (b0.same (s1.trans s2))
  have B1 := Lib.hid (b1.same s2)
  have B2 := Lib.hid b2
  have HE2 := Lib.hid hw2
  have E2 := Lib.hid e2
  have HE0 := Lib.hid hw0
  have HE1 := Lib.hid hw1
  have HQ0 := Lib.hid hq0
  have E1 := Lib.hid e1
  have HS := Lib.hid (hs.same S0.out)
  have HT := Lib.hid (hT.same S0.out)
  have WF := Lib.hid wf
  have FE := Lib.hid (Sy.few31 A B n c m d s 20 w2 (hs.same S0.out) hnm)
  obtain ⟨c0, c1⟩ := (⟨B0.out.cell 0, B0.out.cell 1⟩ : _ ∧ _)
  simp only [List.getElem?_toArray, List.getElem?_cons_zero, List.getElem?_cons_succ] at c0 c1
  clear hw0 hw1 hq0 hq1 s0 s1 b0 b1 e1 hs hT wf hw2 hq2 s2 b2 e2
  go_enter Tryz.func4, Tryz.ntmps4
  go_upto_region 1 with fail
  rw [E2.out, E1.out, ← HQ0.out, ← HE0.out, ← HE1.out, ← HE2.out]
  clear HE0 HE1 HQ0 E1 HE2 E2
  go_wp2_with fail
  refine FE.out.mono ?_
  rintro e wf ⟨⟨bf, rfl, hbf⟩, sf⟩
  have SF := Lib.hid sf
  have B0 := Lib.hid (B0.out.same sf)
  have B1 := Lib.hid (B1.out.same sf)
  have B2 := Lib.hid (B2.out.same sf)
  have AW := Lib.hid (fun W (h : Same wf W) => awake37 W (HT.out.same (sf.trans h)))
  have HT := Lib.hid (HT.out.same sf)
  have HS := Lib.hid (HS.out.same sf)
  clear sf FE c0 c1
  cases bf with
  | false =>
    clear hbf
    go_wp2_with fail
    refine (AW.out _ (Same.refl _)).mono ?_
    rintro e w3 ⟨rfl, s3⟩
    go_wp2_with fail
    go_ret
    exact ⟨rfl, S0.out.trans (SF.out.trans s3)⟩
  | true =>
    obtain ⟨hft, hfo⟩ := hbf rfl
    have hf : ∀ p ∈ s.ts, p.code.length ≤ 200 := hft.2
    have ho := few_wid hfo (by omega)
    have hsl := WF.out.sl
    have WR0 := Lib.hid (fun W (h : Same wf W) => iwrites_any A B n c m d s i k r0 br0 W (HS.out.same h) hnm hf ho (HT.out.same h))
    have FL0 := Lib.hid (fun W (h : Same wf W) => ifails_any A B n c m d s i k r0 br0 hsl W (HS.out.same h) hnm hf ho (HT.out.same h))
    have JB0 := Lib.hid (fun W (h : Same wf W) => ijob_any A B n c m d s i r0 br0 hsl W (HS.out.same h) hnm hf ho (HT.out.same h))
    have WR1 := Lib.hid (fun W (h : Same wf W) => iwrites_any A B n c m d s i k r1 br1 W (HS.out.same h) hnm hf ho (HT.out.same h))
    have FL1 := Lib.hid (fun W (h : Same wf W) => ifails_any A B n c m d s i k r1 br1 hsl W (HS.out.same h) hnm hf ho (HT.out.same h))
    have JB1 := Lib.hid (fun W (h : Same wf W) => ijob_any A B n c m d s i r1 br1 hsl W (HS.out.same h) hnm hf ho (HT.out.same h))
    have M1 := Lib.hid (fun h : r0 ≤ r1 => wr_mono (ofR s i k) h)
    have M2 := Lib.hid (fun h : r0 ≤ r1 => fl_mono (ofR s i k) h)
    have M3 := Lib.hid (fun h : r0 ≤ r1 => job_mono (s := s) (i := i) h)
    clear hbf hft hfo hf ho hsl
    generalize wrR (ofR s i k) r0 = x1 at *
    generalize flR (ofR s i k) r0 = x2 at *
    generalize jobI s i r0 = x3 at *
    generalize wrR (ofR s i k) r1 = y1 at *
    generalize flR (ofR s i k) r1 = y2 at *
    generalize jobI s i r1 = y3 at *
    obtain ⟨c0, c1⟩ := (⟨B0.out.cell 0, B0.out.cell 1⟩ : _ ∧ _)
    simp only [List.getElem?_toArray, List.getElem?_cons_zero, List.getElem?_cons_succ] at c0 c1
    obtain ⟨e0, e1⟩ := (⟨B1.out.cell 0, B1.out.cell 1⟩ : _ ∧ _)
    simp only [List.getElem?_toArray, List.getElem?_cons_zero, List.getElem?_cons_succ] at e0 e1
    obtain ⟨g0, g1⟩ := (⟨B2.out.cell 0, B2.out.cell 1⟩ : _ ∧ _)
    simp only [List.getElem?_toArray, List.getElem?_cons_zero, List.getElem?_cons_succ] at g0 g1

    by_cases hgt : r0 > r1
    · have hg : decide (r1 < r0) = true := by simpa using hgt
      go_wp2_with fail
      refine (AW.out _ (Same.refl _)).mono ?_
      rintro e w3 ⟨rfl, s3⟩
      go_wp2_with fail
      go_ret
      exact ⟨rfl, S0.out.trans (SF.out.trans s3)⟩
    · have hg : decide (r1 < r0) = false := by simpa using hgt
      have m1 := M1.out (by omega)
      have m2 := M2.out (by omega)
      have m3 := M3.out (by omega)
      clear M1 M2 M3
      go_wp2_with fail
      go_quiet (fail)
      have S4 := Lib.hid ((Same.refl wf).drewN nq)
      generalize wf.drewN nq = w4 at *
      have BB0 := Lib.hid (B0.out.same S4.out)
      have BB2 := Lib.hid (B2.out.same S4.out)
      clear c0 c1 e0 e1 g0 g1
      go_wp2_with fail
      refine wp_region_held_drew (S := fun w' => Same w4 w') (by kernel_rfl) ?_ (fun hHeld => ?_)
      · exact (Same.refl w4).drew
      refine Ro.tn 0 ?_ ?_ ?_
      rotate_left
      · intro wS hSw; (try dsimp only at hSw); obtain ⟨v0, v1⟩ := (⟨(BB0.out.same hSw).cell 0, (BB0.out.same hSw).cell 1⟩ : _ ∧ _); simp only [List.getElem?_toArray, List.getElem?_cons_zero, List.getElem?_cons_succ] at v0 v1; obtain ⟨u0, u1⟩ := (⟨(BB2.out.same hSw).cell 0, (BB2.out.same hSw).cell 1⟩ : _ ∧ _); simp only [List.getElem?_toArray, List.getElem?_cons_zero, List.getElem?_cons_succ] at u0 u1; go_simp; try with_reducible rfl
      try simp only [Ro.p]
      refine Ro.tn 1 ?_ ?_ ?_
      rotate_left
      · intro wS hSw; (try dsimp only at hSw); go_simp; try with_reducible rfl
      try simp only [Ro.p]
      refine Ro.tn 2 ?_ ?_ ?_
      rotate_left
      · intro wS hSw; (try dsimp only at hSw); go_simp; try with_reducible rfl
      try simp only [Ro.p]
      refine Ro.tn 3 ?_ ?_ ?_
      rotate_left
      · intro wS hSw; (try dsimp only at hSw); go_simp; try with_reducible rfl
      try simp only [Ro.p]
      refine Ro.tn 4 ?_ ?_ ?_
      rotate_left
      · intro wS hSw; (try dsimp only at hSw); obtain ⟨v0, v1⟩ := (⟨(BB0.out.same hSw).cell 0, (BB0.out.same hSw).cell 1⟩ : _ ∧ _); simp only [List.getElem?_toArray, List.getElem?_cons_zero, List.getElem?_cons_succ] at v0 v1; obtain ⟨u0, u1⟩ := (⟨(BB2.out.same hSw).cell 0, (BB2.out.same hSw).cell 1⟩ : _ ∧ _); simp only [List.getElem?_toArray, List.getElem?_cons_zero, List.getElem?_cons_succ] at u0 u1; go_simp; try with_reducible rfl
      try simp only [Ro.p]
      refine Ro.tn 6 ?_ ?_ ?_
      rotate_left
      · intro wS hSw; (try dsimp only at hSw); obtain ⟨v0, v1⟩ := (⟨(BB0.out.same hSw).cell 0, (BB0.out.same hSw).cell 1⟩ : _ ∧ _); simp only [List.getElem?_toArray, List.getElem?_cons_zero, List.getElem?_cons_succ] at v0 v1; obtain ⟨u0, u1⟩ := (⟨(BB2.out.same hSw).cell 0, (BB2.out.same hSw).cell 1⟩ : _ ∧ _); simp only [List.getElem?_toArray, List.getElem?_cons_zero, List.getElem?_cons_succ] at u0 u1; go_simp; try with_reducible rfl
      try simp only [Ro.p]
      refine Ro.tn 7 ?_ ?_ ?_
      rotate_left
      · intro wS hSw; (try dsimp only at hSw); go_simp; try with_reducible rfl
      try simp only [Ro.p]
      refine Ro.tn 8 ?_ ?_ ?_
      rotate_left
      · intro wS hSw; (try dsimp only at hSw); go_simp; try with_reducible rfl
      try simp only [Ro.p]
      refine Ro.tn 9 ?_ ?_ ?_
      rotate_left
      · intro wS hSw; (try dsimp only at hSw); go_simp; try with_reducible rfl
      try simp only [Ro.p]
      refine Ro.tn 10 ?_ ?_ ?_
      rotate_left
      · intro wS hSw; (try dsimp only at hSw); obtain ⟨v0, v1⟩ := (⟨(BB0.out.same hSw).cell 0, (BB0.out.same hSw).cell 1⟩ : _ ∧ _); simp only [List.getElem?_toArray, List.getElem?_cons_zero, List.getElem?_cons_succ] at v0 v1; obtain ⟨u0, u1⟩ := (⟨(BB2.out.same hSw).cell 0, (BB2.out.same hSw).cell 1⟩ : _ ∧ _); simp only [List.getElem?_toArray, List.getElem?_cons_zero, List.getElem?_cons_succ] at u0 u1; go_simp; try with_reducible rfl
      try simp only [Ro.p]
      refine Ro.one_on (i := 5) rfl (by kernel_rfl) (by rfl) (fun K hK => ?_)
      go_simp
      go_at_call 14
      refine (WR0.out _ (S4.out.trans hHeld)).mono ?_
      rintro e wN ⟨rfl, sN⟩
      refine hK.out _ _ ?_ (fun hNew => ?_)
      · exact hHeld.trans sN
      clear hK K hHeld; have hHeld := hNew; clear hNew
      try simp only [Ro.p]
      refine Ro.one_on (i := 11) rfl (by kernel_rfl) (by rfl) (fun K hK => ?_)
      go_simp
      go_at_call 14
      refine (WR1.out _ (S4.out.trans hHeld)).mono ?_
      rintro e wN ⟨rfl, sN⟩
      refine hK.out _ _ ?_ (fun hNew => ?_)
      · exact hHeld.trans sN
      clear hK K hHeld; have hHeld := hNew; clear hNew
      try simp only [Ro.p]
      refine Ro.tn 12 ?_ ?_ ?_
      rotate_left
      · intro wS hSw; (try dsimp only at hSw); go_simp; try with_reducible rfl
      try simp only [Ro.p]
      refine Ro.tn 13 ?_ ?_ ?_
      rotate_left
      · intro wS hSw; (try dsimp only at hSw); go_simp; try with_reducible rfl
      try simp only [Ro.p]
      refine Ro.tn 14 ?_ ?_ ?_
      rotate_left
      · intro wS hSw; (try dsimp only at hSw); obtain ⟨v0, v1⟩ := (⟨(BB0.out.same hSw).cell 0, (BB0.out.same hSw).cell 1⟩ : _ ∧ _); simp only [List.getElem?_toArray, List.getElem?_cons_zero, List.getElem?_cons_succ] at v0 v1; obtain ⟨u0, u1⟩ := (⟨(BB2.out.same hSw).cell 0, (BB2.out.same hSw).cell 1⟩ : _ ∧ _); simp only [List.getElem?_toArray, List.getElem?_cons_zero, List.getElem?_cons_succ] at u0 u1; go_simp; try with_reducible rfl
      try simp only [Ro.p]
      refine Ro.tn 15 ?_ ?_ ?_
      rotate_left
      · intro wS hSw; (try dsimp only at hSw); go_simp; try with_reducible rfl
      try simp only [Ro.p]
      refine Ro.tn 16 ?_ ?_ ?_
      rotate_left
      · intro wS hSw; (try dsimp only at hSw); go_simp; try with_reducible rfl
      try simp only [Ro.p]
      refine Ro.tn 17 ?_ ?_ ?_
      rotate_left
      · intro wS hSw; (try dsimp only at hSw); go_simp; try with_reducible rfl
      try simp only [Ro.p]
      refine Ro.tn 18 ?_ ?_ ?_
      rotate_left
      · intro wS hSw; (try dsimp only at hSw); obtain ⟨v0, v1⟩ := (⟨(BB0.out.same hSw).cell 0, (BB0.out.same hSw).cell 1⟩ : _ ∧ _); simp only [List.getElem?_toArray, List.getElem?_cons_zero, List.getElem?_cons_succ] at v0 v1; obtain ⟨u0, u1⟩ := (⟨(BB2.out.same hSw).cell 0, (BB2.out.same hSw).cell 1⟩ : _ ∧ _); simp only [List.getElem?_toArray, List.getElem?_cons_zero, List.getElem?_cons_succ] at u0 u1; go_simp; try with_reducible rfl
      try simp only [Ro.p]
      refine Ro.tn 20 ?_ ?_ ?_
      rotate_left
      · intro wS hSw; (try dsimp only at hSw); obtain ⟨v0, v1⟩ := (⟨(BB0.out.same hSw).cell 0, (BB0.out.same hSw).cell 1⟩ : _ ∧ _); simp only [List.getElem?_toArray, List.getElem?_cons_zero, List.getElem?_cons_succ] at v0 v1; obtain ⟨u0, u1⟩ := (⟨(BB2.out.same hSw).cell 0, (BB2.out.same hSw).cell 1⟩ : _ ∧ _); simp only [List.getElem?_toArray, List.getElem?_cons_zero, List.getElem?_cons_succ] at u0 u1; go_simp; try with_reducible rfl
      try simp only [Ro.p]
      refine Ro.tn 21 ?_ ?_ ?_
      rotate_left
      · intro wS hSw; (try dsimp only at hSw); go_simp; try with_reducible rfl
      try simp only [Ro.p]
      refine Ro.tn 22 ?_ ?_ ?_
      rotate_left
      · intro wS hSw; (try dsimp only at hSw); go_simp; try with_reducible rfl
      try simp only [Ro.p]
      refine Ro.tn 23 ?_ ?_ ?_
      rotate_left
      · intro wS hSw; (try dsimp only at hSw); go_simp; try with_reducible rfl
      try simp only [Ro.p]
      refine Ro.tn 24 ?_ ?_ ?_
      rotate_left
      · intro wS hSw; (try dsimp only at hSw); obtain ⟨v0, v1⟩ := (⟨(BB0.out.same hSw).cell 0, (BB0.out.same hSw).cell 1⟩ : _ ∧ _); simp only [List.getElem?_toArray, List.getElem?_cons_zero, List.getElem?_cons_succ] at v0 v1; obtain ⟨u0, u1⟩ := (⟨(BB2.out.same hSw).cell 0, (BB2.out.same hSw).cell 1⟩ : _ ∧ _); simp only [List.getElem?_toArray, List.getElem?_cons_zero, List.getElem?_cons_succ] at u0 u1; go_simp; try with_reducible rfl
      try simp only [Ro.p]
      refine Ro.one_on (i := 19) rfl (by kernel_rfl) (by rfl) (fun K hK => ?_)
      go_simp
      go_at_call 16
      refine (FL0.out _ (S4.out.trans hHeld)).mono ?_
      rintro e wN ⟨rfl, sN⟩
      refine hK.out _ _ ?_ (fun hNew => ?_)
      · exact hHeld.trans sN
      clear hK K hHeld; have hHeld := hNew; clear hNew
      try simp only [Ro.p]
      refine Ro.one_on (i := 25) rfl (by kernel_rfl) (by rfl) (fun K hK => ?_)
      go_simp
      go_at_call 16
      refine (FL1.out _ (S4.out.trans hHeld)).mono ?_
      rintro e wN ⟨rfl, sN⟩
      refine hK.out _ _ ?_ (fun hNew => ?_)
      · exact hHeld.trans sN
      clear hK K hHeld; have hHeld := hNew; clear hNew
      try simp only [Ro.p]
      refine Ro.tn 26 ?_ ?_ ?_
      rotate_left
      · intro wS hSw; (try dsimp only at hSw); go_simp; try with_reducible rfl
      try simp only [Ro.p]
      refine Ro.tn 27 ?_ ?_ ?_
      rotate_left
      · intro wS hSw; (try dsimp only at hSw); go_simp; try with_reducible rfl
      try simp only [Ro.p]
      refine Ro.tn 28 ?_ ?_ ?_
      rotate_left
      · intro wS hSw; (try dsimp only at hSw); go_simp; try with_reducible rfl
      try simp only [Ro.p]
      refine Ro.tn 29 ?_ ?_ ?_
      rotate_left
      · intro wS hSw; (try dsimp only at hSw); obtain ⟨v0, v1⟩ := (⟨(BB0.out.same hSw).cell 0, (BB0.out.same hSw).cell 1⟩ : _ ∧ _); simp only [List.getElem?_toArray, List.getElem?_cons_zero, List.getElem?_cons_succ] at v0 v1; obtain ⟨u0, u1⟩ := (⟨(BB2.out.same hSw).cell 0, (BB2.out.same hSw).cell 1⟩ : _ ∧ _); simp only [List.getElem?_toArray, List.getElem?_cons_zero, List.getElem?_cons_succ] at u0 u1; go_simp; try with_reducible rfl
      try simp only [Ro.p]
      refine Ro.tn 30 ?_ ?_ ?_
      rotate_left
      · intro wS hSw; (try dsimp only at hSw); go_simp; try with_reducible rfl
      try simp only [Ro.p]
      refine Ro.tn 31 ?_ ?_ ?_
      rotate_left
      · intro wS hSw; (try dsimp only at hSw); go_simp; try with_reducible rfl
      try simp only [Ro.p]
      refine Ro.tn 32 ?_ ?_ ?_
      rotate_left
      · intro wS hSw; (try dsimp only at hSw); obtain ⟨v0, v1⟩ := (⟨(BB0.out.same hSw).cell 0, (BB0.out.same hSw).cell 1⟩ : _ ∧ _); simp only [List.getElem?_toArray, List.getElem?_cons_zero, List.getElem?_cons_succ] at v0 v1; obtain ⟨u0, u1⟩ := (⟨(BB2.out.same hSw).cell 0, (BB2.out.same hSw).cell 1⟩ : _ ∧ _); simp only [List.getElem?_toArray, List.getElem?_cons_zero, List.getElem?_cons_succ] at u0 u1; go_simp; try with_reducible rfl
      try simp only [Ro.p]
      refine Ro.tn 34 ?_ ?_ ?_
      rotate_left
      · intro wS hSw; (try dsimp only at hSw); obtain ⟨v0, v1⟩ := (⟨(BB0.out.same hSw).cell 0, (BB0.out.same hSw).cell 1⟩ : _ ∧ _); simp only [List.getElem?_toArray, List.getElem?_cons_zero, List.getElem?_cons_succ] at v0 v1; obtain ⟨u0, u1⟩ := (⟨(BB2.out.same hSw).cell 0, (BB2.out.same hSw).cell 1⟩ : _ ∧ _); simp only [List.getElem?_toArray, List.getElem?_cons_zero, List.getElem?_cons_succ] at u0 u1; go_simp; try with_reducible rfl
      try simp only [Ro.p]
      refine Ro.tn 35 ?_ ?_ ?_
      rotate_left
      · intro wS hSw; (try dsimp only at hSw); go_simp; try with_reducible rfl
      try simp only [Ro.p]
      refine Ro.tn 36 ?_ ?_ ?_
      rotate_left
      · intro wS hSw; (try dsimp only at hSw); go_simp; try with_reducible rfl
      try simp only [Ro.p]
      refine Ro.tn 37 ?_ ?_ ?_
      rotate_left
      · intro wS hSw; (try dsimp only at hSw); obtain ⟨v0, v1⟩ := (⟨(BB0.out.same hSw).cell 0, (BB0.out.same hSw).cell 1⟩ : _ ∧ _); simp only [List.getElem?_toArray, List.getElem?_cons_zero, List.getElem?_cons_succ] at v0 v1; obtain ⟨u0, u1⟩ := (⟨(BB2.out.same hSw).cell 0, (BB2.out.same hSw).cell 1⟩ : _ ∧ _); simp only [List.getElem?_toArray, List.getElem?_cons_zero, List.getElem?_cons_succ] at u0 u1; go_simp; try with_reducible rfl
      try simp only [Ro.p]
      refine Ro.one_on (i := 33) rfl (by kernel_rfl) (by rfl) (fun K hK => ?_)
      go_simp
      go_at_call 18
      refine (JB0.out _ (S4.out.trans hHeld)).mono ?_
      rintro e wN ⟨rfl, sN⟩
      refine hK.out _ _ ?_ (fun hNew => ?_)
      · exact hHeld.trans sN
      clear hK K hHeld; have hHeld := hNew; clear hNew
      try simp only [Ro.p]
      refine Ro.one_on (i := 38) rfl (by kernel_rfl) (by rfl) (fun K hK => ?_)
      go_simp
      go_at_call 18
      refine (JB1.out _ (S4.out.trans hHeld)).mono ?_
      rintro e wN ⟨rfl, sN⟩
      refine hK.out _ _ ?_ (fun hNew => ?_)
      · exact hHeld.trans sN
      clear hK K hHeld; have hHeld := hNew; clear hNew
      try simp only [Ro.p]
      refine Ro.tn 39 ?_ ?_ ?_
      rotate_left
      · intro wS hSw; (try dsimp only at hSw); go_simp; try with_reducible rfl
      try simp only [Ro.p]
      refine Ro.tn 40 ?_ ?_ ?_
      rotate_left
      · intro wS hSw; (try dsimp only at hSw); go_simp; try with_reducible rfl
      try simp only [Ro.p]
      refine Ro.tn 41 ?_ ?_ ?_
      rotate_left
      · intro wS hSw; (try dsimp only at hSw); go_simp; try with_reducible rfl
      try simp only [Ro.p]
      refine Ro.one_on (i := 42) rfl (by kernel_rfl) (by rfl) (fun K hK => ?_)
      go_simp
      go_at_call 10
      refine (AW.out _ (S4.out.trans hHeld)).mono ?_
      rintro e wN ⟨rfl, sN⟩
      refine hK.out _ _ ?_ (fun hNew => ?_)
      · exact hHeld.trans sN
      clear hK K hHeld; have hHeld := hNew; clear hNew
      try simp only [Ro.p]
      refine Ro.tn 43 ?_ ?_ ?_
      rotate_left
      · intro wS hSw; (try dsimp only at hSw); go_simp; try with_reducible rfl
      try simp only [Ro.p]
      refine Ro.tn 44 ?_ ?_ ?_
      rotate_left
      · intro wS hSw; (try dsimp only at hSw); go_simp; try with_reducible rfl
      try simp only [Ro.p]
      refine wpAnyH_done (by kernel_rfl) ?_ _
      go_wp2_with fail
      go_ret
      exact ⟨rfl, S0.out.trans (SF.out.trans (S4.out.trans hHeld))⟩
end Go.Proofs.YthhbhbfkbncegaaGreatDoor.Sl
