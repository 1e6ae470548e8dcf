/-

  SystemCopies: two systems held against each other; a copy that goes its own way.
-/
import Derived.Test.YtaclphhbdfoaeaaDoorSysLi
set_option linter.unusedVariables false
set_option linter.unusedSimpArgs false
namespace Go.Proofs.YtaclphhbdfoaeaaDoor.Sy
open Go.ChangeShapes Go.WideShapes Go.ChangeAt Go.RowKit Ws
open Go.Proofs.YtaclphhbdfoaeaaDoor.Im
open Go.Proofs.YtaclphhbdfoaeaaDoor.Is (Tabs)

set_option maxRecDepth 100000 in
set_option maxHeartbeats 4000000 in
theorem copies_walk (A B C D : Option Addr) (n c m d n' c' m' d' : Nat) (s t : PS) (w : World) (hs : SysAt w A n B m s) (ht : SysAt w C n' D m' t) (hnm : n ≤ maxLen ∧ m ≤ maxLen) (hnm' : n' ≤ maxLen ∧ m' ≤ maxLen) (hT : Tabs w) :
    Calls Tryd.prog 3 #[.agg #[.slice A n c, .slice B m d], .agg #[.slice C n' c', .slice D m' d']] w fun e w' => e = .returned (.bool true) ∧ Same w w' := by
  have hs1 := (Same.refl w).alloc (.cells #[.slice A n c, .slice B m d] 25)
  have hb1 := Blk.new w 25 #[.slice A n c, .slice B m d]
  obtain ⟨w1, hw1⟩ : ∃ w1, w1 = w.alloc (.cells #[.slice A n c, .slice B m d] 25) := ⟨_, rfl⟩
  rw [← hw1] at hs1 hb1
  have hs2 := (Same.refl w1).alloc (.cells #[.slice C n' c', .slice D m' d'] 25)
  have hb2 := Blk.new w1 25 #[.slice C n' c', .slice D m' d']
  rw [show w1.heap.size = w.heap.size + 1 by rw [hw1, World.size_alloc]] at hb2
  obtain ⟨w2, hw2⟩ : ∃ w2, w2 = w1.alloc (.cells #[.slice C n' c', .slice D m' d'] 25) := ⟨_, rfl⟩
  rw [← hw2] at hs2 hb2
  have HW1 := Lib.hid hw1
  have HW2 := Lib.hid hw2
  have HB1 := Lib.hid (hb1.same hs2)
  have HB2 := Lib.hid hb2
  have HS := Lib.hid (hs1.trans hs2)
  have HA := Lib.hid (fun w' (h : Same w w') => hs.same h)
  have HC := Lib.hid (fun w' (h : Same w w') => ht.same h)
  have AW := Lib.hid (fun w' (h : Same w w') => awake32 w' (hT.same h))
  have HWK := Lib.hid (wok_of hs)
  have HNM := Lib.hid (And.intro hnm hnm')
  have HTN := Lib.hid hs.hn
  have HTM := Lib.hid hs.hm
  obtain ⟨q, hq⟩ : ∃ q, q = w.heap.size := ⟨_, rfl⟩
  rw [← hq] at HB1 HB2
  have HQ := Lib.hid hq
  clear hs1 hb1 hs2 hb2 hw1 hw2 hs ht hT hnm hnm'
  have F1 := Lib.hid (few31 A B n c m d s 60 w2 (HA.out w2 HS.out) HNM.out.1)
  obtain ⟨a0, a1⟩ := (⟨HB1.out.cell 0, HB1.out.cell 1⟩ : _ ∧ _)
  simp only [List.getElem?_toArray, List.getElem?_cons_zero, List.getElem?_cons_succ] at a0 a1
  obtain ⟨b0, b1⟩ := (⟨HB2.out.cell 0, HB2.out.cell 1⟩ : _ ∧ _)
  simp only [List.getElem?_toArray, List.getElem?_cons_zero, List.getElem?_cons_succ] at b0 b1
  go_enter Tryd.func3, Tryd.ntmps3
  go_upto_region 1 with fail
  rw [← HW1.out, ← HW2.out, ← HQ.out]
  clear hq
  go_wp2_with fail
  refine F1.out.mono ?_
  rintro e w3 ⟨⟨p1, rfl, hp1⟩, s3⟩
  have HP1 := Lib.hid hp1
  have HS3 := Lib.hid (HS.out.trans s3)
  have HB13 := Lib.hid (HB1.out.same s3)
  have HB23 := Lib.hid (HB2.out.same s3)
  clear s3 hp1 F1 a0 a1 b0 b1 HB1 HB2 HW1 HW2 HS
  cases p1 with
  | false =>
    go_wp2_with fail
    refine (AW.out _ HS3.out).mono ?_
    rintro e w9 ⟨rfl, s9⟩
    have HS9 := Lib.hid (HS3.out.trans s9)
    clear s9
    go_wp2_with fail
    go_ret
    exact ⟨rfl, HS9.out⟩
  | true =>
    obtain ⟨a0, a1⟩ := (⟨HB13.out.cell 0, HB13.out.cell 1⟩ : _ ∧ _)
    simp only [List.getElem?_toArray, List.getElem?_cons_zero, List.getElem?_cons_succ] at a0 a1
    obtain ⟨b0, b1⟩ := (⟨HB23.out.cell 0, HB23.out.cell 1⟩ : _ ∧ _)
    simp only [List.getElem?_toArray, List.getElem?_cons_zero, List.getElem?_cons_succ] at b0 b1
    have F2 := Lib.hid (few31 C D n' c' m' d' t 60 w3 (HC.out w3 HS3.out) HNM.out.2)
    go_wp2_with fail
    refine F2.out.mono ?_
    rintro e w4 ⟨⟨p2, rfl, hp2⟩, s4⟩
    have HP2 := Lib.hid hp2
    have HS4 := Lib.hid (HS3.out.trans s4)
    have HB14 := Lib.hid (HB13.out.same s4)
    have HB24 := Lib.hid (HB23.out.same s4)
    clear s4 hp2 F2 a0 a1 b0 b1 HB13 HB23 HS3
    cases p2 with
    | false =>
      go_wp2_with fail
      refine (AW.out _ HS4.out).mono ?_
      rintro e w9 ⟨rfl, s9⟩
      have HS9 := Lib.hid (HS4.out.trans s9)
      clear s9
      go_wp2_with fail
      go_ret
      exact ⟨rfl, HS9.out⟩
    | true =>
      obtain ⟨hf1, hf2⟩ := HP1.out (by first | rfl | trivial)
      have hn6 : n ≤ 60 := by have := hf1.1; have := HTN.out; omega
      have hm6 : m ≤ 60 := by have := hf2.1; have := HTM.out; omega
      have CP := Lib.hid (scopy_any A B n c m d s w4 (HA.out w4 HS4.out) hf1.2 hf2.2 hn6 hm6)
      clear hf1 hf2 HP1 HP2
      obtain ⟨a0, a1⟩ := (⟨HB14.out.cell 0, HB14.out.cell 1⟩ : _ ∧ _)
      simp only [List.getElem?_toArray, List.getElem?_cons_zero, List.getElem?_cons_succ] at a0 a1
      obtain ⟨b0, b1⟩ := (⟨HB24.out.cell 0, HB24.out.cell 1⟩ : _ ∧ _)
      simp only [List.getElem?_toArray, List.getElem?_cons_zero, List.getElem?_cons_succ] at b0 b1
      go_wp2_with fail
      refine CP.out.mono ?_
      rintro e w5 ⟨A', c1, B', d1, ds, es, rfl, hsr, hap, s5⟩
      have hs6 := (Same.refl w5).alloc (.cells #[.slice A' n c1, .slice B' m d1] 25)
      have hb6 := Blk.new w5 25 #[.slice A' n c1, .slice B' m d1]
      have HSR := Lib.hid (hsr.keep hs6 (fun _ _ f => f))
      have HAP := Lib.hid hap
      have S46 := Lib.hid (s5.trans hs6)
      have HS6 := Lib.hid (HS4.out.trans (s5.trans hs6))
      have HB16 := Lib.hid (HB14.out.same (s5.trans hs6))
      have HB26 := Lib.hid (HB24.out.same (s5.trans hs6))
      obtain ⟨G, hG⟩ : ∃ G, G = w5.heap.size := ⟨_, rfl⟩
      rw [← hG] at hb6
      have HG := Lib.hid hG
      clear hG
      have HB36 := Lib.hid hb6
      clear s5 hs6 hb6 hsr hap CP a0 a1 b0 b1
      go_upto_region 4 with fail
      rw [← HG.out]
      obtain ⟨w6, hw6⟩ : ∃ w6, w6 = w5.alloc (.cells #[.slice A' n c1, .slice B' m d1] 25) := ⟨_, rfl⟩
      rw [← hw6] at HSR S46 HS6 HB16 HB26 HB36 ⊢
      clear hw6
      obtain ⟨a0, a1⟩ := (⟨HB16.out.cell 0, HB16.out.cell 1⟩ : _ ∧ _)
      simp only [List.getElem?_toArray, List.getElem?_cons_zero, List.getElem?_cons_succ] at a0 a1
      obtain ⟨b0, b1⟩ := (⟨HB26.out.cell 0, HB26.out.cell 1⟩ : _ ∧ _)
      simp only [List.getElem?_toArray, List.getElem?_cons_zero, List.getElem?_cons_succ] at b0 b1
      obtain ⟨x0, x1⟩ := (⟨HB36.out.cell 0, HB36.out.cell 1⟩ : _ ∧ _)
      simp only [List.getElem?_toArray, List.getElem?_cons_zero, List.getElem?_cons_succ] at x0 x1
      have HCC := Lib.hid (fun w' (h : Same w6 w') => (HSR.out.at_ HWK.out).same h)
      have E1 := Lib.hid (fun w' (h : Same w6 w') => systems_eq A' B' A B n c1 m d1 n c m d s s w' (HCC.out w' h) (HA.out w' (HS6.out.trans h)) HNM.out.1 true (decide_eq_true rfl).symm)
      have E2 := Lib.hid (fun w' (h : Same w6 w') => ssame_any A' B' A B n c1 m d1 n c m d s s w' (HCC.out w' h) (HA.out w' (HS6.out.trans h)) HNM.out.1 true (decide_eq_true rfl).symm)
      obtain ⟨E, hE⟩ : ∃ E, E = decide (s = t) := ⟨_, rfl⟩
      have E3 := Lib.hid (fun w' (h : Same w6 w') => ssame_any A B C D n c m d n' c' m' d' s t w' (HA.out w' (HS6.out.trans h)) (HC.out w' (HS6.out.trans h)) HNM.out.1 E hE)
      have E4 := Lib.hid (fun w' (h : Same w6 w') => systems_eq A B C D n c m d n' c' m' d' s t w' (HA.out w' (HS6.out.trans h)) (HC.out w' (HS6.out.trans h)) HNM.out.1 E hE)
      clear hE
      have SW := Lib.hid (fun w' (h : Same w6 w') => (show w'.cell? ⟨q, 0, none⟩ = some (.slice A n c) ∧ w'.cell? ⟨q, 1, none⟩ = some (.slice B m d) ∧ w'.cell? ⟨q + 1, 0, none⟩ = some (.slice C n' c') ∧ w'.cell? ⟨q + 1, 1, none⟩ = some (.slice D m' d') ∧ w'.cell? ⟨G, 0, none⟩ = some (.slice A' n c1) ∧ w'.cell? ⟨G, 1, none⟩ = some (.slice B' m d1) from ⟨h.cell a0, h.cell a1, h.cell b0, h.cell b1, h.cell x0, h.cell x1⟩))
      have SD := Lib.hid (Same.drew (Same.refl w6))
      clear a0 a1 b0 b1 x0 x1
      refine wp_region_held_drew (S := fun w' => w'.cell? ⟨q, 0, none⟩ = some (.slice A n c) ∧ w'.cell? ⟨q, 1, none⟩ = some (.slice B m d) ∧ w'.cell? ⟨q + 1, 0, none⟩ = some (.slice C n' c') ∧ w'.cell? ⟨q + 1, 1, none⟩ = some (.slice D m' d') ∧ w'.cell? ⟨G, 0, none⟩ = some (.slice A' n c1) ∧ w'.cell? ⟨G, 1, none⟩ = some (.slice B' m d1)) (by kernel_rfl) (SW.out _ SD.out) (fun hH => ?_)
      clear hH
      refine Ro.take_on (i := 0) (v := ?_) rfl (by kernel_rfl) (by kernel_rfl) (by kernel_rfl) (fun _ _ _ h => h) (by rfl) (SW.out _ SD.out) ?_ ?_
      rotate_left
      · intro wS hSw; (try dsimp only at hSw); go_simp; try with_reducible rfl
      try simp only [Act.put, List.setIfInBounds_toArray, List.set_cons_zero, List.set_cons_succ]
      refine Ro.take_on (i := 1) (v := ?_) rfl (by kernel_rfl) (by kernel_rfl) (by kernel_rfl) (fun _ _ _ h => h) (by rfl) (SW.out _ SD.out) ?_ ?_
      rotate_left
      · intro wS hSw; (try dsimp only at hSw); go_simp; try with_reducible rfl
      try simp only [Act.put, List.setIfInBounds_toArray, List.set_cons_zero, List.set_cons_succ]
      refine Ro.one_on (i := 2) rfl (by kernel_rfl) (by rfl) (fun K hK => ?_)
      go_simp
      go_at_call 7
      refine (E1.out _ SD.out).mono ?_
      rintro e wP ⟨rfl, sP⟩
      have SP := Lib.hid (SD.out.trans sP)
      clear sP
      refine hK.out _ _ (SW.out _ SP.out) (fun hNew => ?_)
      clear hK K
      try simp only [Act.put, List.setIfInBounds_toArray, List.set_cons_zero, List.set_cons_succ]
      refine Ro.take_on (i := 3) (v := ?_) rfl (by kernel_rfl) (by kernel_rfl) (by kernel_rfl) (fun _ _ _ h => h) (by rfl) (SW.out _ SP.out) ?_ ?_
      rotate_left
      · intro wS hSw; (try dsimp only at hSw); go_simp; try with_reducible rfl
      try simp only [Act.put, List.setIfInBounds_toArray, List.set_cons_zero, List.set_cons_succ]
      refine Ro.take_on (i := 4) (v := ?_) rfl (by kernel_rfl) (by kernel_rfl) (by kernel_rfl) (fun _ _ _ h => h) (by rfl) (SW.out _ SP.out) ?_ ?_
      rotate_left
      · intro wS hSw; (try dsimp only at hSw); go_simp; try with_reducible rfl
      try simp only [Act.put, List.setIfInBounds_toArray, List.set_cons_zero, List.set_cons_succ]
      refine Ro.take_on (i := 5) (v := ?_) rfl (by kernel_rfl) (by kernel_rfl) (by kernel_rfl) (fun _ _ _ h => h) (by rfl) (SW.out _ SP.out) ?_ ?_
      rotate_left
      · intro wS hSw; (try dsimp only at hSw); go_simp; try with_reducible rfl
      try simp only [Act.put, List.setIfInBounds_toArray, List.set_cons_zero, List.set_cons_succ]
      refine Ro.take_on (i := 6) (v := ?_) rfl (by kernel_rfl) (by kernel_rfl) (by kernel_rfl) (fun _ _ _ h => h) (by rfl) (SW.out _ SP.out) ?_ ?_
      rotate_left
      · intro wS hSw; (try dsimp only at hSw); go_simp; try with_reducible rfl
      try simp only [Act.put, List.setIfInBounds_toArray, List.set_cons_zero, List.set_cons_succ]
      refine Ro.one_on (i := 7) rfl (by kernel_rfl) (by rfl) (fun K hK => ?_)
      go_simp
      go_at_call 8
      refine (E2.out _ SP.out).mono ?_
      rintro e wQ ⟨rfl, sQ⟩
      have SQ := Lib.hid (SP.out.trans sQ)
      clear sQ
      refine hK.out _ _ (SW.out _ SQ.out) (fun hNew => ?_)
      clear hK K
      try simp only [Act.put, List.setIfInBounds_toArray, List.set_cons_zero, List.set_cons_succ]
      refine Ro.take_on (i := 8) (v := ?_) rfl (by kernel_rfl) (by kernel_rfl) (by kernel_rfl) (fun _ _ _ h => h) (by rfl) (SW.out _ SQ.out) ?_ ?_
      rotate_left
      · intro wS hSw; (try dsimp only at hSw); go_simp; try with_reducible rfl
      try simp only [Act.put, List.setIfInBounds_toArray, List.set_cons_zero, List.set_cons_succ]
      refine Ro.take_on (i := 9) (v := ?_) rfl (by kernel_rfl) (by kernel_rfl) (by kernel_rfl) (fun _ _ _ h => h) (by rfl) (SW.out _ SQ.out) ?_ ?_
      rotate_left
      · intro wS hSw; (try dsimp only at hSw); go_simp; try with_reducible rfl
      try simp only [Act.put, List.setIfInBounds_toArray, List.set_cons_zero, List.set_cons_succ]
      refine Ro.take_on (i := 10) (v := ?_) rfl (by kernel_rfl) (by kernel_rfl) (by kernel_rfl) (fun _ _ _ h => h) (by rfl) (SW.out _ SQ.out) ?_ ?_
      rotate_left
      · intro wS hSw; (try dsimp only at hSw); go_simp; try with_reducible rfl
      try simp only [Act.put, List.setIfInBounds_toArray, List.set_cons_zero, List.set_cons_succ]
      refine Ro.take_on (i := 11) (v := ?_) rfl (by kernel_rfl) (by kernel_rfl) (by kernel_rfl) (fun _ _ _ h => h) (by rfl) (SW.out _ SQ.out) ?_ ?_
      rotate_left
      · intro wS hSw; (try dsimp only at hSw); go_simp; try with_reducible rfl
      try simp only [Act.put, List.setIfInBounds_toArray, List.set_cons_zero, List.set_cons_succ]
      refine Ro.take_on (i := 12) (v := ?_) rfl (by kernel_rfl) (by kernel_rfl) (by kernel_rfl) (fun _ _ _ h => h) (by rfl) (SW.out _ SQ.out) ?_ ?_
      rotate_left
      · intro wS hSw; (try dsimp only at hSw); go_simp; try with_reducible rfl
      try simp only [Act.put, List.setIfInBounds_toArray, List.set_cons_zero, List.set_cons_succ]
      refine Ro.take_on (i := 14) (v := ?_) rfl (by kernel_rfl) (by kernel_rfl) (by kernel_rfl) (fun _ _ _ h => h) (by rfl) (SW.out _ SQ.out) ?_ ?_
      rotate_left
      · intro wS hSw; (try dsimp only at hSw); go_simp; try with_reducible rfl
      try simp only [Act.put, List.setIfInBounds_toArray, List.set_cons_zero, List.set_cons_succ]
      refine Ro.take_on (i := 15) (v := ?_) rfl (by kernel_rfl) (by kernel_rfl) (by kernel_rfl) (fun _ _ _ h => h) (by rfl) (SW.out _ SQ.out) ?_ ?_
      rotate_left
      · intro wS hSw; (try dsimp only at hSw); go_simp; try with_reducible rfl
      try simp only [Act.put, List.setIfInBounds_toArray, List.set_cons_zero, List.set_cons_succ]
      refine Ro.one_on (i := 13) rfl (by kernel_rfl) (by rfl) (fun K hK => ?_)
      go_simp
      go_at_call 8
      refine (E3.out _ SQ.out).mono ?_
      rintro e wR ⟨rfl, sR⟩
      have SR := Lib.hid (SQ.out.trans sR)
      clear sR
      refine hK.out _ _ (SW.out _ SR.out) (fun hNew => ?_)
      clear hK K
      try simp only [Act.put, List.setIfInBounds_toArray, List.set_cons_zero, List.set_cons_succ]
      refine Ro.one_on (i := 16) rfl (by kernel_rfl) (by rfl) (fun K hK => ?_)
      go_simp
      go_at_call 7
      refine (E4.out _ SR.out).mono ?_
      rintro e wT ⟨rfl, sT⟩
      have ST := Lib.hid (SR.out.trans sT)
      clear sT
      refine hK.out _ _ (SW.out _ ST.out) (fun hNew => ?_)
      clear hK K
      try simp only [Act.put, List.setIfInBounds_toArray, List.set_cons_zero, List.set_cons_succ]
      have hee : (E != E) = false := by simp
      refine Ro.take_on (i := 17) (v := ?_) rfl (by kernel_rfl) (by kernel_rfl) (by kernel_rfl) (fun _ _ _ h => h) (by rfl) (SW.out _ ST.out) ?_ ?_
      rotate_left
      · intro wS hSw; (try dsimp only at hSw); go_simp; try with_reducible rfl
      try simp only [Act.put, List.setIfInBounds_toArray, List.set_cons_zero, List.set_cons_succ]
      refine Ro.take_on (i := 18) (v := ?_) rfl (by kernel_rfl) (by kernel_rfl) (by kernel_rfl) (fun _ _ _ h => h) (by rfl) (SW.out _ ST.out) ?_ ?_
      rotate_left
      · intro wS hSw; (try dsimp only at hSw); go_simp; try with_reducible rfl
      try simp only [Act.put, List.setIfInBounds_toArray, List.set_cons_zero, List.set_cons_succ]
      refine wpAnyH_done (by kernel_rfl) ?_ _
      have L0 := Lib.hid (show LI w4 wT G A' B' n c1 m d1 ds es (fun _ _ => false) from ⟨(TS.of HSR.out).chg ST.out (fun _ _ f => f.elim) (fun _ _ f => f.elim), (RD.of HSR.out).chg ST.out (fun _ _ f => f.elim) (fun _ _ f => f.elim), S46.out.trans ST.out, HB36.out.same ST.out⟩)
      have HLN := Lib.hid (show ds.length = n by have h1 := HSR.out.lens.1; rw [← HSR.out.ts, List.length_map] at h1; exact h1)
      have HLM := Lib.hid (show es.length = m by have h1 := HSR.out.lens.2; rw [← HSR.out.os, List.length_map] at h1; exact h1)
      have HDT := Lib.hid (show ∀ (k : Nat) (p : PT), s.ts[k]? = some p → ∃ e, ds[k]? = some e ∧ e.p = p from fun k p hp => by rw [← HSR.out.ts, List.getElem?_map] at hp; exact Option.map_eq_some_iff.1 hp)
      have HLX := Lib.hid (show ∀ e ∈ ds, e.p.code.length ≤ maxLen from fun e he => ownK_max (HSR.out.tk e he))
      have HLY := Lib.hid (show ∀ e ∈ es, e.p.rd.length ≤ maxLen from fun e he => ownK_max (HSR.out.ok e he).2)
      clear E1 E2 E3 E4 HCC HSR SP SQ SR ST SW SD HB16 HB26 HB36 hee
      obtain ⟨x0, x1⟩ := (⟨L0.out.bx.cell 0, L0.out.bx.cell 1⟩ : _ ∧ _)
      simp only [List.getElem?_toArray, List.getElem?_cons_zero, List.getElem?_cons_succ] at x0 x1
      go_wp2_with fail
      clear x0 x1
      go_loopg [45] n (fun gk iv wx => ∃ k : Nat, k + gk = n ∧ iv = .int .i64 k ∧ LI w4 wx G A' B' n c1 m d1 ds es (fun a _ => decide (a < k)))
      case atStart => exact ⟨0, by omega, rfl, L0.out.ext (fun j _ _ _ _ _ => by simp)⟩
      case round =>
        obtain ⟨k, hk, rfl, hli⟩ := hrel
        have HLI := Lib.hid hli
        clear hli L0
        cases gk with
        | zero =>
          obtain rfl : n = k := by omega
          have hge : ¬ (n : Int) < (n : Int) := by omega
          obtain ⟨x0, x1⟩ := (⟨HLI.out.bx.cell 0, HLI.out.bx.cell 1⟩ : _ ∧ _)
          simp only [List.getElem?_toArray, List.getElem?_cons_zero, List.getElem?_cons_succ] at x0 x1
          go_wp2_with fail
          clear x0 x1
          go_loopg [77] m (fun gk iv wx => ∃ k : Nat, k + gk = m ∧ iv = .int .i64 k ∧ LI w4 wx G A' B' n c1 m d1 ds es (fun a _ => decide (a < n)))
          case atStart => exact ⟨0, by omega, rfl, HLI.out⟩
          case round =>
            obtain ⟨k, hk, rfl, hlm⟩ := hrel
            have HLM1 := Lib.hid hlm
            clear hlm HLI
            cases gk with
            | zero =>
              obtain rfl : m = k := by omega
              have hge3 : ¬ (m : Int) < (m : Int) := by omega
              obtain ⟨a0, a1⟩ := (⟨(HB14.out.same HLM1.out.sm).cell 0, (HB14.out.same HLM1.out.sm).cell 1⟩ : _ ∧ _)
              simp only [List.getElem?_toArray, List.getElem?_cons_zero, List.getElem?_cons_succ] at a0 a1
              go_wp2_with fail
              clear a0 a1
              go_loopg [103] n (fun gk iv wx => ∃ k : Nat, k + gk = n ∧ iv = .int .i64 k ∧ LI w4 wx G A' B' n c1 m d1 ds es (fun a _ => decide (a < n)))
              case atStart => exact ⟨0, by omega, rfl, HLM1.out⟩
              case round =>
                obtain ⟨k, hk, rfl, hln⟩ := hrel
                have HL5 := Lib.hid hln
                clear hln HLM1
                cases gk with
                | zero =>
                  obtain rfl : n = k := by omega
                  have hge5 : ¬ (n : Int) < (n : Int) := by omega
                  go_wp2_with fail
                  refine (AW.out _ (HS4.out.trans HL5.out.sm)).mono ?_
                  rintro e w9 ⟨rfl, s9⟩
                  have HS9 := Lib.hid ((HS4.out.trans HL5.out.sm).trans s9)
                  clear s9
                  go_wp2_with fail
                  go_ret
                  exact ⟨rfl, HS9.out⟩
                | succ GN =>
                  have hlt5 : (k : Int) < n := by omega
                  have k0 : (0 : Int) ≤ k := by omega
                  obtain ⟨p, hp⟩ : ∃ p, s.ts[k]? = some p := ⟨_, List.getElem?_eq_getElem (by have := HTN.out; omega)⟩
                  obtain ⟨e, he, hep⟩ := HDT.out k p hp
                  have HE := Lib.hid he
                  have HEP := Lib.hid hep
                  obtain ⟨b, o, hA, X, cX, e0, e1, e2, e3, e4, e5, e6, hcx, hlx⟩ := (HA.out w4 HS4.out).ht.at_ hp
                  obtain ⟨len, hlen⟩ : ∃ len, len = p.code.length := ⟨_, rfl⟩
                  rw [← hlen] at e6
                  have HLEN := Lib.hid hlen
                  have hlb : len ≤ 9223372036854775807 := by have h1 := HLX.out e (List.mem_of_getElem? HE.out); rw [HEP.out] at h1; unfold maxLen at h1; have := HLEN.out; omega
                  have HE6 := Lib.hid e6
                  have HCX := Lib.hid hcx
                  clear hp he hep e0 e1 e2 e3 e4 e5 e6 hcx hlx hlen
                  subst hA
                  have e6 := HL5.out.sm.cell HE6.out
                  obtain ⟨a0, a1⟩ := (⟨(HB14.out.same HL5.out.sm).cell 0, (HB14.out.same HL5.out.sm).cell 1⟩ : _ ∧ _)
                  simp only [List.getElem?_toArray, List.getElem?_cons_zero, List.getElem?_cons_succ] at a0 a1
                  go_wp2_with fail
                  clear a0 a1 e6
                  go_loopg [113] len (fun gj jv wy => ∃ j : Nat, j + gj = len ∧ jv = .int .i64 j ∧ LI w4 wy G A' B' n c1 m d1 ds es (fun a _ => decide (a < n)))
                  case atStart => exact ⟨0, by omega, rfl, HL5.out⟩
                  case round =>
                    obtain ⟨j, hj, rfl, hlj⟩ := hrel
                    have HLJ := Lib.hid hlj
                    clear hlj HL5
                    cases gk with
                    | zero =>
                      obtain rfl : len = j := by omega
                      have hge6 : ¬ (len : Int) < (len : Int) := by omega
                      go_wp2_with fail
                      go_roundg GN
                      case rel => exact ⟨k + 1, by omega, by go_num, HLJ.out⟩
                      case measure => omega
                    | succ GJ =>
                      have hlt6 : (j : Int) < len := by omega
                      have j0 : (0 : Int) ≤ j := by omega
                      obtain ⟨x, hx⟩ : ∃ x, p.code[j]? = some x := ⟨_, List.getElem?_eq_getElem (by have := HLEN.out; omega)⟩
                      obtain ⟨_, b2, o2, hX, hcc⟩ := (HCX.out.same HLJ.out.sm) j x hx
                      obtain ⟨u0, u1, u2, u3, u4⟩ := (⟨hcc 0 _ rfl, hcc 1 _ rfl, hcc 2 _ rfl, hcc 3 _ rfl, hcc 4 _ rfl⟩ : _ ∧ _ ∧ _ ∧ _ ∧ _)
                      rw [Nat.add_zero] at u0
                      have hxe : e.p.code[j]? = some x := by rw [HEP.out]; exact hx
                      obtain ⟨gx, hgx, _, _, c0, c1', c2, c3, c4⟩ := HLJ.out.ts.cd k e j x HE.out hxe
                      rw [if_pos (by simp; omega)] at c0
                      obtain ⟨g, hg, p6, _⟩ := HLJ.out.ts.hd k e HE.out
                      rw [HEP.out, ← HLEN.out, hgx] at p6
                      have e6 := HLJ.out.sm.cell HE6.out
                      rw [hX] at e6
                      obtain ⟨x0, x1⟩ := (⟨HLJ.out.bx.cell 0, HLJ.out.bx.cell 1⟩ : _ ∧ _)
                      simp only [List.getElem?_toArray, List.getElem?_cons_zero, List.getElem?_cons_succ] at x0 x1
                      obtain ⟨a0, a1⟩ := (⟨(HB14.out.same HLJ.out.sm).cell 0, (HB14.out.same HLJ.out.sm).cell 1⟩ : _ ∧ _)
                      simp only [List.getElem?_toArray, List.getElem?_cons_zero, List.getElem?_cons_succ] at a0 a1
                      rw [hg] at x0
                      clear hx hxe hcc hgx hX hg
                      obtain ⟨op, xa, xb, xc, xn⟩ := x
                      simp only at u0 u1 u2 u3 u4 c0 c1' c2 c3 c4
                      by_cases h9 : op = 99
                      · subst h9
                        go_wp2_with fail
                        go_quiet (fail)
                        have HLQ := Lib.hid (HLJ.out.same ((Same.refl wr).drewN nq))
                        go_wp2_with fail
                        go_roundg GJ
                        case rel => exact ⟨j + 1, by omega, by go_num, HLQ.out⟩
                        case measure => omega
                      · have f0 : (op == 99) = false := by simpa using h9
                        go_wp2_with fail
                        go_quiet (fail)
                        have HLQ := Lib.hid (HLJ.out.same ((Same.refl wr).drewN nq))
                        go_wp2_with fail
                        go_roundg GJ
                        case rel => exact ⟨j + 1, by omega, by go_num, HLQ.out⟩
                        case measure => omega
            | succ GM =>
              have hlt3 : (k : Int) < m := by omega
              have k0 : (0 : Int) ≤ k := by omega
              obtain ⟨e, he⟩ : ∃ e, es[k]? = some e := ⟨_, List.getElem?_eq_getElem (by have := HLM.out; omega)⟩
              have HE := Lib.hid he
              obtain ⟨g, hg, p7⟩ := HLM1.out.rd.hd k e he
              obtain ⟨len, hlen⟩ : ∃ len, len = e.p.rd.length := ⟨_, rfl⟩
              rw [← hlen] at p7
              have HLEN := Lib.hid hlen
              clear hlen he
              have hlb : len ≤ 9223372036854775807 := by have h1 := HLY.out e (List.mem_of_getElem? HE.out); unfold maxLen at h1; have := HLEN.out; omega
              subst hg
              obtain ⟨x0, x1⟩ := (⟨HLM1.out.bx.cell 0, HLM1.out.bx.cell 1⟩ : _ ∧ _)
              simp only [List.getElem?_toArray, List.getElem?_cons_zero, List.getElem?_cons_succ] at x0 x1
              go_wp2_with fail
              clear x0 x1 p7
              go_loopg [87] len (fun gj jv wy => ∃ j : Nat, j + gj = len ∧ jv = .int .i64 j ∧ LI w4 wy G A' (some ⟨g, 0, none⟩) n c1 m d1 ds es (fun a _ => decide (a < n)))
              case atStart => exact ⟨0, by omega, rfl, HLM1.out⟩
              case round =>
                obtain ⟨j, hj, rfl, hlj⟩ := hrel
                have HLJ := Lib.hid hlj
                clear hlj HLM1
                cases gk with
                | zero =>
                  obtain rfl : len = j := by omega
                  have hge2 : ¬ (len : Int) < (len : Int) := by omega
                  go_wp2_with fail
                  go_roundg GM
                  case rel => exact ⟨k + 1, by omega, by go_num, HLJ.out⟩
                  case measure => omega
                | succ GJ =>
                  have hlt4 : (j : Int) < len := by omega
                  have j0 : (0 : Int) ≤ j := by omega
                  obtain ⟨gx, hgx, hg0, ⟨cs2, hbx⟩, v0, c0⟩ := HLJ.out.rd.rd k e j HE.out (by have := HLEN.out; omega)
                  have tx := hbx.thaw j
                  obtain ⟨g', hg', p7⟩ := HLJ.out.rd.hd k e HE.out
                  injection hg' with hg'
                  injection hg' with hg'
                  subst hg'
                  rw [← HLEN.out, hgx] at p7
                  have HL3 := Lib.hid (HLJ.out.put (k := j) hbx hg0 99)
                  obtain ⟨x0, x1⟩ := (⟨HLJ.out.bx.cell 0, HLJ.out.bx.cell 1⟩ : _ ∧ _)
                  simp only [List.getElem?_toArray, List.getElem?_cons_zero, List.getElem?_cons_succ] at x0 x1
                  clear hbx hgx hg0
                  go_wp2_with fail
                  go_roundg GJ
                  case rel => exact ⟨j + 1, by omega, by go_num, HL3.out⟩
                  case measure => omega
        | succ GK =>
          have hlt : (k : Int) < n := by omega
          have k0 : (0 : Int) ≤ k := by omega
          obtain ⟨e, he⟩ : ∃ e, ds[k]? = some e := ⟨_, List.getElem?_eq_getElem (by have := HLN.out; omega)⟩
          have HE := Lib.hid he
          obtain ⟨g, hg, p6, v, p1⟩ := HLI.out.ts.hd k e he
          obtain ⟨_, cs, hbt⟩ := HLI.out.ts.tb g hg
          have t1 := hbt.thaw (k * 7 + 1)
          have HL2 := Lib.hid (HLI.out.prio hg k (-9))
          clear he hbt
          subst hg
          have HP6 := Lib.hid (HL2.out.ts.hd k e HE.out)
          obtain ⟨x0, x1⟩ := (⟨HLI.out.bx.cell 0, HLI.out.bx.cell 1⟩ : _ ∧ _)
          simp only [List.getElem?_toArray, List.getElem?_cons_zero, List.getElem?_cons_succ] at x0 x1
          go_upto_region 10 with fail
          clear x0 x1 p6 p1 t1
          generalize wr.setCell ⟨g, k * 7 + 1, none⟩ (.int .i64 (-9)) = wa at *
          obtain ⟨g', hg', p6, _⟩ := HP6.out
          injection hg' with hg'
          injection hg' with hg'
          subst hg'
          obtain ⟨x0, x1⟩ := (⟨HL2.out.bx.cell 0, HL2.out.bx.cell 1⟩ : _ ∧ _)
          simp only [List.getElem?_toArray, List.getElem?_cons_zero, List.getElem?_cons_succ] at x0 x1
          obtain ⟨len, hlen⟩ : ∃ len, len = e.p.code.length := ⟨_, rfl⟩
          rw [← hlen] at p6
          have HLEN := Lib.hid hlen
          clear hlen
          have hlb : len ≤ 9223372036854775807 := by have h1 := HLX.out e (List.mem_of_getElem? HE.out); unfold maxLen at h1; have := HLEN.out; omega
          go_wp2_with fail
          clear x0 x1 p6
          go_loopg [60] len (fun gj jv wy => ∃ j : Nat, j + gj = len ∧ jv = .int .i64 j ∧ LI w4 wy G (some ⟨g, 0, none⟩) B' n c1 m d1 ds es (fun a b => decide (a < k) || (a == k && decide (b < j))))
          case atStart => exact ⟨0, by omega, rfl, HL2.out.ext (fun j _ _ _ _ _ => by simp)⟩
          case round =>
            obtain ⟨j, hj, rfl, hlj⟩ := hrel
            have HLJ := Lib.hid hlj
            clear hlj HL2 HLI HP6
            cases gk with
            | zero =>
              obtain rfl : len = j := by omega
              have hge : ¬ (len : Int) < (len : Int) := by omega
              go_wp2_with fail
              go_roundg GK
              case rel => exact ⟨k + 1, by omega, by go_num, HLJ.out.ext (fun a e' b x ha hx => by
                  have h5 : a = k → b < len := fun h => by
                    subst h
                    have h3 := HE.out
                    rw [ha] at h3
                    injection h3 with h3
                    subst h3
                    have h4 := (List.getElem?_eq_some_iff.1 hx).1
                    have h6 := HLEN.out
                    omega
                  rw [Bool.eq_iff_iff]
                  simp only [Bool.or_eq_true, Bool.and_eq_true, decide_eq_true_eq, beq_iff_eq]
                  omega)⟩
              case measure => omega
            | succ GJ =>
              have hlt2 : (j : Int) < len := by omega
              have j0 : (0 : Int) ≤ j := by omega
              obtain ⟨x, hx⟩ : ∃ x, e.p.code[j]? = some x := ⟨_, List.getElem?_eq_getElem (by have := HLEN.out; omega)⟩
              obtain ⟨gx, hgx, _, ⟨cs2, hbx⟩, c0', _⟩ := HLJ.out.ts.cd k e j x HE.out hx
              obtain ⟨v0, c0⟩ : ∃ v0 : Int, wr.cell? ⟨gx, j * 5, none⟩ = some (.int .i64 v0) := ⟨_, c0'⟩
              have tx := hbx.thaw (j * 5)
              obtain ⟨g', hg', p6, _⟩ := HLJ.out.ts.hd k e HE.out
              injection hg' with hg'
              injection hg' with hg'
              subst hg'
              rw [← HLEN.out, hgx] at p6
              have HL3 := Lib.hid (HLJ.out.op HAP.out HE.out hx hgx)
              obtain ⟨x0, x1⟩ := (⟨HLJ.out.bx.cell 0, HLJ.out.bx.cell 1⟩ : _ ∧ _)
              simp only [List.getElem?_toArray, List.getElem?_cons_zero, List.getElem?_cons_succ] at x0 x1
              clear c0' hbx hx hgx
              go_wp2_with fail
              go_roundg GJ
              case rel => exact ⟨j + 1, by omega, by go_num, HL3.out.ext (fun a e' b x' ha hx' => by
                  rw [Bool.eq_iff_iff]
                  simp only [Bool.or_eq_true, Bool.and_eq_true, decide_eq_true_eq, beq_iff_eq]
                  omega)⟩
              case measure => omega

end Go.Proofs.YtaclphhbdfoaeaaDoor.Sy
