/-

  The walk of the law FlowTells: programs that may be.
-/
import Derived.Test.YtejajmdmfipplaaDoorFlowTellsA
import Derived.Test.YtejajmdmfipplaaDoorRegionOff
set_option linter.unusedVariables false
set_option linter.unusedSimpArgs false
namespace Go.Proofs.YtejajmdmfipplaaDoor.Fw
open Go.ChangeShapes Go.WideShapes Go.ChangeAt Go.RowKit Ws Fp
open Go.Proofs.YtejajmdmfipplaaDoor.Is (Tabs ins rightB leadB)

theorem told_good {p : List Ins} (h : okB p = true) : toldL p = loopsL p := by unfold toldL; rw [h]; rfl
theorem depth_cnt (l : List (Int × Int)) (x : Int) : depthI l x = cnt (fun k => hasB (lp l k) x) l.length := rfl
set_option maxRecDepth 100000 in
set_option maxHeartbeats 2000000 in
theorem tells_good (A : Option Addr) (m c : Nat) (p : List Ins) (x : Int) (w : World) (hl : p.length = m) (hm : m ≤ 200) (hp : Prg w A p) (ht : Tabs w) (hok : okB p = true) :
    Calls Tryd.prog 7 #[.slice A m c, .int .i64 x] w fun e w' => e = .returned (.bool true) ∧ Same w w' := by
  have h2 : ¬ (200 : Int) < m := by omega
  have IN := inner_any A m c p x w hl (by omega) hp ht
  have RF := fun w' (s : Same w w') => rfine_any A m c p w' hl (by omega) (hp.same s)
  have HRL := Lib.hid (fun w' (s : Same w w') => rloops_any A m c p w' hl (by omega) (hp.same s))
  have TL := fun w' (s : Same w w') => told_any A m c p w' hl (by omega) (hp.same s) (ht.same s)
  have DP := fun w' (s : Same w w') => depth_any A m c p x w' hl (by omega) (hp.same s) (ht.same s)
  have hnn : ∀ j, j < p.length → 0 ≤ (Fp.at_ p j).n := fun j hj => (hp.at_ hj).1.1
  have hF := okB_fine hok
  have HSH := Lib.hid (fun (j k : Nat) (hjk : j < k) (hk : k < (loopsL p).length) (hx : hasB (lp (loopsL p) j) x = true) (hy : hasB (lp (loopsL p) k) x = true) => hF.short (lp_mem (by omega)) (lp_mem hk) (lp_lt hjk hk) hx hy)
  have HIL := Lib.hid (fun (k : Nat) (hk : k < (loopsL p).length) => (show 0 ≤ (lp (loopsL p) k).1 ∧ (lp (loopsL p) k).1 < (lp (loopsL p) k).2 ∧ (lp (loopsL p) k).2 < 200 by
    have := hF.loop hnn (lp_mem hk)
    omega))
  have hlen := loopsTo_len (p := p) p.length
  rw [told_good hok] at IN TL DP
  rw [hok] at RF
  have HIN := Lib.hid IN
  have HRF := Lib.hid RF
  have HTL := Lib.hid TL
  have HDP := Lib.hid DP
  have HPW := Lib.hid hp
  have HTW := Lib.hid ht
  have HL := Lib.hid hl
  have HOK := Lib.hid hok
  unfold LoopsPost at HRL
  have hb5 : (loopsL p).length ≤ 200 := by unfold loopsL; omega
  have HRN := Lib.hid (fun (b : Nat) (hb : b < m) => rnext_eq hF hnn (k := b) (by omega))
  clear IN RF TL DP hp ht hF hnn hl hok hlen
  generalize hL : loopsL p = l at *
  have HLL := Lib.hid hL
  clear hL
  obtain ⟨n, hn⟩ : ∃ n, n = l.length := ⟨_, rfl⟩
  rw [← hn] at hb5
  have HN := Lib.hid hn
  clear hn
  go_enter Tryd.func7, Tryd.ntmps7
  go_wp2_with fail
  refine HIN.out.mono ?_
  rintro e w1 ⟨he, s1⟩
  have he' : e = .returned (.tuple #[.agg #[.int .i64 (innerI l x).1, .int .i64 (innerI l x).2], .bool (innerB l x)]) := he
  subst he'
  obtain ⟨u, hu⟩ : ∃ u, innerI l x = u := ⟨_, rfl⟩
  obtain ⟨fb, hfb⟩ : ∃ fb, innerB l x = fb := ⟨_, rfl⟩
  rw [hu, hfb]
  have HU := Lib.hid hu
  have HFB := Lib.hid hfb
  have hs2 := s1.alloc (.cells #[.int .i64 u.1, .int .i64 u.2] 50)
  have HS2 := Lib.hid hs2
  have HB2 := Lib.hid (Blk.new w1 50 #[.int .i64 u.1, .int .i64 u.2])
  clear he s1 hs2 HIN hu hfb
  go_wp2_with fail
  generalize w1.alloc (.cells #[.int .i64 u.1, .int .i64 u.2] 50) = w2 at *
  generalize w1.heap.size = q at *
  refine (HRF.out _ HS2.out).mono ?_
  rintro e w3 ⟨rfl, s3⟩
  have HS3 := Lib.hid (HS2.out.trans s3)
  have HB3 := Lib.hid (HB2.out.same s3)
  clear s3 HS2 HB2 HRF
  go_wp2_with fail
  refine (HRL.out _ HS3.out).mono ?_
  rintro e w4 ⟨A2, c2, rfl, ho4, s4⟩
  have HS4 := Lib.hid (HS3.out.trans s4)
  have HB4 := Lib.hid (HB3.out.same s4)
  have HSP := Lib.hid (spn_of ho4.row)
  rw [← HN.out]
  clear s4 ho4 HS3 HB3 HRL
  go_wp2_with fail
  go_loopg [67, 8, 9] n (fun gk iv v8 v9 wx => ∃ k : Nat, k + gk = n ∧ iv = .int .i64 k ∧ v8 = .int .i64 ((cnt (fun j => hasB (lp l j) x) k : Nat) : Int) ∧ v9 = .int .i64 (bestI l x k) ∧ Same w4 wx)
  case atStart => exact ⟨0, by omega, rfl, rfl, rfl, Same.refl _⟩
  case round =>
    obtain ⟨k, hk, rfl, rfl, rfl, sx⟩ := hrel
    have HS := Lib.hid sx
    clear sx
    obtain ⟨d, hd⟩ : ∃ d, d = cnt (fun j => hasB (lp l j) x) k := ⟨_, rfl⟩
    have hd1 := cnt_le (fun j => hasB (lp l j) x) k
    rw [← hd] at hd1
    rw [← hd]
    have HD := Lib.hid hd
    clear hd
    cases gk with
    | zero =>
      obtain rfl : n = k := by omega
      have hge : ¬ (n : Int) < (n : Int) := by omega
      have HSW := Lib.hid (HS4.out.trans HS.out)
      have HBR := Lib.hid (HB4.out.same HS.out)
      have HSPR := Lib.hid (HSP.out.same HS.out)
      have hdd : depthI l x = d := by rw [depth_cnt, ← HN.out, HD.out]
      have DP := HDP.out
      rw [hdd] at DP
      have HDP := Lib.hid DP
      have RE := fun w' (s : Same w w') => reached_any A m c p w' HL.out (by omega) (HPW.out.same s) (HTW.out.same s)
      have RR := fun w' (s : Same w w') => rreached_any A m c p w' HL.out (by omega) (HPW.out.same s) HOK.out
      have hE : reachL p = BL m (R p m) := by unfold reachL; rw [HOK.out, HL.out]; rfl
      rw [hE] at RE RR
      unfold Bools at RE RR
      have HRE := Lib.hid RE
      have HRR := Lib.hid RR
      have HNX := Lib.hid (fun w' (s : Same w w') => nexts_any A m c p x w' HL.out (by omega) (HPW.out.same s) (HTW.out.same s))
      have AW := Lib.hid (fun w' (s : Same w w') => awake10 w' (HTW.out.same s))
      have HUU := HU.out
      have HFF := HFB.out
      unfold innerI at HUU
      unfold innerB at HFF
      rw [← HN.out] at HUU HFF
      clear DP hdd RE RR hE HS4 HB4 HSP HS HU HFB HSH HIL HD
      unfold Told at HTL
      cases hff : first n (fun j => hasB (lp l j) x) with
      | none =>
        have hbe : bestI l x n = -1 := by unfold bestI; rw [hff]
        rw [hff] at HUU HFF
        simp only at HUU
        subst HUU
        subst HFF
        rw [hbe]
        clear hbe hff
        have d1 : decide ((0 : Int) ≤ -1) = false := by decide
        have q0 : wr.cell? ⟨q, 0, none⟩ = some (.int .i64 0) := HBR.out.cell 0
        have q1 : wr.cell? ⟨q, 1, none⟩ = some (.int .i64 0) := HBR.out.cell 1
        have SS : Hid (∀ w', Same wr w' → w'.cell? ⟨q, 0, none⟩ = some (.int .i64 0) ∧ w'.cell? ⟨q, 1, none⟩ = some (.int .i64 0) ∧ Same wr w') := Lib.hid (fun w' s => ⟨s.cell q0, s.cell q1, s⟩)
        go_wp2_with fail
        refine wp_region_held_drew (S := fun w' => w'.cell? ⟨q, 0, none⟩ = some (.int .i64 0) ∧ w'.cell? ⟨q, 1, none⟩ = some (.int .i64 0) ∧ Same wr w') (by kernel_rfl) ?_ (fun hHeld => ?_)
        · exact SS.out _ (Same.refl wr).drew
        first
          | (refine Ro.take_off (i := 0) rfl (by kernel_rfl) (by kernel_rfl) (by kernel_rfl) (fun _ _ _ h => h) (by rfl) (by assumption) ?_)
          | (refine Ro.take_on (i := 0) (v := ?_) rfl (by kernel_rfl) (by kernel_rfl) (by kernel_rfl) (fun _ _ _ h => h) (by rfl) (by assumption) ?_ ?_; rotate_left; · (intro wS hSw; (try dsimp only at hSw); go_simp; try with_reducible rfl))
        try simp only [Act.put, List.setIfInBounds_toArray, List.set_cons_zero, List.set_cons_succ]
        first
          | (refine Ro.take_off (i := 2) rfl (by kernel_rfl) (by kernel_rfl) (by kernel_rfl) (fun _ _ _ h => h) (by rfl) (by assumption) ?_)
          | (refine Ro.take_on (i := 2) (v := ?_) rfl (by kernel_rfl) (by kernel_rfl) (by kernel_rfl) (fun _ _ _ h => h) (by rfl) (by assumption) ?_ ?_; rotate_left; · (intro wS hSw; (try dsimp only at hSw); go_simp; try with_reducible rfl))
        try simp only [Act.put, List.setIfInBounds_toArray, List.set_cons_zero, List.set_cons_succ]
        first
          | (refine Ro.take_off (i := 1) rfl (by kernel_rfl) (by kernel_rfl) (by kernel_rfl) (fun _ _ _ h => h) (by rfl) (by assumption) ?_)
          | (refine Ro.one_on (i := 1) rfl (by kernel_rfl) (by rfl) (fun K hK => ?_); go_simp; go_at_call 38; refine (HTL.out _ (HSW.out.trans hHeld.2.2)).mono ?_; rintro e w' ⟨A9, c9, rfl, sp9, hs9⟩; rw [← HN.out]; (first | refine hK.out _ _ ?_ (fun hNew => ?_) | (go_wp2_with fail; refine hK.out _ _ ?_ (fun hNew => ?_))); (· (exact SS.out _ (hHeld.2.2.trans hs9))); clear hK K hHeld; have hHeld := hNew; clear hNew)
        try simp only [Act.put, List.setIfInBounds_toArray, List.set_cons_zero, List.set_cons_succ]
        first
          | (refine Ro.take_off (i := 3) rfl (by kernel_rfl) (by kernel_rfl) (by kernel_rfl) (fun _ _ _ h => h) (by rfl) (by assumption) ?_)
          | (refine Ro.one_on (i := 3) rfl (by kernel_rfl) (by rfl) (fun K hK => ?_); go_simp; go_at_call 44; have SE := spans_eq A9 A2 n n c9 c2 l l _ HN.out.symm HN.out.symm sp9 (HSPR.out.same hHeld.2.2) (by omega) (by omega); rw [decide_eq_true rfl] at SE; refine SE.mono ?_; rintro e w' ⟨rfl, hs9⟩; (first | refine hK.out _ _ ?_ (fun hNew => ?_) | (go_wp2_with fail; refine hK.out _ _ ?_ (fun hNew => ?_))); (· (exact SS.out _ (hHeld.2.2.trans hs9))); clear hK K hHeld; have hHeld := hNew; clear hNew)
        try simp only [Act.put, List.setIfInBounds_toArray, List.set_cons_zero, List.set_cons_succ]
        first
          | (refine Ro.take_off (i := 4) rfl (by kernel_rfl) (by kernel_rfl) (by kernel_rfl) (fun _ _ _ h => h) (by rfl) (by assumption) ?_)
          | (refine Ro.take_on (i := 4) (v := ?_) rfl (by kernel_rfl) (by kernel_rfl) (by kernel_rfl) (fun _ _ _ h => h) (by rfl) (by assumption) ?_ ?_; rotate_left; · (intro wS hSw; (try dsimp only at hSw); go_simp; try with_reducible rfl))
        try simp only [Act.put, List.setIfInBounds_toArray, List.set_cons_zero, List.set_cons_succ]
        first
          | (refine Ro.take_off (i := 5) rfl (by kernel_rfl) (by kernel_rfl) (by kernel_rfl) (fun _ _ _ h => h) (by rfl) (by assumption) ?_)
          | (refine Ro.take_on (i := 5) (v := ?_) rfl (by kernel_rfl) (by kernel_rfl) (by kernel_rfl) (fun _ _ _ h => h) (by rfl) (by assumption) ?_ ?_; rotate_left; · (intro wS hSw; (try dsimp only at hSw); go_simp; try with_reducible rfl))
        try simp only [Act.put, List.setIfInBounds_toArray, List.set_cons_zero, List.set_cons_succ]
        first
          | (refine Ro.take_off (i := 6) rfl (by kernel_rfl) (by kernel_rfl) (by kernel_rfl) (fun _ _ _ h => h) (by rfl) (by assumption) ?_)
          | (refine Ro.take_on (i := 6) (v := ?_) rfl (by kernel_rfl) (by kernel_rfl) (by kernel_rfl) (fun _ _ _ h => h) (by rfl) (by assumption) ?_ ?_; rotate_left; · (intro wS hSw; (try dsimp only at hSw); go_simp; try with_reducible rfl))
        try simp only [Act.put, List.setIfInBounds_toArray, List.set_cons_zero, List.set_cons_succ]
        first
          | (refine Ro.take_off (i := 7) rfl (by kernel_rfl) (by kernel_rfl) (by kernel_rfl) (fun _ _ _ h => h) (by rfl) (by assumption) ?_)
          | (refine Ro.take_on (i := 7) (v := ?_) rfl (by kernel_rfl) (by kernel_rfl) (by kernel_rfl) (fun _ _ _ h => h) (by rfl) (by assumption) ?_ ?_; rotate_left; · (intro wS hSw; (try dsimp only at hSw); go_simp; try with_reducible rfl))
        try simp only [Act.put, List.setIfInBounds_toArray, List.set_cons_zero, List.set_cons_succ]
        first
          | (refine Ro.take_off (i := 9) rfl (by kernel_rfl) (by kernel_rfl) (by kernel_rfl) (fun _ _ _ h => h) (by rfl) (by assumption) ?_)
          | (refine Ro.take_on (i := 9) (v := ?_) rfl (by kernel_rfl) (by kernel_rfl) (by kernel_rfl) (fun _ _ _ h => h) (by rfl) (by assumption) ?_ ?_; rotate_left; · (intro wS hSw; (try dsimp only at hSw); go_simp; try with_reducible rfl))
        try simp only [Act.put, List.setIfInBounds_toArray, List.set_cons_zero, List.set_cons_succ]
        first
          | (refine Ro.take_off (i := 8) rfl (by kernel_rfl) (by kernel_rfl) (by kernel_rfl) (fun _ _ _ h => h) (by rfl) (by assumption) ?_)
          | (refine Ro.one_on (i := 8) rfl (by kernel_rfl) (by rfl) (fun K hK => ?_); go_simp; go_at_call 39; refine (HDP.out _ (HSW.out.trans hHeld.2.2)).mono ?_; rintro e w' ⟨rfl, hs9⟩; (first | refine hK.out _ _ ?_ (fun hNew => ?_) | (go_wp2_with fail; refine hK.out _ _ ?_ (fun hNew => ?_))); (· (exact SS.out _ (hHeld.2.2.trans hs9))); clear hK K hHeld; have hHeld := hNew; clear hNew)
        try simp only [Act.put, List.setIfInBounds_toArray, List.set_cons_zero, List.set_cons_succ]
        first
          | (refine Ro.take_off (i := 10) rfl (by kernel_rfl) (by kernel_rfl) (by kernel_rfl) (fun _ _ _ h => h) (by rfl) (by assumption) ?_)
          | (refine Ro.take_on (i := 10) (v := ?_) rfl (by kernel_rfl) (by kernel_rfl) (by kernel_rfl) (fun _ _ _ h => h) (by rfl) (by assumption) ?_ ?_; rotate_left; · (intro wS hSw; (try dsimp only at hSw); go_simp; try with_reducible rfl))
        try simp only [Act.put, List.setIfInBounds_toArray, List.set_cons_zero, List.set_cons_succ]
        first
          | (refine Ro.take_off (i := 11) rfl (by kernel_rfl) (by kernel_rfl) (by kernel_rfl) (fun _ _ _ h => h) (by rfl) (by assumption) ?_)
          | (refine Ro.take_on (i := 11) (v := ?_) rfl (by kernel_rfl) (by kernel_rfl) (by kernel_rfl) (fun _ _ _ h => h) (by rfl) (by assumption) ?_ ?_; rotate_left; · (intro wS hSw; (try dsimp only at hSw); go_simp; try with_reducible rfl))
        try simp only [Act.put, List.setIfInBounds_toArray, List.set_cons_zero, List.set_cons_succ]
        first
          | (refine Ro.take_off (i := 12) rfl (by kernel_rfl) (by kernel_rfl) (by kernel_rfl) (fun _ _ _ h => h) (by rfl) (by assumption) ?_)
          | (refine Ro.take_on (i := 12) (v := ?_) rfl (by kernel_rfl) (by kernel_rfl) (by kernel_rfl) (fun _ _ _ h => h) (by rfl) (by assumption) ?_ ?_; rotate_left; · (intro wS hSw; (try dsimp only at hSw); go_simp; try with_reducible rfl))
        try simp only [Act.put, List.setIfInBounds_toArray, List.set_cons_zero, List.set_cons_succ]
        first
          | (refine Ro.take_off (i := 13) rfl (by kernel_rfl) (by kernel_rfl) (by kernel_rfl) (fun _ _ _ h => h) (by rfl) (by assumption) ?_)
          | (refine Ro.take_on (i := 13) (v := ?_) rfl (by kernel_rfl) (by kernel_rfl) (by kernel_rfl) (fun _ _ _ h => h) (by rfl) (by assumption) ?_ ?_; rotate_left; · (intro wS hSw; (try dsimp only at hSw); go_simp; try with_reducible rfl))
        try simp only [Act.put, List.setIfInBounds_toArray, List.set_cons_zero, List.set_cons_succ]
        first
          | (refine Ro.take_off (i := 14) rfl (by kernel_rfl) (by kernel_rfl) (by kernel_rfl) (fun _ _ _ h => h) (by rfl) (by assumption) ?_)
          | (refine Ro.take_on (i := 14) (v := ?_) rfl (by kernel_rfl) (by kernel_rfl) (by kernel_rfl) (fun _ _ _ h => h) (by rfl) (by assumption) ?_ ?_; rotate_left; · (intro wS hSw; (try dsimp only at hSw); go_simp; try with_reducible rfl))
        try simp only [Act.put, List.setIfInBounds_toArray, List.set_cons_zero, List.set_cons_succ]
        first
          | (refine Ro.take_off (i := 15) rfl (by kernel_rfl) (by kernel_rfl) (by kernel_rfl) (fun _ _ _ h => h) (by rfl) (by assumption) ?_)
          | (refine Ro.take_on (i := 15) (v := ?_) rfl (by kernel_rfl) (by kernel_rfl) (by kernel_rfl) (fun _ _ _ h => h) (by rfl) (by assumption) ?_ ?_; rotate_left; · (intro wS hSw; (try dsimp only at hSw); go_simp; try with_reducible rfl))
        try simp only [Act.put, List.setIfInBounds_toArray, List.set_cons_zero, List.set_cons_succ]
        first
          | (refine Ro.take_off (i := 16) rfl (by kernel_rfl) (by kernel_rfl) (by kernel_rfl) (fun _ _ _ h => h) (by rfl) (by assumption) ?_)
          | (refine Ro.take_on (i := 16) (v := ?_) rfl (by kernel_rfl) (by kernel_rfl) (by kernel_rfl) (fun _ _ _ h => h) (by rfl) (by assumption) ?_ ?_; rotate_left; · (intro wS hSw; (try dsimp only at hSw); go_simp; try with_reducible rfl))
        try simp only [Act.put, List.setIfInBounds_toArray, List.set_cons_zero, List.set_cons_succ]
        first
          | (refine Ro.take_off (i := 17) rfl (by kernel_rfl) (by kernel_rfl) (by kernel_rfl) (fun _ _ _ h => h) (by rfl) (by assumption) ?_)
          | (refine Ro.take_on (i := 17) (v := ?_) rfl (by kernel_rfl) (by kernel_rfl) (by kernel_rfl) (fun _ _ _ h => h) (by rfl) (by assumption) ?_ ?_; rotate_left; · (intro wS hSw; (try dsimp only at hSw); go_simp; try with_reducible rfl))
        try simp only [Act.put, List.setIfInBounds_toArray, List.set_cons_zero, List.set_cons_succ]
        first
          | (refine Ro.take_off (i := 18) rfl (by kernel_rfl) (by kernel_rfl) (by kernel_rfl) (fun _ _ _ h => h) (by rfl) (by assumption) ?_)
          | (refine Ro.take_on (i := 18) (v := ?_) rfl (by kernel_rfl) (by kernel_rfl) (by kernel_rfl) (fun _ _ _ h => h) (by rfl) (by assumption) ?_ ?_; rotate_left; · (intro wS hSw; (try dsimp only at hSw); go_simp; try with_reducible rfl))
        try simp only [Act.put, List.setIfInBounds_toArray, List.set_cons_zero, List.set_cons_succ]
        first
          | (refine Ro.take_off (i := 19) rfl (by kernel_rfl) (by kernel_rfl) (by kernel_rfl) (fun _ _ _ h => h) (by rfl) (by assumption) ?_)
          | (refine Ro.take_on (i := 19) (v := ?_) rfl (by kernel_rfl) (by kernel_rfl) (by kernel_rfl) (fun _ _ _ h => h) (by rfl) (by assumption) ?_ ?_; rotate_left; · (intro wS hSw; (try dsimp only at hSw); go_simp; try with_reducible rfl))
        try simp only [Act.put, List.setIfInBounds_toArray, List.set_cons_zero, List.set_cons_succ]
        first
          | (refine Ro.take_off (i := 20) rfl (by kernel_rfl) (by kernel_rfl) (by kernel_rfl) (fun _ _ _ h => h) (by rfl) (by assumption) ?_)
          | (refine Ro.take_on (i := 20) (v := ?_) rfl (by kernel_rfl) (by kernel_rfl) (by kernel_rfl) (fun _ _ _ h => h) (by rfl) (by assumption) ?_ ?_; rotate_left; · (intro wS hSw; (try dsimp only at hSw); go_simp; try with_reducible rfl))
        try simp only [Act.put, List.setIfInBounds_toArray, List.set_cons_zero, List.set_cons_succ]
        first
          | (refine Ro.take_off (i := 21) rfl (by kernel_rfl) (by kernel_rfl) (by kernel_rfl) (fun _ _ _ h => h) (by rfl) (by assumption) ?_)
          | (refine Ro.take_on (i := 21) (v := ?_) rfl (by kernel_rfl) (by kernel_rfl) (by kernel_rfl) (fun _ _ _ h => h) (by rfl) (by assumption) ?_ ?_; rotate_left; · (intro wS hSw; (try dsimp only at hSw); go_simp; try with_reducible rfl))
        try simp only [Act.put, List.setIfInBounds_toArray, List.set_cons_zero, List.set_cons_succ]
        first
          | (refine Ro.take_off (i := 22) rfl (by kernel_rfl) (by kernel_rfl) (by kernel_rfl) (fun _ _ _ h => h) (by rfl) (by assumption) ?_)
          | (refine Ro.take_on (i := 22) (v := ?_) rfl (by kernel_rfl) (by kernel_rfl) (by kernel_rfl) (fun _ _ _ h => h) (by rfl) (by assumption) ?_ ?_; rotate_left; · (intro wS hSw; (try dsimp only at hSw); go_simp; try with_reducible rfl))
        try simp only [Act.put, List.setIfInBounds_toArray, List.set_cons_zero, List.set_cons_succ]
        first
          | (refine Ro.take_off (i := 23) rfl (by kernel_rfl) (by kernel_rfl) (by kernel_rfl) (fun _ _ _ h => h) (by rfl) (by assumption) ?_)
          | (refine Ro.take_on (i := 23) (v := ?_) rfl (by kernel_rfl) (by kernel_rfl) (by kernel_rfl) (fun _ _ _ h => h) (by rfl) (by assumption) ?_ ?_; rotate_left; · (intro wS hSw; (try dsimp only at hSw); go_simp; try with_reducible rfl))
        try simp only [Act.put, List.setIfInBounds_toArray, List.set_cons_zero, List.set_cons_succ]
        first
          | (refine Ro.take_off (i := 24) rfl (by kernel_rfl) (by kernel_rfl) (by kernel_rfl) (fun _ _ _ h => h) (by rfl) (by assumption) ?_)
          | (refine Ro.take_on (i := 24) (v := ?_) rfl (by kernel_rfl) (by kernel_rfl) (by kernel_rfl) (fun _ _ _ h => h) (by rfl) (by assumption) ?_ ?_; rotate_left; · (intro wS hSw; (try dsimp only at hSw); go_simp; try with_reducible rfl))
        try simp only [Act.put, List.setIfInBounds_toArray, List.set_cons_zero, List.set_cons_succ]
        first
          | (refine Ro.take_off (i := 25) rfl (by kernel_rfl) (by kernel_rfl) (by kernel_rfl) (fun _ _ _ h => h) (by rfl) (by assumption) ?_)
          | (refine Ro.take_on (i := 25) (v := ?_) rfl (by kernel_rfl) (by kernel_rfl) (by kernel_rfl) (fun _ _ _ h => h) (by rfl) (by assumption) ?_ ?_; rotate_left; · (intro wS hSw; (try dsimp only at hSw); go_simp; try with_reducible rfl))
        try simp only [Act.put, List.setIfInBounds_toArray, List.set_cons_zero, List.set_cons_succ]
        first
          | (refine Ro.take_off (i := 26) rfl (by kernel_rfl) (by kernel_rfl) (by kernel_rfl) (fun _ _ _ h => h) (by rfl) (by assumption) ?_)
          | (refine Ro.take_on (i := 26) (v := ?_) rfl (by kernel_rfl) (by kernel_rfl) (by kernel_rfl) (fun _ _ _ h => h) (by rfl) (by assumption) ?_ ?_; rotate_left; · (intro wS hSw; (try dsimp only at hSw); go_simp; try with_reducible rfl))
        try simp only [Act.put, List.setIfInBounds_toArray, List.set_cons_zero, List.set_cons_succ]
        first
          | (refine Ro.take_off (i := 27) rfl (by kernel_rfl) (by kernel_rfl) (by kernel_rfl) (fun _ _ _ h => h) (by rfl) (by assumption) ?_)
          | (refine Ro.take_on (i := 27) (v := ?_) rfl (by kernel_rfl) (by kernel_rfl) (by kernel_rfl) (fun _ _ _ h => h) (by rfl) (by assumption) ?_ ?_; rotate_left; · (intro wS hSw; (try dsimp only at hSw); go_simp; try with_reducible rfl))
        try simp only [Act.put, List.setIfInBounds_toArray, List.set_cons_zero, List.set_cons_succ]
        first
          | (refine Ro.take_off (i := 28) rfl (by kernel_rfl) (by kernel_rfl) (by kernel_rfl) (fun _ _ _ h => h) (by rfl) (by assumption) ?_)
          | (refine Ro.take_on (i := 28) (v := ?_) rfl (by kernel_rfl) (by kernel_rfl) (by kernel_rfl) (fun _ _ _ h => h) (by rfl) (by assumption) ?_ ?_; rotate_left; · (intro wS hSw; (try dsimp only at hSw); go_simp; try with_reducible rfl))
        try simp only [Act.put, List.setIfInBounds_toArray, List.set_cons_zero, List.set_cons_succ]
        first
          | (refine Ro.take_off (i := 29) rfl (by kernel_rfl) (by kernel_rfl) (by kernel_rfl) (fun _ _ _ h => h) (by rfl) (by assumption) ?_)
          | (refine Ro.take_on (i := 29) (v := ?_) rfl (by kernel_rfl) (by kernel_rfl) (by kernel_rfl) (fun _ _ _ h => h) (by rfl) (by assumption) ?_ ?_; rotate_left; · (intro wS hSw; (try dsimp only at hSw); go_simp; try with_reducible rfl))
        try simp only [Act.put, List.setIfInBounds_toArray, List.set_cons_zero, List.set_cons_succ]
        first
          | (refine Ro.take_off (i := 30) rfl (by kernel_rfl) (by kernel_rfl) (by kernel_rfl) (fun _ _ _ h => h) (by rfl) (by assumption) ?_)
          | (refine Ro.take_on (i := 30) (v := ?_) rfl (by kernel_rfl) (by kernel_rfl) (by kernel_rfl) (fun _ _ _ h => h) (by rfl) (by assumption) ?_ ?_; rotate_left; · (intro wS hSw; (try dsimp only at hSw); go_simp; try with_reducible rfl))
        try simp only [Act.put, List.setIfInBounds_toArray, List.set_cons_zero, List.set_cons_succ]
        first
          | (refine Ro.take_off (i := 31) rfl (by kernel_rfl) (by kernel_rfl) (by kernel_rfl) (fun _ _ _ h => h) (by rfl) (by assumption) ?_)
          | (refine Ro.take_on (i := 31) (v := ?_) rfl (by kernel_rfl) (by kernel_rfl) (by kernel_rfl) (fun _ _ _ h => h) (by rfl) (by assumption) ?_ ?_; rotate_left; · (intro wS hSw; (try dsimp only at hSw); go_simp; try with_reducible rfl))
        try simp only [Act.put, List.setIfInBounds_toArray, List.set_cons_zero, List.set_cons_succ]
        first
          | (refine Ro.take_off (i := 32) rfl (by kernel_rfl) (by kernel_rfl) (by kernel_rfl) (fun _ _ _ h => h) (by rfl) (by assumption) ?_)
          | (refine Ro.take_on (i := 32) (v := ?_) rfl (by kernel_rfl) (by kernel_rfl) (by kernel_rfl) (fun _ _ _ h => h) (by rfl) (by assumption) ?_ ?_; rotate_left; · (intro wS hSw; (try dsimp only at hSw); go_simp; try with_reducible rfl))
        try simp only [Act.put, List.setIfInBounds_toArray, List.set_cons_zero, List.set_cons_succ]
        first
          | (refine Ro.take_off (i := 33) rfl (by kernel_rfl) (by kernel_rfl) (by kernel_rfl) (fun _ _ _ h => h) (by rfl) (by assumption) ?_)
          | (refine Ro.take_on (i := 33) (v := ?_) rfl (by kernel_rfl) (by kernel_rfl) (by kernel_rfl) (fun _ _ _ h => h) (by rfl) (by assumption) ?_ ?_; rotate_left; · (intro wS hSw; (try dsimp only at hSw); go_simp; try with_reducible rfl))
        try simp only [Act.put, List.setIfInBounds_toArray, List.set_cons_zero, List.set_cons_succ]
        first
          | (refine Ro.take_off (i := 34) rfl (by kernel_rfl) (by kernel_rfl) (by kernel_rfl) (fun _ _ _ h => h) (by rfl) (by assumption) ?_)
          | (refine Ro.take_on (i := 34) (v := ?_) rfl (by kernel_rfl) (by kernel_rfl) (by kernel_rfl) (fun _ _ _ h => h) (by rfl) (by assumption) ?_ ?_; rotate_left; · (intro wS hSw; (try dsimp only at hSw); go_simp; try with_reducible rfl))
        try simp only [Act.put, List.setIfInBounds_toArray, List.set_cons_zero, List.set_cons_succ]
        first
          | (refine Ro.take_off (i := 35) rfl (by kernel_rfl) (by kernel_rfl) (by kernel_rfl) (fun _ _ _ h => h) (by rfl) (by assumption) ?_)
          | (refine Ro.take_on (i := 35) (v := ?_) rfl (by kernel_rfl) (by kernel_rfl) (by kernel_rfl) (fun _ _ _ h => h) (by rfl) (by assumption) ?_ ?_; rotate_left; · (intro wS hSw; (try dsimp only at hSw); go_simp; try with_reducible rfl))
        try simp only [Act.put, List.setIfInBounds_toArray, List.set_cons_zero, List.set_cons_succ]
        first
          | (refine Ro.take_off (i := 36) rfl (by kernel_rfl) (by kernel_rfl) (by kernel_rfl) (fun _ _ _ h => h) (by rfl) (by assumption) ?_)
          | (refine Ro.take_on (i := 36) (v := ?_) rfl (by kernel_rfl) (by kernel_rfl) (by kernel_rfl) (fun _ _ _ h => h) (by rfl) (by assumption) ?_ ?_; rotate_left; · (intro wS hSw; (try dsimp only at hSw); go_simp; try with_reducible rfl))
        try simp only [Act.put, List.setIfInBounds_toArray, List.set_cons_zero, List.set_cons_succ]
        first
          | (refine Ro.take_off (i := 37) rfl (by kernel_rfl) (by kernel_rfl) (by kernel_rfl) (fun _ _ _ h => h) (by rfl) (by assumption) ?_)
          | (refine Ro.take_on (i := 37) (v := ?_) rfl (by kernel_rfl) (by kernel_rfl) (by kernel_rfl) (fun _ _ _ h => h) (by rfl) (by assumption) ?_ ?_; rotate_left; · (intro wS hSw; (try dsimp only at hSw); go_simp; try with_reducible rfl))
        try simp only [Act.put, List.setIfInBounds_toArray, List.set_cons_zero, List.set_cons_succ]
        refine wpAnyH_done (by kernel_rfl) ?_ _
        have x9 := hHeld.2.2
        clear hHeld SS q0 q1
        go_wp2_with fail
        refine (HRE.out _ (HSW.out.trans x9)).mono ?_
        rintro e w6 ⟨R1, k1, rfl, r1, s6⟩
        have HS6 := Lib.hid ((HSW.out.trans x9).trans s6)
        have HR1 := Lib.hid r1
        rw [BL_len]
        clear r1 s6 x9 HRE
        go_wp2_with fail
        refine (HRR.out _ HS6.out).mono ?_
        rintro e w7 ⟨R2, k2, rfl, r2, s7⟩
        have HS7 := Lib.hid (HS6.out.trans s7)
        have HR2 := Lib.hid r2
        have HR3 := Lib.hid (HR1.out.same s7)
        rw [BL_len]
        clear r2 s7 HR1 HS6 HRR
        go_wp2_with fail
        go_loopg [149] m (fun gk iv wx => ∃ k : Nat, k + gk = m ∧ iv = .int .i64 k ∧ Same w7 wx)
        case atStart => exact ⟨0, by omega, rfl, Same.refl _⟩
        case round =>
          obtain ⟨k, hk, rfl, sx⟩ := hrel
          have HSZ := Lib.hid sx
          clear sx
          cases gk with
          | zero =>
            obtain rfl : m = k := by omega
            have hge : ¬ (m : Int) < (m : Int) := by omega
            have HS8 := Lib.hid (HS7.out.trans HSZ.out)
            by_cases hx0 : x < 0
            · have e0 : decide (x < 0) = true := decide_eq_true hx0
              have hnx : nextsL p x = [] := by unfold nextsL; rw [if_neg (fun h => by omega)]
              have NXX := HNX.out _ HS8.out
              unfold Nums at NXX
              rw [hnx] at NXX
              have HNXX := Lib.hid NXX
              clear NXX hnx
              go_wp2_with fail
              refine HNXX.out.mono ?_
              rintro e w8 ⟨A8, c8, rfl, _, s8⟩
              have HS9 := Lib.hid (HS8.out.trans s8)
              clear s8
              go_wp2_with fail
              refine (AW.out _ HS9.out).mono ?_
              rintro e w9 ⟨rfl, s9⟩
              go_wp2
              go_ret
              exact ⟨rfl, HS9.out.trans s9⟩
            · have e0 : decide (x < 0) = false := decide_eq_false hx0
              by_cases hxm : (m : Int) ≤ x
              · have e1 : decide ((m : Int) ≤ x) = true := decide_eq_true hxm
                have hnx : nextsL p x = [] := by
                  have := HL.out
                  unfold nextsL
                  rw [if_neg (fun h => by omega)]
                have NXX := HNX.out _ HS8.out
                unfold Nums at NXX
                rw [hnx] at NXX
                have HNXX := Lib.hid NXX
                clear NXX hnx
                go_wp2_with fail
                refine HNXX.out.mono ?_
                rintro e w8 ⟨A8, c8, rfl, _, s8⟩
                have HS9 := Lib.hid (HS8.out.trans s8)
                clear s8
                go_wp2_with fail
                refine (AW.out _ HS9.out).mono ?_
                rintro e w9 ⟨rfl, s9⟩
                go_wp2
                go_ret
                exact ⟨rfl, HS9.out.trans s9⟩
              · have e1 : decide ((m : Int) ≤ x) = false := decide_eq_false hxm
                obtain ⟨b, rfl⟩ := Int.eq_ofNat_of_zero_le (show 0 ≤ x by omega)
                have hbm : b < m := by omega
                have hnx : nextsL p (b : Int) = nextL p b := by
                  have := HL.out
                  unfold nextsL
                  rw [if_pos ⟨HOK.out, by omega, by omega⟩, Int.toNat_natCast]
                have hrn := HRN.out b hbm
                have NXX := HNX.out _ HS8.out
                rw [hnx] at NXX
                have RNX := fun w' (s : Same w w') => rnext_any A m c p b w' HL.out (by omega) hbm (HPW.out.same s)
                rw [hrn] at RNX
                have hlz : (nextL p b).length ≤ 2 := by
                  unfold nextL
                  repeat' split
                  all_goals simp
                unfold Nums at NXX RNX
                generalize nextL p b = N at *
                obtain ⟨z, hz⟩ : ∃ z, z = N.length := ⟨_, rfl⟩
                rw [← hz] at NXX RNX hlz
                have HZ := Lib.hid hz
                have HNXX := Lib.hid NXX
                have HRNX := Lib.hid RNX
                clear NXX RNX hnx hrn hz
                go_wp2_with fail
                refine HNXX.out.mono ?_
                rintro e w8 ⟨A8, c8, rfl, r8, s8⟩
                have HS9 := Lib.hid (HS8.out.trans s8)
                have HR8 := Lib.hid r8
                clear s8 r8 HNXX
                go_wp2_with fail
                refine (HRNX.out _ HS9.out).mono ?_
                rintro e w9 ⟨A9, c9, rfl, r9, s9⟩
                have HS10 := Lib.hid (HS9.out.trans s9)
                have IE := ints_eq A8 A9 z z c8 c9 N N w9 HZ.out.symm HZ.out.symm (HR8.out.same s9) r9 (by omega) (by omega)
                rw [decide_eq_true rfl] at IE
                have HIE := Lib.hid IE
                clear IE r9 s9
                go_wp2_with fail
                refine HIE.out.mono ?_
                rintro e w10 ⟨rfl, k10, rfl⟩
                have HS11 := Lib.hid (HS10.out.drewN k10)
                clear HIE
                go_wp2_with fail
                refine (AW.out _ HS11.out).mono ?_
                rintro e w11 ⟨rfl, s11⟩
                go_wp2
                go_ret
                exact ⟨rfl, HS11.out.trans s11⟩
          | succ GZ =>
            have hltk : (k : Int) < m := by omega
            have hk0 : (0 : Int) ≤ k := by omega
            have hkm : k < m := by omega
            obtain ⟨b1, o1, rfl, y1⟩ := (HR3.out.same HSZ.out) k _ (BL_get _ hkm)
            obtain ⟨b2, o2, rfl, y2⟩ := (HR2.out.same HSZ.out) k _ (BL_get _ hkm)
            generalize R p m k = v at *
            go_wp2_with fail
            go_quiet (fail)
            go_wp2_with fail
            go_roundg GZ
            case rel => exact ⟨k + 1, by omega, by go_num, HSZ.out.drewN _⟩
            case measure => omega
      | some j =>
        have hbe : bestI l x n = (j : Int) := by unfold bestI; rw [hff]
        have hjn := (first_yes hff).1
        rw [hff] at HUU HFF
        simp only [Option.isSome] at HUU HFF
        obtain ⟨b, o, rfl, d0, d1'⟩ := HSPR.out.at_ (k := j) (by have := HN.out; omega)
        rw [HUU] at d0 d1'
        clear HUU
        generalize u = s at *
        subst HFF
        rw [hbe]
        clear hbe hff
        have d1 : decide ((0 : Int) ≤ (j : Int)) = true := decide_eq_true (by omega)
        have j1 : (0 : Int) ≤ (j : Int) := by omega
        have j2 : (j : Int) < n := by omega
        have q0 : wr.cell? ⟨q, 0, none⟩ = some (.int .i64 s.1) := HBR.out.cell 0
        have q1 : wr.cell? ⟨q, 1, none⟩ = some (.int .i64 s.2) := HBR.out.cell 1
        have SS : Hid (∀ w', Same wr w' → w'.cell? ⟨q, 0, none⟩ = some (.int .i64 s.1) ∧ w'.cell? ⟨q, 1, none⟩ = some (.int .i64 s.2) ∧ w'.cell? ⟨b, o + j * 2, none⟩ = some (.int .i64 s.1) ∧ w'.cell? ⟨b, o + j * 2 + 1, none⟩ = some (.int .i64 s.2) ∧ Same wr w') := Lib.hid (fun w' t => ⟨t.cell q0, t.cell q1, t.cell d0, t.cell d1', t⟩)
        go_wp2_with fail
        refine wp_region_held_drew (S := fun w' => w'.cell? ⟨q, 0, none⟩ = some (.int .i64 s.1) ∧ w'.cell? ⟨q, 1, none⟩ = some (.int .i64 s.2) ∧ w'.cell? ⟨b, o + j * 2, none⟩ = some (.int .i64 s.1) ∧ w'.cell? ⟨b, o + j * 2 + 1, none⟩ = some (.int .i64 s.2) ∧ Same wr w') (by kernel_rfl) ?_ (fun hHeld => ?_)
        · exact SS.out _ (Same.refl wr).drew
        first
          | (refine Ro.take_off (i := 0) rfl (by kernel_rfl) (by kernel_rfl) (by kernel_rfl) (fun _ _ _ h => h) (by rfl) (by assumption) ?_)
          | (refine Ro.take_on (i := 0) (v := ?_) rfl (by kernel_rfl) (by kernel_rfl) (by kernel_rfl) (fun _ _ _ h => h) (by rfl) (by assumption) ?_ ?_; rotate_left; · (intro wS hSw; (try dsimp only at hSw); go_simp; try with_reducible rfl))
        try simp only [Act.put, List.setIfInBounds_toArray, List.set_cons_zero, List.set_cons_succ]
        first
          | (refine Ro.take_off (i := 2) rfl (by kernel_rfl) (by kernel_rfl) (by kernel_rfl) (fun _ _ _ h => h) (by rfl) (by assumption) ?_)
          | (refine Ro.take_on (i := 2) (v := ?_) rfl (by kernel_rfl) (by kernel_rfl) (by kernel_rfl) (fun _ _ _ h => h) (by rfl) (by assumption) ?_ ?_; rotate_left; · (intro wS hSw; (try dsimp only at hSw); go_simp; try with_reducible rfl))
        try simp only [Act.put, List.setIfInBounds_toArray, List.set_cons_zero, List.set_cons_succ]
        first
          | (refine Ro.take_off (i := 1) rfl (by kernel_rfl) (by kernel_rfl) (by kernel_rfl) (fun _ _ _ h => h) (by rfl) (by assumption) ?_)
          | (refine Ro.one_on (i := 1) rfl (by kernel_rfl) (by rfl) (fun K hK => ?_); go_simp; go_at_call 38; refine (HTL.out _ (HSW.out.trans hHeld.2.2.2.2)).mono ?_; rintro e w' ⟨A9, c9, rfl, sp9, hs9⟩; rw [← HN.out]; (first | refine hK.out _ _ ?_ (fun hNew => ?_) | (go_wp2_with fail; refine hK.out _ _ ?_ (fun hNew => ?_))); (· (exact SS.out _ (hHeld.2.2.2.2.trans hs9))); clear hK K hHeld; have hHeld := hNew; clear hNew)
        try simp only [Act.put, List.setIfInBounds_toArray, List.set_cons_zero, List.set_cons_succ]
        first
          | (refine Ro.take_off (i := 3) rfl (by kernel_rfl) (by kernel_rfl) (by kernel_rfl) (fun _ _ _ h => h) (by rfl) (by assumption) ?_)
          | (refine Ro.one_on (i := 3) rfl (by kernel_rfl) (by rfl) (fun K hK => ?_); go_simp; go_at_call 44; have SE := spans_eq A9 (some ⟨b, o, none⟩) n n c9 c2 l l _ HN.out.symm HN.out.symm sp9 (HSPR.out.same hHeld.2.2.2.2) (by omega) (by omega); rw [decide_eq_true rfl] at SE; refine SE.mono ?_; rintro e w' ⟨rfl, hs9⟩; (first | refine hK.out _ _ ?_ (fun hNew => ?_) | (go_wp2_with fail; refine hK.out _ _ ?_ (fun hNew => ?_))); (· (exact SS.out _ (hHeld.2.2.2.2.trans hs9))); clear hK K hHeld; have hHeld := hNew; clear hNew)
        try simp only [Act.put, List.setIfInBounds_toArray, List.set_cons_zero, List.set_cons_succ]
        first
          | (refine Ro.take_off (i := 4) rfl (by kernel_rfl) (by kernel_rfl) (by kernel_rfl) (fun _ _ _ h => h) (by rfl) (by assumption) ?_)
          | (refine Ro.take_on (i := 4) (v := ?_) rfl (by kernel_rfl) (by kernel_rfl) (by kernel_rfl) (fun _ _ _ h => h) (by rfl) (by assumption) ?_ ?_; rotate_left; · (intro wS hSw; (try dsimp only at hSw); go_simp; try with_reducible rfl))
        try simp only [Act.put, List.setIfInBounds_toArray, List.set_cons_zero, List.set_cons_succ]
        first
          | (refine Ro.take_off (i := 5) rfl (by kernel_rfl) (by kernel_rfl) (by kernel_rfl) (fun _ _ _ h => h) (by rfl) (by assumption) ?_)
          | (refine Ro.take_on (i := 5) (v := ?_) rfl (by kernel_rfl) (by kernel_rfl) (by kernel_rfl) (fun _ _ _ h => h) (by rfl) (by assumption) ?_ ?_; rotate_left; · (intro wS hSw; (try dsimp only at hSw); go_simp; try with_reducible rfl))
        try simp only [Act.put, List.setIfInBounds_toArray, List.set_cons_zero, List.set_cons_succ]
        first
          | (refine Ro.take_off (i := 6) rfl (by kernel_rfl) (by kernel_rfl) (by kernel_rfl) (fun _ _ _ h => h) (by rfl) (by assumption) ?_)
          | (refine Ro.take_on (i := 6) (v := ?_) rfl (by kernel_rfl) (by kernel_rfl) (by kernel_rfl) (fun _ _ _ h => h) (by rfl) (by assumption) ?_ ?_; rotate_left; · (intro wS hSw; (try dsimp only at hSw); go_simp; try with_reducible rfl))
        try simp only [Act.put, List.setIfInBounds_toArray, List.set_cons_zero, List.set_cons_succ]
        first
          | (refine Ro.take_off (i := 7) rfl (by kernel_rfl) (by kernel_rfl) (by kernel_rfl) (fun _ _ _ h => h) (by rfl) (by assumption) ?_)
          | (refine Ro.take_on (i := 7) (v := ?_) rfl (by kernel_rfl) (by kernel_rfl) (by kernel_rfl) (fun _ _ _ h => h) (by rfl) (by assumption) ?_ ?_; rotate_left; · (intro wS hSw; (try dsimp only at hSw); go_simp; try with_reducible rfl))
        try simp only [Act.put, List.setIfInBounds_toArray, List.set_cons_zero, List.set_cons_succ]
        first
          | (refine Ro.take_off (i := 9) rfl (by kernel_rfl) (by kernel_rfl) (by kernel_rfl) (fun _ _ _ h => h) (by rfl) (by assumption) ?_)
          | (refine Ro.take_on (i := 9) (v := ?_) rfl (by kernel_rfl) (by kernel_rfl) (by kernel_rfl) (fun _ _ _ h => h) (by rfl) (by assumption) ?_ ?_; rotate_left; · (intro wS hSw; (try dsimp only at hSw); go_simp; try with_reducible rfl))
        try simp only [Act.put, List.setIfInBounds_toArray, List.set_cons_zero, List.set_cons_succ]
        first
          | (refine Ro.take_off (i := 8) rfl (by kernel_rfl) (by kernel_rfl) (by kernel_rfl) (fun _ _ _ h => h) (by rfl) (by assumption) ?_)
          | (refine Ro.one_on (i := 8) rfl (by kernel_rfl) (by rfl) (fun K hK => ?_); go_simp; go_at_call 39; refine (HDP.out _ (HSW.out.trans hHeld.2.2.2.2)).mono ?_; rintro e w' ⟨rfl, hs9⟩; (first | refine hK.out _ _ ?_ (fun hNew => ?_) | (go_wp2_with fail; refine hK.out _ _ ?_ (fun hNew => ?_))); (· (exact SS.out _ (hHeld.2.2.2.2.trans hs9))); clear hK K hHeld; have hHeld := hNew; clear hNew)
        try simp only [Act.put, List.setIfInBounds_toArray, List.set_cons_zero, List.set_cons_succ]
        first
          | (refine Ro.take_off (i := 10) rfl (by kernel_rfl) (by kernel_rfl) (by kernel_rfl) (fun _ _ _ h => h) (by rfl) (by assumption) ?_)
          | (refine Ro.take_on (i := 10) (v := ?_) rfl (by kernel_rfl) (by kernel_rfl) (by kernel_rfl) (fun _ _ _ h => h) (by rfl) (by assumption) ?_ ?_; rotate_left; · (intro wS hSw; (try dsimp only at hSw); go_simp; try with_reducible rfl))
        try simp only [Act.put, List.setIfInBounds_toArray, List.set_cons_zero, List.set_cons_succ]
        first
          | (refine Ro.take_off (i := 11) rfl (by kernel_rfl) (by kernel_rfl) (by kernel_rfl) (fun _ _ _ h => h) (by rfl) (by assumption) ?_)
          | (refine Ro.take_on (i := 11) (v := ?_) rfl (by kernel_rfl) (by kernel_rfl) (by kernel_rfl) (fun _ _ _ h => h) (by rfl) (by assumption) ?_ ?_; rotate_left; · (intro wS hSw; (try dsimp only at hSw); go_simp; try with_reducible rfl))
        try simp only [Act.put, List.setIfInBounds_toArray, List.set_cons_zero, List.set_cons_succ]
        first
          | (refine Ro.take_off (i := 12) rfl (by kernel_rfl) (by kernel_rfl) (by kernel_rfl) (fun _ _ _ h => h) (by rfl) (by assumption) ?_)
          | (refine Ro.take_on (i := 12) (v := ?_) rfl (by kernel_rfl) (by kernel_rfl) (by kernel_rfl) (fun _ _ _ h => h) (by rfl) (by assumption) ?_ ?_; rotate_left; · (intro wS hSw; (try dsimp only at hSw); go_simp; try with_reducible rfl))
        try simp only [Act.put, List.setIfInBounds_toArray, List.set_cons_zero, List.set_cons_succ]
        first
          | (refine Ro.take_off (i := 13) rfl (by kernel_rfl) (by kernel_rfl) (by kernel_rfl) (fun _ _ _ h => h) (by rfl) (by assumption) ?_)
          | (refine Ro.take_on (i := 13) (v := ?_) rfl (by kernel_rfl) (by kernel_rfl) (by kernel_rfl) (fun _ _ _ h => h) (by rfl) (by assumption) ?_ ?_; rotate_left; · (intro wS hSw; (try dsimp only at hSw); go_simp; try with_reducible rfl))
        try simp only [Act.put, List.setIfInBounds_toArray, List.set_cons_zero, List.set_cons_succ]
        first
          | (refine Ro.take_off (i := 14) rfl (by kernel_rfl) (by kernel_rfl) (by kernel_rfl) (fun _ _ _ h => h) (by rfl) (by assumption) ?_)
          | (refine Ro.take_on (i := 14) (v := ?_) rfl (by kernel_rfl) (by kernel_rfl) (by kernel_rfl) (fun _ _ _ h => h) (by rfl) (by assumption) ?_ ?_; rotate_left; · (intro wS hSw; (try dsimp only at hSw); go_simp; try with_reducible rfl))
        try simp only [Act.put, List.setIfInBounds_toArray, List.set_cons_zero, List.set_cons_succ]
        first
          | (refine Ro.take_off (i := 15) rfl (by kernel_rfl) (by kernel_rfl) (by kernel_rfl) (fun _ _ _ h => h) (by rfl) (by assumption) ?_)
          | (refine Ro.take_on (i := 15) (v := ?_) rfl (by kernel_rfl) (by kernel_rfl) (by kernel_rfl) (fun _ _ _ h => h) (by rfl) (by assumption) ?_ ?_; rotate_left; · (intro wS hSw; (try dsimp only at hSw); go_simp; try with_reducible rfl))
        try simp only [Act.put, List.setIfInBounds_toArray, List.set_cons_zero, List.set_cons_succ]
        first
          | (refine Ro.take_off (i := 16) rfl (by kernel_rfl) (by kernel_rfl) (by kernel_rfl) (fun _ _ _ h => h) (by rfl) (by assumption) ?_)
          | (refine Ro.take_on (i := 16) (v := ?_) rfl (by kernel_rfl) (by kernel_rfl) (by kernel_rfl) (fun _ _ _ h => h) (by rfl) (by assumption) ?_ ?_; rotate_left; · (intro wS hSw; (try dsimp only at hSw); go_simp; try with_reducible rfl))
        try simp only [Act.put, List.setIfInBounds_toArray, List.set_cons_zero, List.set_cons_succ]
        first
          | (refine Ro.take_off (i := 17) rfl (by kernel_rfl) (by kernel_rfl) (by kernel_rfl) (fun _ _ _ h => h) (by rfl) (by assumption) ?_)
          | (refine Ro.take_on (i := 17) (v := ?_) rfl (by kernel_rfl) (by kernel_rfl) (by kernel_rfl) (fun _ _ _ h => h) (by rfl) (by assumption) ?_ ?_; rotate_left; · (intro wS hSw; (try dsimp only at hSw); go_simp; try with_reducible rfl))
        try simp only [Act.put, List.setIfInBounds_toArray, List.set_cons_zero, List.set_cons_succ]
        first
          | (refine Ro.take_off (i := 18) rfl (by kernel_rfl) (by kernel_rfl) (by kernel_rfl) (fun _ _ _ h => h) (by rfl) (by assumption) ?_)
          | (refine Ro.take_on (i := 18) (v := ?_) rfl (by kernel_rfl) (by kernel_rfl) (by kernel_rfl) (fun _ _ _ h => h) (by rfl) (by assumption) ?_ ?_; rotate_left; · (intro wS hSw; (try dsimp only at hSw); go_simp; try with_reducible rfl))
        try simp only [Act.put, List.setIfInBounds_toArray, List.set_cons_zero, List.set_cons_succ]
        first
          | (refine Ro.take_off (i := 19) rfl (by kernel_rfl) (by kernel_rfl) (by kernel_rfl) (fun _ _ _ h => h) (by rfl) (by assumption) ?_)
          | (refine Ro.take_on (i := 19) (v := ?_) rfl (by kernel_rfl) (by kernel_rfl) (by kernel_rfl) (fun _ _ _ h => h) (by rfl) (by assumption) ?_ ?_; rotate_left; · (intro wS hSw; (try dsimp only at hSw); go_simp; try with_reducible rfl))
        try simp only [Act.put, List.setIfInBounds_toArray, List.set_cons_zero, List.set_cons_succ]
        first
          | (refine Ro.take_off (i := 20) rfl (by kernel_rfl) (by kernel_rfl) (by kernel_rfl) (fun _ _ _ h => h) (by rfl) (by assumption) ?_)
          | (refine Ro.take_on (i := 20) (v := ?_) rfl (by kernel_rfl) (by kernel_rfl) (by kernel_rfl) (fun _ _ _ h => h) (by rfl) (by assumption) ?_ ?_; rotate_left; · (intro wS hSw; (try dsimp only at hSw); go_simp; try with_reducible rfl))
        try simp only [Act.put, List.setIfInBounds_toArray, List.set_cons_zero, List.set_cons_succ]
        first
          | (refine Ro.take_off (i := 21) rfl (by kernel_rfl) (by kernel_rfl) (by kernel_rfl) (fun _ _ _ h => h) (by rfl) (by assumption) ?_)
          | (refine Ro.take_on (i := 21) (v := ?_) rfl (by kernel_rfl) (by kernel_rfl) (by kernel_rfl) (fun _ _ _ h => h) (by rfl) (by assumption) ?_ ?_; rotate_left; · (intro wS hSw; (try dsimp only at hSw); go_simp; try with_reducible rfl))
        try simp only [Act.put, List.setIfInBounds_toArray, List.set_cons_zero, List.set_cons_succ]
        first
          | (refine Ro.take_off (i := 22) rfl (by kernel_rfl) (by kernel_rfl) (by kernel_rfl) (fun _ _ _ h => h) (by rfl) (by assumption) ?_)
          | (refine Ro.take_on (i := 22) (v := ?_) rfl (by kernel_rfl) (by kernel_rfl) (by kernel_rfl) (fun _ _ _ h => h) (by rfl) (by assumption) ?_ ?_; rotate_left; · (intro wS hSw; (try dsimp only at hSw); go_simp; try with_reducible rfl))
        try simp only [Act.put, List.setIfInBounds_toArray, List.set_cons_zero, List.set_cons_succ]
        first
          | (refine Ro.take_off (i := 23) rfl (by kernel_rfl) (by kernel_rfl) (by kernel_rfl) (fun _ _ _ h => h) (by rfl) (by assumption) ?_)
          | (refine Ro.take_on (i := 23) (v := ?_) rfl (by kernel_rfl) (by kernel_rfl) (by kernel_rfl) (fun _ _ _ h => h) (by rfl) (by assumption) ?_ ?_; rotate_left; · (intro wS hSw; (try dsimp only at hSw); go_simp; try with_reducible rfl))
        try simp only [Act.put, List.setIfInBounds_toArray, List.set_cons_zero, List.set_cons_succ]
        first
          | (refine Ro.take_off (i := 24) rfl (by kernel_rfl) (by kernel_rfl) (by kernel_rfl) (fun _ _ _ h => h) (by rfl) (by assumption) ?_)
          | (refine Ro.take_on (i := 24) (v := ?_) rfl (by kernel_rfl) (by kernel_rfl) (by kernel_rfl) (fun _ _ _ h => h) (by rfl) (by assumption) ?_ ?_; rotate_left; · (intro wS hSw; (try dsimp only at hSw); go_simp; try with_reducible rfl))
        try simp only [Act.put, List.setIfInBounds_toArray, List.set_cons_zero, List.set_cons_succ]
        first
          | (refine Ro.take_off (i := 25) rfl (by kernel_rfl) (by kernel_rfl) (by kernel_rfl) (fun _ _ _ h => h) (by rfl) (by assumption) ?_)
          | (refine Ro.take_on (i := 25) (v := ?_) rfl (by kernel_rfl) (by kernel_rfl) (by kernel_rfl) (fun _ _ _ h => h) (by rfl) (by assumption) ?_ ?_; rotate_left; · (intro wS hSw; (try dsimp only at hSw); go_simp; try with_reducible rfl))
        try simp only [Act.put, List.setIfInBounds_toArray, List.set_cons_zero, List.set_cons_succ]
        first
          | (refine Ro.take_off (i := 26) rfl (by kernel_rfl) (by kernel_rfl) (by kernel_rfl) (fun _ _ _ h => h) (by rfl) (by assumption) ?_)
          | (refine Ro.take_on (i := 26) (v := ?_) rfl (by kernel_rfl) (by kernel_rfl) (by kernel_rfl) (fun _ _ _ h => h) (by rfl) (by assumption) ?_ ?_; rotate_left; · (intro wS hSw; (try dsimp only at hSw); go_simp; try with_reducible rfl))
        try simp only [Act.put, List.setIfInBounds_toArray, List.set_cons_zero, List.set_cons_succ]
        first
          | (refine Ro.take_off (i := 27) rfl (by kernel_rfl) (by kernel_rfl) (by kernel_rfl) (fun _ _ _ h => h) (by rfl) (by assumption) ?_)
          | (refine Ro.take_on (i := 27) (v := ?_) rfl (by kernel_rfl) (by kernel_rfl) (by kernel_rfl) (fun _ _ _ h => h) (by rfl) (by assumption) ?_ ?_; rotate_left; · (intro wS hSw; (try dsimp only at hSw); go_simp; try with_reducible rfl))
        try simp only [Act.put, List.setIfInBounds_toArray, List.set_cons_zero, List.set_cons_succ]
        first
          | (refine Ro.take_off (i := 28) rfl (by kernel_rfl) (by kernel_rfl) (by kernel_rfl) (fun _ _ _ h => h) (by rfl) (by assumption) ?_)
          | (refine Ro.take_on (i := 28) (v := ?_) rfl (by kernel_rfl) (by kernel_rfl) (by kernel_rfl) (fun _ _ _ h => h) (by rfl) (by assumption) ?_ ?_; rotate_left; · (intro wS hSw; (try dsimp only at hSw); go_simp; try with_reducible rfl))
        try simp only [Act.put, List.setIfInBounds_toArray, List.set_cons_zero, List.set_cons_succ]
        first
          | (refine Ro.take_off (i := 29) rfl (by kernel_rfl) (by kernel_rfl) (by kernel_rfl) (fun _ _ _ h => h) (by rfl) (by assumption) ?_)
          | (refine Ro.take_on (i := 29) (v := ?_) rfl (by kernel_rfl) (by kernel_rfl) (by kernel_rfl) (fun _ _ _ h => h) (by rfl) (by assumption) ?_ ?_; rotate_left; · (intro wS hSw; (try dsimp only at hSw); go_simp; try with_reducible rfl))
        try simp only [Act.put, List.setIfInBounds_toArray, List.set_cons_zero, List.set_cons_succ]
        first
          | (refine Ro.take_off (i := 30) rfl (by kernel_rfl) (by kernel_rfl) (by kernel_rfl) (fun _ _ _ h => h) (by rfl) (by assumption) ?_)
          | (refine Ro.take_on (i := 30) (v := ?_) rfl (by kernel_rfl) (by kernel_rfl) (by kernel_rfl) (fun _ _ _ h => h) (by rfl) (by assumption) ?_ ?_; rotate_left; · (intro wS hSw; (try dsimp only at hSw); go_simp; try with_reducible rfl))
        try simp only [Act.put, List.setIfInBounds_toArray, List.set_cons_zero, List.set_cons_succ]
        first
          | (refine Ro.take_off (i := 31) rfl (by kernel_rfl) (by kernel_rfl) (by kernel_rfl) (fun _ _ _ h => h) (by rfl) (by assumption) ?_)
          | (refine Ro.take_on (i := 31) (v := ?_) rfl (by kernel_rfl) (by kernel_rfl) (by kernel_rfl) (fun _ _ _ h => h) (by rfl) (by assumption) ?_ ?_; rotate_left; · (intro wS hSw; (try dsimp only at hSw); go_simp; try with_reducible rfl))
        try simp only [Act.put, List.setIfInBounds_toArray, List.set_cons_zero, List.set_cons_succ]
        first
          | (refine Ro.take_off (i := 32) rfl (by kernel_rfl) (by kernel_rfl) (by kernel_rfl) (fun _ _ _ h => h) (by rfl) (by assumption) ?_)
          | (refine Ro.take_on (i := 32) (v := ?_) rfl (by kernel_rfl) (by kernel_rfl) (by kernel_rfl) (fun _ _ _ h => h) (by rfl) (by assumption) ?_ ?_; rotate_left; · (intro wS hSw; (try dsimp only at hSw); go_simp; try with_reducible rfl))
        try simp only [Act.put, List.setIfInBounds_toArray, List.set_cons_zero, List.set_cons_succ]
        first
          | (refine Ro.take_off (i := 33) rfl (by kernel_rfl) (by kernel_rfl) (by kernel_rfl) (fun _ _ _ h => h) (by rfl) (by assumption) ?_)
          | (refine Ro.take_on (i := 33) (v := ?_) rfl (by kernel_rfl) (by kernel_rfl) (by kernel_rfl) (fun _ _ _ h => h) (by rfl) (by assumption) ?_ ?_; rotate_left; · (intro wS hSw; (try dsimp only at hSw); go_simp; try with_reducible rfl))
        try simp only [Act.put, List.setIfInBounds_toArray, List.set_cons_zero, List.set_cons_succ]
        first
          | (refine Ro.take_off (i := 34) rfl (by kernel_rfl) (by kernel_rfl) (by kernel_rfl) (fun _ _ _ h => h) (by rfl) (by assumption) ?_)
          | (refine Ro.take_on (i := 34) (v := ?_) rfl (by kernel_rfl) (by kernel_rfl) (by kernel_rfl) (fun _ _ _ h => h) (by rfl) (by assumption) ?_ ?_; rotate_left; · (intro wS hSw; (try dsimp only at hSw); go_simp; try with_reducible rfl))
        try simp only [Act.put, List.setIfInBounds_toArray, List.set_cons_zero, List.set_cons_succ]
        first
          | (refine Ro.take_off (i := 35) rfl (by kernel_rfl) (by kernel_rfl) (by kernel_rfl) (fun _ _ _ h => h) (by rfl) (by assumption) ?_)
          | (refine Ro.take_on (i := 35) (v := ?_) rfl (by kernel_rfl) (by kernel_rfl) (by kernel_rfl) (fun _ _ _ h => h) (by rfl) (by assumption) ?_ ?_; rotate_left; · (intro wS hSw; (try dsimp only at hSw); go_simp; try with_reducible rfl))
        try simp only [Act.put, List.setIfInBounds_toArray, List.set_cons_zero, List.set_cons_succ]
        first
          | (refine Ro.take_off (i := 36) rfl (by kernel_rfl) (by kernel_rfl) (by kernel_rfl) (fun _ _ _ h => h) (by rfl) (by assumption) ?_)
          | (refine Ro.take_on (i := 36) (v := ?_) rfl (by kernel_rfl) (by kernel_rfl) (by kernel_rfl) (fun _ _ _ h => h) (by rfl) (by assumption) ?_ ?_; rotate_left; · (intro wS hSw; (try dsimp only at hSw); go_simp; try with_reducible rfl))
        try simp only [Act.put, List.setIfInBounds_toArray, List.set_cons_zero, List.set_cons_succ]
        first
          | (refine Ro.take_off (i := 37) rfl (by kernel_rfl) (by kernel_rfl) (by kernel_rfl) (fun _ _ _ h => h) (by rfl) (by assumption) ?_)
          | (refine Ro.take_on (i := 37) (v := ?_) rfl (by kernel_rfl) (by kernel_rfl) (by kernel_rfl) (fun _ _ _ h => h) (by rfl) (by assumption) ?_ ?_; rotate_left; · (intro wS hSw; (try dsimp only at hSw); go_simp; try with_reducible rfl))
        try simp only [Act.put, List.setIfInBounds_toArray, List.set_cons_zero, List.set_cons_succ]
        refine wpAnyH_done (by kernel_rfl) ?_ _
        have x9 := hHeld.2.2.2.2
        clear hHeld SS q0 q1 d0 d1'
        go_wp2_with fail
        refine (HRE.out _ (HSW.out.trans x9)).mono ?_
        rintro e w6 ⟨R1, k1, rfl, r1, s6⟩
        have HS6 := Lib.hid ((HSW.out.trans x9).trans s6)
        have HR1 := Lib.hid r1
        rw [BL_len]
        clear r1 s6 x9 HRE
        go_wp2_with fail
        refine (HRR.out _ HS6.out).mono ?_
        rintro e w7 ⟨R2, k2, rfl, r2, s7⟩
        have HS7 := Lib.hid (HS6.out.trans s7)
        have HR2 := Lib.hid r2
        have HR3 := Lib.hid (HR1.out.same s7)
        rw [BL_len]
        clear r2 s7 HR1 HS6 HRR
        go_wp2_with fail
        go_loopg [149] m (fun gk iv wx => ∃ k : Nat, k + gk = m ∧ iv = .int .i64 k ∧ Same w7 wx)
        case atStart => exact ⟨0, by omega, rfl, Same.refl _⟩
        case round =>
          obtain ⟨k, hk, rfl, sx⟩ := hrel
          have HSZ := Lib.hid sx
          clear sx
          cases gk with
          | zero =>
            obtain rfl : m = k := by omega
            have hge : ¬ (m : Int) < (m : Int) := by omega
            have HS8 := Lib.hid (HS7.out.trans HSZ.out)
            by_cases hx0 : x < 0
            · have e0 : decide (x < 0) = true := decide_eq_true hx0
              have hnx : nextsL p x = [] := by unfold nextsL; rw [if_neg (fun h => by omega)]
              have NXX := HNX.out _ HS8.out
              unfold Nums at NXX
              rw [hnx] at NXX
              have HNXX := Lib.hid NXX
              clear NXX hnx
              go_wp2_with fail
              refine HNXX.out.mono ?_
              rintro e w8 ⟨A8, c8, rfl, _, s8⟩
              have HS9 := Lib.hid (HS8.out.trans s8)
              clear s8
              go_wp2_with fail
              refine (AW.out _ HS9.out).mono ?_
              rintro e w9 ⟨rfl, s9⟩
              go_wp2
              go_ret
              exact ⟨rfl, HS9.out.trans s9⟩
            · have e0 : decide (x < 0) = false := decide_eq_false hx0
              by_cases hxm : (m : Int) ≤ x
              · have e1 : decide ((m : Int) ≤ x) = true := decide_eq_true hxm
                have hnx : nextsL p x = [] := by
                  have := HL.out
                  unfold nextsL
                  rw [if_neg (fun h => by omega)]
                have NXX := HNX.out _ HS8.out
                unfold Nums at NXX
                rw [hnx] at NXX
                have HNXX := Lib.hid NXX
                clear NXX hnx
                go_wp2_with fail
                refine HNXX.out.mono ?_
                rintro e w8 ⟨A8, c8, rfl, _, s8⟩
                have HS9 := Lib.hid (HS8.out.trans s8)
                clear s8
                go_wp2_with fail
                refine (AW.out _ HS9.out).mono ?_
                rintro e w9 ⟨rfl, s9⟩
                go_wp2
                go_ret
                exact ⟨rfl, HS9.out.trans s9⟩
              · have e1 : decide ((m : Int) ≤ x) = false := decide_eq_false hxm
                obtain ⟨b, rfl⟩ := Int.eq_ofNat_of_zero_le (show 0 ≤ x by omega)
                have hbm : b < m := by omega
                have hnx : nextsL p (b : Int) = nextL p b := by
                  have := HL.out
                  unfold nextsL
                  rw [if_pos ⟨HOK.out, by omega, by omega⟩, Int.toNat_natCast]
                have hrn := HRN.out b hbm
                have NXX := HNX.out _ HS8.out
                rw [hnx] at NXX
                have RNX := fun w' (s : Same w w') => rnext_any A m c p b w' HL.out (by omega) hbm (HPW.out.same s)
                rw [hrn] at RNX
                have hlz : (nextL p b).length ≤ 2 := by
                  unfold nextL
                  repeat' split
                  all_goals simp
                unfold Nums at NXX RNX
                generalize nextL p b = N at *
                obtain ⟨z, hz⟩ : ∃ z, z = N.length := ⟨_, rfl⟩
                rw [← hz] at NXX RNX hlz
                have HZ := Lib.hid hz
                have HNXX := Lib.hid NXX
                have HRNX := Lib.hid RNX
                clear NXX RNX hnx hrn hz
                go_wp2_with fail
                refine HNXX.out.mono ?_
                rintro e w8 ⟨A8, c8, rfl, r8, s8⟩
                have HS9 := Lib.hid (HS8.out.trans s8)
                have HR8 := Lib.hid r8
                clear s8 r8 HNXX
                go_wp2_with fail
                refine (HRNX.out _ HS9.out).mono ?_
                rintro e w9 ⟨A9, c9, rfl, r9, s9⟩
                have HS10 := Lib.hid (HS9.out.trans s9)
                have IE := ints_eq A8 A9 z z c8 c9 N N w9 HZ.out.symm HZ.out.symm (HR8.out.same s9) r9 (by omega) (by omega)
                rw [decide_eq_true rfl] at IE
                have HIE := Lib.hid IE
                clear IE r9 s9
                go_wp2_with fail
                refine HIE.out.mono ?_
                rintro e w10 ⟨rfl, k10, rfl⟩
                have HS11 := Lib.hid (HS10.out.drewN k10)
                clear HIE
                go_wp2_with fail
                refine (AW.out _ HS11.out).mono ?_
                rintro e w11 ⟨rfl, s11⟩
                go_wp2
                go_ret
                exact ⟨rfl, HS11.out.trans s11⟩
          | succ GZ =>
            have hltk : (k : Int) < m := by omega
            have hk0 : (0 : Int) ≤ k := by omega
            have hkm : k < m := by omega
            obtain ⟨b1, o1, rfl, y1⟩ := (HR3.out.same HSZ.out) k _ (BL_get _ hkm)
            obtain ⟨b2, o2, rfl, y2⟩ := (HR2.out.same HSZ.out) k _ (BL_get _ hkm)
            generalize R p m k = v at *
            go_wp2_with fail
            go_quiet (fail)
            go_wp2_with fail
            go_roundg GZ
            case rel => exact ⟨k + 1, by omega, by go_num, HSZ.out.drewN _⟩
            case measure => omega
    | succ GK =>
      have hlt : (k : Int) < n := by omega
      have hkl : k < l.length := by have := HN.out; omega
      have HC : Hid (cnt (fun j => hasB (lp l j) x) (k + 1) = d + if hasB (lp l k) x then 1 else 0) := Lib.hid (by rw [HD.out]; rfl)
      obtain ⟨b, o, rfl, c0, c1⟩ := (HSP.out.same HS.out).at_ (k := k) hkl
      obtain ⟨t, ht⟩ : ∃ t, lp l k = t := ⟨_, rfl⟩
      rw [ht] at c0 c1
      have HTT := Lib.hid ht
      have hs5 := (Same.refl wr).alloc (.cells #[.int .i64 t.1, .int .i64 t.2] 50)
      have HS5 := Lib.hid (HS.out.trans hs5)
      have HA := fun w' => rin_any t.1 t.2 x w'
      clear hs5 ht
      cases v : hasB t x
      · have v' : hasB (t.1, t.2) x = false := v
        rw [v'] at HA
        have hc := HC.out
        rw [HTT.out, v] at hc
        have HC2 := Lib.hid hc
        have HBK := Lib.hid (best_skip (l := l) (x := x) (k := k) (by rw [HTT.out]; exact v))
        clear hc v v' HC
        generalize bestI l x k = best at *
        go_wp2_with fail
        refine (HA _).mono ?_
        rintro e w5 ⟨rfl, s5⟩
        go_wp2_with fail
        go_roundg GK
        case rel => exact ⟨k + 1, by omega, by go_num, by rw [HC2.out]; go_num, by rw [HBK.out], HS5.out.trans s5⟩
        case measure => omega
      · have v' : hasB (t.1, t.2) x = true := v
        rw [v'] at HA
        have hc := HC.out
        rw [HTT.out, v] at hc
        have HC2 := Lib.hid hc
        have hvk : hasB (lp l k) x = true := by rw [HTT.out]; exact v
        have HVK := Lib.hid hvk
        clear hc v v' HC hvk
        cases hfk : first k (fun j => hasB (lp l j) x) with
        | none =>
          obtain ⟨e1, e2⟩ := best_new hfk HVK.out
          rw [e1]
          have HBK := Lib.hid e2
          clear e1 e2 hfk
          go_wp2_with fail
          refine (HA _).mono ?_
          rintro e w5 ⟨rfl, s5⟩
          have HS6 := Lib.hid (HS5.out.trans s5)
          clear s5
          go_wp2_with fail
          go_quiet (fail)
          go_wp2_with fail
          go_roundg GK
          case rel => exact ⟨k + 1, by omega, by go_num, by rw [HC2.out]; go_num, by rw [HBK.out], HS6.out.drewN _⟩
          case measure => omega
        | some j =>
          obtain ⟨e1, e2⟩ := best_keep hfk
          obtain ⟨hjk, hj1, _⟩ := first_yes hfk
          rw [e1]
          have HBK := Lib.hid e2
          have hsh := HSH.out j k hjk hkl hj1 HVK.out
          have hi1 := HIL.out j (by omega)
          have hi2 := HIL.out k hkl
          rw [HTT.out] at hsh hi2
          obtain ⟨b', o', hA', d0, d1⟩ := (HSP.out.same HS5.out).at_ (k := j) (by omega)
          injection hA' with hA'
          injection hA' with g1 g2
          subst g1
          subst g2
          generalize lp l j = s at *
          have HD0 := Lib.hid d0
          have HD1 := Lib.hid d1
          have f1 : wrap64 (t.2 - t.1) = t.2 - t.1 := Go.IntWalk.wrap64_in _ (by omega)
          have f2 : wrap64 (s.2 - s.1) = s.2 - s.1 := Go.IntWalk.wrap64_in _ (by omega)
          have f3 : decide (t.2 - t.1 < s.2 - s.1) = false := decide_eq_false (by omega)
          have j0 : decide ((j : Int) < 0) = false := decide_eq_false (by omega)
          have j1 : (0 : Int) ≤ j := by omega
          have j2 : (j : Int) < n := by omega
          have j3 : j < n := by omega
          clear e1 e2 hfk hj1 hsh hi1 hi2 d0 d1
          go_wp2_with fail
          refine (HA _).mono ?_
          rintro e w5 ⟨rfl, s5⟩
          have y0 : w5.cell? ⟨wr.heap.size, 0, none⟩ = some (.int .i64 t.1) := s5.new (i := 0) rfl
          have y1 : w5.cell? ⟨wr.heap.size, 1, none⟩ = some (.int .i64 t.2) := s5.new (i := 1) rfl
          have x0 := s5.cell HD0.out
          have x1 := s5.cell HD1.out
          have HS6 := Lib.hid (HS5.out.trans s5)
          clear s5
          go_wp2_with fail
          go_quiet (fail)
          go_wp2_with fail
          go_roundg GK
          case rel => exact ⟨k + 1, by omega, by go_num, by rw [HC2.out]; go_num, by rw [HBK.out], HS6.out.drewN _⟩
          case measure => omega

end Go.Proofs.YtejajmdmfipplaaDoor.Fw
