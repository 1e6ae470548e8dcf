/-

  The walk of the law FlowEnds.
-/
import Derived.Test.YtflmejcojfnknaaDoorFlowReach
import Derived.Test.YtflmejcojfnknaaDoorFlowAwake
import Derived.Test.YtflmejcojfnknaaDoorWordsK
import Derived.Test.YtflmejcojfnknaaDoorFlowEnd
import Derived.Test.YtflmejcojfnknaaDoorRegionOff
import Derived.Test.YtflmejcojfnknaaDoorFlat
set_option linter.unusedVariables false
set_option linter.unusedSimpArgs false
namespace Go.Proofs.YtflmejcojfnknaaDoor.Fw
open Go.ChangeShapes Go.WideShapes Go.ChangeAt Go.RowKit Ws Fp
open Go.Proofs.YtflmejcojfnknaaDoor.Is (Tabs ins rightB leadB)

theorem rin_any2 (a b x : Int) (w : World) :
    Calls Tryd.prog 35 #[.agg #[.int .i64 a, .int .i64 b], .int .i64 x] w fun e w' => e = .returned (.bool (hasB (a, b) x)) ∧ Same w w' := by
  unfold hasB
  by_cases h1 : a ≤ x
  · have e1 : decide ((a, b).1 ≤ x ∧ x ≤ (a, b).2) = decide (x ≤ b) := by rw [decide_eq_decide]; exact ⟨fun h => h.2, fun h => ⟨h1, h⟩⟩
    rw [e1]
    have b1 : decide (a ≤ x) = true := decide_eq_true h1
    clear e1
    go_enter Tryd.func35, Tryd.ntmps35
    go_wp2
    go_ret
    exact ⟨rfl, (Same.refl _).alloc _⟩
  · have e1 : decide ((a, b).1 ≤ x ∧ x ≤ (a, b).2) = false := decide_eq_false fun h => h1 h.1
    rw [e1]
    have b1 : decide (a ≤ x) = false := decide_eq_false h1
    clear e1
    go_enter Tryd.func35, Tryd.ntmps35
    go_wp2
    go_ret
    exact ⟨rfl, (Same.refl _).alloc _⟩
theorem prg_in2 {w : World} {A : Option Addr} {rows : List (List Int)} (h : Fl.Rows w A [.i64, .i64, .i64, .i64, .u32] rows) : ∃ p : List Ins, p.length = rows.length ∧ Prg w A p := by
  refine ⟨rows.map fun r => ⟨r.getD 0 0, r.getD 1 0, r.getD 2 0, r.getD 3 0, r.getD 4 0⟩, by simp, ?_⟩
  intro i x hx
  rw [List.getElem?_map] at hx
  cases hr : rows[i]? with
  | none => rw [hr] at hx; cases hx
  | some r =>
    rw [hr] at hx
    injection hx with hx
    obtain ⟨hf, b, o, hA, hc⟩ := h i r hr
    obtain ⟨hl, hw⟩ := hf
    match r, hl with
    | [op, a, bb, c, n], _ =>
      subst hx
      exact ⟨Fl.u32_bd (hw 4 .u32 rfl), b, o, hA, fun j v hv => hc j v hv⟩
set_option maxRecDepth 100000 in
theorem check_big (A : Option Addr) (m c : Nat) (w : World) (h : 64 < m) :
    Calls Tryd.prog 30 #[.slice A m c] w fun e w' => e = .returned (.tuple #[.int .i64 0, .int .i64 1]) ∧ Same w w' := by
  have b0 : ((m : Int) == 0) = false := by simp; omega
  have b1 : decide ((64 : Int) < (m : Int)) = true := by simp; omega
  clear h
  go_enter Tryd.func30, Tryd.ntmps30
  go_wp2_with fail
  go_ret2
  exact ⟨rfl, Same.refl _⟩
set_option maxRecDepth 100000 in
theorem ends_big (A : Option Addr) (m c : Nat) (w : World) (h : 64 < m) (ht : Tabs w) :
    Calls Tryd.prog 7 #[.slice A m c] w fun e w' => e = .returned (.bool true) ∧ Same w w' := by
  have CK := Lib.hid (check_big A m c w h)
  have AW := Lib.hid (fun w' (s : Same w w') => awake10 w' (ht.same s))
  clear h ht
  go_enter Tryd.func7, Tryd.ntmps7
  go_wp2_with fail
  refine CK.out.mono ?_
  rintro e w1 ⟨rfl, s1⟩
  go_wp2_with fail
  refine (AW.out _ s1).mono ?_
  rintro e w3 ⟨rfl, s3⟩
  go_wp2
  go_ret
  exact ⟨rfl, s1.trans s3⟩
set_option maxRecDepth 100000 in
theorem ends_bad (A : Option Addr) (m c : Nat) (p : List Ins) (w : World) (hl : p.length = m) (hm : m ≤ 64) (hp : Prg w A p) (ht : Tabs w) (hok : okB p = false) :
    Calls Tryd.prog 7 #[.slice A m c] w fun e w' => e = .returned (.bool true) ∧ Same w w' := by
  have CK := Lib.hid (check_any A m c p w hl (by omega) hp ht)
  have AW := Lib.hid (fun w' (s : Same w w') => awake10 w' (ht.same s))
  unfold okB at hok
  have b0 : (ckE p != 0) = true := by simpa using hok
  clear hl hp ht hok
  generalize ckE p = ee at *
  generalize ckI p = ii at *
  go_enter Tryd.func7, Tryd.ntmps7
  go_wp2_with fail
  refine CK.out.mono ?_
  rintro e w1 ⟨rfl, s1⟩
  go_wp2_with fail
  refine (AW.out _ s1).mono ?_
  rintro e w3 ⟨rfl, s3⟩
  go_wp2
  go_ret
  exact ⟨rfl, s1.trans s3⟩
set_option maxRecDepth 100000 in
set_option maxHeartbeats 2000000 in
theorem ends_good (A : Option Addr) (m c : Nat) (p : List Ins) (w : World) (hl : p.length = m) (hm : m ≤ 64) (hp : Prg w A p) (ht : Tabs w) (hok : okB p = true) :
    Calls Tryd.prog 7 #[.slice A m c] w fun e w' => e = .returned (.bool true) ∧ Same w w' := by
  have h64 : ¬ (64 : Int) < m := by omega
  have CK := check_any A m c p w hl (by omega) hp ht
  have hE : ckE p = 0 := by unfold okB at hok; exact of_decide_eq_true hok
  rw [hE] at CK
  generalize ckI p = ii at CK
  have hF := okB_fine hok
  have hnn : ∀ j, j < p.length → 0 ≤ (Fp.at_ p j).n := fun j hj => (hp.at_ hj).1.1
  have hm1 : 0 < m := by have := hF.size; omega
  have hlast := hF.last
  have RE := fun w' (s : Same w w') => reached_any A m c p w' hl (by omega) (hp.same s) (ht.same s)
  have hRE : reachL p = BL m (R p m) := by unfold reachL; rw [hok, hl]; rfl
  rw [hRE] at RE
  have TL := fun w' (s : Same w w') => told_any A m c p w' hl (by omega) (hp.same s) (ht.same s)
  have hT : toldL p = loopsL p := by unfold toldL; rw [hok]; rfl
  rw [hT] at TL
  have NX := fun (k : Nat) (hk : k < m) w' (s : Same w w') => nexts_any A m c p (k : Int) w' hl (by omega) (hp.same s) (ht.same s)
  have hN : ∀ k : Nat, k < m → nextsL p (k : Int) = nextL p k := fun k hk => by
    unfold nextsL
    rw [if_pos ⟨hok, by omega, by omega⟩, Int.toNat_natCast]
  have NX2 : ∀ (k : Nat) (hk : k < m) w', Same w w' → Calls Tryd.prog 33 #[.slice A m c, .int .i64 (k : Int)] w' (Nums w' (nextL p k)) := fun k hk w' s => by
    have := NX k hk w' s
    rw [hN k hk] at this
    exact this
  have HWAY := Lib.hid (fun (k : Nat) (hk : k < m) (t : Int) (ht : t ∈ nextL p k) => (show Fp.OneWay p k t from hF.way hnn (by omega) ht))
  have HR0 := Lib.hid (show R p m 0 = true from R_zero m)
  have HLN := Lib.hid (show (loopsL p).length ≤ 64 by have := loopsTo_len (p := p) p.length; unfold loopsL; omega)
  have AW := Lib.hid (fun w' (s : Same w w') => awake10 w' (ht.same s))
  have HP := Lib.hid hp
  have HL := Lib.hid hl
  have HTL := Lib.hid TL
  have HRE := Lib.hid RE
  have HCK := Lib.hid CK
  have HNX := Lib.hid NX2
  obtain ⟨q, hq⟩ : ∃ q, q = m - 1 := ⟨_, rfl⟩
  obtain ⟨b9, o9, hA9, z9, _⟩ := (hp.at_ (k := q) (by omega)).2

  have hlast2 : (Fp.at_ p q).op = 21 := by rw [hq, ← hl]; exact hlast
  rw [hlast2, hq] at z9
  have HZ9 := Lib.hid z9
  have HA9 := Lib.hid hA9
  clear NX2 NX CK RE TL hN hRE hT hF hnn hE hok ht hp hl hlast hlast2 z9 hA9
  unfold Bools at HRE
  unfold Told at HTL
  unfold Nums at HNX
  have z0 : ((m : Int) == 0) = false := by simp; omega
  have hm0 : (0 : Int) < (m : Int) := by omega
  clear hq
  go_enter Tryd.func7, Tryd.ntmps7
  go_wp2_with fail
  refine HCK.out.mono ?_
  rintro e w1 ⟨rfl, s1⟩
  go_wp2_with fail
  refine (HRE.out _ s1).mono ?_
  rintro e w2 ⟨R1, k1, rfl, r1, s2⟩
  have HS2 := Lib.hid (s1.trans s2)
  have HR1 := Lib.hid r1
  rw [BL_len]
  obtain ⟨b8, o8, rfl, y8⟩ := r1 0 _ (BL_get _ hm1)
  rw [HR0.out] at y8
  rw [Nat.add_zero] at y8
  have y9 := HS2.out.cell HZ9.out
  have hA := HA9.out
  subst hA
  clear s1 s2 r1 HRE HCK
  go_wp2_with fail
  clear y8 y9 HZ9 HR0
  go_loopg [57] m (fun gk iv wx => ∃ k : Nat, k + gk = m ∧ iv = .int .i64 k ∧ Same w2 wx)
  case atStart => exact ⟨0, by omega, rfl, Same.refl _⟩
  case round =>
    obtain ⟨k, hk, rfl, sx⟩ := hrel
    have HS := Lib.hid (HS2.out.trans sx)
    have HSX := Lib.hid sx
    have HRR := Lib.hid (HR1.out.same sx)
    clear sx
    cases gk with
    | zero =>
      obtain rfl : m = k := by omega
      have hge : ¬ (m : Int) < (m : Int) := by omega
      go_wp2_with fail
      refine (AW.out _ HS.out).mono ?_
      rintro e w3 ⟨rfl, s3⟩
      go_wp2
      go_ret
      exact ⟨rfl, HS.out.trans s3⟩
    | succ GK =>
      have hlt : (k : Int) < m := by omega
      have hk0 : (0 : Int) ≤ k := by omega
      have hkm : k < m := by omega
      have NX := Lib.hid (HNX.out k hkm _ HS.out)
      have hwk := HWAY.out k hkm
      have HLZ := Lib.hid (next_len p k)
      have HND := Lib.hid (fun h : (Fp.at_ p k).op = 21 => next_done h)
      have HNS := Lib.hid (fun h : ¬ (Fp.at_ p k).op = 21 => next_some h)
      obtain ⟨_, b7, o7, hA7, z7, _⟩ := (HP.out.same HS.out).at_ (k := k) (by have := HL.out; omega)
      injection hA7 with hA7
      injection hA7 with e1 e2
      subst e1
      subst e2
      generalize nextL p k = N at *
      have HWK := Lib.hid hwk
      clear hwk
      obtain ⟨z, hz⟩ : ∃ z, z = N.length := ⟨_, rfl⟩
      rw [← hz] at HLZ NX
      have HZ := Lib.hid hz
      have hz2 : z ≤ 2 := HLZ.out
      have hd : ((z : Int) == 0) = ((Fp.at_ p k).op == 21) := by
        by_cases h : (Fp.at_ p k).op = 21
        · have h2 := HND.out h
          rw [h2] at hz
          rw [hz, h]
          rfl
        · have h2 := HNS.out h
          have e1 : ((z : Int) == 0) = false := by simp; omega
          have e2 : ((Fp.at_ p k).op == 21) = false := by simpa using h
          rw [e1, e2]
      clear hz HND HNS HLZ
      have hd2 : (!((z : Int) == 0) == ((Fp.at_ p k).op == 21)) = false := by rw [hd]; cases ((Fp.at_ p k).op == 21) <;> rfl
      clear hd
      go_wp2_with fail
      refine NX.out.mono ?_
      rintro e w3 ⟨A3, c3, rfl, r3, s3⟩
      have HS3 := Lib.hid (HS.out.trans s3)
      have HN3 := Lib.hid r3
      have HRR3 := Lib.hid (HRR.out.same s3)
      have z8 := s3.cell z7
      have HS3K := Lib.hid (HSX.out.trans s3)
      clear r3 s3 NX z7 HRR
      go_wp2_with fail
      go_loopg [75] z (fun gk iv wx => ∃ j : Nat, j + gk = z ∧ iv = .int .i64 j ∧ Same w3 wx)
      case atStart => exact ⟨0, by omega, rfl, Same.refl _⟩
      case round =>
        obtain ⟨j, hj, rfl, sj⟩ := hrel
        have HS4 := Lib.hid (HS3.out.trans sj)
        have HN4 := Lib.hid (HN3.out.same sj)
        have HRR4 := Lib.hid (HRR3.out.same sj)
        have z6 := sj.cell z8
        have HSJ := Lib.hid sj
        have HZ6 := Lib.hid z6
        clear sj z6
        cases gk with
        | zero =>
          obtain rfl : z = j := by omega
          have hge : ¬ (z : Int) < (z : Int) := by omega
          go_wp2_with fail
          go_roundg GK
          case rel => exact ⟨k + 1, by omega, by go_num, HS3K.out.trans HSJ.out⟩
          case measure => omega
        | succ GJ =>
          have hltz : (j : Int) < z := by omega
          have hj0 : (0 : Int) ≤ j := by omega
          have hjz : j < N.length := by have := HZ.out; omega
          have hget : (N.map (Value.int .i64))[j]? = some (.int .i64 N[j]) := by rw [List.getElem?_map, List.getElem?_eq_getElem hjz]; rfl
          obtain ⟨b6, o6, rfl, y6⟩ := HN4.out j _ hget
          have hway := HWK.out N[j] (List.getElem_mem hjz)
          generalize N[j] = t at *
          obtain ⟨u, rfl⟩ := Int.eq_ofNat_of_zero_le hway.lo
          have hlo := hway.hi
          have hne := hway.ne
          have HRC := Lib.hid hway.reach
          have HIN := Lib.hid hway.into
          have HOUT := Lib.hid hway.out
          have HDN := Lib.hid hway.down
          rw [HL.out] at hlo
          have hu0 : ¬ (u : Int) < 0 := by omega
          have hu1 : (0 : Int) ≤ u := by omega
          have hum : u < m := by omega
          have hun : ¬ (m : Int) ≤ u := by omega
          have hnk : ((u : Int) == (k : Int)) = false := by simpa using hne
          clear hget hway hne hjz
          obtain ⟨x1, x2, hX, r1⟩ := HRR4.out k _ (BL_get _ hkm)
          injection hX with hX
          injection hX with e1 e2
          subst e1
          subst e2
          obtain ⟨x1, x2, hX, r2⟩ := HRR4.out u _ (BL_get _ hum)
          injection hX with hX
          injection hX with e1 e2
          subst e1
          subst e2
          have hrc : R p m k = true → R p m u = true := by
            have h := HRC.out
            rw [HL.out, Int.toNat_natCast] at h
            exact h
          obtain ⟨n, hn⟩ : ∃ n, n = (loopsL p).length := ⟨_, rfl⟩
          have HNN := Lib.hid hn
          have hn64 : n ≤ 64 := by rw [hn]; exact HLN.out
          have TL := Lib.hid (HTL.out wr HS4.out)
          clear hn HRC
          cases hv : R p m k
          all_goals rw [hv] at r1 hrc
          rotate_left
          all_goals (try rw [hrc rfl] at r2)
          all_goals clear hrc hv
          all_goals
            (try generalize R p m u = ru at r2)
            go_wp2_with fail
            refine TL.out.mono ?_
            rintro e w5 ⟨A5, c5, rfl, sp5, s5⟩
            rw [← HNN.out]
            have HS5 := Lib.hid (HS4.out.trans s5)
            have HSP := Lib.hid sp5
            have HSJ5 := Lib.hid (HSJ.out.trans s5)
            have z5 := s5.cell HZ6.out
            have HZ5 := Lib.hid z5
            clear sp5 s5 TL z5 r1 r2 y6
            go_wp2_with fail
            go_loopg [108] n (fun gk iv wx => ∃ i : Nat, i + gk = n ∧ iv = .int .i64 i ∧ Same w5 wx)
            case atStart => exact ⟨0, by omega, rfl, Same.refl _⟩
            case round =>
              obtain ⟨i, hi, rfl, si⟩ := hrel
              have HSI := Lib.hid si
              have HSP6 := Lib.hid (HSP.out.same si)
              have z4 := si.cell HZ5.out
              have HZ4 := Lib.hid z4
              clear si z4
              cases gk with
              | zero =>
                obtain rfl : n = i := by omega
                have hgn : ¬ (n : Int) < (n : Int) := by omega
                have q4 := HZ4.out
                by_cases huk : (u : Int) < (k : Int)
                · have hop := HDN.out huk
                  rw [hop] at q4
                  clear hop
                  go_wp2_with fail
                  go_roundg GJ
                  case rel => exact ⟨j + 1, by omega, by go_num, HSJ5.out.trans HSI.out⟩
                  case measure => omega
                · clear q4
                  go_wp2_with fail
                  go_roundg GJ
                  case rel => exact ⟨j + 1, by omega, by go_num, HSJ5.out.trans HSI.out⟩
                  case measure => omega
              | succ GI =>
                have hlti : (i : Int) < n := by omega
                have hil : i < (loopsL p).length := by have := HNN.out; omega
                obtain ⟨bs, os, rfl, c0, c1⟩ := HSP6.out.at_ hil
                have hin := HIN.out _ (lp_mem hil)
                have hout := HOUT.out _ (lp_mem hil)
                generalize lp (loopsL p) i = s at *
                have HA := fun w' => rin_any2 s.1 s.2 (u : Int) w'
                have HB := fun w' => rin_any2 s.1 s.2 (k : Int) w'
                have hs0 := (Same.refl wr).alloc (.cells #[.int .i64 s.1, .int .i64 s.2] 58)
                have HS0 := Lib.hid hs0
                have HB0 := Lib.hid (Blk.new wr 58 #[.int .i64 s.1, .int .i64 s.2])
                clear hs0
                generalize hg : wr.heap.size = g at *
                cases ha : hasB s (u : Int)
                all_goals cases hb : hasB s (k : Int)
                all_goals
                  have ha' : hasB (s.1, s.2) (u : Int) = _ := ha
                  have hb' : hasB (s.1, s.2) (k : Int) = _ := hb
                  rw [ha'] at HA
                  rw [hb'] at HB
                  try rw [ha, hb] at hin
                  try rw [ha, hb] at hout
                  clear ha hb ha' hb'
                all_goals
                  (try have hfr := hin rfl rfl)
                  (try have hto := hout rfl rfl)
                  clear hin hout
                  (try have hfr2 : ((u : Int) != s.1) = false := by rw [← hfr]; simp)
                  (try have hto2 : ((k : Int) != s.2) = false := by rw [← hto]; simp)
                  (try clear hfr)
                  (try clear hto)
                all_goals
                  go_wp2_with fail
                  generalize hw6 : wr.alloc (.cells #[.int .i64 s.1, .int .i64 s.2] 58) = w6 at *
                  have q0 : w6.cell? ⟨g, 0, none⟩ = some (.int .i64 s.1) := HB0.out.cell 0
                  have q1 : w6.cell? ⟨g, 1, none⟩ = some (.int .i64 s.2) := HB0.out.cell 1
                  have SS : Hid (∀ w', Same w6 w' → w'.cell? ⟨g, 0, none⟩ = some (.int .i64 s.1) ∧ w'.cell? ⟨g, 1, none⟩ = some (.int .i64 s.2) ∧ Same w6 w') := Lib.hid (fun w' t => ⟨t.cell q0, t.cell q1, t⟩)
                  clear hw6
                  refine wp_region_held_drew (S := fun w' => w'.cell? ⟨g, 0, none⟩ = some (.int .i64 s.1) ∧ w'.cell? ⟨g, 1, none⟩ = some (.int .i64 s.2) ∧ Same w6 w') (by kernel_rfl) ?_ (fun hHeld => ?_)
                  · exact SS.out _ (Same.refl w6).drew
                  first
                    | (refine Ro.take_off (i := 0) rfl (by kernel_rfl) (by kernel_rfl) (by kernel_rfl) (fun _ _ _ h => h) (by rfl) (by assumption) ?_)
                    | (refine Ro.take_on (i := 0) (v := ?_) rfl (by kernel_rfl) (by kernel_rfl) (by kernel_rfl) (fun _ _ _ h => h) (by rfl) (by assumption) ?_ ?_; rotate_left; · (intro wS hSw; (try dsimp only at hSw); go_simp; try with_reducible rfl))
                  try simp only [Act.put, List.setIfInBounds_toArray, List.set_cons_zero, List.set_cons_succ]
                  first
                    | (refine Ro.take_off (i := 1) rfl (by kernel_rfl) (by kernel_rfl) (by kernel_rfl) (fun _ _ _ h => h) (by rfl) (by assumption) ?_)
                    | (refine Ro.take_on (i := 1) (v := ?_) rfl (by kernel_rfl) (by kernel_rfl) (by kernel_rfl) (fun _ _ _ h => h) (by rfl) (by assumption) ?_ ?_; rotate_left; · (intro wS hSw; (try dsimp only at hSw); go_simp; try with_reducible rfl))
                  try simp only [Act.put, List.setIfInBounds_toArray, List.set_cons_zero, List.set_cons_succ]
                  first
                    | (refine Ro.take_off (i := 9) rfl (by kernel_rfl) (by kernel_rfl) (by kernel_rfl) (fun _ _ _ h => h) (by rfl) (by assumption) ?_)
                    | (refine Ro.take_on (i := 9) (v := ?_) rfl (by kernel_rfl) (by kernel_rfl) (by kernel_rfl) (fun _ _ _ h => h) (by rfl) (by assumption) ?_ ?_; rotate_left; · (intro wS hSw; (try dsimp only at hSw); go_simp; try with_reducible rfl))
                  try simp only [Act.put, List.setIfInBounds_toArray, List.set_cons_zero, List.set_cons_succ]
                  first
                    | (refine Ro.take_off (i := 10) rfl (by kernel_rfl) (by kernel_rfl) (by kernel_rfl) (fun _ _ _ h => h) (by rfl) (by assumption) ?_)
                    | (refine Ro.take_on (i := 10) (v := ?_) rfl (by kernel_rfl) (by kernel_rfl) (by kernel_rfl) (fun _ _ _ h => h) (by rfl) (by assumption) ?_ ?_; rotate_left; · (intro wS hSw; (try dsimp only at hSw); go_simp; try with_reducible rfl))
                  try simp only [Act.put, List.setIfInBounds_toArray, List.set_cons_zero, List.set_cons_succ]
                  first
                    | (refine Ro.take_off (i := 2) rfl (by kernel_rfl) (by kernel_rfl) (by kernel_rfl) (fun _ _ _ h => h) (by rfl) (by assumption) ?_)
                    | (refine Ro.one_on (i := 2) rfl (by kernel_rfl) (by rfl) (fun K hK => ?_); go_simp; go_at_call 35; refine (HA _).mono ?_; rintro e w' ⟨rfl, hs9⟩; (first | refine hK.out _ _ ?_ (fun hNew => ?_) | (go_wp2_with fail; refine hK.out _ _ ?_ (fun hNew => ?_))); (· (exact SS.out _ (hHeld.2.2.trans hs9))); clear hK K hHeld; have hHeld := hNew; clear hNew)
                  try simp only [Act.put, List.setIfInBounds_toArray, List.set_cons_zero, List.set_cons_succ]
                  first
                    | (refine Ro.take_off (i := 3) rfl (by kernel_rfl) (by kernel_rfl) (by kernel_rfl) (fun _ _ _ h => h) (by rfl) (by assumption) ?_)
                    | (refine Ro.take_on (i := 3) (v := ?_) rfl (by kernel_rfl) (by kernel_rfl) (by kernel_rfl) (fun _ _ _ h => h) (by rfl) (by assumption) ?_ ?_; rotate_left; · (intro wS hSw; (try dsimp only at hSw); go_simp; try with_reducible rfl))
                  try simp only [Act.put, List.setIfInBounds_toArray, List.set_cons_zero, List.set_cons_succ]
                  first
                    | (refine Ro.take_off (i := 4) rfl (by kernel_rfl) (by kernel_rfl) (by kernel_rfl) (fun _ _ _ h => h) (by rfl) (by assumption) ?_)
                    | (refine Ro.take_on (i := 4) (v := ?_) rfl (by kernel_rfl) (by kernel_rfl) (by kernel_rfl) (fun _ _ _ h => h) (by rfl) (by assumption) ?_ ?_; rotate_left; · (intro wS hSw; (try dsimp only at hSw); go_simp; try with_reducible rfl))
                  try simp only [Act.put, List.setIfInBounds_toArray, List.set_cons_zero, List.set_cons_succ]
                  first
                    | (refine Ro.take_off (i := 5) rfl (by kernel_rfl) (by kernel_rfl) (by kernel_rfl) (fun _ _ _ h => h) (by rfl) (by assumption) ?_)
                    | (refine Ro.take_on (i := 5) (v := ?_) rfl (by kernel_rfl) (by kernel_rfl) (by kernel_rfl) (fun _ _ _ h => h) (by rfl) (by assumption) ?_ ?_; rotate_left; · (intro wS hSw; (try dsimp only at hSw); go_simp; try with_reducible rfl))
                  try simp only [Act.put, List.setIfInBounds_toArray, List.set_cons_zero, List.set_cons_succ]
                  first
                    | (refine Ro.take_off (i := 6) rfl (by kernel_rfl) (by kernel_rfl) (by kernel_rfl) (fun _ _ _ h => h) (by rfl) (by assumption) ?_)
                    | (refine Ro.one_on (i := 6) rfl (by kernel_rfl) (by rfl) (fun K hK => ?_); go_simp; go_at_call 35; refine (HB _).mono ?_; rintro e w' ⟨rfl, hs9⟩; (first | refine hK.out _ _ ?_ (fun hNew => ?_) | (go_wp2_with fail; refine hK.out _ _ ?_ (fun hNew => ?_))); (· (exact SS.out _ (hHeld.2.2.trans hs9))); clear hK K hHeld; have hHeld := hNew; clear hNew)
                  try simp only [Act.put, List.setIfInBounds_toArray, List.set_cons_zero, List.set_cons_succ]
                  first
                    | (refine Ro.take_off (i := 7) rfl (by kernel_rfl) (by kernel_rfl) (by kernel_rfl) (fun _ _ _ h => h) (by rfl) (by assumption) ?_)
                    | (refine Ro.take_on (i := 7) (v := ?_) rfl (by kernel_rfl) (by kernel_rfl) (by kernel_rfl) (fun _ _ _ h => h) (by rfl) (by assumption) ?_ ?_; rotate_left; · (intro wS hSw; (try dsimp only at hSw); go_simp; try with_reducible rfl))
                  try simp only [Act.put, List.setIfInBounds_toArray, List.set_cons_zero, List.set_cons_succ]
                  first
                    | (refine Ro.take_off (i := 8) rfl (by kernel_rfl) (by kernel_rfl) (by kernel_rfl) (fun _ _ _ h => h) (by rfl) (by assumption) ?_)
                    | (refine Ro.take_on (i := 8) (v := ?_) rfl (by kernel_rfl) (by kernel_rfl) (by kernel_rfl) (fun _ _ _ h => h) (by rfl) (by assumption) ?_ ?_; rotate_left; · (intro wS hSw; (try dsimp only at hSw); go_simp; try with_reducible rfl))
                  try simp only [Act.put, List.setIfInBounds_toArray, List.set_cons_zero, List.set_cons_succ]
                  first
                    | (refine Ro.take_off (i := 11) rfl (by kernel_rfl) (by kernel_rfl) (by kernel_rfl) (fun _ _ _ h => h) (by rfl) (by assumption) ?_)
                    | (refine Ro.one_on (i := 11) rfl (by kernel_rfl) (by rfl) (fun K hK => ?_); go_simp; go_at_call 35; refine (HB _).mono ?_; rintro e w' ⟨rfl, hs9⟩; (first | refine hK.out _ _ ?_ (fun hNew => ?_) | (go_wp2_with fail; refine hK.out _ _ ?_ (fun hNew => ?_))); (· (exact SS.out _ (hHeld.2.2.trans hs9))); clear hK K hHeld; have hHeld := hNew; clear hNew)
                  try simp only [Act.put, List.setIfInBounds_toArray, List.set_cons_zero, List.set_cons_succ]
                  first
                    | (refine Ro.take_off (i := 12) rfl (by kernel_rfl) (by kernel_rfl) (by kernel_rfl) (fun _ _ _ h => h) (by rfl) (by assumption) ?_)
                    | (refine Ro.take_on (i := 12) (v := ?_) rfl (by kernel_rfl) (by kernel_rfl) (by kernel_rfl) (fun _ _ _ h => h) (by rfl) (by assumption) ?_ ?_; rotate_left; · (intro wS hSw; (try dsimp only at hSw); go_simp; try with_reducible rfl))
                  try simp only [Act.put, List.setIfInBounds_toArray, List.set_cons_zero, List.set_cons_succ]
                  first
                    | (refine Ro.take_off (i := 13) rfl (by kernel_rfl) (by kernel_rfl) (by kernel_rfl) (fun _ _ _ h => h) (by rfl) (by assumption) ?_)
                    | (refine Ro.take_on (i := 13) (v := ?_) rfl (by kernel_rfl) (by kernel_rfl) (by kernel_rfl) (fun _ _ _ h => h) (by rfl) (by assumption) ?_ ?_; rotate_left; · (intro wS hSw; (try dsimp only at hSw); go_simp; try with_reducible rfl))
                  try simp only [Act.put, List.setIfInBounds_toArray, List.set_cons_zero, List.set_cons_succ]
                  first
                    | (refine Ro.take_off (i := 14) rfl (by kernel_rfl) (by kernel_rfl) (by kernel_rfl) (fun _ _ _ h => h) (by rfl) (by assumption) ?_)
                    | (refine Ro.take_on (i := 14) (v := ?_) rfl (by kernel_rfl) (by kernel_rfl) (by kernel_rfl) (fun _ _ _ h => h) (by rfl) (by assumption) ?_ ?_; rotate_left; · (intro wS hSw; (try dsimp only at hSw); go_simp; try with_reducible rfl))
                  try simp only [Act.put, List.setIfInBounds_toArray, List.set_cons_zero, List.set_cons_succ]
                  first
                    | (refine Ro.take_off (i := 15) rfl (by kernel_rfl) (by kernel_rfl) (by kernel_rfl) (fun _ _ _ h => h) (by rfl) (by assumption) ?_)
                    | (refine Ro.one_on (i := 15) rfl (by kernel_rfl) (by rfl) (fun K hK => ?_); go_simp; go_at_call 35; refine (HA _).mono ?_; rintro e w' ⟨rfl, hs9⟩; (first | refine hK.out _ _ ?_ (fun hNew => ?_) | (go_wp2_with fail; refine hK.out _ _ ?_ (fun hNew => ?_))); (· (exact SS.out _ (hHeld.2.2.trans hs9))); clear hK K hHeld; have hHeld := hNew; clear hNew)
                  try simp only [Act.put, List.setIfInBounds_toArray, List.set_cons_zero, List.set_cons_succ]
                  first
                    | (refine Ro.take_off (i := 16) rfl (by kernel_rfl) (by kernel_rfl) (by kernel_rfl) (fun _ _ _ h => h) (by rfl) (by assumption) ?_)
                    | (refine Ro.take_on (i := 16) (v := ?_) rfl (by kernel_rfl) (by kernel_rfl) (by kernel_rfl) (fun _ _ _ h => h) (by rfl) (by assumption) ?_ ?_; rotate_left; · (intro wS hSw; (try dsimp only at hSw); go_simp; try with_reducible rfl))
                  try simp only [Act.put, List.setIfInBounds_toArray, List.set_cons_zero, List.set_cons_succ]
                  first
                    | (refine Ro.take_off (i := 17) rfl (by kernel_rfl) (by kernel_rfl) (by kernel_rfl) (fun _ _ _ h => h) (by rfl) (by assumption) ?_)
                    | (refine Ro.take_on (i := 17) (v := ?_) rfl (by kernel_rfl) (by kernel_rfl) (by kernel_rfl) (fun _ _ _ h => h) (by rfl) (by assumption) ?_ ?_; rotate_left; · (intro wS hSw; (try dsimp only at hSw); go_simp; try with_reducible rfl))
                  try simp only [Act.put, List.setIfInBounds_toArray, List.set_cons_zero, List.set_cons_succ]
                  first
                    | (refine Ro.take_off (i := 18) rfl (by kernel_rfl) (by kernel_rfl) (by kernel_rfl) (fun _ _ _ h => h) (by rfl) (by assumption) ?_)
                    | (refine Ro.take_on (i := 18) (v := ?_) rfl (by kernel_rfl) (by kernel_rfl) (by kernel_rfl) (fun _ _ _ h => h) (by rfl) (by assumption) ?_ ?_; rotate_left; · (intro wS hSw; (try dsimp only at hSw); go_simp; try with_reducible rfl))
                  try simp only [Act.put, List.setIfInBounds_toArray, List.set_cons_zero, List.set_cons_succ]
                  first
                    | (refine Ro.take_off (i := 19) rfl (by kernel_rfl) (by kernel_rfl) (by kernel_rfl) (fun _ _ _ h => h) (by rfl) (by assumption) ?_)
                    | (refine Ro.take_on (i := 19) (v := ?_) rfl (by kernel_rfl) (by kernel_rfl) (by kernel_rfl) (fun _ _ _ h => h) (by rfl) (by assumption) ?_ ?_; rotate_left; · (intro wS hSw; (try dsimp only at hSw); go_simp; try with_reducible rfl))
                  try simp only [Act.put, List.setIfInBounds_toArray, List.set_cons_zero, List.set_cons_succ]
                  refine wpAnyH_done (by kernel_rfl) ?_ _
                  have y0 := hHeld.1
                  have y1 := hHeld.2.1
                  have HX9 := Lib.hid hHeld.2.2
                  clear hHeld SS q0 q1
                  go_wp2_with fail
                  go_roundg GI
                  case rel => exact ⟨i + 1, by omega, by go_num, (HSI.out.trans HS0.out).trans HX9.out⟩
                  case measure => omega
theorem ends_any (A : Option Addr) (m c : Nat) (rows : List (List Int)) (w : World) (hr : Fl.Rows w A [.i64, .i64, .i64, .i64, .u32] rows) (hl : rows.length = m) (ht : Tabs w) :
    Calls Tryd.prog 7 #[.slice A m c] w fun e w' => e = .returned (.bool true) ∧ Same w w' := by
  obtain ⟨p, hp, hP⟩ := prg_in2 hr
  have hpl := hp.trans hl
  by_cases hm : m ≤ 64
  · cases hok : okB p
    · exact ends_bad A m c p w hpl hm hP ht hok
    · exact ends_good A m c p w hpl hm hP ht hok
  · exact ends_big A m c w (by omega) ht

end Go.Proofs.YtflmejcojfnknaaDoor.Fw
