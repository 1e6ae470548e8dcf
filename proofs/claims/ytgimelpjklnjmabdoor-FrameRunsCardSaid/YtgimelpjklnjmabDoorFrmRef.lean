/-

  Layer 13: the document's Right, Inside and Same.
-/
import Derived.Test.YtgimelpjklnjmabDoorFrmRunF
import Derived.Test.YtgimelpjklnjmabDoorFlowFine
import Derived.Deep.CutBlock
set_option linter.unusedVariables false
set_option linter.unusedSimpArgs false
namespace Go.Proofs.YtgimelpjklnjmabDoor.Fr
open Go.ChangeShapes Go.WideShapes Go.ChangeAt Go.RowKit Ws
open Go.Proofs.YtgimelpjklnjmabDoor.Fp (Ins at_ Fine at_some)
open Go.Proofs.YtgimelpjklnjmabDoor.Fw (Prg okB ckE check_any okB_fine rightI)
open Go.Proofs.YtgimelpjklnjmabDoor.Is (Tabs)

theorem rinside_any (n a l : Int) (bn : 0 ≤ n ∧ n ≤ 9223372036854775807) (w : World) : Calls Tryd.prog 35 #[.int .i64 n, .agg #[.int .i64 a, .int .i64 l]] w fun e w' => e = .returned (.bool (Mm.inB n a l)) ∧ Same w w' := by
  go_enter Tryd.func35, Tryd.ntmps35
  go_wp2
  all_goals
    go_ret
    refine ⟨ret_bool ?_, (Same.refl _).alloc _⟩
    unfold Mm.inB
    first
      | (rw [Bool.eq_iff_iff, decide_eq_true_eq, decide_eq_true_eq]; omega)
      | (rw [decide_eq_false (by omega)])
      | (simp; omega)

set_option maxRecDepth 100000 in
set_option maxHeartbeats 2000000 in
theorem rright_any (f : FS) (T : Option Addr) (nT cT : Nat) (A : Option Addr) (m c : Nat) (p : List Ins) (w : World) (hl : p.length = m) (hm : m ≤ 5000) (hp : Prg w A p) (hT : Row w T (f.tn.map (Value.int .i64))) (hn : f.tn.length = nT) (hb : nT ≤ 5000) :
    Calls Tryd.prog 10 #[.agg #[.int .i64 f.pc, .int .u32 (rk f 0), .int .u32 (rk f 1), .int .u32 (rk f 2), .int .u32 (rk f 3), .int .u32 (rk f 4), .int .u32 (rk f 5), .int .u32 (rk f 6), .int .u32 (rk f 7), .slice T nT cT], .slice A m c] w fun e w' => e = .returned (.bool (rightF (okB p) p f)) ∧ Same w w' := by
  have CK := Lib.hid (fun w' (hs : Same w w') => Fw.rfine_any A m c p w' hl hm (hp.same hs))
  obtain ⟨w0, hw0⟩ : ∃ w0, w0 = w.alloc (.cells #[.int .i64 f.pc, .int .u32 (rk f 0), .int .u32 (rk f 1), .int .u32 (rk f 2), .int .u32 (rk f 3), .int .u32 (rk f 4), .int .u32 (rk f 5), .int .u32 (rk f 6), .int .u32 (rk f 7), .slice T nT cT] 26) := ⟨_, rfl⟩
  have hs0 : Same w w0 := hw0 ▸ (Same.refl w).alloc _
  have hb0 : Blk w0 w.heap.size 26 #[.int .i64 f.pc, .int .u32 (rk f 0), .int .u32 (rk f 1), .int .u32 (rk f 2), .int .u32 (rk f 3), .int .u32 (rk f 4), .int .u32 (rk f 5), .int .u32 (rk f 6), .int .u32 (rk f 7), .slice T nT cT] := hw0 ▸ Blk.new w _ _
  have HS0 := Lib.hid hs0
  have HB0 := Lib.hid hb0
  have HP := Lib.hid hp
  have HT := Lib.hid hT
  have HL := Lib.hid hl
  have HN := Lib.hid hn
  have E0 := Lib.hid hw0
  clear hs0 hb0 hp hT hl hn hw0
  go_enter Tryd.func10, Tryd.ntmps10
  go_wp2_with fail
  rw [← E0.out]
  clear E0
  refine (CK.out _ HS0.out).mono ?_
  rintro e w1 ⟨rfl, s1⟩
  have HS1 := Lib.hid (HS0.out.trans s1)
  have hb1 := HB0.out.same s1
  have HB1 := Lib.hid hb1
  have c0 := hb1.cell 0
  have c9 := hb1.cell 9
  simp only [List.getElem?_toArray, List.getElem?_cons_zero, List.getElem?_cons_succ] at c0 c9
  clear CK s1 HB0 hb1
  generalize hok : okB p = q at *
  have HOK := Lib.hid hok
  clear hok
  cases q with
  | true =>
    by_cases hpl : 0 ≤ f.pc ∧ f.pc < m ∧ nT = m
    · have HPL := Lib.hid (show placeB p f = true from decide_eq_true ⟨hpl.1, by have := HL.out; omega, by have := HN.out; have := HL.out; omega⟩)
      obtain ⟨h1, h2, h3⟩ := hpl
      have h1' : ¬ f.pc < 0 := by omega
      have h2' : ¬ f.pc ≥ m := by omega
      subst h3
      generalize hg : w.heap.size = g at *
      clear hg
      go_wp2_with fail
      go_loopg [33] nT (fun gk iv wx => ∃ k : Nat, k + gk = nT ∧ iv = .int .i64 k ∧ (∀ j, j < k → 0 ≤ f.tn.getD j 0 ∧ f.tn.getD j 0 ≤ mostI (at_ p j)) ∧ Same w1 wx)
      case atStart => exact ⟨0, by omega, rfl, (fun j hj => by omega), Same.refl _⟩
      case round =>
        obtain ⟨k, hk, rfl, hall, hs⟩ := hrel
        have HALL := Lib.hid hall
        have HS := Lib.hid hs
        have c9' := hs.cell c9
        clear hall hs c0 c9
        cases gk with
        | zero =>
          obtain rfl : k = nT := by omega
          have hge : ¬ (k : Int) < (k : Int) := by omega
          go_wp2_with fail
          go_ret
          refine ⟨ret_bool ?_, HS1.out.trans HS.out⟩
          unfold rightF
          rw [HOK.out, HPL.out, turns_iff.2 (fun j hj => HALL.out j (by have := HN.out; omega))]
          rfl
        | succ GK =>
          have hlt : (k : Int) < nT := by omega
          have hx : f.tn[k]? = some (f.tn.getD k 0) := by
            rw [List.getD_eq_getElem?_getD, List.getElem?_eq_getElem (by have := HN.out; omega)]; rfl
          obtain ⟨b, o, hA, cx⟩ := (HT.out.same (HS1.out.trans HS.out)) k (.int .i64 (f.tn.getD k 0)) (by rw [List.getElem?_map, hx]; rfl)
          subst hA
          clear hx
          obtain ⟨hok, b2, o2, hA2, z0, z1, z2, z3, z4⟩ := (HP.out.same (HS1.out.trans HS.out)).at_ (k := k) (by have := HL.out; omega)
          subst hA2
          have HNO := Lib.hid (fun h => turns_no (p := p) (tn := f.tn) (k := k) (by have := HN.out; omega) h)
          obtain ⟨x, hxe⟩ : ∃ x, x = at_ p k := ⟨_, rfl⟩
          rw [← hxe] at z0 z1 z2 z3 z4 HNO
          generalize hv : f.tn.getD k 0 = v at *
          have HV := Lib.hid hv
          have HXE := Lib.hid hxe
          have cx2 := ((Same.refl wr).alloc (.cells #[.int .i64 x.op, .int .i64 x.a, .int .i64 x.b, .int .i64 x.c, .int .u32 x.n] 40)).cell cx
          have c92 := ((Same.refl wr).alloc (.cells #[.int .i64 x.op, .int .i64 x.a, .int .i64 x.b, .int .i64 x.c, .int .u32 x.n] 40)).cell c9'
          clear hv hxe hok
          obtain ⟨mx, hmx⟩ : ∃ mx, mx = mostI x := ⟨_, rfl⟩
          have HMX := Lib.hid hmx
          rw [← hmx] at HNO
          by_cases h16 : x.op = 16
          · have e16 : (x.op == 16) = true := by simpa using h16
            have hmc : mx = x.c := by rw [hmx]; exact if_pos h16
            have HMC := Lib.hid hmc
            clear h16 hmx hmc
            by_cases hv0 : v < 0
            · have HNO2 := Lib.hid (HNO.out (.inl hv0))
              go_wp2_with fail
              go_ret
              exact ⟨ret_bool (by unfold rightF; rw [HNO2.out]; simp), (HS1.out.trans HS.out).alloc _⟩
            · have hv0' : ¬ v < 0 := hv0
              by_cases hv1 : x.c < v
              · have HNO2 := Lib.hid (HNO.out (.inr (by rw [HMC.out]; exact hv1)))
                go_wp2_with fail
                go_ret
                exact ⟨ret_bool (by unfold rightF; rw [HNO2.out]; simp), (HS1.out.trans HS.out).alloc _⟩
              · go_wp2_with fail
                go_roundg GK
                case measure => omega
                case rel =>
                  refine ⟨k + 1, by omega, by go_num, ?_, HS.out.alloc _⟩
                  intro j hj
                  by_cases hjk : j = k
                  · subst hjk
                    rw [HV.out, ← HXE.out, ← HMX.out, HMC.out]
                    omega
                  · exact HALL.out j (by omega)
          · have e16 : (x.op == 16) = false := by simpa using h16
            have hmc : mx = 0 := by rw [hmx]; exact if_neg h16
            have HMC := Lib.hid hmc
            clear h16 hmx hmc
            by_cases hv0 : v < 0
            · have HNO2 := Lib.hid (HNO.out (.inl hv0))
              go_wp2_with fail
              go_ret
              exact ⟨ret_bool (by unfold rightF; rw [HNO2.out]; simp), (HS1.out.trans HS.out).alloc _⟩
            · have hv0' : ¬ v < 0 := hv0
              by_cases hv1 : 0 < v
              · have HNO2 := Lib.hid (HNO.out (.inr (by rw [HMC.out]; exact hv1)))
                go_wp2_with fail
                go_ret
                exact ⟨ret_bool (by unfold rightF; rw [HNO2.out]; simp), (HS1.out.trans HS.out).alloc _⟩
              · go_wp2_with fail
                go_roundg GK
                case measure => omega
                case rel =>
                  refine ⟨k + 1, by omega, by go_num, ?_, HS.out.alloc _⟩
                  intro j hj
                  by_cases hjk : j = k
                  · subst hjk
                    rw [HV.out, ← HXE.out, ← HMX.out, HMC.out]
                    omega
                  · exact HALL.out j (by omega)
    · have HPL := Lib.hid (show placeB p f = false from decide_eq_false (fun h => hpl ⟨h.1, by have := HL.out; omega, by have := HN.out; have := HL.out; omega⟩))
      have HF := Lib.hid (show rightF (okB p) p f = false by unfold rightF; rw [HPL.out]; simp)
      clear HPL
      by_cases h1 : f.pc < 0
      · clear hpl
        go_wp2_with fail
        go_ret
        exact ⟨ret_bool HF.out.symm, HS1.out⟩
      · by_cases h2 : f.pc ≥ m
        · clear hpl
          go_wp2_with fail
          go_ret
          exact ⟨ret_bool HF.out.symm, HS1.out⟩
        · have h3 : ((nT : Int) != (m : Int)) = true := by simp; omega
          clear hpl
          go_wp2_with fail
          go_ret
          exact ⟨ret_bool HF.out.symm, HS1.out⟩
  | false =>
    have HF := Lib.hid (show rightF (okB p) p f = false by unfold rightF; rw [HOK.out]; rfl)
    go_wp2_with fail
    go_ret
    exact ⟨ret_bool HF.out.symm, HS1.out⟩

theorem regs_eq (r0 r1 r2 r3 r4 r5 r6 r7 : Int) (w : World) : (Op.equalIn 10000 23 (.agg #[.int .u32 r0, .int .u32 r1, .int .u32 r2, .int .u32 r3, .int .u32 r4, .int .u32 r5, .int .u32 r6, .int .u32 r7]) (.agg #[.int .u32 r0, .int .u32 r1, .int .u32 r2, .int .u32 r3, .int .u32 r4, .int .u32 r5, .int .u32 r6, .int .u32 r7])).run Tryd.prog w = .ok true w := by
  have u3 := Tryd.underlying22
  have a3 := Tryd.isAgg22
  have z3 := Tryd.sizeOf22
  rw [show (10000 : Nat) = 9999 + 1 from rfl, Op.equalIn]
  simp only [Sem.run_bind, run_underlying Tryd.underlying23, Result.andThen_ok]
  simp only [Std.Legacy.Range.forIn_eq_forIn_range', Std.Legacy.Range.size, Nat.sub_zero, Nat.add_sub_cancel, Nat.div_one, List.range'_succ, List.range'_zero, List.forIn_cons, List.forIn_nil]
  go_simp
set_option maxRecDepth 100000 in
set_option maxHeartbeats 2000000 in
theorem rsame_yes (f : FS) (T V : Option Addr) (nT cT cV : Nat) (w : World) (hT : Row w T (f.tn.map (Value.int .i64))) (hV : Row w V (f.tn.map (Value.int .i64))) (hn : f.tn.length = nT) (hb : nT ≤ 5000) :
    Calls Tryd.prog 12 #[.agg #[.int .i64 f.pc, .int .u32 (rk f 0), .int .u32 (rk f 1), .int .u32 (rk f 2), .int .u32 (rk f 3), .int .u32 (rk f 4), .int .u32 (rk f 5), .int .u32 (rk f 6), .int .u32 (rk f 7), .slice T nT cT], .agg #[.int .i64 f.pc, .int .u32 (rk f 0), .int .u32 (rk f 1), .int .u32 (rk f 2), .int .u32 (rk f 3), .int .u32 (rk f 4), .int .u32 (rk f 5), .int .u32 (rk f 6), .int .u32 (rk f 7), .slice V nT cV]] w fun e w' => e = .returned (.bool true) ∧ Same w w' := by
  obtain ⟨w1, hw1⟩ : ∃ w1, w1 = (w.alloc (.cells #[.int .i64 f.pc, .int .u32 (rk f 0), .int .u32 (rk f 1), .int .u32 (rk f 2), .int .u32 (rk f 3), .int .u32 (rk f 4), .int .u32 (rk f 5), .int .u32 (rk f 6), .int .u32 (rk f 7), .slice T nT cT] 26)).alloc (.cells #[.int .i64 f.pc, .int .u32 (rk f 0), .int .u32 (rk f 1), .int .u32 (rk f 2), .int .u32 (rk f 3), .int .u32 (rk f 4), .int .u32 (rk f 5), .int .u32 (rk f 6), .int .u32 (rk f 7), .slice V nT cV] 26) := ⟨_, rfl⟩
  have hs1 : Same w w1 := hw1 ▸ ((Same.refl w).alloc _).alloc _
  have hb1 : Blk w1 w.heap.size 26 #[.int .i64 f.pc, .int .u32 (rk f 0), .int .u32 (rk f 1), .int .u32 (rk f 2), .int .u32 (rk f 3), .int .u32 (rk f 4), .int .u32 (rk f 5), .int .u32 (rk f 6), .int .u32 (rk f 7), .slice T nT cT] := hw1 ▸ (Blk.new w _ _).same ((Same.refl _).alloc _)
  have hb2 : Blk w1 (w.heap.size + 1) 26 #[.int .i64 f.pc, .int .u32 (rk f 0), .int .u32 (rk f 1), .int .u32 (rk f 2), .int .u32 (rk f 3), .int .u32 (rk f 4), .int .u32 (rk f 5), .int .u32 (rk f 6), .int .u32 (rk f 7), .slice V nT cV] := by
    have h := Blk.new (w.alloc (.cells #[.int .i64 f.pc, .int .u32 (rk f 0), .int .u32 (rk f 1), .int .u32 (rk f 2), .int .u32 (rk f 3), .int .u32 (rk f 4), .int .u32 (rk f 5), .int .u32 (rk f 6), .int .u32 (rk f 7), .slice T nT cT] 26)) 26 #[.int .i64 f.pc, .int .u32 (rk f 0), .int .u32 (rk f 1), .int .u32 (rk f 2), .int .u32 (rk f 3), .int .u32 (rk f 4), .int .u32 (rk f 5), .int .u32 (rk f 6), .int .u32 (rk f 7), .slice V nT cV]
    rw [hw1]
    simpa using h
  have E1 := Lib.hid hw1
  have HS1 := Lib.hid hs1
  have HT := Lib.hid (hT.same hs1)
  have HV := Lib.hid (hV.same hs1)
  have HN := Lib.hid hn
  obtain ⟨x0, x1, x2, x3, x4, x5, x6, x7, x8, x9⟩ := (⟨hb1.cell 0, hb1.cell 1, hb1.cell 2, hb1.cell 3, hb1.cell 4, hb1.cell 5, hb1.cell 6, hb1.cell 7, hb1.cell 8, hb1.cell 9⟩ : _ ∧ _ ∧ _ ∧ _ ∧ _ ∧ _ ∧ _ ∧ _ ∧ _ ∧ _)
  simp only [List.getElem?_toArray, List.getElem?_cons_zero, List.getElem?_cons_succ] at x0 x1 x2 x3 x4 x5 x6 x7 x8 x9
  obtain ⟨y0, y1, y2, y3, y4, y5, y6, y7, y8, y9⟩ := (⟨hb2.cell 0, hb2.cell 1, hb2.cell 2, hb2.cell 3, hb2.cell 4, hb2.cell 5, hb2.cell 6, hb2.cell 7, hb2.cell 8, hb2.cell 9⟩ : _ ∧ _ ∧ _ ∧ _ ∧ _ ∧ _ ∧ _ ∧ _ ∧ _ ∧ _)
  simp only [List.getElem?_toArray, List.getElem?_cons_zero, List.getElem?_cons_succ] at y0 y1 y2 y3 y4 y5 y6 y7 y8 y9
  have RE := fun w' => regs_eq (rk f 0) (rk f 1) (rk f 2) (rk f 3) (rk f 4) (rk f 5) (rk f 6) (rk f 7) w'
  clear hw1 hs1 hb1 hb2 hT hV hn
  go_enter Tryd.func12, Tryd.ntmps12
  go_upto_region 1 with fail
  rw [← E1.out]
  clear E1
  go_wp2_with fail
  go_loopg [30] nT (fun gk iv wx => ∃ k : Nat, k + gk = nT ∧ iv = .int .i64 k ∧ ∃ n, wx = w1.drewN n)
  case atStart => exact ⟨0, by omega, rfl, 0, rfl⟩
  case round =>
    obtain ⟨k, hk, rfl, n, rfl⟩ := hrel
    cases gk with
    | zero =>
      obtain rfl : k = nT := by omega
      have hge : ¬ (k : Int) < (k : Int) := by omega
      go_wp2_with fail
      go_ret
      exact ⟨rfl, HS1.out.drewN _⟩
    | succ GK =>
      have hlt : (k : Int) < nT := by omega
      have hx : f.tn[k]? = some (f.tn.getD k 0) := by
        rw [List.getD_eq_getElem?_getD, List.getElem?_eq_getElem (by have := HN.out; omega)]; rfl
      obtain ⟨b, o, hA, cx⟩ := HT.out k (.int .i64 (f.tn.getD k 0)) (by rw [List.getElem?_map, hx]; rfl)
      obtain ⟨b2, o2, hA2, cy⟩ := HV.out k (.int .i64 (f.tn.getD k 0)) (by rw [List.getElem?_map, hx]; rfl)
      subst hA hA2
      clear hx
      generalize f.tn.getD k 0 = v at *
      have k0 : (0 : Int) ≤ k := by omega
      go_wp2_with fail
      go_quiet (fail)
      go_wp2_with fail
      go_roundg GK
      case measure => omega
      case rel => exact ⟨k + 1, by omega, by go_num, _, by first | rfl | (rw [World.drewN_drewN])⟩
end Go.Proofs.YtgimelpjklnjmabDoor.Fr
