/-

  Layer 3: the walks of the laws BitmapOrders and BitmapPicks.
-/
import Derived.Test.YtikjkmomokhanaaDoorBitLaws
set_option linter.unusedVariables false
set_option linter.unusedSimpArgs false
namespace Go.Proofs.YtikjkmomokhanaaDoor.Be
open Go.ChangeShapes Go.WideShapes Go.ChangeAt Go.RowKit Ws
open Go.Proofs.YtikjkmomokhanaaDoor.Bo
open Go.Proofs.YtikjkmomokhanaaDoor.Od
open Go.Proofs.YtikjkmomokhanaaDoor.Rl (ints_eq)
open Go.Proofs.YtikjkmomokhanaaDoor.Bp (count_any)

theorem ints_yes (A C : Option Addr) (m c d : Nat) (xs : List Int) (w' : World) (h : xs.length = m) (hm : m ≤ 5000) (hx : Row w' A (xs.map (Value.int .i64))) (hy : Row w' C (xs.map (Value.int .i64))) : Calls Tryd.prog 11 #[.slice A m c, .slice C m d] w' fun e w'' => e = .returned (.bool true) ∧ Same w' w'' := by
  have h := ints_eq A C m m c d xs xs w' h h hx hy (by omega) (by omega)
  rw [decide_eq_true rfl] at h
  exact h.mono fun e w'' ⟨he, k, hk⟩ => ⟨he, by rw [hk]; exact (Same.refl _).drewN k⟩
theorem orders_any (A : Option Addr) (n c : Nat) (P : List Int) (w : World) (hn : P.length = n) (hr : Row w A (P.map (Value.int .i64))) (hT : TZ w) :
    Calls Tryd.prog 4 #[.slice A n c] w fun e w' => e = .returned (.bool true) ∧ Same w w' :=
  orders_walk A n c P w hn hr (fun w' s => awake_any w' (hT.same s)) (fun A C m c d xs w' h1 h2 h3 h4 => ints_yes A C m c d xs w' h1 h2 h3 h4)

set_option maxRecDepth 100000 in
set_option maxHeartbeats 2000000 in
theorem picks_any (A : Option Addr) (n c : Nat) (P : List Int) (m : Nat) (w : World) (hn : P.length = n) (hr : Row w A (P.map (Value.int .i64))) (hm : m < 18446744073709551616) (hT : TZ w) :
    Calls Tryd.prog 5 #[.slice A n c, .int .u64 (m : Int)] w fun e w' => e = .returned (.bool true) ∧ Same w w' := by
  have HAW := Lib.hid (fun w' (s : Same w w') => awake_any w' (hT.same s))
  by_cases hb : n ≤ 100
  rotate_left
  · have h2 : (100 : Int) < n := by omega
    clear hn hr hm hT hb
    go_enter Tryd.func5, Tryd.ntmps5
    go_wp2_with fail
    refine (HAW.out _ (Same.refl _)).mono ?_
    rintro e w1 ⟨rfl, s1⟩
    go_wp2
    go_ret
    exact ⟨rfl, s1⟩
  have h2 : ¬ (100 : Int) < n := by omega
  have RL := Lib.hid (rlist_any m w hm)
  have RP := Lib.hid (fun (C : Option Addr) (q d : Nat) w' (s : Same w w') (h1 : (bitsL m).length = q) (h2 : Row w' C ((nI (bitsL m)).map (Value.int .i64))) => rpick_any A C n c q d P (bitsL m) w' hn (by omega) (hr.same s) h1 (by have := bitsL_len hm; omega) h2)
  have PK := Lib.hid (fun w' (s : Same w w') => pick_any A n c m P w' hn hm (hT.same s) (hr.same s))
  have RK := Lib.hid (fun w' (s : Same w w') => ranks_any A n c P w' hn (by omega) (hr.same s))
  have HN := Lib.hid hn
  have HRK : Hid ((nI (rankL P)).length = n) := Lib.hid (by rw [nI_len, rankL_len, hn])
  have h64 := bitsL_len hm
  clear hn hr hm hT
  unfold there at PK
  unfold Nums at RK
  unfold NumsN at RL
  obtain ⟨l0, hl0⟩ : ∃ l0, l0 = (bitsL m).filter (fun x => decide (x < n)) := ⟨_, rfl⟩
  rw [← hl0] at PK RP
  have HL0 := Lib.hid hl0
  clear hl0
  go_enter Tryd.func5, Tryd.ntmps5
  go_wp2_with fail
  refine RL.out.mono ?_
  rintro e w1 ⟨C1, c1, rfl, r1, s1⟩
  have HS1 := Lib.hid s1
  have HR1 := Lib.hid r1
  obtain ⟨q, hq⟩ : ∃ q, q = (bitsL m).length := ⟨_, rfl⟩
  have HRP := Lib.hid (RP.out C1 q c1 w1 s1 hq.symm r1)
  rw [← hq] at h64 ⊢
  have HQ := Lib.hid hq
  clear s1 r1 hq RL RP
  go_wp2_with fail
  refine HRP.out.mono ?_
  rintro e w2 ⟨rfl, s2⟩
  have HS2 := Lib.hid (HS1.out.trans s2)
  have HR2 := Lib.hid (HR1.out.same s2)
  have HPK := Lib.hid (PK.out w2 HS2.out)
  clear s2 HS1 HR1 HRP PK
  cases hpk : pk P l0 with
  | none =>
    rw [hpk] at HPK
    simp only [Option.getD_none, Option.isSome_none] at HPK
    clear hpk
    simp only [oI]
    go_wp2_with fail
    refine HPK.out.mono ?_
    rintro e w3 ⟨rfl, s3⟩
    have HS3 := Lib.hid (HS2.out.trans s3)
    clear s3 HPK
    go_wp2_with fail
    refine (HAW.out _ HS3.out).mono ?_
    rintro e w4 ⟨rfl, s4⟩
    go_wp2
    go_ret
    exact ⟨rfl, HS3.out.trans s4⟩
  | some f =>
    rw [hpk] at HPK
    simp only [Option.getD_some, Option.isSome_some] at HPK
    obtain ⟨hfm, hfb⟩ := pk_in P l0 f hpk
    have hfn : f < n := by
      have h := hfm
      rw [HL0.out, List.mem_filter] at h
      simpa using h.2
    have HFB : Hid (∀ i ∈ bitsL m, i < n → rankN P f ≤ rankN P i) := Lib.hid fun i hi hin => rank_le (hfb i (by rw [HL0.out, List.mem_filter]; exact ⟨hi, by simpa using hin⟩))
    have HF := Lib.hid hfn
    have f0 : ¬ (f : Int) < 0 := by omega
    have f1 : (0 : Int) ≤ f := by omega
    have f2 : (f : Int) < n := by omega
    clear hpk hfm hfb
    simp only [oI]
    go_wp2_with fail
    refine HPK.out.mono ?_
    rintro e w3 ⟨rfl, s3⟩
    have HS3 := Lib.hid (HS2.out.trans s3)
    have HR3 := Lib.hid (HR2.out.same s3)
    clear s3 HPK HR2 HS2
    go_wp2_with fail
    refine (RK.out _ HS3.out).mono ?_
    rintro e w4 ⟨A4, c4, rfl, r4, s4⟩
    have HS4 := Lib.hid (HS3.out.trans s4)
    have HR4 := Lib.hid (HR3.out.same s4)
    have HK4 := Lib.hid r4
    rw [HRK.out]
    clear s4 r4 HR3 HS3 RK
    go_wp2_with fail
    go_loopg [56] q (fun gk iv wx => ∃ k : Nat, k + gk = q ∧ iv = .int .i64 k ∧ Same w4 wx)
    case atStart => exact ⟨0, by omega, rfl, Same.refl _⟩
    case round =>
      obtain ⟨k, hk, rfl, sx⟩ := hrel
      have HX := Lib.hid sx
      clear sx
      cases gk with
      | zero =>
        obtain rfl : q = k := by omega
        have hge : ¬ (q : Int) < (q : Int) := by omega
        go_wp2_with fail
        refine (HAW.out _ (HS4.out.trans HX.out)).mono ?_
        rintro e w5 ⟨rfl, s5⟩
        go_wp2
        go_ret
        exact ⟨rfl, (HS4.out.trans HX.out).trans s5⟩
      | succ GK =>
        have hlt : (k : Int) < q := by omega
        have k0 : (0 : Int) ≤ k := by omega
        have hkl : k < (bitsL m).length := by have := HQ.out; omega
        obtain ⟨x, hx⟩ : ∃ x, (bitsL m)[k]? = some x := ⟨_, List.getElem?_eq_getElem hkl⟩
        obtain ⟨b, o, rfl, cx⟩ := HR4.out k _ (nI_get hx)
        have cx := HX.out.cell cx
        have hxm : x ∈ bitsL m := List.mem_of_getElem? hx
        have x0 : (0 : Int) ≤ x := by omega
        by_cases hxn : x < n
        · have hxi : (x : Int) < n := by omega
          have hxd : decide ((x : Int) < n) = true := decide_eq_true hxi
          have hle := HFB.out x hxm hxn
          have hgx := nI_get (rankL_get (P := P) (i := x) (by have := HN.out; omega))
          have hgf := nI_get (rankL_get (P := P) (i := f) (by have := HN.out; omega))
          obtain ⟨b4, o4, rfl, ex⟩ := HK4.out x _ hgx
          obtain ⟨b5, o5, hA, ef⟩ := HK4.out f _ hgf
          injection hA with hA
          injection hA with e1 e2
          subst e1 e2
          have ex := HX.out.cell ex
          have ef := HX.out.cell ef
          have hrd : decide ((rankN P x : Int) < (rankN P f : Int)) = false := decide_eq_false (by omega)
          generalize rankN P x = rx at *
          generalize rankN P f = rf at *
          clear hxm hx hkl hgx hgf
          go_wp2_with fail
          go_quiet (fail)
          go_wp2_with fail
          go_roundg GK
          case rel => exact ⟨k + 1, by omega, by go_num, HX.out.drewN _⟩
          case measure => omega
        · have hxi : ¬ (x : Int) < n := by omega
          have hxd : decide ((x : Int) < n) = false := decide_eq_false hxi
          clear hxm hx hkl
          go_wp2_with fail
          go_quiet (fail)
          go_wp2_with fail
          go_roundg GK
          case rel => exact ⟨k + 1, by omega, by go_num, HX.out.drewN _⟩
          case measure => omega

end Go.Proofs.YtikjkmomokhanaaDoor.Be
