/-

  CostWalks returns true for every program, all weights and all choices: the walk.
-/
import Derived.Test.YtiipdeionmndcaaDoorCstMost
import Derived.Test.YtiipdeionmndcaaDoorFlowChecks
import Derived.Test.YtiipdeionmndcaaDoorRefWalk
import Derived.Test.YtiipdeionmndcaaDoorWlkSum
set_option linter.unusedVariables false
set_option linter.unusedSimpArgs false
namespace Go.Proofs.YtiipdeionmndcaaDoor.Wk
open Go.ChangeShapes Go.WideShapes Go.ChangeAt Go.RowKit Ws
open Go.Proofs.YtiipdeionmndcaaDoor.Fp (Ins at_ Fine at_some lp loopsL nextL hasB)
open Go.Proofs.YtiipdeionmndcaaDoor.Fw (Prg Spn spanCells spn_of okB okB_fine rightI)
open Go.Proofs.YtiipdeionmndcaaDoor.Cs (adI weI weE weighW btG btB)

theorem sumL_take (w l : List Int) {i : Nat} (h : i < l.length) : sumL w (l.take (i + 1)) = adI (sumL w (l.take i)) (w.getD (l.getD i 0).toNat 0) := by
  have e : l.getD i 0 = l[i] := by rw [List.getD_eq_getElem?_getD, List.getElem?_eq_getElem h]; rfl
  rw [List.take_succ_eq_append_getElem h, sumL_snoc, e]
theorem sum_add (ws : List Int) (s v : Int) (w : World) : Calls Tryd.prog 43 #[.int .i64 s, .int .i64 v] w fun e w' => e = .returned (.int .i64 (adI s v)) ∧ w = w' := Wd.wadd s v w
theorem sum_radd (s v : Int) (w : World) : Calls Tryd.prog 15 #[.int .i64 s, .int .i64 v] w fun e w' => e = .returned (.int .i64 (adI s v)) ∧ w = w' := Wd.radd s v w
set_option maxRecDepth 100000 in
set_option maxHeartbeats 2000000 in
theorem of_any (Wt : Option Addr) (wn cW : Nat) (ws : List Int) (LA : Option Addr) (n cL : Nat) (l : List Int) (w : World) (hW : Row w Wt (ws.map (Value.int .i64))) (hwl : ws.length = wn) (hwn : wn ≤ 5000) (hL : Row w LA (l.map (Value.int .i64))) (hll : l.length = n) (hn : n ≤ 100000)
    (hin : ∀ i, i < n → 0 ≤ l.getD i 0 ∧ l.getD i 0 < wn) :
    Calls Tryd.prog 16 #[.slice Wt wn cW, .slice LA n cL] w fun e w' => e = .returned (.int .i64 (sumL ws l)) ∧ Same w w' := by
  have HW := Lib.hid hW
  have HL := Lib.hid hL
  have HWL := Lib.hid hwl
  have HLL := Lib.hid hll
  have HIN := Lib.hid hin
  have HA := Lib.hid (sum_add ws)
  clear hW hL hwl hll hin
  go_enter Tryd.func16, Tryd.ntmps16
  go_wp2_with fail
  go_loopg [5, 10] n (fun gk sv iv wx => ∃ k : Nat, k + gk = n ∧ iv = .int .i64 k ∧ sv = .int .i64 (sumL ws (l.take k)) ∧ Same w wx)
  case atStart => exact ⟨0, by omega, rfl, rfl, Same.refl _⟩
  case round =>
    obtain ⟨k, hk, rfl, rfl, sx⟩ := hrel
    have HS := Lib.hid sx
    clear sx
    cases gk with
    | zero =>
      obtain rfl : n = k := by omega
      have hge : ¬ (n : Int) < (n : Int) := by omega
      have HT := Lib.hid (show l.take n = l from List.take_of_length_le (by have := HLL.out; omega))
      rw [HT.out]
      go_wp2_with fail
      go_ret
      exact ⟨rfl, HS.out⟩
    | succ GK =>
      have hlt : (k : Int) < n := by omega
      have hk0 : (0 : Int) ≤ k := by omega
      have hkl := Lib.hid (show k < l.length by have := HLL.out; omega)
      obtain ⟨h1, h2⟩ := HIN.out k (by omega)
      have HSU := Lib.hid (sumL_take ws l hkl.out)
      obtain ⟨bL, oL, rfl, cl⟩ := (HL.out.same HS.out) k (.int .i64 (l.getD k 0)) (by rw [List.getElem?_map, List.getD_eq_getElem?_getD, List.getElem?_eq_getElem hkl.out]; rfl)
      have HLP := HL
      generalize hv : l.getD k 0 = v at *
      have hv2 : ((v.toNat : Nat) : Int) = v := by omega
      obtain ⟨bW, oW, rfl, cw⟩ := (HW.out.same HS.out) v.toNat (.int .i64 (ws.getD v.toNat 0)) (by rw [List.getElem?_map, List.getD_eq_getElem?_getD, List.getElem?_eq_getElem (by have := HWL.out; omega)]; rfl)
      clear hv
      generalize ws.getD v.toNat 0 = x at *
      have HV := Lib.hid hv2
      generalize v.toNat = u at *
      subst hv2
      have AD := Lib.hid (HA.out (sumL ws (l.take k)) x wr)
      generalize sumL ws (l.take k) = sm at *
      go_wp2_with fail
      refine AD.out.mono ?_
      rintro e w2 ⟨rfl, rfl⟩
      go_wp2_with fail
      go_roundg GK
      case rel => exact ⟨k + 1, by omega, by go_num, by rw [HSU.out], HS.out⟩
      case measure => omega

theorem bad_awake {p : List Ins} {n : Nat} (h : okB p = false ∨ ¬ n = p.length) : ¬ weE p n = 0 := by
  unfold weE
  rcases h with h | h
  · have : ¬ Fw.ckE p = 0 := fun h' => by unfold okB at h; rw [h'] at h; cases h
    rw [if_neg this]
    exact this
  · by_cases h2 : Fw.ckE p = 0
    · rw [if_pos h2, if_neg h]; omega
    · rw [if_neg h2]; exact h2
set_option maxRecDepth 100000 in
set_option maxHeartbeats 4000000 in
theorem walks_walk (A : Option Addr) (m c : Nat) (p : List Ins) (Wt : Option Addr) (wn cW : Nat) (ws : List Int) (CA : Option Addr) (cn cc : Nat) (ch : List Bool) (w : World) (hl : p.length = m) (hp : Prg w A p) (hW : Row w Wt (ws.map (Value.int .i64))) (hwl : ws.length = wn)
    (hC : Row w CA (ch.map Value.bool)) (hcl : ch.length = cn) (hT : Is.Tabs w) :
    Calls Tryd.prog 4 #[.slice A m c, .slice Wt wn cW, .slice CA cn cc] w fun e w' => e = .returned (.bool true) ∧ Same w w' := by
  have HT := Lib.hid hT
  by_cases h1 : (200 : Int) < m ∨ (200 : Int) < wn ∨ (2000 : Int) < cn
  · have AW := Lib.hid (Cs.awake12 w hT)
    clear hl hp hW hwl hC hcl hT
    by_cases a1 : (200 : Int) < m
    · clear h1
      go_enter Tryd.func4, Tryd.ntmps4
      go_wp2_with fail
      refine AW.out.mono ?_
      rintro e w1 ⟨rfl, s1⟩
      go_wp2_with fail
      go_ret
      exact ⟨rfl, s1⟩
    · by_cases a2 : (200 : Int) < wn
      · clear h1
        go_enter Tryd.func4, Tryd.ntmps4
        go_wp2_with fail
        refine AW.out.mono ?_
        rintro e w1 ⟨rfl, s1⟩
        go_wp2_with fail
        go_ret
        exact ⟨rfl, s1⟩
      · have a3 : (2000 : Int) < cn := by omega
        clear h1
        go_enter Tryd.func4, Tryd.ntmps4
        go_wp2_with fail
        refine AW.out.mono ?_
        rintro e w1 ⟨rfl, s1⟩
        go_wp2_with fail
        go_ret
        exact ⟨rfl, s1⟩
  have a1 : ¬ (200 : Int) < m := fun h => h1 (.inl h)
  have a2 : ¬ (200 : Int) < wn := fun h => h1 (.inr (.inl h))
  have a3 : ¬ (2000 : Int) < cn := fun h => h1 (.inr (.inr h))
  clear h1
  have MO := Lib.hid (Cs.most_any A m c p Wt wn cW ws w hl (by omega) hp hW hwl hT)
  have LE := Lib.hid (fun W (s : Same w W) => Cs.least_any A m c p Wt wn cW ws W hl (by omega) (hp.same s) (hW.same s) hwl (hT.same s))
  have FI := Lib.hid (fun W (s : Same w W) => Fw.rfine_any A m c p W hl (by omega) (hp.same s))
  have AW := Lib.hid (fun W (s : Same w W) => Cs.awake12 W (hT.same s))
  by_cases hbad : okB p = false ∨ ¬ wn = m
  · have he : ¬ weE p ws.length = 0 := bad_awake (by rw [hwl, hl]; exact hbad)
    have hi0 : weI true p ws = 0 := Cs.wei_bad he
    have hi1 : weI false p ws = 0 := Cs.wei_bad he
    rw [hi0] at MO
    rw [hi1] at LE
    have hne : (weE p ws.length != 0) = true := by simpa using he
    have hbad2 : okB p = false ∨ ((wn : Int) != (m : Int)) = true := hbad.imp id fun h => by simp; omega
    clear he hi0 hi1 hbad hl hp hW hwl hC hcl hT
    generalize weE p ws.length = er at *
    go_enter Tryd.func4, Tryd.ntmps4
    go_wp2_with fail
    refine MO.out.mono ?_
    rintro e w1 ⟨rfl, s1⟩
    have HS1 := Lib.hid s1
    clear s1 MO
    go_wp2_with fail
    refine (LE.out _ HS1.out).mono ?_
    rintro e w2 ⟨rfl, s2⟩
    have HS2 := Lib.hid (HS1.out.trans s2)
    clear s2 LE HS1
    go_wp2_with fail
    refine (FI.out _ HS2.out).mono ?_
    rintro e w3 ⟨rfl, s3⟩
    have HS3 := Lib.hid (HS2.out.trans s3)
    clear s3 FI HS2
    generalize okB p = okb at *
    cases okb with
    | false =>
      clear hbad2
      go_wp2_with fail
      refine (AW.out _ HS3.out).mono ?_
      rintro e w4 ⟨rfl, s4⟩
      go_wp2_with fail
      go_ret
      exact ⟨rfl, HS3.out.trans s4⟩
    | true =>
      have hb2 : ((wn : Int) != (m : Int)) = true := hbad2.resolve_left (by simp)
      clear hbad2
      go_wp2_with fail
      refine (AW.out _ HS3.out).mono ?_
      rintro e w4 ⟨rfl, s4⟩
      go_wp2_with fail
      go_ret
      exact ⟨rfl, HS3.out.trans s4⟩
  · have hok : okB p = true := by
      cases h : okB p
      · exact absurd (.inl h) hbad
      · rfl
    have hwm : wn = m := Classical.byContradiction fun h => hbad (.inr h)
    clear hbad
    subst hwm
    have he : weE p ws.length = 0 := by
      unfold weE
      rw [if_pos (of_decide_eq_true hok), hwl, hl, if_pos rfl]
    have hi0 : weI true p ws = weighW btG p ws := by unfold weI; rw [if_pos he]; rfl
    have hi1 : weI false p ws = weighW btL p ws := by unfold weI; rw [if_pos he]; rfl
    rw [hi0, he] at MO
    rw [hi1, he] at LE
    have hF := okB_fine hok
    have hn := hp.nn
    have hbc : ∀ k, k < p.length → (at_ p k).op = 16 → 0 ≤ (at_ p k).c ∧ (at_ p k).c < 1099511627776 := fun k hk h16 => by
      have := Cs.back_c (hF.right k hk) h16
      omega
    have hCl : ∀ j, j < (loopsL p).length → 0 ≤ (at_ p (lp (loopsL p) j).2.toNat).c := fun j hj => by
      have h1 := Cs.lp_in hF hn hj
      exact (hbc _ (by omega) (Cs.lp_back hF hn hj)).1
    have WK := Lib.hid (fun W (s : Same w W) => rwalk_any A wn c p CA cn cc ch 2000 W hl (hp.same s) (hC.same s) hcl hok (by omega) hbc)
    have HMX := Lib.hid (fun n (h : NoD p ch (n - 1)) => max_walk hF hn hCl ws ch h)
    have HMN := Lib.hid (fun n (h1 : 1 ≤ n) (h : NoD p ch (n - 1)) hd => min_walk hF hn hCl ws ch h1 h hd)
    have HPC := Lib.hid (fun i (h : NoD p ch i) => (show (wk p ch i).1.pc < wn from hl ▸ (good_wk hF hn hCl ch h).pc))
    have HW := Lib.hid hW
    have HWL := Lib.hid hwl
    clear hi0 hi1 he hF hn hbc hCl hl hp hW hwl hC hcl hT
    generalize weighW btG p ws = mx at *
    generalize weighW btL p ws = mn at *
    have e0 : ((0 : Int) != 0) = false := rfl
    have enn : ((wn : Int) != (wn : Int)) = false := by simp
    go_enter Tryd.func4, Tryd.ntmps4
    go_wp2_with fail
    refine MO.out.mono ?_
    rintro e w1 ⟨rfl, s1⟩
    have HS1 := Lib.hid s1
    clear s1 MO
    go_wp2_with fail
    refine (LE.out _ HS1.out).mono ?_
    rintro e w2 ⟨rfl, s2⟩
    have HS2 := Lib.hid (HS1.out.trans s2)
    clear s2 LE HS1
    go_wp2_with fail
    refine (FI.out _ HS2.out).mono ?_
    rintro e w3 ⟨rfl, s3⟩
    have HS3 := Lib.hid (HS2.out.trans s3)
    clear s3 FI HS2
    rw [hok]
    have HOK := Lib.hid hok
    clear hok
    go_wp2_with fail
    refine (WK.out _ HS3.out).mono ?_
    rintro e w4 ⟨LA, cL, n, ok, rfl, hr, s4, hy, hz⟩
    have HR := Lib.hid hr
    have HS4 := Lib.hid (HS3.out.trans s4)
    have h2000 : (2000 : Int).toNat = 2000 := rfl
    have hn2 : n ≤ 2000 := by cases ok with
      | true => exact (hy rfl).2.1
      | false => have := (hz rfl).1; omega
    have hnd : NoD p ch (n - 1) := by cases ok with
      | true => exact (hy rfl).2.2.1
      | false => exact fun i hi => (hz rfl).2 i (by omega)
    have HSM := Lib.hid (HMX.out n hnd)
    have HSN := Lib.hid (show ok = true → mn ≤ sumL ws (pcs p ch n) from fun h => HMN.out n (hy h).1 (hy h).2.2.1 (hy h).2.2.2)
    have HPL := Lib.hid (show ∀ i, i < n → 0 ≤ (pcs p ch n).getD i 0 ∧ (pcs p ch n).getD i 0 < wn from fun i hi => by
      rw [List.getD_eq_getElem?_getD, pcs_at p ch hi]
      have := HPC.out i (fun j hj => hnd j (by omega))
      simp only [Option.getD_some]
      omega)
    have HLL := Lib.hid (pcs_len p ch n)
    clear hr s4 hy hz hnd WK HS3 HMX HMN HPC
    generalize pcs p ch n = l at *
    have OF := Lib.hid (fun W (s : Same w4 W) => of_any Wt wn cW ws LA n cL l W (HW.out.same (HS4.out.trans s)) HWL.out (by omega) (HR.out.same s) HLL.out (by omega) HPL.out)
    have HA := Lib.hid sum_radd
    go_wp2_with fail
    go_loopg [13, 73] n (fun gk sv iv wx => ∃ k : Nat, k + gk = n ∧ iv = .int .i64 k ∧ sv = .int .i64 (sumL ws (l.take k)) ∧ Same w4 wx)
    case atStart => exact ⟨0, by omega, rfl, rfl, Same.refl _⟩
    case round =>
      obtain ⟨k, hk, rfl, rfl, sx⟩ := hrel
      have HS := Lib.hid sx
      clear sx
      cases gk with
      | zero =>
        obtain rfl : n = k := by omega
        have hge : ¬ (n : Int) < (n : Int) := by omega
        have HTK := Lib.hid (show l.take n = l from List.take_of_length_le (by have := HLL.out; omega))
        rw [HTK.out]
        have OF1 := Lib.hid (OF.out _ HS.out)
        have hle : sumL ws l ≤ mx := HSM.out
        have HSN2 := HSN.out
        clear HTK
        generalize sumL ws l = sm at *
        go_wp2_with fail
        refine OF1.out.mono ?_
        rintro e w5 ⟨rfl, s5⟩
        have HS5 := Lib.hid (HS4.out.trans (HS.out.trans s5))
        clear s5 OF1 OF
        have esm : (sm == sm) = true := by simp
        cases ok with
        | false =>
          go_wp2_with fail
          refine (AW.out _ HS5.out).mono ?_
          rintro e w6 ⟨rfl, s6⟩
          go_wp2_with fail
          go_ret
          exact ⟨rfl, HS5.out.trans s6⟩
        | true =>
          have hle2 : mn ≤ sm := HSN2 rfl
          go_wp2_with fail
          refine (AW.out _ HS5.out).mono ?_
          rintro e w6 ⟨rfl, s6⟩
          go_wp2_with fail
          go_ret
          exact ⟨rfl, HS5.out.trans s6⟩
      | succ GK =>
        have hlt : (k : Int) < n := by omega
        have hk0 : (0 : Int) ≤ k := by omega
        have hkl := Lib.hid (show k < l.length by have := HLL.out; omega)
        obtain ⟨h1, h2⟩ := HPL.out k (by omega)
        have HSU := Lib.hid (sumL_take ws l hkl.out)
        obtain ⟨bL, oL, rfl, cl⟩ := (HR.out.same HS.out) k (.int .i64 (l.getD k 0)) (by rw [List.getElem?_map, List.getD_eq_getElem?_getD, List.getElem?_eq_getElem hkl.out]; rfl)
        generalize hv : l.getD k 0 = v at *
        have hv2 : ((v.toNat : Nat) : Int) = v := by omega
        obtain ⟨bW, oW, rfl, cw⟩ := (HW.out.same (HS4.out.trans HS.out)) v.toNat (.int .i64 (ws.getD v.toNat 0)) (by rw [List.getElem?_map, List.getD_eq_getElem?_getD, List.getElem?_eq_getElem (by have := HWL.out; omega)]; rfl)
        clear hv
        generalize ws.getD v.toNat 0 = x at *
        generalize v.toNat = u at *
        subst hv2
        have AD := Lib.hid (HA.out (sumL ws (l.take k)) x wr)
        generalize sumL ws (l.take k) = sm at *
        go_wp2_with fail
        refine AD.out.mono ?_
        rintro e w5 ⟨rfl, rfl⟩
        go_wp2_with fail
        go_roundg GK
        case rel => exact ⟨k + 1, by omega, by go_num, by rw [HSU.out], HS.out⟩
        case measure => omega
theorem walks_any (A : Option Addr) (m c : Nat) (rows : List (List Int)) (Wt : Option Addr) (wn cW : Nat) (ws : List Int) (CA : Option Addr) (cn cc : Nat) (ch : List Bool) (w : World) (hr : Fl.Rows w A [.i64, .i64, .i64, .i64, .u32] rows) (hl : rows.length = m)
    (hW : Row w Wt (ws.map (Value.int .i64))) (hwl : ws.length = wn) (hC : Row w CA (ch.map Value.bool)) (hcl : ch.length = cn) (ht : Is.Tabs w) :
    Calls Tryd.prog 4 #[.slice A m c, .slice Wt wn cW, .slice CA cn cc] w fun e w' => e = .returned (.bool true) ∧ Same w w' := by
  obtain ⟨p, hp, hP⟩ := Fw.prg_in hr
  exact walks_walk A m c p Wt wn cW ws CA cn cc ch w (hp.trans hl) hP hW hwl hC hcl ht
end Go.Proofs.YtiipdeionmndcaaDoor.Wk
