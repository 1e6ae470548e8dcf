/-

  PathsWalks returns true for every program, all choices and any number of places: the walk.
-/
import Derived.Test.YtnlndkpjfgpodaaDoorPthLaws
import Derived.Test.YtnlndkpjfgpodaaDoorFlat
import Derived.Test.YtnlndkpjfgpodaaDoorFlowChecks
set_option linter.unusedVariables false
set_option linter.unusedSimpArgs false
namespace Go.Proofs.YtnlndkpjfgpodaaDoor.Pt
open Go.ChangeShapes Go.WideShapes Go.ChangeAt Go.RowKit Ws
open Go.Proofs.YtnlndkpjfgpodaaDoor.Fp (Ins at_ Fine at_some lp loopsL nextL hasB)
open Go.Proofs.YtnlndkpjfgpodaaDoor.Fw (Prg Spn spanCells spn_of okB okB_fine rightI)
open Go.Proofs.YtnlndkpjfgpodaaDoor.Wk (wk pcs pcs_len pcs_at NoD WalkP rwalk_any good_wk countI)
set_option maxRecDepth 100000 in
set_option maxHeartbeats 4000000 in
theorem walks_walk (A : Option Addr) (m c : Nat) (p : List Ins) (CA : Option Addr) (cn cc : Nat) (ch : List Bool) (most : Int) (w : World) (hl : p.length = m) (hp : Prg w A p) (hC : Row w CA (ch.map Value.bool)) (hcl : ch.length = cn) (hcc : cn ≤ cc ∧ cc ≤ maxLen) (hT : Is.Tabs w) :
    Calls Tryd.prog 6 #[.slice A m c, .slice CA cn cc, .int .i64 most] w fun e w' => e = .returned (.bool true) ∧ Same w w' := by
  by_cases h1 : (200 : Int) < m ∨ (2000 : Int) < cn ∨ 2000 < most
  · have AW := Lib.hid (awake11 w hT)
    clear hl hp hC hcl hT
    by_cases a1 : (200 : Int) < m
    · clear h1
      go_enter Tryd.func6, Tryd.ntmps6
      go_wp2_with fail
      refine AW.out.mono ?_
      rintro e w1 ⟨rfl, s1⟩
      go_wp2_with fail
      go_ret
      exact ⟨rfl, s1⟩
    · by_cases a2 : (2000 : Int) < cn
      · clear h1
        go_enter Tryd.func6, Tryd.ntmps6
        go_wp2_with fail
        refine AW.out.mono ?_
        rintro e w1 ⟨rfl, s1⟩
        go_wp2_with fail
        go_ret
        exact ⟨rfl, s1⟩
      · have a3 : 2000 < most := by omega
        clear h1
        go_enter Tryd.func6, Tryd.ntmps6
        go_wp2_with fail
        refine AW.out.mono ?_
        rintro e w1 ⟨rfl, s1⟩
        go_wp2_with fail
        go_ret
        exact ⟨rfl, s1⟩
  have a1 : ¬ (200 : Int) < m := fun h => h1 (.inl h)
  have a2 : ¬ (2000 : Int) < cn := fun h => h1 (.inr (.inl h))
  have a3 : ¬ 2000 < most := fun h => h1 (.inr (.inr h))
  clear h1
  have WA := Lib.hid (walk_any A m c p CA cn cc ch most w hl (by omega) hp hC hcl hcc (by omega) hT)
  have FI := Lib.hid (fun W (s : Same w W) => Fw.rfine_any A m c p W hl (by omega) (hp.same s))
  have AW := Lib.hid (fun W (s : Same w W) => awake11 W (hT.same s))
  cases hok : okB p with
  | false =>
    have CN := fun W (s : Same w W) => count_any A m c p W hl (by omega) (hp.same s) (hT.same s)
    have OF := fun W (s : Same w W) => often_any A m c p 0 W hl (by omega) (hp.same s) (hT.same s)
    have e0 : oftenI p 0 = 0 := if_neg (by rw [hok]; simp)
    have hno : ¬ okB p = true := by rw [hok]; simp
    simp only [hok, Bool.false_eq_true, if_false] at CN
    rw [e0] at OF
    have HCN := Lib.hid CN
    have HOF := Lib.hid OF
    have HNO := Lib.hid hno
    clear CN OF e0 hl hp hC hcl hT hno
    go_enter Tryd.func6, Tryd.ntmps6
    go_wp2_with fail
    refine WA.out.mono ?_
    rintro e w1 ⟨hbad, hgood⟩
    obtain ⟨rfl, s1⟩ := hbad HNO.out
    have HS1 := Lib.hid s1
    clear hgood hbad s1 WA
    go_wp2_with fail
    refine (FI.out _ HS1.out).mono ?_
    rintro e w2 ⟨rfl, s2⟩
    rw [hok]
    have HS2 := Lib.hid (HS1.out.trans s2)
    clear s2 FI HS1 hok
    go_wp2_with fail
    refine (HCN.out _ HS2.out).mono ?_
    rintro e w3 ⟨rfl, s3⟩
    have HS3 := Lib.hid (HS2.out.trans s3)
    clear s3 HCN HS2
    go_wp2_with fail
    refine (HOF.out _ HS3.out).mono ?_
    rintro e w4 ⟨rfl, s4⟩
    have HS4 := Lib.hid (HS3.out.trans s4)
    clear s4 HOF HS3
    go_wp2_with fail
    refine (AW.out _ HS4.out).mono ?_
    rintro e w5 ⟨rfl, s5⟩
    go_wp2_with fail
    go_ret
    exact ⟨rfl, HS4.out.trans s5⟩
  | true =>
    have hF := okB_fine hok
    have hn := hp.nn
    have hbc : ∀ k, k < p.length → (at_ p k).op = 16 → 0 ≤ (at_ p k).c ∧ (at_ p k).c < 1099511627776 := fun k hk h16 => by
      have := back_c (hF.right k hk) h16
      omega
    have WK := Lib.hid (fun W (s : Same w W) => rwalk_any A m c p CA cn cc ch most W hl (hp.same s) (hC.same s) hcl hok (by omega) hbc)
    have HOK := Lib.hid hok
    clear hF hn hbc hl hp hC hcl hT
    go_enter Tryd.func6, Tryd.ntmps6
    go_wp2_with fail
    refine WA.out.mono ?_
    rintro e w1 ⟨hbad, hgood⟩
    obtain ⟨LA, cL, n, ok, rfl, hr, s1, hy, hz⟩ := hgood HOK.out
    have HS1 := Lib.hid s1
    have HR := Lib.hid hr
    have HY := Lib.hid hy
    have HZ := Lib.hid hz
    clear hgood hbad s1 WA hr hy hz
    go_wp2_with fail
    refine (FI.out _ HS1.out).mono ?_
    rintro e w2 ⟨rfl, s2⟩
    rw [hok]
    have HR2 := Lib.hid (HR.out.same s2)
    have HS2 := Lib.hid (HS1.out.trans s2)
    clear s2 FI HS1 hok HR
    go_wp2_with fail
    refine (WK.out _ HS2.out).mono ?_
    rintro e w3 ⟨LB, cB, n2, ok2, rfl, hr, s3, hy, hz⟩
    obtain ⟨rfl, rfl⟩ := walk_uniq HY.out HZ.out hy hz
    have HS3 := Lib.hid (HS2.out.trans s3)
    have hnb : n ≤ 2000 := by
      cases ok with
      | true => have := (HY.out rfl).2.1; omega
      | false => have := (HZ.out rfl).1; omega
    have IE := Lib.hid (ints_same (Fw.ints_eq LA LB n n cL cB (pcs p ch n) (pcs p ch n) w3 (pcs_len p ch n) (pcs_len p ch n) (HR2.out.same s3) hr (by omega) (by omega)) rfl)
    clear WK HS2 HR2 HY HZ hr s3 hy hz hnb
    generalize pcs p ch n = L at *
    go_wp2_with fail
    refine IE.out.mono ?_
    rintro e w4 ⟨rfl, k4, rfl⟩
    have HS4 := Lib.hid (HS3.out.drewN k4)
    clear IE HS3
    generalize World.drewN _ k4 = w5 at *
    have ebo : (ok == ok) = true := by simp
    go_wp2_with fail
    refine (AW.out _ HS4.out).mono ?_
    rintro e w6 ⟨rfl, s6⟩
    go_wp2_with fail
    go_ret
    exact ⟨rfl, HS4.out.trans s6⟩
theorem walks_any (A : Option Addr) (m c : Nat) (rows : List (List Int)) (CA : Option Addr) (cn cc : Nat) (ch : List Bool) (most : Int) (w : World) (hr : Fl.Rows w A [.i64, .i64, .i64, .i64, .u32] rows) (hl : rows.length = m)
    (hC : Row w CA (ch.map Value.bool)) (hcl : ch.length = cn) (hcc : cn ≤ cc ∧ cc ≤ maxLen) (ht : Is.Tabs w) :
    Calls Tryd.prog 6 #[.slice A m c, .slice CA cn cc, .int .i64 most] w fun e w' => e = .returned (.bool true) ∧ Same w w' := by
  obtain ⟨p, hp, hP⟩ := Fw.prg_in hr
  exact walks_walk A m c p CA cn cc ch most w (hp.trans hl) hP hC hcl hcc ht
end Go.Proofs.YtnlndkpjfgpodaaDoor.Pt
