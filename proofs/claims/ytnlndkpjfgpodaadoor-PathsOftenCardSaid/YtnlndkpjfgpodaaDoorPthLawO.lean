/-

  PathsOften returns true for every program, all choices and any place: the walk.
-/
import Derived.Test.YtnlndkpjfgpodaaDoorPthLaws
import Derived.Test.YtnlndkpjfgpodaaDoorFlat
import Derived.Test.YtnlndkpjfgpodaaDoorFlowChecks
set_option linter.unusedVariables false
set_option linter.unusedSimpArgs false
namespace Go.Proofs.YtnlndkpjfgpodaaDoor.Pt
open Go.ChangeShapes Go.WideShapes Go.ChangeAt Go.RowKit Ws
open Go.Proofs.YtnlndkpjfgpodaaDoor.Fp (Ins at_ Fine at_some lp loopsL nextL hasB)
open Go.Proofs.YtnlndkpjfgpodaaDoor.Fw (Prg Spn spanCells spn_of okB okB_fine rightI)
open Go.Proofs.YtnlndkpjfgpodaaDoor.Wk (wk pcs pcs_len pcs_at NoD WalkP good_wk countI visN kX kX_at kX_off vis_le)
set_option maxRecDepth 100000 in
set_option maxHeartbeats 4000000 in
theorem often_walk (A : Option Addr) (m c : Nat) (p : List Ins) (CA : Option Addr) (cn cc : Nat) (ch : List Bool) (pc : Int) (w : World) (hl : p.length = m) (hp : Prg w A p) (hC : Row w CA (ch.map Value.bool)) (hcl : ch.length = cn) (hcc : cn ≤ cc ∧ cc ≤ maxLen) (hT : Is.Tabs w) :
    Calls Tryd.prog 7 #[.slice A m c, .slice CA cn cc, .int .i64 pc] w fun e w' => e = .returned (.bool true) ∧ Same w w' := by
  by_cases h1 : (200 : Int) < m ∨ (2000 : Int) < cn
  · have AW := Lib.hid (awake11 w hT)
    clear hl hp hC hcl hT
    by_cases a1 : (200 : Int) < m
    · clear h1
      go_enter Tryd.func7, Tryd.ntmps7
      go_wp2_with fail
      refine AW.out.mono ?_
      rintro e w1 ⟨rfl, s1⟩
      go_wp2_with fail
      go_ret
      exact ⟨rfl, s1⟩
    · have a2 : (2000 : Int) < cn := by omega
      clear h1
      go_enter Tryd.func7, Tryd.ntmps7
      go_wp2_with fail
      refine AW.out.mono ?_
      rintro e w1 ⟨rfl, s1⟩
      go_wp2_with fail
      go_ret
      exact ⟨rfl, s1⟩
  have a1 : ¬ (200 : Int) < m := fun h => h1 (.inl h)
  have a2 : ¬ (2000 : Int) < cn := fun h => h1 (.inr h)
  clear h1
  have FI := Lib.hid (Fw.rfine_any A m c p w hl (by omega) hp)
  have AW := Lib.hid (fun W (s : Same w W) => awake11 W (hT.same s))
  have OF := Lib.hid (fun W (s : Same w W) => often_any A m c p pc W hl (by omega) (hp.same s) (hT.same s))
  by_cases hgo : okB p = true ∧ 0 ≤ pc ∧ pc < m
  · obtain ⟨hok, hp0, hp1⟩ := hgo
    have hF := okB_fine hok
    have hn := hp.nn
    have hCl : ∀ j, j < (loopsL p).length → 0 ≤ (at_ p (lp (loopsL p) j).2.toNat).c := fun j hj => (loop_at hok hn hj).2.2.2.1
    obtain ⟨x, rfl⟩ : ∃ x : Nat, pc = (x : Int) := ⟨pc.toNat, by omega⟩
    have HVO := Lib.hid (fun n (hnb : n ≤ 2000) (hd : NoD p ch (n - 1)) => vis_often hok hn ch (x := x) (n := n) (by omega) hnb hd)
    have HGD := Lib.hid (fun i (h : NoD p ch i) => (show (wk p ch i).1.pc < m from by have := (good_wk hF hn hCl ch h).pc; omega))
    have WA := Lib.hid (fun W (s : Same w W) => walk_any A m c p CA cn cc ch 2000 W hl (by omega) (hp.same s) (hC.same s) hcl hcc (by omega) (hT.same s))
    have RO := Lib.hid (fun W (s : Same w W) => roften_any A m c p x W hl (by omega) (hp.same s) hok ⟨hp0, hp1⟩)
    have HP := Lib.hid hp
    have HL := Lib.hid hl
    have HOK := Lib.hid hok
    have hx1 : ¬ (m : Int) ≤ (x : Int) := by omega
    have hx0 : ¬ (x : Int) < 0 := by omega
    rw [hok] at FI
    clear hF hn hCl hl hp hC hcl hT hok
    generalize oftenI p x = ov at *
    go_enter Tryd.func7, Tryd.ntmps7
    go_wp2_with fail
    refine FI.out.mono ?_
    rintro e w1 ⟨rfl, s1⟩
    have HS1 := Lib.hid s1
    clear s1 FI
    go_wp2_with fail
    refine (WA.out _ HS1.out).mono ?_
    rintro e w2 ⟨hbad, hgood⟩
    obtain ⟨LA, cL, n, ok, rfl, hr, s2, hy, hz⟩ := hgood HOK.out
    have HS2 := Lib.hid (HS1.out.trans s2)
    have HR := Lib.hid hr
    have h2000 : (2000 : Int).toNat = 2000 := rfl
    rw [h2000] at hy hz
    have hn2 : n ≤ 2000 := by cases ok with
      | true => exact (hy rfl).2.1
      | false => have := (hz rfl).1; omega
    have hnd : NoD p ch (n - 1) := by cases ok with
      | true => exact (hy rfl).2.2.1
      | false => exact fun i hi => (hz rfl).2 i (by omega)
    have HPC := Lib.hid (fun i (hi : i < n) => HGD.out i (fun j hj => hnd j (by omega)))
    have HV := Lib.hid (HVO.out n hn2 hnd)
    have HY := Lib.hid hy
    have HZ := Lib.hid hz
    clear hgood hbad hr s2 hy hz hnd WA HGD HVO h2000
    go_wp2_with fail
    go_loopg [9, 49] n (fun gk nv iv wx => ∃ k : Nat, k + gk = n ∧ iv = .int .i64 (k : Int) ∧ nv = .int .i64 (visN p ch x k) ∧ Same w2 wx)
    case atStart => exact ⟨0, by omega, rfl, rfl, Same.refl _⟩
    case round =>
      obtain ⟨k, hk, rfl, rfl, sx⟩ := hrel
      have HS := Lib.hid sx
      clear sx
      cases gk with
      | succ GK =>
        have hkn : k < n := by omega
        have hlt : (k : Int) < n := by omega
        have hk0 : (0 : Int) ≤ (k : Int) := by omega
        have HK := Lib.hid hk
        clear hk
        have hb := HPC.out k hkn
        obtain ⟨gL, oL, hA, cl⟩ := (HR.out.same HS.out) k (.int .i64 ((wk p ch k).1.pc : Int)) (by rw [List.getElem?_map, pcs_at p ch hkn]; rfl)
        subst hA
        have HVN := Lib.hid (show visN p ch x (k + 1) = visN p ch x k + (kX x (wk p ch k).1.pc).1 from rfl)
        have hvb := vis_le (p := p) ch x k
        obtain ⟨at0, hat⟩ : ∃ at0, at0 = (wk p ch k).1.pc := ⟨_, rfl⟩
        rw [← hat] at cl hb HVN
        have ha1 : ¬ (m : Int) ≤ (at0 : Int) := by omega
        have ha0 : ¬ (at0 : Int) < 0 := by omega
        clear hat
        generalize visN p ch x k = vk at *
        by_cases hax : at0 = x
        · subst hax
          have HVM := Lib.hid (show visN p ch at0 (k + 1) = vk + 1 by rw [HVN.out, kX_at])
          have e1 : ((at0 : Int) == (at0 : Int)) = true := by simp
          clear HVN
          go_wp2_with fail
          go_roundg GK
          case rel => exact ⟨k + 1, by have := HK.out; omega, by go_num, by rw [HVM.out], HS.out⟩
          case measure => omega
        · have HVM := Lib.hid (show visN p ch x (k + 1) = vk by rw [HVN.out, kX_off hax, Int.add_zero])
          have e1 : ((at0 : Int) == (x : Int)) = false := by simp; omega
          clear HVN
          go_wp2_with fail
          go_roundg GK
          case rel => exact ⟨k + 1, by have := HK.out; omega, by go_num, by rw [HVM.out], HS.out⟩
          case measure => omega
      | zero =>
        obtain rfl : k = n := by omega
        have hge : ¬ (k : Int) < k := by omega
        have HSR := Lib.hid (HS2.out.trans HS.out)
        have hvv := HV.out
        have hvb := vis_le (p := p) ch x k
        cases ok with
        | true =>
          obtain ⟨y1, y2, y3, y4⟩ := HY.out rfl
          have e0 : ((k : Int) == 0) = false := by simp; omega
          have hb := HPC.out (k - 1) (by omega)
          obtain ⟨gL, oL, hA, cl⟩ := (HR.out.same HS.out) (k - 1) (.int .i64 ((wk p ch (k - 1)).1.pc : Int)) (by rw [List.getElem?_map, pcs_at p ch (by omega)]; rfl)
          subst hA
          obtain ⟨_, zb, zo, hA2, z0, _⟩ := (HP.out.same HSR.out).at_ (k := (wk p ch (k - 1)).1.pc) (by have := HL.out; omega)
          subst hA2
          rw [y4] at z0
          obtain ⟨j, rfl⟩ : ∃ j, k = j + 1 := ⟨k - 1, by omega⟩
          rw [Nat.add_sub_cancel] at cl z0 hb
          have hj1 : IntKind.i64.wrap (((j + 1 : Nat) : Int) - 1) = (j : Int) := by rw [show ((j + 1 : Nat) : Int) - 1 = (j : Int) by omega]; exact Go.IntWalk.i64_in _ (by omega)
          have hj2 : ((j + 1 : Nat) : Int) - 1 = (j : Int) := by omega
          have hjc : (j : Int) < ((j + 1 : Nat) : Int) := by omega
          have hj0 : (0 : Int) ≤ (j : Int) := by omega
          have hb1 : (((wk p ch j).1.pc : Nat) : Int) < (m : Int) := by omega
          have hb0 : (0 : Int) ≤ (((wk p ch j).1.pc : Nat) : Int) := by omega
          generalize visN p ch x (j + 1) = vk at *
          generalize (wk p ch j).1.pc = at0 at *
          clear y1 y2 y3 y4 HY HZ HV HPC HR
          go_wp2_with fail
          refine (OF.out _ HSR.out).mono ?_
          rintro e w3 ⟨rfl, s3⟩
          have HS3 := Lib.hid (HSR.out.trans s3)
          clear s3
          go_wp2_with fail
          refine (RO.out _ HS3.out).mono ?_
          rintro e w4 ⟨rfl, s4⟩
          have HS4 := Lib.hid (HS3.out.trans s4)
          clear s4 RO
          have eov : (ov == ov) = true := by simp
          go_wp2_with fail
          refine (OF.out _ HS4.out).mono ?_
          rintro e w5 ⟨rfl, s5⟩
          have HS5 := Lib.hid (HS4.out.trans s5)
          clear s5 OF
          go_wp2_with fail
          refine (AW.out _ HS5.out).mono ?_
          rintro e w6 ⟨rfl, s6⟩
          go_wp2_with fail
          go_ret
          exact ⟨rfl, HS5.out.trans s6⟩
        | false =>
          obtain ⟨y1, y2⟩ := HZ.out rfl
          have e0 : ((k : Int) != 2000) = false := by simp; omega
          generalize visN p ch x k = vk at *
          clear y1 y2 HY HZ HV HPC HR
          go_wp2_with fail
          refine (OF.out _ HSR.out).mono ?_
          rintro e w3 ⟨rfl, s3⟩
          have HS3 := Lib.hid (HSR.out.trans s3)
          clear s3
          go_wp2_with fail
          refine (RO.out _ HS3.out).mono ?_
          rintro e w4 ⟨rfl, s4⟩
          have HS4 := Lib.hid (HS3.out.trans s4)
          clear s4 RO
          have eov : (ov == ov) = true := by simp
          go_wp2_with fail
          refine (OF.out _ HS4.out).mono ?_
          rintro e w5 ⟨rfl, s5⟩
          have HS5 := Lib.hid (HS4.out.trans s5)
          clear s5 OF
          go_wp2_with fail
          refine (AW.out _ HS5.out).mono ?_
          rintro e w6 ⟨rfl, s6⟩
          go_wp2_with fail
          go_ret
          exact ⟨rfl, HS5.out.trans s6⟩
  · have hv : oftenI p pc = 0 := if_neg (fun h => hgo ⟨h.1, h.2.1, by rw [← hl]; exact h.2.2⟩)
    rw [hv] at OF
    have HG := Lib.hid hgo
    clear hl hp hC hcl hT hv hgo
    cases hok : okB p with
    | false =>
      rw [hok] at FI
      clear hok
      go_enter Tryd.func7, Tryd.ntmps7
      go_wp2_with fail
      refine FI.out.mono ?_
      rintro e w1 ⟨rfl, s1⟩
      have HS1 := Lib.hid s1
      clear s1 FI
      go_wp2_with fail
      refine (OF.out _ HS1.out).mono ?_
      rintro e w2 ⟨rfl, s2⟩
      have HS2 := Lib.hid (HS1.out.trans s2)
      clear s2 OF
      go_wp2_with fail
      refine (AW.out _ HS2.out).mono ?_
      rintro e w3 ⟨rfl, s3⟩
      go_wp2_with fail
      go_ret
      exact ⟨rfl, HS2.out.trans s3⟩
    | true =>
      rw [hok] at FI
      by_cases g1 : pc < 0
      · clear hok HG
        go_enter Tryd.func7, Tryd.ntmps7
        go_wp2_with fail
        refine FI.out.mono ?_
        rintro e w1 ⟨rfl, s1⟩
        have HS1 := Lib.hid s1
        clear s1 FI
        go_wp2_with fail
        refine (OF.out _ HS1.out).mono ?_
        rintro e w2 ⟨rfl, s2⟩
        have HS2 := Lib.hid (HS1.out.trans s2)
        clear s2 OF
        go_wp2_with fail
        refine (AW.out _ HS2.out).mono ?_
        rintro e w3 ⟨rfl, s3⟩
        go_wp2_with fail
        go_ret
        exact ⟨rfl, HS2.out.trans s3⟩
      · have g2 : (m : Int) ≤ pc := by
          have h := HG.out
          rcases Int.lt_or_le pc m with h3 | h3
          · exact absurd ⟨hok, by omega, h3⟩ h
          · exact h3
        clear hok HG
        go_enter Tryd.func7, Tryd.ntmps7
        go_wp2_with fail
        refine FI.out.mono ?_
        rintro e w1 ⟨rfl, s1⟩
        have HS1 := Lib.hid s1
        clear s1 FI
        go_wp2_with fail
        refine (OF.out _ HS1.out).mono ?_
        rintro e w2 ⟨rfl, s2⟩
        have HS2 := Lib.hid (HS1.out.trans s2)
        clear s2 OF
        go_wp2_with fail
        refine (AW.out _ HS2.out).mono ?_
        rintro e w3 ⟨rfl, s3⟩
        go_wp2_with fail
        go_ret
        exact ⟨rfl, HS2.out.trans s3⟩
theorem often_in (A : Option Addr) (m c : Nat) (rows : List (List Int)) (CA : Option Addr) (cn cc : Nat) (ch : List Bool) (pc : Int) (w : World) (hr : Fl.Rows w A [.i64, .i64, .i64, .i64, .u32] rows) (hl : rows.length = m)
    (hC : Row w CA (ch.map Value.bool)) (hcl : ch.length = cn) (hcc : cn ≤ cc ∧ cc ≤ maxLen) (ht : Is.Tabs w) :
    Calls Tryd.prog 7 #[.slice A m c, .slice CA cn cc, .int .i64 pc] w fun e w' => e = .returned (.bool true) ∧ Same w w' := by
  obtain ⟨p, hp, hP⟩ := Fw.prg_in hr
  exact often_walk A m c p CA cn cc ch pc w (hp.trans hl) hP hC hcl hcc ht
end Go.Proofs.YtnlndkpjfgpodaaDoor.Pt
