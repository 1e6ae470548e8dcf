/-

  The contract of package flow's Check (layer 10).
-/
import Derived.Test.YtknmfopnbognpaaGreatDoorFlowAll
set_option linter.unusedVariables false
set_option linter.unusedSimpArgs false
namespace Go.Proofs.YtknmfopnbognpaaGreatDoor.Fw
open Go.ChangeShapes Go.WideShapes Go.ChangeAt Go.RowKit Ws Fp
open Go.Proofs.YtknmfopnbognpaaGreatDoor.Is (Tabs ins rightB leadB target_any right_any ret2i)

def ckI (p : List Ins) : Int := (check rightI p).1
def ckE (p : List Ins) : Int := (check rightI p).2
theorem ck_of {p : List Ins} {a e : Int} (h : check rightI p = (a, e)) : ckI p = a ∧ ckE p = e := by unfold ckI ckE; rw [h]; exact ⟨rfl, rfl⟩

set_option maxRecDepth 100000 in
set_option maxHeartbeats 1000000 in
theorem check_any (A : Option Addr) (m c : Nat) (p : List Ins) (w : World) (hl : p.length = m) (hm : m ≤ 5000) (hp : Prg w A p) (ht : Tabs w) :
    Calls Tryz.prog 44 #[.slice A m c] w fun e w' => e = .returned (.tuple #[.int .i64 (ckI p), .int .i64 (ckE p)]) ∧ Same w w' := by
  have HL := Lib.hid hl
  have HP := Lib.hid hp
  have HT := Lib.hid ht
  by_cases hsz : m < 1 ∨ 64 < m
  · have hck := ck_of (check_size (right := rightI) (p := p) (by rw [hl]; exact hsz))
    rw [hck.1, hck.2]
    by_cases h0 : m = 0
    · subst h0
      clear hl hp ht hsz hck hm
      go_enter Tryz.func44, Tryz.ntmps44
      go_wp2_with fail
      go_ret2
      exact ⟨rfl, Same.refl _⟩
    · have b0 : ((m : Int) == 0) = false := by simp; omega
      have b1 : decide ((64 : Int) < (m : Int)) = true := by simp; omega
      clear hl hp ht hsz hck h0
      go_enter Tryz.func44, Tryz.ntmps44
      go_wp2_with fail
      go_ret2
      exact ⟨rfl, Same.refl _⟩
  · have hs1 : 1 ≤ p.length ∧ p.length ≤ 64 := by omega
    have HSZ := Lib.hid hs1
    have b0 : ((m : Int) == 0) = false := by simp; omega
    have b1 : decide ((64 : Int) < (m : Int)) = false := by simp; omega
    have h64 : m ≤ 64 := by omega
    clear hl hp ht hsz hs1
    go_enter Tryz.func44, Tryz.ntmps44
    go_wp2_with fail
    go_loopg [23] m (fun gk iv wx => ∃ k : Nat, k + gk = m ∧ iv = .int .i64 k ∧ (∀ j, j < k → rightI (Fp.at_ p j) = true) ∧ Same w wx)
    case atStart => exact ⟨0, by omega, rfl, fun j hj => by omega, Same.refl _⟩
    case round =>
      obtain ⟨k, hk, rfl, hri, sx⟩ := hrel
      have HRI := Lib.hid hri
      have HS := Lib.hid sx
      clear hri sx
      cases gk with
      | succ GK =>
        have hlt : (k : Int) < m := by omega
        have hkp : k < p.length := by have := HL.out; omega
        obtain ⟨hok, b, o, rfl, c0, c1, c2, c3, c4⟩ := (HP.out.same HS.out).at_ (k := k) hkp
        have hx := rfl (a := Fp.at_ p k)
        have HKP := Lib.hid hkp
        clear hkp hx
        obtain ⟨x, hx⟩ : ∃ x, x = Fp.at_ p k := ⟨_, rfl⟩
        rw [← hx] at c0 c1 c2 c3 c4 hok
        have HX := Lib.hid hx
        clear hx
        have hs2 := (Same.refl wr).alloc (.cells #[.int .i64 x.op, .int .i64 x.a, .int .i64 x.b, .int .i64 x.c, .int .u32 x.n] 39)
        have HS2 := Lib.hid (HS.out.trans hs2)
        have RA := Lib.hid (right_any x.op x.a x.b x.c x.n hok _ (HT.out.same HS2.out))
        unfold ins at RA
        clear hs2
        go_wp2_with fail
        refine RA.out.mono ?_
        rintro e w1 ⟨rfl, s1⟩
        cases hr : rightB x.op x.a x.b x.c x.n
        · have HRF : Hid (rightI (Fp.at_ p k) = false) := Lib.hid (by rw [← HX.out]; exact hr)
          clear hr
          go_wp2_with fail
          go_ret2
          have := ck_of (check_form HSZ.out HKP.out HRF.out HRI.out)
          exact ⟨ret_ii this.1.symm this.2.symm, HS2.out.trans s1⟩
        · have HRT : Hid (rightI (Fp.at_ p k) = true) := Lib.hid (by rw [← HX.out]; exact hr)
          clear hr
          go_wp2_with fail
          go_roundg GK
          case rel =>
            refine ⟨k + 1, by omega, by go_num, ?_, HS2.out.trans s1⟩
            intro i hi
            rcases Nat.lt_or_ge i k with h1 | h1
            · exact HRI.out i h1
            · have : i = k := by omega
              subst this
              exact HRT.out
          case measure => omega
      | zero =>
        obtain rfl : k = m := by omega
        have hge : ¬ (k : Int) < (k : Int) := by omega
        have HR1 : Hid (∀ j, j < p.length → rightI (Fp.at_ p j) = true) := Lib.hid (fun j hj => HRI.out j (by have := HL.out; omega))
        clear HRI
        go_wp2_with fail
        go_loopg [35] k (fun gk iv wx => ∃ i : Nat, i + gk = k ∧ iv = .int .i64 i ∧ (∀ j, j < i → strayB p j = false) ∧ Same w wx)
        case atStart => exact ⟨0, by omega, rfl, fun j hj => by omega, HS.out⟩
        case round =>
          obtain ⟨i, hi, rfl, hst, sx⟩ := hrel
          have HST := Lib.hid hst
          have HS3 := Lib.hid sx
          clear hst sx HS
          cases gk with
          | succ GK =>
            have hlt : (i : Int) < k := by omega
            have hik : i < k := by omega
            have HIP : Hid (i < p.length) := Lib.hid (by have := HL.out; omega)
            have SA := Lib.hid (stray_any A k c p i wr HL.out hm (HP.out.same HS3.out) (HT.out.same HS3.out) hik (HR1.out i HIP.out))
            go_wp2_with fail
            refine SA.out.mono ?_
            rintro e w1 ⟨rfl, s1⟩
            cases hst : strayB p i
            · have HSF := Lib.hid hst
              clear hst
              go_wp2_with fail
              go_roundg GK
              case rel =>
                refine ⟨i + 1, by omega, by go_num, ?_, HS3.out.trans s1⟩
                intro j hj
                rcases Nat.lt_or_ge j i with h1 | h1
                · exact HST.out j h1
                · have : j = i := by omega
                  subst this
                  exact HSF.out
              case measure => omega
            · have HSF := Lib.hid hst
              clear hst
              go_wp2_with fail
              go_ret2
              have := ck_of (check_flow HSZ.out HR1.out HIP.out HSF.out HST.out)
              exact ⟨ret_ii this.1.symm this.2.symm, HS3.out.trans s1⟩
          | zero =>
            obtain rfl : i = k := by omega
            have hge : ¬ (i : Int) < (i : Int) := by omega
            have HR2 : Hid (∀ j, j < p.length → strayB p j = false) := Lib.hid (fun j hj => HST.out j (by have := HL.out; omega))
            clear HST
            have LO := Lib.hid (loops_any A i c p wr HL.out hm (HP.out.same HS3.out))
            go_wp2_with fail
            refine LO.out.mono ?_
            rintro e w1 ⟨LA, lc, rfl, ho, s1⟩
            have HS4 := Lib.hid (HS3.out.trans s1)
            have HSP := Lib.hid (spn_of ho.row)
            have hlen := loopsTo_len (p := p) p.length
            have HLE : Hid ((loopsL p).length ≤ i) := Lib.hid (by have := HL.out; unfold loopsL; omega)
            have hcap : (loopsL p).length ≤ lc := by
              rcases ho.2 with ⟨h2, hz⟩ | ⟨g, cap, cur, hv, _, _, hnc, _⟩
              · omega
              · injection hv with _ _ hc
                omega
            have OV := Lib.hid (overlapping_any LA (loopsL p).length lc (loopsL p) w1 rfl (by have := HLE.out; omega) hcap HSP.out)
            have hlw : (loopsL p).length ≤ 5000 := by have := HLE.out; omega
            have HLW := Lib.hid hlw
            clear ho hlen hcap hlw s1 LO
            obtain ⟨ln, hln⟩ : ∃ ln, ln = (loopsL p).length := ⟨_, rfl⟩
            rw [← hln] at OV ⊢
            have HLN := Lib.hid hln
            clear hln
            go_wp2_with fail
            refine OV.out.mono ?_
            rintro e w2 ⟨rfl, s2⟩
            have HS5 := Lib.hid (HS4.out.trans s2)
            have CR := Lib.hid (crossing_any A i c p LA ln lc (loopsL p) w2 HL.out hm (HP.out.same HS5.out) (HT.out.same HS5.out) HR1.out HLN.out.symm (by have := HLN.out; have := HLW.out; omega) (HSP.out.same s2))
            clear s2 OV
            cases hov : ovlB (loopsL p)
            · have HR3 : Hid (∀ j, j < (loopsL p).length → overAt (loopsL p) j = false) := Lib.hid (first_no (by unfold ovlB at hov; simpa using hov))
              clear hov
              go_wp2_with fail
              refine CR.out.mono ?_
              rintro e w3 ⟨rfl, s3⟩
              have HS6 := Lib.hid (HS5.out.trans s3)
              clear s3 CR
              cases hcr : crsB p (loopsL p)
              · have HR4 : Hid (∀ j, j < p.length → crossAt p (loopsL p) j = false) := Lib.hid (first_no (by unfold crsB at hcr; simpa using hcr))
                clear hcr
                have hi1 : 1 ≤ i := by have := HSZ.out; have := HL.out; omega
                obtain ⟨hok, b, o, rfl, c0, _⟩ := (HP.out.same HS6.out).at_ (k := i - 1) (by have := HL.out; omega)
                have f1 := i64_of ((i : Int) - 1) (by omega)
                have f2 : ((i : Int) - 1).toNat = i - 1 := by omega
                have f3 : (0 : Int) ≤ (i : Int) - 1 := by omega
                have f4 : (i : Int) - 1 < i := by omega
                have hck := ck_of (check_last HSZ.out HR1.out HR2.out HR3.out HR4.out)
                have HE : Hid (p.length - 1 = i - 1 ∧ (p.length : Int) - 1 = (i : Int) - 1) := Lib.hid (by have := HL.out; omega)
                have hck' := check_last HSZ.out HR1.out HR2.out HR3.out HR4.out
                rw [HE.out.1, HE.out.2] at hck'
                have HCK := Lib.hid hck'
                clear hck hck' hok
                generalize Fp.at_ p (i - 1) = x at *
                by_cases h21 : x.op = 21
                · have b21 : (x.op != 21) = false := by simpa using h21
                  have := HCK.out
                  rw [if_pos h21] at this
                  have HC2 := Lib.hid (ck_of this)
                  clear this h21
                  go_wp2_with fail
                  go_ret2
                  exact ⟨ret_ii HC2.out.1.symm HC2.out.2.symm, HS6.out⟩
                · have b21 : (x.op != 21) = true := by simpa using h21
                  have := HCK.out
                  rw [if_neg h21] at this
                  have HC2 := Lib.hid (ck_of this)
                  clear this h21
                  go_wp2_with fail
                  go_ret2
                  exact ⟨ret_ii HC2.out.1.symm HC2.out.2.symm, HS6.out⟩
              · obtain ⟨j, hj⟩ := Option.isSome_iff_exists.1 (show (first p.length (crossAt p (loopsL p))).isSome = true from hcr)
                have h3 := first_yes hj
                have HC2 := Lib.hid (ck_of (check_cross HSZ.out HR1.out HR2.out HR3.out h3.1 h3.2.1 h3.2.2))
                have HV : Hid (crsI p (loopsL p) = (j : Int)) := Lib.hid (by unfold crsI; rw [hj])
                clear hcr hj h3
                go_wp2_with fail
                go_ret2
                exact ⟨ret_ii (HV.out.trans HC2.out.1.symm) HC2.out.2.symm, HS6.out⟩
            · obtain ⟨j, hj⟩ := Option.isSome_iff_exists.1 (show (first (loopsL p).length (overAt (loopsL p))).isSome = true from hov)
              have h3 := first_yes hj
              have HC2 := Lib.hid (ck_of (check_over HSZ.out HR1.out HR2.out h3.1 h3.2.1 h3.2.2))
              have HV : Hid (ovlI (loopsL p) = (lp (loopsL p) j).2) := Lib.hid (by unfold ovlI; rw [hj])
              clear hov hj h3
              go_wp2_with fail
              go_ret2
              exact ⟨ret_ii (HV.out.trans HC2.out.1.symm) HC2.out.2.symm, HS5.out⟩

end Go.Proofs.YtknmfopnbognpaaGreatDoor.Fw
