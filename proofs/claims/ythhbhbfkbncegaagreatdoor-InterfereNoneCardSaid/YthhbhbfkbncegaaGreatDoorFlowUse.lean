/-

  Contracts of package flow (layer 10): may, Loops, Depth, Next; two rows of numbers, or of loops, held against each other.
-/
import Derived.Test.YthhbhbfkbncegaaGreatDoorFlowAll
import Derived.WalkKit
section
set_option linter.unusedVariables false
set_option linter.unusedSimpArgs false
namespace Go.Proofs.YthhbhbfkbncegaaGreatDoor.Fw
open Go.ChangeShapes Go.WideShapes Go.ChangeAt Go.RowKit Ws Fp
open Go.Proofs.YthhbhbfkbncegaaGreatDoor.Is (Tabs ins rightB leadB target_any right_any ret2i)

def ckI (p : List Ins) : Int := (check rightI p).1
def ckE (p : List Ins) : Int := (check rightI p).2
theorem ck_of {p : List Ins} {a e : Int} (h : check rightI p = (a, e)) : ckI p = a ∧ ckE p = e := by unfold ckI ckE; rw [h]; exact ⟨rfl, rfl⟩

set_option maxRecDepth 100000 in
set_option maxHeartbeats 1000000 in
theorem check_any (A : Option Addr) (m c : Nat) (p : List Ins) (w : World) (hl : p.length = m) (hm : m ≤ 5000) (hp : Prg w A p) (ht : Tabs w) :
    Calls Tryz.prog 111 #[.slice A m c] w fun e w' => e = .returned (.tuple #[.int .i64 (ckI p), .int .i64 (ckE p)]) ∧ Same w w' := by
  have HL := Lib.hid hl
  have HP := Lib.hid hp
  have HT := Lib.hid ht
  by_cases hsz : m < 1 ∨ 64 < m
  · have hck := ck_of (check_size (right := rightI) (p := p) (by rw [hl]; exact hsz))
    rw [hck.1, hck.2]
    by_cases h0 : m = 0
    · subst h0
      clear hl hp ht hsz hck hm
      go_enter Tryz.func111, Tryz.ntmps111
      go_wp2_with fail
      go_ret2
      exact ⟨rfl, Same.refl _⟩
    · have b0 : ((m : Int) == 0) = false := by simp; omega
      have b1 : decide ((64 : Int) < (m : Int)) = true := by simp; omega
      clear hl hp ht hsz hck h0
      go_enter Tryz.func111, Tryz.ntmps111
      go_wp2_with fail
      go_ret2
      exact ⟨rfl, Same.refl _⟩
  · have hs1 : 1 ≤ p.length ∧ p.length ≤ 64 := by omega
    have HSZ := Lib.hid hs1
    have b0 : ((m : Int) == 0) = false := by simp; omega
    have b1 : decide ((64 : Int) < (m : Int)) = false := by simp; omega
    have h64 : m ≤ 64 := by omega
    clear hl hp ht hsz hs1
    go_enter Tryz.func111, Tryz.ntmps111
    go_wp2_with fail
    go_loopg [23] m (fun gk iv wx => ∃ k : Nat, k + gk = m ∧ iv = .int .i64 k ∧ (∀ j, j < k → rightI (Fp.at_ p j) = true) ∧ Same w wx)
    case atStart => exact ⟨0, by omega, rfl, fun j hj => by omega, Same.refl _⟩
    case round =>
      obtain ⟨k, hk, rfl, hri, sx⟩ := hrel
      have HRI := Lib.hid hri
      have HS := Lib.hid sx
      clear hri sx
      cases gk with
      | succ GK =>
        have hlt : (k : Int) < m := by omega
        have hkp : k < p.length := by have := HL.out; omega
        obtain ⟨hok, b, o, rfl, c0, c1, c2, c3, c4⟩ := (HP.out.same HS.out).at_ (k := k) hkp
        have hx := rfl (a := Fp.at_ p k)
        have HKP := Lib.hid hkp
        clear hkp hx
        obtain ⟨x, hx⟩ : ∃ x, x = Fp.at_ p k := ⟨_, rfl⟩
        rw [← hx] at c0 c1 c2 c3 c4 hok
        have HX := Lib.hid hx
        clear hx
        have hs2 := (Same.refl wr).alloc (.cells #[.int .i64 x.op, .int .i64 x.a, .int .i64 x.b, .int .i64 x.c, .int .u32 x.n] 70)
        have HS2 := Lib.hid (HS.out.trans hs2)
        have RA := Lib.hid (right_any x.op x.a x.b x.c x.n hok _ (HT.out.same HS2.out))
        unfold ins at RA
        clear hs2
        go_wp2_with fail
        refine RA.out.mono ?_
        rintro e w1 ⟨rfl, s1⟩
        cases hr : rightB x.op x.a x.b x.c x.n
        · have HRF : Hid (rightI (Fp.at_ p k) = false) := Lib.hid (by rw [← HX.out]; exact hr)
          clear hr
          go_wp2_with fail
          go_ret2
          have := ck_of (check_form HSZ.out HKP.out HRF.out HRI.out)
          exact ⟨ret_ii this.1.symm this.2.symm, HS2.out.trans s1⟩
        · have HRT : Hid (rightI (Fp.at_ p k) = true) := Lib.hid (by rw [← HX.out]; exact hr)
          clear hr
          go_wp2_with fail
          go_roundg GK
          case rel =>
            refine ⟨k + 1, by omega, by go_num, ?_, HS2.out.trans s1⟩
            intro i hi
            rcases Nat.lt_or_ge i k with h1 | h1
            · exact HRI.out i h1
            · have : i = k := by omega
              subst this
              exact HRT.out
          case measure => omega
      | zero =>
        obtain rfl : k = m := by omega
        have hge : ¬ (k : Int) < (k : Int) := by omega
        have HR1 : Hid (∀ j, j < p.length → rightI (Fp.at_ p j) = true) := Lib.hid (fun j hj => HRI.out j (by have := HL.out; omega))
        clear HRI
        go_wp2_with fail
        go_loopg [35] k (fun gk iv wx => ∃ i : Nat, i + gk = k ∧ iv = .int .i64 i ∧ (∀ j, j < i → strayB p j = false) ∧ Same w wx)
        case atStart => exact ⟨0, by omega, rfl, fun j hj => by omega, HS.out⟩
        case round =>
          obtain ⟨i, hi, rfl, hst, sx⟩ := hrel
          have HST := Lib.hid hst
          have HS3 := Lib.hid sx
          clear hst sx HS
          cases gk with
          | succ GK =>
            have hlt : (i : Int) < k := by omega
            have hik : i < k := by omega
            have HIP : Hid (i < p.length) := Lib.hid (by have := HL.out; omega)
            have SA := Lib.hid (stray_any A k c p i wr HL.out hm (HP.out.same HS3.out) (HT.out.same HS3.out) hik (HR1.out i HIP.out))
            go_wp2_with fail
            refine SA.out.mono ?_
            rintro e w1 ⟨rfl, s1⟩
            cases hst : strayB p i
            · have HSF := Lib.hid hst
              clear hst
              go_wp2_with fail
              go_roundg GK
              case rel =>
                refine ⟨i + 1, by omega, by go_num, ?_, HS3.out.trans s1⟩
                intro j hj
                rcases Nat.lt_or_ge j i with h1 | h1
                · exact HST.out j h1
                · have : j = i := by omega
                  subst this
                  exact HSF.out
              case measure => omega
            · have HSF := Lib.hid hst
              clear hst
              go_wp2_with fail
              go_ret2
              have := ck_of (check_flow HSZ.out HR1.out HIP.out HSF.out HST.out)
              exact ⟨ret_ii this.1.symm this.2.symm, HS3.out.trans s1⟩
          | zero =>
            obtain rfl : i = k := by omega
            have hge : ¬ (i : Int) < (i : Int) := by omega
            have HR2 : Hid (∀ j, j < p.length → strayB p j = false) := Lib.hid (fun j hj => HST.out j (by have := HL.out; omega))
            clear HST
            have LO := Lib.hid (loops_any A i c p wr HL.out hm (HP.out.same HS3.out))
            go_wp2_with fail
            refine LO.out.mono ?_
            rintro e w1 ⟨LA, lc, rfl, ho, s1⟩
            have HS4 := Lib.hid (HS3.out.trans s1)
            have HSP := Lib.hid (spn_of ho.row)
            have hlen := loopsTo_len (p := p) p.length
            have HLE : Hid ((loopsL p).length ≤ i) := Lib.hid (by have := HL.out; unfold loopsL; omega)
            have hcap : (loopsL p).length ≤ lc := by
              rcases ho.2 with ⟨h2, hz⟩ | ⟨g, cap, cur, hv, _, _, hnc, _⟩
              · omega
              · injection hv with _ _ hc
                omega
            have OV := Lib.hid (overlapping_any LA (loopsL p).length lc (loopsL p) w1 rfl (by have := HLE.out; omega) hcap HSP.out)
            have hlw : (loopsL p).length ≤ 5000 := by have := HLE.out; omega
            have HLW := Lib.hid hlw
            clear ho hlen hcap hlw s1 LO
            obtain ⟨ln, hln⟩ : ∃ ln, ln = (loopsL p).length := ⟨_, rfl⟩
            rw [← hln] at OV ⊢
            have HLN := Lib.hid hln
            clear hln
            go_wp2_with fail
            refine OV.out.mono ?_
            rintro e w2 ⟨rfl, s2⟩
            have HS5 := Lib.hid (HS4.out.trans s2)
            have CR := Lib.hid (crossing_any A i c p LA ln lc (loopsL p) w2 HL.out hm (HP.out.same HS5.out) (HT.out.same HS5.out) HR1.out HLN.out.symm (by have := HLN.out; have := HLW.out; omega) (HSP.out.same s2))
            clear s2 OV
            cases hov : ovlB (loopsL p)
            · have HR3 : Hid (∀ j, j < (loopsL p).length → overAt (loopsL p) j = false) := Lib.hid (first_no (by unfold ovlB at hov; simpa using hov))
              clear hov
              go_wp2_with fail
              refine CR.out.mono ?_
              rintro e w3 ⟨rfl, s3⟩
              have HS6 := Lib.hid (HS5.out.trans s3)
              clear s3 CR
              cases hcr : crsB p (loopsL p)
              · have HR4 : Hid (∀ j, j < p.length → crossAt p (loopsL p) j = false) := Lib.hid (first_no (by unfold crsB at hcr; simpa using hcr))
                clear hcr
                have hi1 : 1 ≤ i := by have := HSZ.out; have := HL.out; omega
                obtain ⟨hok, b, o, rfl, c0, _⟩ := (HP.out.same HS6.out).at_ (k := i - 1) (by have := HL.out; omega)
                have f1 := i64_of ((i : Int) - 1) (by omega)
                have f2 : ((i : Int) - 1).toNat = i - 1 := by omega
                have f3 : (0 : Int) ≤ (i : Int) - 1 := by omega
                have f4 : (i : Int) - 1 < i := by omega
                have hck := ck_of (check_last HSZ.out HR1.out HR2.out HR3.out HR4.out)
                have HE : Hid (p.length - 1 = i - 1 ∧ (p.length : Int) - 1 = (i : Int) - 1) := Lib.hid (by have := HL.out; omega)
                have hck' := check_last HSZ.out HR1.out HR2.out HR3.out HR4.out
                rw [HE.out.1, HE.out.2] at hck'
                have HCK := Lib.hid hck'
                clear hck hck' hok
                generalize Fp.at_ p (i - 1) = x at *
                by_cases h21 : x.op = 21
                · have b21 : (x.op != 21) = false := by simpa using h21
                  have := HCK.out
                  rw [if_pos h21] at this
                  have HC2 := Lib.hid (ck_of this)
                  clear this h21
                  go_wp2_with fail
                  go_ret2
                  exact ⟨ret_ii HC2.out.1.symm HC2.out.2.symm, HS6.out⟩
                · have b21 : (x.op != 21) = true := by simpa using h21
                  have := HCK.out
                  rw [if_neg h21] at this
                  have HC2 := Lib.hid (ck_of this)
                  clear this h21
                  go_wp2_with fail
                  go_ret2
                  exact ⟨ret_ii HC2.out.1.symm HC2.out.2.symm, HS6.out⟩
              · obtain ⟨j, hj⟩ := Option.isSome_iff_exists.1 (show (first p.length (crossAt p (loopsL p))).isSome = true from hcr)
                have h3 := first_yes hj
                have HC2 := Lib.hid (ck_of (check_cross HSZ.out HR1.out HR2.out HR3.out h3.1 h3.2.1 h3.2.2))
                have HV : Hid (crsI p (loopsL p) = (j : Int)) := Lib.hid (by unfold crsI; rw [hj])
                clear hcr hj h3
                go_wp2_with fail
                go_ret2
                exact ⟨ret_ii (HV.out.trans HC2.out.1.symm) HC2.out.2.symm, HS6.out⟩
            · obtain ⟨j, hj⟩ := Option.isSome_iff_exists.1 (show (first (loopsL p).length (overAt (loopsL p))).isSome = true from hov)
              have h3 := first_yes hj
              have HC2 := Lib.hid (ck_of (check_over HSZ.out HR1.out HR2.out h3.1 h3.2.1 h3.2.2))
              have HV : Hid (ovlI (loopsL p) = (lp (loopsL p) j).2) := Lib.hid (by unfold ovlI; rw [hj])
              clear hov hj h3
              go_wp2_with fail
              go_ret2
              exact ⟨ret_ii (HV.out.trans HC2.out.1.symm) HC2.out.2.symm, HS5.out⟩

end Go.Proofs.YthhbhbfkbncegaaGreatDoor.Fw
end
section
set_option linter.unusedVariables false
set_option linter.unusedSimpArgs false
namespace Go.Proofs.YthhbhbfkbncegaaGreatDoor.Fw
open Go.ChangeShapes Go.WideShapes Go.ChangeAt Go.RowKit Ws Fp
open Go.Proofs.YthhbhbfkbncegaaGreatDoor.Is (Tabs ins rightB leadB)

theorem ints_eq (A C : Option Addr) (n m c d : Nat) (xs ys : List Int) (w : World) (hn : xs.length = n) (hm : ys.length = m) (hx : Row w A (xs.map (Value.int .i64))) (hy : Row w C (ys.map (Value.int .i64)))
    (b1 : n ≤ 4294967296) (b2 : m ≤ 4294967296) :
    Calls Tryz.prog 29 #[.slice A n c, .slice C m d] w fun e w' => e = .returned (.bool (decide (xs = ys))) ∧ ∃ k, w' = w.drewN k := by
  by_cases hl : n = m
  · subst hl
    have HX := Lib.hid hn
    have HY := Lib.hid hm
    clear hn hm
    go_enter Tryz.func29, Tryz.ntmps29
    go_wp2
    go_loopw [5, 13] (fun _ i wr => ∃ k : Nat, k ≤ n ∧ i = .int .i64 k ∧ xs.take k = ys.take k ∧ ∃ q, wr = w.drewN q) (fun _ i _ => n - (intOf i).toNat)
    case atStart => exact ⟨0, Nat.zero_le _, rfl, by simp, 0, rfl⟩
    case round =>
      obtain ⟨k, hk, rfl, hp, q, rfl⟩ := hrel
      have HP := Lib.hid hp
      clear hp
      by_cases hlt : k < n
      · obtain ⟨b, o, rfl, hc1⟩ := hx.at_ (k := k) (by have := HX.out; simp; omega)
        obtain ⟨b', o', rfl, hc2⟩ := hy.at_ (k := k) (by have := HY.out; simp; omega)
        rw [List.getElem_map] at hc1 hc2
        have hkx : k < xs.length := by have := HX.out; omega
        have hky : k < ys.length := by have := HY.out; omega
        have hsx : xs.take (k + 1) = xs.take k ++ [xs[k]] := by rw [List.take_succ_eq_append_getElem hkx]
        have hsy : ys.take (k + 1) = ys.take k ++ [ys[k]] := by rw [List.take_succ_eq_append_getElem hky]
        obtain ⟨x, hxx⟩ : ∃ x, x = xs[k] := ⟨_, rfl⟩
        obtain ⟨y, hyy⟩ : ∃ y, y = ys[k] := ⟨_, rfl⟩
        rw [← hxx] at hc1 hsx
        rw [← hyy] at hc2 hsy
        have HSX := Lib.hid hsx
        have HSY := Lib.hid hsy
        clear hsx hsy hxx hyy
        by_cases hxy : x = y
        · have hb : (x != y) = false := by simpa using hxy
          have HXY := Lib.hid hxy
          clear hxy
          go_wp2
          go_quiet (fail)
          go_wp2
          go_roundw
          case rel => exact ⟨k + 1, by omega, by go_num, by rw [HSX.out, HSY.out, HP.out, HXY.out], _, rfl⟩
          case measure => simp [intOf]; omega
        · have hb : (x != y) = true := by simpa using hxy
          have hd : decide (xs = ys) = false := by
            rw [decide_eq_false_iff_not]
            rintro rfl
            have := HSX.out
            rw [HSY.out] at this
            have := List.append_cancel_left this
            injection this with this
            exact hxy this.symm
          have HD := Lib.hid hd
          clear hd hxy
          go_wp2
          go_quiet (fail)
          go_wp2
          go_ret
          exact ⟨ret_bool HD.out.symm, q + nq, by simp⟩
      · have hkn : k = n := by omega
        subst hkn
        have hd : decide (xs = ys) = true := by
          rw [decide_eq_true_iff]
          have h1 := HP.out
          rw [List.take_of_length_le (by have := HX.out; omega), List.take_of_length_le (by have := HY.out; omega)] at h1
          exact h1
        have HD := Lib.hid hd
        clear hd
        go_wp2
        go_ret
        exact ⟨ret_bool HD.out.symm, _, rfl⟩
  · have hd : decide (xs = ys) = false := by
      rw [decide_eq_false_iff_not]
      rintro rfl
      omega
    have HD := Lib.hid hd
    clear hd
    have hne : ((n : Int) != (m : Int)) = true := by simp; omega
    go_enter Tryz.func29, Tryz.ntmps29
    go_wp2
    go_ret
    exact ⟨ret_bool HD.out.symm, 0, rfl⟩

/-- does a program go where it may? -/
def okB (p : List Ins) : Bool := decide (ckE p = 0)
theorem okB_fine {p : List Ins} (h : okB p = true) : Fine rightI p := fine_of (of_decide_eq_true h)
theorem may_any (A : Option Addr) (m c : Nat) (p : List Ins) (w : World) (hl : p.length = m) (hm : m ≤ 5000) (hp : Prg w A p) (ht : Tabs w) :
    Calls Tryz.prog 124 #[.slice A m c] w fun e w' => e = .returned (.bool (okB p)) ∧ Same w w' := by
  have CK := Lib.hid (check_any A m c p w hl hm hp ht)
  have hE : (ckE p == 0) = okB p := by unfold okB; rw [Bool.eq_iff_iff]; simp
  have HE := Lib.hid hE
  clear hl hp ht hE
  go_enter Tryz.func124, Tryz.ntmps124
  go_wp2_with fail
  refine CK.out.mono ?_
  rintro e w1 ⟨rfl, s1⟩
  go_wp2_with fail
  go_ret
  exact ⟨ret_bool HE.out, s1⟩
/-- the loops that are told of a program -/
def toldL (p : List Ins) : List (Int × Int) := if okB p = true then loopsL p else []
def Told (w : World) (l : List (Int × Int)) (e : Ending) (w' : World) : Prop := ∃ A c, e = .returned (.slice A l.length c) ∧ Spn w' A l ∧ Same w w'
theorem spn_nil (w : World) (A : Option Addr) : Spn w A [] := fun k s h => by simp at h
theorem told_any (A : Option Addr) (m c : Nat) (p : List Ins) (w : World) (hl : p.length = m) (hm : m ≤ 5000) (hp : Prg w A p) (ht : Tabs w) :
    Calls Tryz.prog 112 #[.slice A m c] w (Told w (toldL p)) := by
  have MA := Lib.hid (may_any A m c p w hl hm hp ht)
  have LO := Lib.hid (fun w' (s : Same w w') => loops_any A m c p w' hl hm (hp.same s))
  unfold Told toldL
  clear hl hp ht
  cases hok : okB p
  · rw [hok] at MA
    rw [if_neg Bool.false_ne_true]
    clear hok
    go_enter Tryz.func112, Tryz.ntmps112
    go_wp2_with fail
    refine MA.out.mono ?_
    rintro e w1 ⟨rfl, s1⟩
    go_wp2_with fail
    go_ret
    exact ⟨none, 0, rfl, spn_nil _ _, s1⟩
  · rw [hok] at MA
    rw [if_pos rfl]
    clear hok
    go_enter Tryz.func112, Tryz.ntmps112
    go_wp2_with fail
    refine MA.out.mono ?_
    rintro e w1 ⟨rfl, s1⟩
    go_wp2_with fail
    refine (LO.out _ s1).mono ?_
    rintro e w2 ⟨A2, c2, rfl, ho, s2⟩
    have HSP := Lib.hid (spn_of ho.row)
    have HS2 := Lib.hid (s1.trans s2)
    clear ho s1 s2 LO MA
    generalize hnn : (loopsL p).length = n at *
    have HNN := Lib.hid hnn
    clear hnn
    go_wp2_with fail
    go_ret
    exact ⟨A2, c2, by rw [HNN.out]; rfl, HSP.out, HS2.out⟩

def depthI (l : List (Int × Int)) (x : Int) : Nat := cnt (fun k => hasB (lp l k) x) l.length
/-- the places to which one may come, as a row of numbers -/
def Nums (w : World) (l : List Int) (e : Ending) (w' : World) : Prop := ∃ A c, e = .returned (.slice A l.length c) ∧ Row w' A (l.map (Value.int .i64)) ∧ Same w w'
theorem next_any (A : Option Addr) (m c : Nat) (p : List Ins) (k : Nat) (w : World) (hl : p.length = m) (hm : m ≤ 5000) (hk : k < m) (hp : Prg w A p) :
    Calls Tryz.prog 167 #[.slice A m c, .int .i64 k] w (Nums w (nextL p k)) := by
  obtain ⟨hok, b, o, rfl, c0, _, _, _, c4⟩ := hp.at_ (k := k) (by omega)
  have hki : (k : Int) < m := by omega
  have hk0 : (0 : Int) ≤ k := by omega
  have hE : nextL p k = if (Fp.at_ p k).op = 21 then [] else if (Fp.at_ p k).op = 14 then [(Fp.at_ p k).n] else if (Fp.at_ p k).op = 15 then (if (k : Int) + 1 < (Fp.at_ p k).n then [(k : Int) + 1, (Fp.at_ p k).n] else [(k : Int) + 1]) else if (Fp.at_ p k).op = 16 then [(Fp.at_ p k).n, (k : Int) + 1] else [(k : Int) + 1] := rfl
  rw [hE]
  clear hE hp hl
  generalize Fp.at_ p k = x at *
  have hn := hok
  unfold Ins.ok at hn
  have f1 := i64_of x.n (by omega)
  have f2 := i64_of ((k : Int) + 1) (by omega)
  unfold Nums
  have n1 : ∀ a : Int, ∀ w' : World, Same w w' → Row (w'.alloc (.cells #[.int .i64 a] 3)) (some ⟨w'.heap.size, 0, none⟩) ([a].map (Value.int .i64)) := fun a w' _ => row_new _ _ _
  by_cases h21 : x.op = 21
  · rw [if_pos h21]
    have b1 : (x.op == 21) = true := by simpa using h21
    clear h21
    go_enter Tryz.func167, Tryz.ntmps167
    go_wp2_with fail
    go_ret
    exact ⟨none, 0, rfl, Row.nil _ _, Same.refl _⟩
  · rw [if_neg h21]
    have b1 : (x.op == 21) = false := by simpa using h21
    by_cases h14 : x.op = 14
    · rw [if_pos h14]
      have b2 : (x.op == 14) = true := by simpa using h14
      clear h21 h14
      go_enter Tryz.func167, Tryz.ntmps167
      go_wp2_with fail
      go_ret
      first | exact ⟨_, _, rfl, row_new _ _ _, (Same.refl _).alloc _⟩ | exact ⟨_, ⟨_, rfl⟩, row_new _ _ _, (Same.refl _).alloc _⟩
    · rw [if_neg h14]
      have b2 : (x.op == 14) = false := by simpa using h14
      by_cases h15 : x.op = 15
      · rw [if_pos h15]
        have b3 : (x.op == 15) = true := by simpa using h15
        clear h21 h14 h15
        by_cases hlt : (k : Int) + 1 < x.n
        · rw [if_pos hlt]
          go_enter Tryz.func167, Tryz.ntmps167
          go_wp2_with fail
          go_ret
          first | exact ⟨_, _, rfl, row_new _ _ _, (Same.refl _).alloc _⟩ | exact ⟨_, ⟨_, rfl⟩, row_new _ _ _, (Same.refl _).alloc _⟩
        · rw [if_neg hlt]
          go_enter Tryz.func167, Tryz.ntmps167
          go_wp2_with fail
          go_ret
          first | exact ⟨_, _, rfl, row_new _ _ _, (Same.refl _).alloc _⟩ | exact ⟨_, ⟨_, rfl⟩, row_new _ _ _, (Same.refl _).alloc _⟩
      · rw [if_neg h15]
        have b3 : (x.op == 15) = false := by simpa using h15
        by_cases h16 : x.op = 16
        · rw [if_pos h16]
          have b4 : (x.op == 16) = true := by simpa using h16
          clear h21 h14 h15 h16
          go_enter Tryz.func167, Tryz.ntmps167
          go_wp2_with fail
          go_ret
          first | exact ⟨_, _, rfl, row_new _ _ _, (Same.refl _).alloc _⟩ | exact ⟨_, ⟨_, rfl⟩, row_new _ _ _, (Same.refl _).alloc _⟩
        · rw [if_neg h16]
          have b4 : (x.op == 16) = false := by simpa using h16
          clear h21 h14 h15 h16
          go_enter Tryz.func167, Tryz.ntmps167
          go_wp2_with fail
          go_ret
          first | exact ⟨_, _, rfl, row_new _ _ _, (Same.refl _).alloc _⟩ | exact ⟨_, ⟨_, rfl⟩, row_new _ _ _, (Same.refl _).alloc _⟩
/-- what Next tells -/
def nextsL (p : List Ins) (x : Int) : List Int := if okB p = true ∧ 0 ≤ x ∧ x < p.length then nextL p x.toNat else []
theorem nexts_any (A : Option Addr) (m c : Nat) (p : List Ins) (x : Int) (w : World) (hl : p.length = m) (hm : m ≤ 5000) (hp : Prg w A p) (ht : Tabs w) :
    Calls Tryz.prog 130 #[.slice A m c, .int .i64 x] w (Nums w (nextsL p x)) := by
  have MA := Lib.hid (may_any A m c p w hl hm hp ht)
  have hE : nextsL p x = if okB p = true ∧ 0 ≤ x ∧ x < m then nextL p x.toNat else [] := by unfold nextsL; rw [hl]
  rw [hE]
  have NX := Lib.hid (fun (k : Nat) (hk : k < m) w' (s : Same w w') => next_any A m c p k w' hl hm hk (hp.same s))
  clear hE hl hp ht
  have nil : ∀ w', Same w w' → Nums w [] (.returned (.slice none 0 0)) w' := fun w' s => ⟨none, 0, rfl, Row.nil _ _, s⟩
  cases hok : okB p
  · rw [hok] at MA
    rw [if_neg (fun h => Bool.false_ne_true h.1)]
    clear hok
    go_enter Tryz.func130, Tryz.ntmps130
    go_wp2_with fail
    refine MA.out.mono ?_
    rintro e w1 ⟨rfl, s1⟩
    go_wp2_with fail
    go_ret
    exact nil _ s1
  · rw [hok] at MA
    clear hok
    by_cases h0 : x < 0
    · have b0 : decide (x < 0) = true := decide_eq_true h0
      rw [if_neg (fun h => by omega)]
      go_enter Tryz.func130, Tryz.ntmps130
      go_wp2_with fail
      refine MA.out.mono ?_
      rintro e w1 ⟨rfl, s1⟩
      go_wp2_with fail
      go_ret
      exact nil _ s1
    · have b0 : decide (x < 0) = false := decide_eq_false h0
      by_cases h1 : (m : Int) ≤ x
      · have b1 : decide ((m : Int) ≤ x) = true := decide_eq_true h1
        rw [if_neg (fun h => by omega)]
        go_enter Tryz.func130, Tryz.ntmps130
        go_wp2_with fail
        refine MA.out.mono ?_
        rintro e w1 ⟨rfl, s1⟩
        go_wp2_with fail
        go_ret
        exact nil _ s1
      · have b1 : decide ((m : Int) ≤ x) = false := decide_eq_false h1
        rw [if_pos ⟨rfl, by omega, by omega⟩]
        obtain ⟨k, rfl⟩ := Int.eq_ofNat_of_zero_le (show 0 ≤ x by omega)
        rw [Int.toNat_natCast]
        have NX2 := Lib.hid (NX.out k (by omega))
        clear NX
        go_enter Tryz.func130, Tryz.ntmps130
        go_wp2_with fail
        refine MA.out.mono ?_
        rintro e w1 ⟨rfl, s1⟩
        go_wp2_with fail
        refine (NX2.out _ s1).mono ?_
        rintro e w2 ⟨A2, c2, rfl, hr, s2⟩
        have HR := Lib.hid hr
        have HS := Lib.hid (s1.trans s2)
        clear hr s1 s2
        generalize hnn : (nextL p k).length = n at *
        have HNN := Lib.hid hnn
        clear hnn
        go_wp2_with fail
        go_ret
        exact ⟨A2, c2, by rw [HNN.out]; rfl, HR.out, HS.out⟩

end Go.Proofs.YthhbhbfkbncegaaGreatDoor.Fw
end
