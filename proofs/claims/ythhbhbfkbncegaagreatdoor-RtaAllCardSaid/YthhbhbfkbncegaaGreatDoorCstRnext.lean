/-

 The document's Next tells in memory of its own. (gen156.py's neighbour: out of FlowMay's rnext_any.)
-/
import Derived.Test.YthhbhbfkbncegaaGreatDoorRefFlow
import Derived.Test.YthhbhbfkbncegaaGreatDoorFlowUse
import Derived.Test.YthhbhbfkbncegaaGreatDoorCstNext
section
set_option linter.unusedVariables false
set_option linter.unusedSimpArgs false
namespace Go.Proofs.YthhbhbfkbncegaaGreatDoor.Fw
open Go.ChangeShapes Go.WideShapes Go.ChangeAt Go.RowKit Ws Fp
open Go.Proofs.YthhbhbfkbncegaaGreatDoor.Is (Tabs ins rightB leadB rright_any)

set_option maxRecDepth 100000 in
set_option maxHeartbeats 4000000 in
theorem rcheck_any (A : Option Addr) (m c : Nat) (p : List Ins) (w : World) (hl : p.length = m) (hm : m ≤ 5000) (hp : Prg w A p) :
 Calls Tryz.prog 77 #[.slice A m c] w fun e w' => e = .returned (.tuple #[.int .i64 (ckI p), .int .i64 (ckE p)]) ∧ Same w w' := by
 have HL := Lib.hid hl
 have HP := Lib.hid hp
 by_cases hsz : m < 1 ∨ 64 < m
 ·have hck := ck_of (check_size (right := rightI) (p := p) (by rw [hl]; exact hsz))
  rw [hck.1, hck.2]
  by_cases h0 : m = 0
  ·subst h0
   clear hl hp hsz hck hm
   go_enter Tryz.func77, Tryz.ntmps77
   go_wp2_with fail
   go_ret2
   exact ⟨rfl, Same.refl _⟩
  ·have b0 : decide ((m : Int) < 1) = false := by simp; omega
   have b1 : decide ((64 : Int) < (m : Int)) = true := by simp; omega
   clear hl hp hsz hck h0
   go_enter Tryz.func77, Tryz.ntmps77
   go_wp2_with fail
   go_ret2
   exact ⟨rfl, Same.refl _⟩
 ·have hs1 : 1 ≤ p.length ∧ p.length ≤ 64 := by omega
  have HSZ := Lib.hid hs1
  have b0 : decide ((m : Int) < 1) = false := by simp; omega
  have b1 : decide ((64 : Int) < (m : Int)) = false := by simp; omega
  have h64 : m ≤ 64 := by omega
  clear hl hp hsz hs1
  go_enter Tryz.func77, Tryz.ntmps77
  go_wp2_with fail
  go_loopg [26] m (fun gk iv wx => ∃ k : Nat, k + gk = m ∧ iv = .int .i64 k ∧ (∀ j, j < k → rightI (Fp.at_ p j) = true) ∧ Same w wx)
  case atStart => exact ⟨0, by omega, rfl, fun j hj => by omega, Same.refl _⟩
  case round =>
   obtain ⟨k, hk, rfl, hri, sx⟩ := hrel
   have HRI := Lib.hid hri
   have HS := Lib.hid sx
   clear hri sx
   cases gk with
   | succ GK =>
    have hlt : (k : Int) < m := by omega
    have hkp : k < p.length := by have := HL.out; omega
    obtain ⟨hok, b, o, rfl, c0, c1, c2, c3, c4⟩ := (HP.out.same HS.out).at_ (k := k) hkp
    have hx := rfl (a := Fp.at_ p k)
    have HKP := Lib.hid hkp
    clear hkp hx
    obtain ⟨x, hx⟩ : ∃ x, x = Fp.at_ p k := ⟨_, rfl⟩
    rw [← hx] at c0 c1 c2 c3 c4 hok
    have HX := Lib.hid hx
    clear hx
    have hs2 := (Same.refl wr).alloc (.cells #[.int .i64 x.op, .int .i64 x.a, .int .i64 x.b, .int .i64 x.c, .int .u32 x.n] 70)
    have HS2 := Lib.hid (HS.out.trans hs2)
    have RA := Lib.hid (fun w' => rright_any x.op x.a x.b x.c x.n hok w')
    unfold ins at RA
    clear hs2
    go_wp2_with fail
    refine (RA.out _).mono ?_
    rintro e w1 ⟨rfl, s1⟩
    cases hr : rightB x.op x.a x.b x.c x.n
    ·have HRF : Hid (rightI (Fp.at_ p k) = false) := Lib.hid (by rw [← HX.out]; exact hr)
     clear hr
     go_wp2_with fail
     go_ret2
     have := ck_of (check_form HSZ.out HKP.out HRF.out HRI.out)
     exact ⟨ret_ii this.1.symm this.2.symm, HS2.out.trans s1⟩
    ·have HRT : Hid (rightI (Fp.at_ p k) = true) := Lib.hid (by rw [← HX.out]; exact hr)
     clear hr
     go_wp2_with fail
     go_roundg GK
     case rel =>
      refine ⟨k + 1, by omega, by go_num, ?_, HS2.out.trans s1⟩
      intro i hi
      rcases Nat.lt_or_ge i k with h1 | h1
      ·exact HRI.out i h1
      ·have : i = k := by omega
       subst this
       exact HRT.out
     case measure => omega
   | zero =>
    obtain rfl : k = m := by omega
    have hge : ¬ (k : Int) < (k : Int) := by omega
    have HR1 : Hid (∀ j, j < p.length → rightI (Fp.at_ p j) = true) := Lib.hid (fun j hj => HRI.out j (by have := HL.out; omega))
    clear HRI
    go_wp2_with fail
    go_loopg [38] k (fun gk iv wx => ∃ i : Nat, i + gk = k ∧ iv = .int .i64 i ∧ (∀ j, j < i → strayB p j = false) ∧ Same w wx)
    case atStart => exact ⟨0, by omega, rfl, fun j hj => by omega, HS.out⟩
    case round =>
     obtain ⟨i, hi, rfl, hst, sx⟩ := hrel
     have HST := Lib.hid hst
     have HS3 := Lib.hid sx
     clear hst sx HS
     cases gk with
     | succ GK =>
      have hlt : (i : Int) < k := by omega
      have hik : i < k := by omega
      have HIP : Hid (i < p.length) := Lib.hid (by have := HL.out; omega)
      obtain ⟨hok, b, o, rfl, c0, c1, c2, c3, c4⟩ := (HP.out.same HS3.out).at_ (k := i) HIP.out
      have HSB : Hid (strayB p i = if (Fp.at_ p i).op = 16 then decide ((i : Int) ≤ (Fp.at_ p i).n) else if (Fp.at_ p i).op = 14 ∨ (Fp.at_ p i).op = 15 then decide ((Fp.at_ p i).n ≤ (i : Int) ∨ (k : Int) ≤ (Fp.at_ p i).n) else false) := Lib.hid (by rw [← HL.out]; rfl)
      generalize Fp.at_ p i = x at *
      have hn := hok
      unfold Ins.ok at hn
      have f1 := i64_of x.n (by omega)
      have hs2 := (Same.refl wr).alloc (.cells #[.int .i64 x.op, .int .i64 x.a, .int .i64 x.b, .int .i64 x.c, .int .u32 x.n] 70)
      have HS2 := Lib.hid (HS3.out.trans hs2)
      clear hs2
      by_cases h16 : x.op = 16
      ·have e14 : (x.op == 14) = false := by rw [h16]; rfl
       have e15 : (x.op == 15) = false := by rw [h16]; rfl
       by_cases hg1 : (i : Int) ≤ x.n
       ·have b16 : (x.op == 16) = true := by simpa using h16
        have g1 : decide ((i : Int) ≤ x.n) = true := decide_eq_true hg1
        have HSF : Hid (strayB p i = true) := Lib.hid (by rw [HSB.out, if_pos h16, decide_eq_true hg1])
        try clear h16
        try clear h14
        try clear h15
        try clear hop
        go_wp2_with fail
        go_ret2
        have := ck_of (check_flow HSZ.out HR1.out HIP.out HSF.out HST.out)
        exact ⟨ret_ii this.1.symm this.2.symm, HS2.out⟩
       ·have b16 : (x.op == 16) = true := by simpa using h16
        have g1 : decide ((i : Int) ≤ x.n) = false := decide_eq_false hg1
        have HSF : Hid (strayB p i = false) := Lib.hid (by rw [HSB.out, if_pos h16, decide_eq_false hg1])
        try clear h16
        try clear h14
        try clear h15
        try clear hop
        go_wp2_with fail
        go_roundg GK
        case rel =>
         refine ⟨i + 1, by omega, by go_num, ?_, HS2.out⟩
         intro j hj
         rcases Nat.lt_or_ge j i with h1 | h1
         ·exact HST.out j h1
         ·have : j = i := by omega
          subst this
          exact HSF.out
        case measure => omega
      ·by_cases h14 : x.op = 14
       ·have hop : x.op = 14 ∨ x.op = 15 := .inl h14
        by_cases hg2 : x.n ≤ (i : Int)
        ·have b16 : (x.op == 16) = false := by simpa using h16
         have b14 : (x.op == 14) = true := by simpa using h14
         have g2 : decide (x.n ≤ (i : Int)) = true := decide_eq_true hg2
         have HSF : Hid (strayB p i = true) := Lib.hid (by rw [HSB.out, if_neg h16, if_pos hop, decide_eq_true (.inl hg2)])
         try clear h16
         try clear h14
         try clear h15
         try clear hop
         go_wp2_with fail
         go_ret2
         have := ck_of (check_flow HSZ.out HR1.out HIP.out HSF.out HST.out)
         exact ⟨ret_ii this.1.symm this.2.symm, HS2.out⟩
        ·by_cases hg3 : (k : Int) ≤ x.n
         ·have b16 : (x.op == 16) = false := by simpa using h16
          have b14 : (x.op == 14) = true := by simpa using h14
          have g2 : decide (x.n ≤ (i : Int)) = false := decide_eq_false hg2
          have g3 : decide ((k : Int) ≤ x.n) = true := decide_eq_true hg3
          have HSF : Hid (strayB p i = true) := Lib.hid (by rw [HSB.out, if_neg h16, if_pos hop, decide_eq_true (.inr hg3)])
          try clear h16
          try clear h14
          try clear h15
          try clear hop
          go_wp2_with fail
          go_ret2
          have := ck_of (check_flow HSZ.out HR1.out HIP.out HSF.out HST.out)
          exact ⟨ret_ii this.1.symm this.2.symm, HS2.out⟩
         ·have b16 : (x.op == 16) = false := by simpa using h16
          have b14 : (x.op == 14) = true := by simpa using h14
          have g2 : decide (x.n ≤ (i : Int)) = false := decide_eq_false hg2
          have g3 : decide ((k : Int) ≤ x.n) = false := decide_eq_false hg3
          have HSF : Hid (strayB p i = false) := Lib.hid (by rw [HSB.out, if_neg h16, if_pos hop, decide_eq_false (fun h => h.elim hg2 hg3)])
          try clear h16
          try clear h14
          try clear h15
          try clear hop
          go_wp2_with fail
          go_roundg GK
          case rel =>
           refine ⟨i + 1, by omega, by go_num, ?_, HS2.out⟩
           intro j hj
           rcases Nat.lt_or_ge j i with h1 | h1
           ·exact HST.out j h1
           ·have : j = i := by omega
            subst this
            exact HSF.out
          case measure => omega
       ·by_cases h15 : x.op = 15
        ·have hop : x.op = 14 ∨ x.op = 15 := .inr h15
         by_cases hg2 : x.n ≤ (i : Int)
         ·have b16 : (x.op == 16) = false := by simpa using h16
          have b14 : (x.op == 14) = false := by simpa using h14
          have b15 : (x.op == 15) = true := by simpa using h15
          have g2 : decide (x.n ≤ (i : Int)) = true := decide_eq_true hg2
          have HSF : Hid (strayB p i = true) := Lib.hid (by rw [HSB.out, if_neg h16, if_pos hop, decide_eq_true (.inl hg2)])
          try clear h16
          try clear h14
          try clear h15
          try clear hop
          go_wp2_with fail
          go_ret2
          have := ck_of (check_flow HSZ.out HR1.out HIP.out HSF.out HST.out)
          exact ⟨ret_ii this.1.symm this.2.symm, HS2.out⟩
         ·by_cases hg3 : (k : Int) ≤ x.n
          ·have b16 : (x.op == 16) = false := by simpa using h16
           have b14 : (x.op == 14) = false := by simpa using h14
           have b15 : (x.op == 15) = true := by simpa using h15
           have g2 : decide (x.n ≤ (i : Int)) = false := decide_eq_false hg2
           have g3 : decide ((k : Int) ≤ x.n) = true := decide_eq_true hg3
           have HSF : Hid (strayB p i = true) := Lib.hid (by rw [HSB.out, if_neg h16, if_pos hop, decide_eq_true (.inr hg3)])
           try clear h16
           try clear h14
           try clear h15
           try clear hop
           go_wp2_with fail
           go_ret2
           have := ck_of (check_flow HSZ.out HR1.out HIP.out HSF.out HST.out)
           exact ⟨ret_ii this.1.symm this.2.symm, HS2.out⟩
          ·have b16 : (x.op == 16) = false := by simpa using h16
           have b14 : (x.op == 14) = false := by simpa using h14
           have b15 : (x.op == 15) = true := by simpa using h15
           have g2 : decide (x.n ≤ (i : Int)) = false := decide_eq_false hg2
           have g3 : decide ((k : Int) ≤ x.n) = false := decide_eq_false hg3
           have HSF : Hid (strayB p i = false) := Lib.hid (by rw [HSB.out, if_neg h16, if_pos hop, decide_eq_false (fun h => h.elim hg2 hg3)])
           try clear h16
           try clear h14
           try clear h15
           try clear hop
           go_wp2_with fail
           go_roundg GK
           case rel =>
            refine ⟨i + 1, by omega, by go_num, ?_, HS2.out⟩
            intro j hj
            rcases Nat.lt_or_ge j i with h1 | h1
            ·exact HST.out j h1
            ·have : j = i := by omega
             subst this
             exact HSF.out
           case measure => omega
        ·have b16 : (x.op == 16) = false := by simpa using h16
         have b14 : (x.op == 14) = false := by simpa using h14
         have b15 : (x.op == 15) = false := by simpa using h15
         have HSF : Hid (strayB p i = false) := Lib.hid (by rw [HSB.out, if_neg h16, if_neg (fun h => h.elim h14 h15)])
         try clear h16
         try clear h14
         try clear h15
         try clear hop
         go_wp2_with fail
         go_roundg GK
         case rel =>
          refine ⟨i + 1, by omega, by go_num, ?_, HS2.out⟩
          intro j hj
          rcases Nat.lt_or_ge j i with h1 | h1
          ·exact HST.out j h1
          ·have : j = i := by omega
           subst this
           exact HSF.out
         case measure => omega
     | zero =>
      obtain rfl : i = k := by omega
      have hge : ¬ (i : Int) < (i : Int) := by omega
      have HR2 : Hid (∀ j, j < p.length → strayB p j = false) := Lib.hid (fun j hj => HST.out j (by have := HL.out; omega))
      clear HST
      have LO := Lib.hid (rloops_any A i c p wr HL.out hm (HP.out.same HS3.out))
      go_wp2_with fail
      refine LO.out.mono ?_
      rintro e w1 ⟨LA, lc, rfl, ho, s1⟩
      have HS4 := Lib.hid (HS3.out.trans s1)
      have HSP := Lib.hid (spn_of ho.row)
      have hlen := loopsTo_len (p := p) p.length
      have HLE : Hid ((loopsL p).length ≤ i) := Lib.hid (by have := HL.out; unfold loopsL; omega)
      have HPN := Lib.hid HP.out.nn
      have HOV : Hid (∀ j k, j < k → k < (loopsL p).length → overR ((lp (loopsL p) j).1, (lp (loopsL p) j).2) ((lp (loopsL p) k).1, (lp (loopsL p) k).2) = overB (lp (loopsL p) j) (lp (loopsL p) k)) := Lib.hid (fun j k hj hk => by
       have h1 := loop_in HR2.out HPN.out (lp_mem (l := loopsL p) (k := j) (by omega))
       have h2 := loop_in HR2.out HPN.out (lp_mem (l := loopsL p) (k := k) hk)
       have h3 := lp_lt hj hk
       exact overR_eq ⟨h1.1, h1.2.1⟩ ⟨h2.1, h2.2.1, by have := HL.out; have := HSZ.out; simp only; omega⟩ h3)
      clear ho hlen s1 LO
      obtain ⟨ln, hln⟩ : ∃ ln, ln = (loopsL p).length := ⟨_, rfl⟩
      rw [← hln]
      have HLN := Lib.hid hln
      have h64l : ln ≤ 64 := by have := HLE.out; omega
      clear hln
      go_wp2_with fail
      go_loopg [81] ln (fun gk iv wx => ∃ k : Nat, k + gk = ln ∧ iv = .int .i64 k ∧ (∀ j, j < k → overAt (loopsL p) j = false) ∧ Same w1 wx)
      case atStart => exact ⟨0, by omega, rfl, fun j hj => by omega, Same.refl _⟩
      case round =>
       obtain ⟨k, hk, rfl, hno, sx⟩ := hrel
       have HNO := Lib.hid hno
       have HS5 := Lib.hid sx
       clear hno sx
       cases gk with
       | succ GK =>
        have hltk : (k : Int) < ln := by omega
        have hk0 : (0 : Int) ≤ k := by omega
        have HKL : Hid (k < (loopsL p).length) := Lib.hid (by have := HLN.out; omega)
        go_wp2_with fail
        go_loopg [11] k (fun gk jv wx => ∃ j : Nat, j + gk = k ∧ jv = .int .i64 j ∧ (∀ q, q < j → overB (lp (loopsL p) q) (lp (loopsL p) k) = false) ∧ Same w1 wx)
        case atStart => exact ⟨0, by omega, rfl, fun j hj => by omega, HS5.out⟩
        case round =>
         obtain ⟨j, hj, rfl, hno2, sx2⟩ := hrel
         have HN2 := Lib.hid hno2
         have HS6 := Lib.hid sx2
         clear hno2 sx2 HS5
         cases gk with
         | zero =>
          obtain rfl : j = k := by omega
          have hge2 : ¬ (j : Int) < (j : Int) := by omega
          go_wp2_with fail
          go_roundg GK
          case rel =>
           refine ⟨j + 1, by omega, by go_num, ?_, HS6.out⟩
           intro q hq
           rcases Nat.lt_or_ge q j with h1 | h1
           ·exact HNO.out q h1
           ·have : q = j := by omega
            subst this
            exact overAt_no HN2.out
          case measure => omega
         | succ G2 =>
          have hjlt : (j : Int) < k := by omega
          have hjln : (j : Int) < ln := by omega
          have hj0 : (0 : Int) ≤ j := by omega
          have hjn : j < ln := by omega
          have hkn : k < ln := by omega
          obtain ⟨lb, lo, rfl, d0, d1⟩ := (HSP.out.same HS6.out).at_ (k := j) (by have := HLN.out; omega)
          obtain ⟨lb', lo', hA2, z0, z1⟩ := (HSP.out.same HS6.out).at_ (k := k) HKL.out
          injection hA2 with hA2
          injection hA2 with e1 e2
          subst e1
          subst e2
          have HO1 := Lib.hid (HOV.out j k (by omega) HKL.out)
          have HYES : Hid (overB (lp (loopsL p) j) (lp (loopsL p) k) = true → overAt (loopsL p) k = true) := Lib.hid (fun h => overAt_yes (by omega) h)
          obtain ⟨s, hs⟩ : ∃ s, s = lp (loopsL p) j := ⟨_, rfl⟩
          obtain ⟨t, ht⟩ : ∃ t, t = lp (loopsL p) k := ⟨_, rfl⟩
          rw [← hs] at d0 d1
          rw [← ht] at z0 z1
          have HSJ := Lib.hid hs
          have HTK := Lib.hid ht
          have RO := fun w' => roverlap_any s.1 s.2 t.1 t.2 w'
          obtain ⟨u, hu⟩ : ∃ u, u = overR (s.1, s.2) (t.1, t.2) := ⟨_, rfl⟩
          rw [← hu] at RO
          have HU : Hid (u = overB (lp (loopsL p) j) (lp (loopsL p) k)) := Lib.hid (by rw [hu, ← HO1.out, ← HSJ.out, ← HTK.out])
          clear hu hs ht
          go_wp2_with fail
          go_region_held3 (fun w' => w'.cell? ⟨lb, lo + j * 2, none⟩ = some (.int .i64 s.1) ∧ w'.cell? ⟨lb, lo + j * 2 + 1, none⟩ = some (.int .i64 s.2) ∧ w'.cell? ⟨lb, lo + k * 2, none⟩ = some (.int .i64 t.1) ∧ w'.cell? ⟨lb, lo + k * 2 + 1, none⟩ = some (.int .i64 t.2) ∧ Same wr w')
           (first | (with_reducible assumption) | exact ⟨d0, d1, z0, z1, (Same.refl wr).drew⟩ | (rcases ‹_ ∧ _ ∧ _ ∧ _ ∧ Same wr _› with ⟨x0, x1, x2, x3, x9⟩; exact ⟨hs.cell x0, hs.cell x1, hs.cell x2, hs.cell x3, x9.trans hs⟩))
           (first | (go_at_call 97; ((with_reducible refine (RO _).mono ?_); rintro e w' ⟨rfl, hs⟩)))
          rcases ‹_ ∧ _ ∧ _ ∧ _ ∧ Same wr _› with ⟨x0, x1, x2, x3, x9⟩
          have HS7 := Lib.hid (HS6.out.trans x9)
          clear x9
          cases u
          ·go_wp2_with fail
           go_roundg G2
           case rel =>
            refine ⟨j + 1, by omega, by go_num, ?_, HS7.out⟩
            intro q hq
            rcases Nat.lt_or_ge q j with h1 | h1
            ·exact HN2.out q h1
            ·have : q = j := by omega
             subst this
             exact HU.out.symm
           case measure => omega
          ·go_wp2_with fail
           go_ret2
           have := ck_of (check_over HSZ.out HR1.out HR2.out HKL.out (HYES.out HU.out.symm) HNO.out)
           exact ⟨ret_ii (by rw [this.1, HTK.out]) this.2.symm, HS4.out.trans HS7.out⟩
       | zero =>
        obtain rfl : k = ln := by omega
        have hgk : ¬ (k : Int) < (k : Int) := by omega
        have HR3 : Hid (∀ j, j < (loopsL p).length → overAt (loopsL p) j = false) := Lib.hid (fun j hj => HNO.out j (by have := HLN.out; omega))
        have HS8 := Lib.hid (HS4.out.trans HS5.out)
        have HSQ := Lib.hid (HSP.out.same HS5.out)
        clear HNO HS5
        go_wp2_with fail
        have HSR := Lib.hid (Same.refl wr)
        have HLO := Lib.hid HSQ.out
        obtain ⟨w2, hw2⟩ : ∃ w2, w2 = wr := ⟨_, rfl⟩
        rw [← hw2] at HS8 HSQ ⊢
        clear hw2 HSR HLO
        go_loopg [106] i (fun gk iv wx => ∃ r : Nat, r + gk = i ∧ iv = .int .i64 r ∧ (∀ j, j < r → crossAt p (loopsL p) j = false) ∧ Same w2 wx)
        case atStart => exact ⟨0, by omega, rfl, fun j hj => by omega, Same.refl _⟩
        case round =>
         obtain ⟨r, hr, rfl, hno, sx⟩ := hrel
         have HNO := Lib.hid hno
         have HS9 := Lib.hid sx
         clear hno sx
         cases gk with
         | succ GK =>
          have hltr : (r : Int) < i := by omega
          have hrp : r < p.length := by have := HL.out; omega
          have HRP := Lib.hid hrp
          obtain ⟨hok, b, o, rfl, c0, c1, c2, c3, c4⟩ := (HP.out.same (HS8.out.trans HS9.out)).at_ (k := r) hrp
          have HYES := Lib.hid (fun (j : Nat) => crossAt_yes (p := p) (l := loopsL p) (j := j) (k := r))
          have HNOT := Lib.hid (crossAt_not (p := p) (l := loopsL p) (k := r))
          have HNO2 := Lib.hid (crossAt_no (p := p) (l := loopsL p) (k := r))
          have NEXT : Hid (crossAt p (loopsL p) r = false → ∀ j, j < r + 1 → crossAt p (loopsL p) j = false) := Lib.hid (fun h q hq => by
           rcases Nat.lt_or_ge q r with h1 | h1
           ·exact HNO.out q h1
           ·have : q = r := by omega
            subst this
            exact h)
          clear hrp
          generalize Fp.at_ p r = x at *
          have hn := hok
          unfold Ins.ok at hn
          have f1 := i64_of x.n (by omega)
          have hs2 := (Same.refl wr).alloc (.cells #[.int .i64 x.op, .int .i64 x.a, .int .i64 x.b, .int .i64 x.c, .int .u32 x.n] 70)
          have hb2 := Blk.new wr 70 #[.int .i64 x.op, .int .i64 x.a, .int .i64 x.b, .int .i64 x.c, .int .u32 x.n]
          have HSA := Lib.hid (HS9.out.trans hs2)
          have HBA := Lib.hid hb2
          clear hs2 hb2
          go_wp2_with fail
          generalize wr.heap.size = qx at *
          generalize wr.alloc (.cells #[.int .i64 x.op, .int .i64 x.a, .int .i64 x.b, .int .i64 x.c, .int .u32 x.n] 70) = wa at *
          clear c0 c1 c2 c3 c4
          go_loopg [113] k (fun gk jv wx => ∃ j : Nat, j + gk = k ∧ jv = .int .i64 j ∧ ((x.op = 14 ∨ x.op = 15) → ∀ q, q < j → (hasB (lp (loopsL p) q) (r : Int) != hasB (lp (loopsL p) q) x.n) = false) ∧ Same w2 wx ∧ Blk wx qx 70 #[.int .i64 x.op, .int .i64 x.a, .int .i64 x.b, .int .i64 x.c, .int .u32 x.n])
          case atStart => exact ⟨0, by omega, rfl, fun _ j hj => by omega, HSA.out, HBA.out⟩
          case round =>
           obtain ⟨j, hj, rfl, hno2, sx2, bx⟩ := hrel
           have HN2 := Lib.hid hno2
           have HSB := Lib.hid sx2
           have HBX := Lib.hid bx
           clear hno2 sx2 bx HSA HBA
           cases gk with
           | zero =>
            obtain rfl : j = k := by omega
            have hge2 : ¬ (j : Int) < (j : Int) := by omega
            go_wp2_with fail
            go_roundg GK
            case rel =>
             refine ⟨r + 1, by omega, by go_num, NEXT.out ?_, HSB.out⟩
             by_cases hop : x.op = 14 ∨ x.op = 15
             ·exact HNO2.out fun q hq => HN2.out hop q (by have := HLN.out; omega)
             ·exact HNOT.out hop
            case measure => omega
           | succ G2 =>
            have hjlt : (j : Int) < k := by omega
            obtain ⟨lb, lo, rfl, d0, d1⟩ := (HSQ.out.same HSB.out).at_ (k := j) (by have := HLN.out; omega)
            obtain ⟨t, htx⟩ : ∃ t, t = lp (loopsL p) j := ⟨_, rfl⟩
            rw [← htx] at d0 d1
            have HTX := Lib.hid htx
            clear htx
            have hs4 := (Same.refl wr).alloc (.cells #[.int .i64 t.1, .int .i64 t.2] 97)
            have hb4 := Blk.new wr 97 #[.int .i64 t.1, .int .i64 t.2]
            have HS4' := Lib.hid (HSB.out.trans hs4)
            have HBX4 := Lib.hid (HBX.out.same hs4)
            have HB4 := Lib.hid hb4
            have HA := fun w' => rin_any t.1 t.2 r w'
            have HB := fun w' => rin_any t.1 t.2 x.n w'
            obtain ⟨u, hu⟩ : ∃ u, u = hasB (t.1, t.2) (r : Int) := ⟨_, rfl⟩
            obtain ⟨v, hv⟩ : ∃ v, v = hasB (t.1, t.2) x.n := ⟨_, rfl⟩
            rw [← hu] at HA
            rw [← hv] at HB
            have HU := Lib.hid hu
            have HV := Lib.hid hv
            clear hs4 hb4 hu hv
            go_wp2_with fail
            generalize wr.heap.size = q at *
            generalize wr.alloc (.cells #[.int .i64 t.1, .int .i64 t.2] 97) = w4 at *
            clear d0 d1
            have ST0 : w4.drew.cell? ⟨qx, 0, none⟩ = some (.int .i64 x.op) ∧ w4.drew.cell? ⟨qx, 4, none⟩ = some (.int .u32 x.n) ∧ w4.drew.cell? ⟨q, 0, none⟩ = some (.int .i64 t.1) ∧ w4.drew.cell? ⟨q, 1, none⟩ = some (.int .i64 t.2) ∧ Same w4 w4.drew := ⟨HBX4.out.cell 0, HBX4.out.cell 4, HB4.out.cell 0, HB4.out.cell 1, (Same.refl w4).drew⟩
            have HST0 := Lib.hid ST0
            clear ST0
            have hsk : ∀ {wa wb : World}, (wa.cell? ⟨qx, 0, none⟩ = some (.int .i64 x.op) ∧ wa.cell? ⟨qx, 4, none⟩ = some (.int .u32 x.n) ∧ wa.cell? ⟨q, 0, none⟩ = some (.int .i64 t.1) ∧ wa.cell? ⟨q, 1, none⟩ = some (.int .i64 t.2) ∧ Same w4 wa) → Same wa wb → wb.cell? ⟨qx, 0, none⟩ = some (.int .i64 x.op) ∧ wb.cell? ⟨qx, 4, none⟩ = some (.int .u32 x.n) ∧ wb.cell? ⟨q, 0, none⟩ = some (.int .i64 t.1) ∧ wb.cell? ⟨q, 1, none⟩ = some (.int .i64 t.2) ∧ Same w4 wb := fun h s => ⟨s.cell h.1, s.cell h.2.1, s.cell h.2.2.1, s.cell h.2.2.2.1, h.2.2.2.2.trans s⟩
            have HSK := Lib.hid (fun (wa wb : World) => hsk (wa := wa) (wb := wb))
            clear hsk
            by_cases h14 : x.op = 14
            ·have b14 : (x.op == 14) = true := by simpa using h14
             have b15 : (x.op == 15) = false := by rw [h14]; rfl
             have HOPX : Hid (x.op = 14 ∨ x.op = 15) := Lib.hid (.inl h14)
             clear h14
             cases u <;> cases v
             all_goals
              refine wp_region_held_drew (S := fun w' => w'.cell? ⟨qx, 0, none⟩ = some (.int .i64 x.op) ∧ w'.cell? ⟨qx, 4, none⟩ = some (.int .u32 x.n) ∧ w'.cell? ⟨q, 0, none⟩ = some (.int .i64 t.1) ∧ w'.cell? ⟨q, 1, none⟩ = some (.int .i64 t.2) ∧ Same w4 w') (by kernel_rfl) ?_ (fun hHeld => ?_)
              ·exact HST0.out
              first
               | (refine Ro.tf 0 ?_)
               | (refine Ro.tn 0 ?_ ?_ ?_; rotate_left; · (intro wS hSw; (try dsimp only at hSw); go_simp; try with_reducible rfl))
              try simp only [Ro.p]
              first
               | (refine Ro.tf 1 ?_)
               | (refine Ro.tn 1 ?_ ?_ ?_; rotate_left; · (intro wS hSw; (try dsimp only at hSw); go_simp; try with_reducible rfl))
              try simp only [Ro.p]
              first
               | (refine Ro.tf 2 ?_)
               | (refine Ro.tn 2 ?_ ?_ ?_; rotate_left; · (intro wS hSw; (try dsimp only at hSw); go_simp; try with_reducible rfl))
              try simp only [Ro.p]
              first
               | (refine Ro.tf 3 ?_)
               | (refine Ro.tn 3 ?_ ?_ ?_; rotate_left; · (intro wS hSw; (try dsimp only at hSw); go_simp; try with_reducible rfl))
              try simp only [Ro.p]
              first
               | (refine Ro.tf 4 ?_)
               | (refine Ro.tn 4 ?_ ?_ ?_; rotate_left; · (intro wS hSw; (try dsimp only at hSw); go_simp; try with_reducible rfl))
              try simp only [Ro.p]
              first
               | (refine Ro.tf 5 ?_)
               | (refine Ro.tn 5 ?_ ?_ ?_; rotate_left; · (intro wS hSw; (try dsimp only at hSw); go_simp; try with_reducible rfl))
              try simp only [Ro.p]
              first
               | (refine Ro.tf 6 ?_)
               | (refine Ro.tn 6 ?_ ?_ ?_; rotate_left; · (intro wS hSw; (try dsimp only at hSw); go_simp; try with_reducible rfl))
              try simp only [Ro.p]
              first
               | (refine Ro.tf 7 ?_)
               | (refine Ro.tn 7 ?_ ?_ ?_; rotate_left; · (intro wS hSw; (try dsimp only at hSw); go_simp; try with_reducible rfl))
              try simp only [Ro.p]
              first
               | (refine Ro.tf 8 ?_)
               | (refine Ro.tn 8 ?_ ?_ ?_; rotate_left; · (intro wS hSw; (try dsimp only at hSw); go_simp; try with_reducible rfl))
              try simp only [Ro.p]
              first
               | (refine Ro.tf 9 ?_)
               | (refine Ro.tn 9 ?_ ?_ ?_; rotate_left; · (intro wS hSw; (try dsimp only at hSw); go_simp; try with_reducible rfl))
              try simp only [Ro.p]
              first
               | (refine Ro.tf 10 ?_)
               | (refine Ro.tn 10 ?_ ?_ ?_; rotate_left; · (intro wS hSw; (try dsimp only at hSw); go_simp; try with_reducible rfl))
              try simp only [Ro.p]
              first
               | (refine Ro.tf 12 ?_)
               | (refine Ro.tn 12 ?_ ?_ ?_; rotate_left; · (intro wS hSw; (try dsimp only at hSw); go_simp; try with_reducible rfl))
              try simp only [Ro.p]
              first
               | (refine Ro.tf 13 ?_)
               | (refine Ro.tn 13 ?_ ?_ ?_; rotate_left; · (intro wS hSw; (try dsimp only at hSw); go_simp; try with_reducible rfl))
              try simp only [Ro.p]
              first
               | (refine Ro.tf 14 ?_)
               | (refine Ro.tn 14 ?_ ?_ ?_; rotate_left; · (intro wS hSw; (try dsimp only at hSw); go_simp; try with_reducible rfl))
              try simp only [Ro.p]
              first
               | (refine Ro.tf 15 ?_)
               | (refine Ro.tn 15 ?_ ?_ ?_; rotate_left; · (intro wS hSw; (try dsimp only at hSw); go_simp; try with_reducible rfl))
              try simp only [Ro.p]
              first
               | (refine Ro.tf 11 ?_)
               | (refine Ro.one_on (i := 11) rfl (by kernel_rfl) (by rfl) (fun K hK => ?_); go_simp; go_at_call 98; (with_reducible refine (HA _).mono ?_); rintro e w' ⟨rfl, hs9⟩; (first | refine hK.out _ _ ?_ (fun hNew => ?_) | (go_wp2_with fail; refine hK.out _ _ ?_ (fun hNew => ?_))); (· (exact HSK.out _ _ hHeld hs9)); clear hK K hHeld; have hHeld := hNew; clear hNew)
              try simp only [Ro.p]
              first
               | (refine Ro.tf 16 ?_)
               | (refine Ro.one_on (i := 16) rfl (by kernel_rfl) (by rfl) (fun K hK => ?_); go_simp; go_at_call 98; (with_reducible refine (HB _).mono ?_); rintro e w' ⟨rfl, hs9⟩; (first | refine hK.out _ _ ?_ (fun hNew => ?_) | (go_wp2_with fail; refine hK.out _ _ ?_ (fun hNew => ?_))); (· (exact HSK.out _ _ hHeld hs9)); clear hK K hHeld; have hHeld := hNew; clear hNew)
              try simp only [Ro.p]
              first
               | (refine Ro.tf 17 ?_)
               | (refine Ro.tn 17 ?_ ?_ ?_; rotate_left; · (intro wS hSw; (try dsimp only at hSw); go_simp; try with_reducible rfl))
              try simp only [Ro.p]
              first
               | (refine Ro.tf 18 ?_)
               | (refine Ro.tn 18 ?_ ?_ ?_; rotate_left; · (intro wS hSw; (try dsimp only at hSw); go_simp; try with_reducible rfl))
              try simp only [Ro.p]
              refine wpAnyH_done (by kernel_rfl) ?_ _
             ·have HS10 := Lib.hid (HS4'.out.trans hHeld.2.2.2.2)
              have HBX5 := Lib.hid (HBX4.out.same hHeld.2.2.2.2)
              clear hHeld
              go_wp2_with fail
              go_roundg G2
              case rel =>
               refine ⟨j + 1, by omega, by go_num, ?_, HS10.out, HBX5.out⟩
               intro hop2 q2 hq2
               rcases Nat.lt_or_ge q2 j with h1 | h1
               ·exact HN2.out hop2 q2 h1
               ·have : q2 = j := by omega
                subst this
                rw [← HTX.out]
                show (hasB (t.1, t.2) (r : Int) != hasB (t.1, t.2) x.n) = false
                rw [← HU.out, ← HV.out]
                rfl
              case measure => omega
             ·have HS10 := Lib.hid (HS4'.out.trans hHeld.2.2.2.2)
              clear hHeld
              go_wp2_with fail
              go_ret2
              have hy : crossAt p (loopsL p) r = true := HYES.out j HOPX.out (by have := HLN.out; omega) (by rw [← HTX.out]; show (hasB (t.1, t.2) (r : Int) != hasB (t.1, t.2) x.n) = true; rw [← HU.out, ← HV.out]; rfl)
              have := ck_of (check_cross HSZ.out HR1.out HR2.out HR3.out HRP.out hy HNO.out)
              exact ⟨ret_ii this.1.symm this.2.symm, HS8.out.trans HS10.out⟩
             ·have HS10 := Lib.hid (HS4'.out.trans hHeld.2.2.2.2)
              clear hHeld
              go_wp2_with fail
              go_ret2
              have hy : crossAt p (loopsL p) r = true := HYES.out j HOPX.out (by have := HLN.out; omega) (by rw [← HTX.out]; show (hasB (t.1, t.2) (r : Int) != hasB (t.1, t.2) x.n) = true; rw [← HU.out, ← HV.out]; rfl)
              have := ck_of (check_cross HSZ.out HR1.out HR2.out HR3.out HRP.out hy HNO.out)
              exact ⟨ret_ii this.1.symm this.2.symm, HS8.out.trans HS10.out⟩
             ·have HS10 := Lib.hid (HS4'.out.trans hHeld.2.2.2.2)
              have HBX5 := Lib.hid (HBX4.out.same hHeld.2.2.2.2)
              clear hHeld
              go_wp2_with fail
              go_roundg G2
              case rel =>
               refine ⟨j + 1, by omega, by go_num, ?_, HS10.out, HBX5.out⟩
               intro hop2 q2 hq2
               rcases Nat.lt_or_ge q2 j with h1 | h1
               ·exact HN2.out hop2 q2 h1
               ·have : q2 = j := by omega
                subst this
                rw [← HTX.out]
                show (hasB (t.1, t.2) (r : Int) != hasB (t.1, t.2) x.n) = false
                rw [← HU.out, ← HV.out]
                rfl
              case measure => omega
            ·by_cases h15 : x.op = 15
             ·have b14 : (x.op == 14) = false := by simpa using h14
              have b15 : (x.op == 15) = true := by simpa using h15
              have HOPX : Hid (x.op = 14 ∨ x.op = 15) := Lib.hid (.inr h15)
              clear h14 h15
              cases u <;> cases v
              all_goals
               refine wp_region_held_drew (S := fun w' => w'.cell? ⟨qx, 0, none⟩ = some (.int .i64 x.op) ∧ w'.cell? ⟨qx, 4, none⟩ = some (.int .u32 x.n) ∧ w'.cell? ⟨q, 0, none⟩ = some (.int .i64 t.1) ∧ w'.cell? ⟨q, 1, none⟩ = some (.int .i64 t.2) ∧ Same w4 w') (by kernel_rfl) ?_ (fun hHeld => ?_)
               ·exact HST0.out
               first
                | (refine Ro.tf 0 ?_)
                | (refine Ro.tn 0 ?_ ?_ ?_; rotate_left; · (intro wS hSw; (try dsimp only at hSw); go_simp; try with_reducible rfl))
               try simp only [Ro.p]
               first
                | (refine Ro.tf 1 ?_)
                | (refine Ro.tn 1 ?_ ?_ ?_; rotate_left; · (intro wS hSw; (try dsimp only at hSw); go_simp; try with_reducible rfl))
               try simp only [Ro.p]
               first
                | (refine Ro.tf 2 ?_)
                | (refine Ro.tn 2 ?_ ?_ ?_; rotate_left; · (intro wS hSw; (try dsimp only at hSw); go_simp; try with_reducible rfl))
               try simp only [Ro.p]
               first
                | (refine Ro.tf 3 ?_)
                | (refine Ro.tn 3 ?_ ?_ ?_; rotate_left; · (intro wS hSw; (try dsimp only at hSw); go_simp; try with_reducible rfl))
               try simp only [Ro.p]
               first
                | (refine Ro.tf 4 ?_)
                | (refine Ro.tn 4 ?_ ?_ ?_; rotate_left; · (intro wS hSw; (try dsimp only at hSw); go_simp; try with_reducible rfl))
               try simp only [Ro.p]
               first
                | (refine Ro.tf 5 ?_)
                | (refine Ro.tn 5 ?_ ?_ ?_; rotate_left; · (intro wS hSw; (try dsimp only at hSw); go_simp; try with_reducible rfl))
               try simp only [Ro.p]
               first
                | (refine Ro.tf 6 ?_)
                | (refine Ro.tn 6 ?_ ?_ ?_; rotate_left; · (intro wS hSw; (try dsimp only at hSw); go_simp; try with_reducible rfl))
               try simp only [Ro.p]
               first
                | (refine Ro.tf 7 ?_)
                | (refine Ro.tn 7 ?_ ?_ ?_; rotate_left; · (intro wS hSw; (try dsimp only at hSw); go_simp; try with_reducible rfl))
               try simp only [Ro.p]
               first
                | (refine Ro.tf 8 ?_)
                | (refine Ro.tn 8 ?_ ?_ ?_; rotate_left; · (intro wS hSw; (try dsimp only at hSw); go_simp; try with_reducible rfl))
               try simp only [Ro.p]
               first
                | (refine Ro.tf 9 ?_)
                | (refine Ro.tn 9 ?_ ?_ ?_; rotate_left; · (intro wS hSw; (try dsimp only at hSw); go_simp; try with_reducible rfl))
               try simp only [Ro.p]
               first
                | (refine Ro.tf 10 ?_)
                | (refine Ro.tn 10 ?_ ?_ ?_; rotate_left; · (intro wS hSw; (try dsimp only at hSw); go_simp; try with_reducible rfl))
               try simp only [Ro.p]
               first
                | (refine Ro.tf 12 ?_)
                | (refine Ro.tn 12 ?_ ?_ ?_; rotate_left; · (intro wS hSw; (try dsimp only at hSw); go_simp; try with_reducible rfl))
               try simp only [Ro.p]
               first
                | (refine Ro.tf 13 ?_)
                | (refine Ro.tn 13 ?_ ?_ ?_; rotate_left; · (intro wS hSw; (try dsimp only at hSw); go_simp; try with_reducible rfl))
               try simp only [Ro.p]
               first
                | (refine Ro.tf 14 ?_)
                | (refine Ro.tn 14 ?_ ?_ ?_; rotate_left; · (intro wS hSw; (try dsimp only at hSw); go_simp; try with_reducible rfl))
               try simp only [Ro.p]
               first
                | (refine Ro.tf 15 ?_)
                | (refine Ro.tn 15 ?_ ?_ ?_; rotate_left; · (intro wS hSw; (try dsimp only at hSw); go_simp; try with_reducible rfl))
               try simp only [Ro.p]
               first
                | (refine Ro.tf 11 ?_)
                | (refine Ro.one_on (i := 11) rfl (by kernel_rfl) (by rfl) (fun K hK => ?_); go_simp; go_at_call 98; (with_reducible refine (HA _).mono ?_); rintro e w' ⟨rfl, hs9⟩; (first | refine hK.out _ _ ?_ (fun hNew => ?_) | (go_wp2_with fail; refine hK.out _ _ ?_ (fun hNew => ?_))); (· (exact HSK.out _ _ hHeld hs9)); clear hK K hHeld; have hHeld := hNew; clear hNew)
               try simp only [Ro.p]
               first
                | (refine Ro.tf 16 ?_)
                | (refine Ro.one_on (i := 16) rfl (by kernel_rfl) (by rfl) (fun K hK => ?_); go_simp; go_at_call 98; (with_reducible refine (HB _).mono ?_); rintro e w' ⟨rfl, hs9⟩; (first | refine hK.out _ _ ?_ (fun hNew => ?_) | (go_wp2_with fail; refine hK.out _ _ ?_ (fun hNew => ?_))); (· (exact HSK.out _ _ hHeld hs9)); clear hK K hHeld; have hHeld := hNew; clear hNew)
               try simp only [Ro.p]
               first
                | (refine Ro.tf 17 ?_)
                | (refine Ro.tn 17 ?_ ?_ ?_; rotate_left; · (intro wS hSw; (try dsimp only at hSw); go_simp; try with_reducible rfl))
               try simp only [Ro.p]
               first
                | (refine Ro.tf 18 ?_)
                | (refine Ro.tn 18 ?_ ?_ ?_; rotate_left; · (intro wS hSw; (try dsimp only at hSw); go_simp; try with_reducible rfl))
               try simp only [Ro.p]
               refine wpAnyH_done (by kernel_rfl) ?_ _
              ·have HS10 := Lib.hid (HS4'.out.trans hHeld.2.2.2.2)
               have HBX5 := Lib.hid (HBX4.out.same hHeld.2.2.2.2)
               clear hHeld
               go_wp2_with fail
               go_roundg G2
               case rel =>
                refine ⟨j + 1, by omega, by go_num, ?_, HS10.out, HBX5.out⟩
                intro hop2 q2 hq2
                rcases Nat.lt_or_ge q2 j with h1 | h1
                ·exact HN2.out hop2 q2 h1
                ·have : q2 = j := by omega
                 subst this
                 rw [← HTX.out]
                 show (hasB (t.1, t.2) (r : Int) != hasB (t.1, t.2) x.n) = false
                 rw [← HU.out, ← HV.out]
                 rfl
               case measure => omega
              ·have HS10 := Lib.hid (HS4'.out.trans hHeld.2.2.2.2)
               clear hHeld
               go_wp2_with fail
               go_ret2
               have hy : crossAt p (loopsL p) r = true := HYES.out j HOPX.out (by have := HLN.out; omega) (by rw [← HTX.out]; show (hasB (t.1, t.2) (r : Int) != hasB (t.1, t.2) x.n) = true; rw [← HU.out, ← HV.out]; rfl)
               have := ck_of (check_cross HSZ.out HR1.out HR2.out HR3.out HRP.out hy HNO.out)
               exact ⟨ret_ii this.1.symm this.2.symm, HS8.out.trans HS10.out⟩
              ·have HS10 := Lib.hid (HS4'.out.trans hHeld.2.2.2.2)
               clear hHeld
               go_wp2_with fail
               go_ret2
               have hy : crossAt p (loopsL p) r = true := HYES.out j HOPX.out (by have := HLN.out; omega) (by rw [← HTX.out]; show (hasB (t.1, t.2) (r : Int) != hasB (t.1, t.2) x.n) = true; rw [← HU.out, ← HV.out]; rfl)
               have := ck_of (check_cross HSZ.out HR1.out HR2.out HR3.out HRP.out hy HNO.out)
               exact ⟨ret_ii this.1.symm this.2.symm, HS8.out.trans HS10.out⟩
              ·have HS10 := Lib.hid (HS4'.out.trans hHeld.2.2.2.2)
               have HBX5 := Lib.hid (HBX4.out.same hHeld.2.2.2.2)
               clear hHeld
               go_wp2_with fail
               go_roundg G2
               case rel =>
                refine ⟨j + 1, by omega, by go_num, ?_, HS10.out, HBX5.out⟩
                intro hop2 q2 hq2
                rcases Nat.lt_or_ge q2 j with h1 | h1
                ·exact HN2.out hop2 q2 h1
                ·have : q2 = j := by omega
                 subst this
                 rw [← HTX.out]
                 show (hasB (t.1, t.2) (r : Int) != hasB (t.1, t.2) x.n) = false
                 rw [← HU.out, ← HV.out]
                 rfl
               case measure => omega
             ·have b14 : (x.op == 14) = false := by simpa using h14
              have b15 : (x.op == 15) = false := by simpa using h15
              have HNP : Hid (¬ (x.op = 14 ∨ x.op = 15)) := Lib.hid (fun h => h.elim h14 h15)
              clear h14 h15
              refine wp_region_held_drew (S := fun w' => w'.cell? ⟨qx, 0, none⟩ = some (.int .i64 x.op) ∧ w'.cell? ⟨qx, 4, none⟩ = some (.int .u32 x.n) ∧ w'.cell? ⟨q, 0, none⟩ = some (.int .i64 t.1) ∧ w'.cell? ⟨q, 1, none⟩ = some (.int .i64 t.2) ∧ Same w4 w') (by kernel_rfl) ?_ (fun hHeld => ?_)
              ·exact HST0.out
              first
               | (refine Ro.tf 0 ?_)
               | (refine Ro.tn 0 ?_ ?_ ?_; rotate_left; · (intro wS hSw; (try dsimp only at hSw); go_simp; try with_reducible rfl))
              try simp only [Ro.p]
              first
               | (refine Ro.tf 1 ?_)
               | (refine Ro.tn 1 ?_ ?_ ?_; rotate_left; · (intro wS hSw; (try dsimp only at hSw); go_simp; try with_reducible rfl))
              try simp only [Ro.p]
              first
               | (refine Ro.tf 2 ?_)
               | (refine Ro.tn 2 ?_ ?_ ?_; rotate_left; · (intro wS hSw; (try dsimp only at hSw); go_simp; try with_reducible rfl))
              try simp only [Ro.p]
              first
               | (refine Ro.tf 3 ?_)
               | (refine Ro.tn 3 ?_ ?_ ?_; rotate_left; · (intro wS hSw; (try dsimp only at hSw); go_simp; try with_reducible rfl))
              try simp only [Ro.p]
              first
               | (refine Ro.tf 4 ?_)
               | (refine Ro.tn 4 ?_ ?_ ?_; rotate_left; · (intro wS hSw; (try dsimp only at hSw); go_simp; try with_reducible rfl))
              try simp only [Ro.p]
              first
               | (refine Ro.tf 5 ?_)
               | (refine Ro.tn 5 ?_ ?_ ?_; rotate_left; · (intro wS hSw; (try dsimp only at hSw); go_simp; try with_reducible rfl))
              try simp only [Ro.p]
              first
               | (refine Ro.tf 6 ?_)
               | (refine Ro.tn 6 ?_ ?_ ?_; rotate_left; · (intro wS hSw; (try dsimp only at hSw); go_simp; try with_reducible rfl))
              try simp only [Ro.p]
              first
               | (refine Ro.tf 7 ?_)
               | (refine Ro.tn 7 ?_ ?_ ?_; rotate_left; · (intro wS hSw; (try dsimp only at hSw); go_simp; try with_reducible rfl))
              try simp only [Ro.p]
              first
               | (refine Ro.tf 8 ?_)
               | (refine Ro.tn 8 ?_ ?_ ?_; rotate_left; · (intro wS hSw; (try dsimp only at hSw); go_simp; try with_reducible rfl))
              try simp only [Ro.p]
              first
               | (refine Ro.tf 9 ?_)
               | (refine Ro.tn 9 ?_ ?_ ?_; rotate_left; · (intro wS hSw; (try dsimp only at hSw); go_simp; try with_reducible rfl))
              try simp only [Ro.p]
              first
               | (refine Ro.tf 10 ?_)
               | (refine Ro.tn 10 ?_ ?_ ?_; rotate_left; · (intro wS hSw; (try dsimp only at hSw); go_simp; try with_reducible rfl))
              try simp only [Ro.p]
              first
               | (refine Ro.tf 12 ?_)
               | (refine Ro.tn 12 ?_ ?_ ?_; rotate_left; · (intro wS hSw; (try dsimp only at hSw); go_simp; try with_reducible rfl))
              try simp only [Ro.p]
              first
               | (refine Ro.tf 13 ?_)
               | (refine Ro.tn 13 ?_ ?_ ?_; rotate_left; · (intro wS hSw; (try dsimp only at hSw); go_simp; try with_reducible rfl))
              try simp only [Ro.p]
              first
               | (refine Ro.tf 14 ?_)
               | (refine Ro.tn 14 ?_ ?_ ?_; rotate_left; · (intro wS hSw; (try dsimp only at hSw); go_simp; try with_reducible rfl))
              try simp only [Ro.p]
              first
               | (refine Ro.tf 15 ?_)
               | (refine Ro.tn 15 ?_ ?_ ?_; rotate_left; · (intro wS hSw; (try dsimp only at hSw); go_simp; try with_reducible rfl))
              try simp only [Ro.p]
              first
               | (refine Ro.tf 11 ?_)
               | (refine Ro.one_on (i := 11) rfl (by kernel_rfl) (by rfl) (fun K hK => ?_); go_simp; go_at_call 98; (with_reducible refine (HA _).mono ?_); rintro e w' ⟨rfl, hs9⟩; (first | refine hK.out _ _ ?_ (fun hNew => ?_) | (go_wp2_with fail; refine hK.out _ _ ?_ (fun hNew => ?_))); (· (exact HSK.out _ _ hHeld hs9)); clear hK K hHeld; have hHeld := hNew; clear hNew)
              try simp only [Ro.p]
              first
               | (refine Ro.tf 16 ?_)
               | (refine Ro.one_on (i := 16) rfl (by kernel_rfl) (by rfl) (fun K hK => ?_); go_simp; go_at_call 98; (with_reducible refine (HB _).mono ?_); rintro e w' ⟨rfl, hs9⟩; (first | refine hK.out _ _ ?_ (fun hNew => ?_) | (go_wp2_with fail; refine hK.out _ _ ?_ (fun hNew => ?_))); (· (exact HSK.out _ _ hHeld hs9)); clear hK K hHeld; have hHeld := hNew; clear hNew)
              try simp only [Ro.p]
              first
               | (refine Ro.tf 17 ?_)
               | (refine Ro.tn 17 ?_ ?_ ?_; rotate_left; · (intro wS hSw; (try dsimp only at hSw); go_simp; try with_reducible rfl))
              try simp only [Ro.p]
              first
               | (refine Ro.tf 18 ?_)
               | (refine Ro.tn 18 ?_ ?_ ?_; rotate_left; · (intro wS hSw; (try dsimp only at hSw); go_simp; try with_reducible rfl))
              try simp only [Ro.p]
              refine wpAnyH_done (by kernel_rfl) ?_ _
              have HS10 := Lib.hid (HS4'.out.trans hHeld.2.2.2.2)
              have HBX5 := Lib.hid (HBX4.out.same hHeld.2.2.2.2)
              clear hHeld
              go_wp2_with fail
              go_roundg G2
              case rel =>
               refine ⟨j + 1, by omega, by go_num, ?_, HS10.out, HBX5.out⟩
               intro hop2 q2 hq2
               rcases Nat.lt_or_ge q2 j with h1 | h1
               ·exact HN2.out hop2 q2 h1
               ·exact absurd hop2 HNP.out
              case measure => omega
         | zero =>
          obtain rfl : r = i := by omega
          have hger : ¬ (r : Int) < (r : Int) := by omega
          have HR4 : Hid (∀ j, j < p.length → crossAt p (loopsL p) j = false) := Lib.hid (fun j hj => HNO.out j (by have := HL.out; omega))
          have HSF := Lib.hid (HS8.out.trans HS9.out)
          have hi1 : 1 ≤ r := by have := HSZ.out; have := HL.out; omega
          obtain ⟨hok, b, o, rfl, c0, _⟩ := (HP.out.same HSF.out).at_ (k := r - 1) (by have := HL.out; omega)
          have f1 := i64_of ((r : Int) - 1) (by omega)
          have f2 : ((r : Int) - 1).toNat = r - 1 := by omega
          have f3 : (0 : Int) ≤ (r : Int) - 1 := by omega
          have f4 : (r : Int) - 1 < r := by omega
          have HE : Hid (p.length - 1 = r - 1 ∧ (p.length : Int) - 1 = (r : Int) - 1) := Lib.hid (by have := HL.out; omega)
          have hck' := check_last HSZ.out HR1.out HR2.out HR3.out HR4.out
          rw [HE.out.1, HE.out.2] at hck'
          have HCK := Lib.hid hck'
          clear hck' hok
          generalize Fp.at_ p (r - 1) = x at *
          by_cases h21 : x.op = 21
          ·have b21 : (x.op != 21) = false := by simpa using h21
           have := HCK.out
           rw [if_pos h21] at this
           have HC2 := Lib.hid (ck_of this)
           clear this h21
           go_wp2_with fail
           go_ret2
           exact ⟨ret_ii HC2.out.1.symm HC2.out.2.symm, HSF.out⟩
          ·have b21 : (x.op != 21) = true := by simpa using h21
           have := HCK.out
           rw [if_neg h21] at this
           have HC2 := Lib.hid (ck_of this)
           clear this h21
           go_wp2_with fail
           go_ret2
           exact ⟨ret_ii HC2.out.1.symm HC2.out.2.symm, HSF.out⟩

end Go.Proofs.YthhbhbfkbncegaaGreatDoor.Fw
end
section
section
set_option linter.unusedVariables false
set_option linter.unusedSimpArgs false
namespace Go.Proofs.YthhbhbfkbncegaaGreatDoor.Fw
open Go.ChangeShapes Go.WideShapes Go.ChangeAt Go.RowKit Ws Fp
open Go.Proofs.YthhbhbfkbncegaaGreatDoor.Is (Tabs ins rightB leadB rleads_any)

theorem rfine_any (A : Option Addr) (m c : Nat) (p : List Ins) (w : World) (hl : p.length = m) (hm : m ≤ 5000) (hp : Prg w A p) :
 Calls Tryz.prog 57 #[.slice A m c] w fun e w' => e = .returned (.bool (okB p)) ∧ Same w w' := by
 have CK := Lib.hid (rcheck_any A m c p w hl hm hp)
 have hE : (ckE p == 0) = okB p := by unfold okB; rw [Bool.eq_iff_iff]; simp
 have HE := Lib.hid hE
 clear hl hp hE
 go_enter Tryz.func57, Tryz.ntmps57
 go_wp2_with fail
 refine CK.out.mono ?_
 rintro e w1 ⟨rfl, s1⟩
 go_wp2_with fail
 go_ret
 exact ⟨ret_bool HE.out, s1⟩
theorem lead_iff (op : Int) : leadB op = decide (op = 14 ∨ op = 15 ∨ op = 16) := by
 unfold leadB
 rw [Bool.eq_iff_iff]
 simp
 try omega
set_option maxRecDepth 100000 in
theorem rmay_any (A : Option Addr) (m c : Nat) (p : List Ins) (k t : Nat) (w : World) (hl : p.length = m) (hm : m ≤ 5000) (hk : k < m) (ht : t < m) (hp : Prg w A p) :
 Calls Tryz.prog 117 #[.slice A m c, .int .i64 k, .int .i64 t] w fun e w' => e = .returned (.bool (mayB p k t)) ∧ Same w w' := by
 obtain ⟨hok, b, o, rfl, c0, c1, c2, c3, c4⟩ := hp.at_ (k := k) (by omega)
 have hki : (k : Int) < m := by omega
 have hk0 : (0 : Int) ≤ k := by omega
 have hE : mayB p k t = (!decide ((Fp.at_ p k).op = 21) && ((decide ((Fp.at_ p k).op = 14 ∨ (Fp.at_ p k).op = 15 ∨ (Fp.at_ p k).op = 16) && decide ((t : Int) = (Fp.at_ p k).n)) || (!decide ((Fp.at_ p k).op = 14) && decide ((t : Int) = (k : Int) + 1)))) := rfl
 clear hp hl
 generalize Fp.at_ p k = x at *
 have hn := hok
 unfold Ins.ok at hn
 have f1 := i64_of x.n (by omega)
 have f2 := i64_of ((k : Int) + 1) (by omega)
 have LD := Lib.hid (fun w' => rleads_any x.op w')
 rw [← lead_iff] at hE
 have hs2 := (Same.refl w).alloc (.cells #[.int .i64 x.op, .int .i64 x.a, .int .i64 x.b, .int .i64 x.c, .int .u32 x.n] 70)
 have HS2 := Lib.hid hs2
 clear hs2
 by_cases h21 : x.op = 21
 ·have b1 : (x.op == 21) = true := by simpa using h21
  rw [decide_eq_true h21] at hE
  have HE := Lib.hid hE
  clear hE h21
  go_enter Tryz.func117, Tryz.ntmps117
  go_wp2_with fail
  go_ret
  exact ⟨ret_bool (by rw [HE.out]; rfl), HS2.out⟩
 ·have b1 : (x.op == 21) = false := by simpa using h21
  rw [decide_eq_false h21] at hE
  clear h21
  cases hl : leadB x.op
  ·rw [hl] at LD hE
   cases h14 : (x.op != 14)
   ·have h14' : x.op = 14 := by simpa using h14
    rw [decide_eq_true h14'] at hE
    have HE := Lib.hid hE
    clear hE h14' hl
    go_enter Tryz.func117, Tryz.ntmps117
    go_wp2_with fail
    refine (LD.out _).mono ?_
    rintro e w2 ⟨rfl, rfl⟩
    go_wp2_with fail
    go_ret
    exact ⟨ret_bool (by rw [HE.out]; rfl), HS2.out⟩
   ·have h14' : ¬ x.op = 14 := by simpa using h14
    rw [decide_eq_false h14'] at hE
    have HE := Lib.hid hE
    clear hE h14' hl
    by_cases htk : (t : Int) = (k : Int) + 1
    ·have e1 : ((t : Int) == (k : Int) + 1) = true := by simpa using htk
     have HD := Lib.hid (decide_eq_true htk)
     clear htk
     go_enter Tryz.func117, Tryz.ntmps117
     go_wp2_with fail
     refine (LD.out _).mono ?_
     rintro e w2 ⟨rfl, rfl⟩
     go_wp2_with fail
     go_ret
     exact ⟨ret_bool (by rw [HE.out, HD.out]; rfl), HS2.out⟩
    ·have e1 : ((t : Int) == (k : Int) + 1) = false := by simpa using htk
     have HD := Lib.hid (decide_eq_false htk)
     clear htk
     go_enter Tryz.func117, Tryz.ntmps117
     go_wp2_with fail
     refine (LD.out _).mono ?_
     rintro e w2 ⟨rfl, rfl⟩
     go_wp2_with fail
     go_ret
     exact ⟨ret_bool (by rw [HE.out, HD.out]; rfl), HS2.out⟩
  ·rw [hl] at LD hE
   by_cases htn : (t : Int) = x.n
   ·have e0 : ((t : Int) == x.n) = true := by simpa using htn
    rw [decide_eq_true htn] at hE
    have HE := Lib.hid hE
    clear hE htn hl
    go_enter Tryz.func117, Tryz.ntmps117
    go_wp2_with fail
    refine (LD.out _).mono ?_
    rintro e w2 ⟨rfl, rfl⟩
    go_wp2_with fail
    go_ret
    exact ⟨ret_bool (by rw [HE.out]; rfl), HS2.out⟩
   ·have e0 : ((t : Int) == x.n) = false := by simpa using htn
    rw [decide_eq_false htn] at hE
    clear htn hl
    cases h14 : (x.op != 14)
    ·have h14' : x.op = 14 := by simpa using h14
     rw [decide_eq_true h14'] at hE
     have HE := Lib.hid hE
     clear hE h14'
     go_enter Tryz.func117, Tryz.ntmps117
     go_wp2_with fail
     refine (LD.out _).mono ?_
     rintro e w2 ⟨rfl, rfl⟩
     go_wp2_with fail
     go_ret
     exact ⟨ret_bool (by rw [HE.out]; rfl), HS2.out⟩
    ·have h14' : ¬ x.op = 14 := by simpa using h14
     rw [decide_eq_false h14'] at hE
     have HE := Lib.hid hE
     clear hE h14'
     by_cases htk : (t : Int) = (k : Int) + 1
     ·have e1 : ((t : Int) == (k : Int) + 1) = true := by simpa using htk
      have HD := Lib.hid (decide_eq_true htk)
      clear htk
      go_enter Tryz.func117, Tryz.ntmps117
      go_wp2_with fail
      refine (LD.out _).mono ?_
      rintro e w2 ⟨rfl, rfl⟩
      go_wp2_with fail
      go_ret
      exact ⟨ret_bool (by rw [HE.out, HD.out]; rfl), HS2.out⟩
     ·have e1 : ((t : Int) == (k : Int) + 1) = false := by simpa using htk
      have HD := Lib.hid (decide_eq_false htk)
      clear htk
      go_enter Tryz.func117, Tryz.ntmps117
      go_wp2_with fail
      refine (LD.out _).mono ?_
      rintro e w2 ⟨rfl, rfl⟩
      go_wp2_with fail
      go_ret
      exact ⟨ret_bool (by rw [HE.out, HD.out]; rfl), HS2.out⟩

theorem int_info : (Tryz.prog.info? 3).map (fun i => (i.zero, i.size, i.bytes)) = some (some (.int .i64 0), 1, 8) := by kernel_rfl
theorem own_nil (w : World) (B : Nat) (e : TypeId) : Own w B e none 0 [] := ⟨by simp, .inl ⟨rfl, rfl⟩⟩
/-- the first j places to which one may come from k -/
def waysTo (p : List Ins) (k j : Nat) : List Int := ((List.range j).filter fun t : Nat => mayB p k (t : Int)).map fun t : Nat => (t : Int)
theorem waysTo_next (p : List Ins) (k j : Nat) : waysTo p k (j + 1) = waysTo p k j ++ (if mayB p k (j : Int) = true then [(j : Int)] else []) := by
 unfold waysTo
 rw [List.range_succ, List.filter_append, List.map_append]
 congr 1
 by_cases h : mayB p k (j : Int) = true
 ·rw [if_pos h]
  simp [h]
 ·rw [if_neg h]
  simp [h]
theorem waysTo_len (p : List Ins) (k j : Nat) : (waysTo p k j).length ≤ j := by
 unfold waysTo
 rw [List.length_map]
 have := List.length_filter_le (fun t : Nat => mayB p k (t : Int)) (List.range j)
 rw [List.length_range] at this
 exact this
end Go.Proofs.YthhbhbfkbncegaaGreatDoor.Fw
end
section
set_option linter.unusedVariables false
set_option linter.unusedSimpArgs false
namespace Go.Proofs.YthhbhbfkbncegaaGreatDoor.Fw
open Go.ChangeShapes Go.WideShapes Go.ChangeAt Go.RowKit Ws Fp
open Go.Proofs.YthhbhbfkbncegaaGreatDoor.Is (Tabs ins rightB leadB rleads_any)

set_option maxRecDepth 100000 in
theorem rnextf_any (A : Option Addr) (m c : Nat) (p : List Ins) (b : Nat) (w : World) (hl : p.length = m) (hm : m ≤ 5000) (hb : b < m) (hp : Prg w A p) :
 Calls Tryz.prog 101 #[.slice A m c, .int .i64 b] w (NumF w (rnextL p b)) := by
 have hE : rnextL p b = waysTo p b m := by unfold rnextL waysTo; rw [hl]
 rw [hE]
 obtain ⟨i0, hi, hz0, hz1, hz2⟩ := info_parts int_info
 have AH := Lib.hid (fun (a : Nat) (ha : a < m) w' (s : Same w w') => rmay_any A m c p b a w' hl hm hb ha (hp.same s))
 clear hp hl hE
 go_enter Tryz.func101, Tryz.ntmps101
 go_wp2_with fail
 go_loopg [9, 5] m (fun gk iv lv wx => ∃ (k : Nat) (A' : Option Addr) (n' c' : Nat), k + gk = m ∧ iv = .int .i64 k ∧ lv = .slice A' n' c' ∧ n' = (waysTo p b k).length ∧ Own wx w.heap.size 3 A' c' ((waysTo p b k).map (Value.int .i64)) ∧ Same w wx)
 case atStart => exact ⟨0, none, 0, 0, by omega, rfl, rfl, rfl, own_nil _ _ _, Same.refl _⟩
 case round =>
  obtain ⟨k, A', n', c', hk, rfl, rfl, hn, ho, sx⟩ := hrel
  have HO := Lib.hid ho
  have HS := Lib.hid sx
  have HN := Lib.hid hn
  clear ho sx hn
  cases gk with
  | zero =>
   obtain rfl : m = k := by omega
   have hge : ¬ (m : Int) < (m : Int) := by omega
   go_wp2_with fail
   go_ret
   have h := HN.out
   subst h
   refine ⟨A', c', rfl, HO.out.row, HS.out, fun b' o' e => ?_⟩
   subst e
   rcases HO.out.2 with ⟨h2, _⟩ | ⟨g2, cap, cur, hv, hb2, _⟩
   ·cases h2
   ·injection hv with hv
    injection hv with hv
    injection hv with hv
    omega
  | succ GK =>
   have hlt : (k : Int) < m := by omega
   have HE := Lib.hid (waysTo_next p b k)
   have AK := Lib.hid (AH.out k (by omega) _ HS.out)
   have hlen := waysTo_len p b k
   go_wp2_with fail
   refine AK.out.mono ?_
   rintro e w1 ⟨rfl, s1⟩
   have HS1 := Lib.hid (HS.out.trans s1)
   have HO1 := Lib.hid (HO.out.same s1)
   clear s1 AK
   cases hab : mayB p b (k : Int)
   ·have hE := HE.out
    rw [hab, if_neg Bool.false_ne_true, List.append_nil] at hE
    have HE' := Lib.hid hE
    clear hE hab
    go_wp2_with fail
    go_roundg GK
    case rel => exact ⟨k + 1, A', n', c', by omega, by go_num, rfl, by rw [HE'.out]; exact HN.out, by rw [HE'.out]; exact HO1.out, HS1.out⟩
    case measure => omega
   ·have hE := HE.out
    rw [hab, if_pos rfl] at hE
    have HE' := Lib.hid hE
    clear hE hab
    go_wp2_with (at_builtin; go_loud (refine wpList_app rfl (.tmp 16) (.tmp 18) 32 rfl w.heap.size 3 i0 _ 8 Tryz.underlying32 hi hz0 hz1 hz2 rfl A' n' c' ((waysTo p b k).map (Value.int .i64)) rfl ?c1 (HO1.out.same ((Same.refl _).alloc _)) _ 1 1 [.int .i64 (k : Int)] rfl rfl (row_new _ _ _) ?c2 ?c3 (by omega) ?c4 ?_))
    case c1 => first | exact HN.out.symm | (rw [List.length_map]; exact HN.out.symm)
    case c2 => intro u hu; simp at hu; subst hu; rfl
    case c3 => first | omega | (rw [List.length_map]; simp; omega)
    case c4 => have := HS1.out.size; simp at this ⊢; omega
    intro A2 c2' w2 ho2 hc2 _
    have HS2 := Lib.hid (Same.more (HS1.out.alloc _) hc2 fun g hg => by
     have hg : A' = some ⟨g, 0, none⟩ := hg
     subst hg
     rcases HO.out.2 with ⟨h2, _⟩ | ⟨g2, cap, cur, hv, hb2, _⟩
     ·cases h2
     ·injection hv with hv
      injection hv with hv
      injection hv with hv
      omega)
    rw [show (waysTo p b k).map (Value.int .i64) ++ [.int .i64 (k : Int)] = (waysTo p b (k + 1)).map (Value.int .i64) by rw [HE'.out, List.map_append]; rfl] at ho2
    have HO2 := Lib.hid ho2
    clear ho2 hc2
    go_wp2_with fail
    go_roundg GK
    case rel => exact ⟨k + 1, A2, n' + 1, c2', by omega, by go_num, rfl, by rw [HE'.out, List.length_append, HN.out]; rfl, HO2.out, HS2.out⟩
    case measure => omega

end Go.Proofs.YthhbhbfkbncegaaGreatDoor.Fw
end
end
