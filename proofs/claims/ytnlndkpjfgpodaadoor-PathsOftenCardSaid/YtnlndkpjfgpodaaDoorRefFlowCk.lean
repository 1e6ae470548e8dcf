/-

  The document's own Check on layer 10.
-/
import Derived.Test.YtnlndkpjfgpodaaDoorRefFlow
set_option linter.unusedVariables false
set_option linter.unusedSimpArgs false
namespace Go.Proofs.YtnlndkpjfgpodaaDoor.Fw
open Go.ChangeShapes Go.WideShapes Go.ChangeAt Go.RowKit Ws Fp
open Go.Proofs.YtnlndkpjfgpodaaDoor.Is (Tabs ins rightB leadB rright_any)

set_option maxRecDepth 100000 in
set_option maxHeartbeats 4000000 in
theorem rcheck_any (A : Option Addr) (m c : Nat) (p : List Ins) (w : World) (hl : p.length = m) (hm : m ≤ 5000) (hp : Prg w A p) :
    Calls Tryd.prog 12 #[.slice A m c] w fun e w' => e = .returned (.tuple #[.int .i64 (ckI p), .int .i64 (ckE p)]) ∧ Same w w' := by
  have HL := Lib.hid hl
  have HP := Lib.hid hp
  by_cases hsz : m < 1 ∨ 64 < m
  · have hck := ck_of (check_size (right := rightI) (p := p) (by rw [hl]; exact hsz))
    rw [hck.1, hck.2]
    by_cases h0 : m = 0
    · subst h0
      clear hl hp hsz hck hm
      go_enter Tryd.func12, Tryd.ntmps12
      go_wp2_with fail
      go_ret2
      exact ⟨rfl, Same.refl _⟩
    · have b0 : decide ((m : Int) < 1) = false := by simp; omega
      have b1 : decide ((64 : Int) < (m : Int)) = true := by simp; omega
      clear hl hp hsz hck h0
      go_enter Tryd.func12, Tryd.ntmps12
      go_wp2_with fail
      go_ret2
      exact ⟨rfl, Same.refl _⟩
  · have hs1 : 1 ≤ p.length ∧ p.length ≤ 64 := by omega
    have HSZ := Lib.hid hs1
    have b0 : decide ((m : Int) < 1) = false := by simp; omega
    have b1 : decide ((64 : Int) < (m : Int)) = false := by simp; omega
    have h64 : m ≤ 64 := by omega
    clear hl hp hsz hs1
    go_enter Tryd.func12, Tryd.ntmps12
    go_wp2_with fail
    go_loopg [26] m (fun gk iv wx => ∃ k : Nat, k + gk = m ∧ iv = .int .i64 k ∧ (∀ j, j < k → rightI (Fp.at_ p j) = true) ∧ Same w wx)
    case atStart => exact ⟨0, by omega, rfl, fun j hj => by omega, Same.refl _⟩
    case round =>
      obtain ⟨k, hk, rfl, hri, sx⟩ := hrel
      have HRI := Lib.hid hri
      have HS := Lib.hid sx
      clear hri sx
      cases gk with
      | succ GK =>
        have hlt : (k : Int) < m := by omega
        have hkp : k < p.length := by have := HL.out; omega
        obtain ⟨hok, b, o, rfl, c0, c1, c2, c3, c4⟩ := (HP.out.same HS.out).at_ (k := k) hkp
        have hx := rfl (a := Fp.at_ p k)
        have HKP := Lib.hid hkp
        clear hkp hx
        obtain ⟨x, hx⟩ : ∃ x, x = Fp.at_ p k := ⟨_, rfl⟩
        rw [← hx] at c0 c1 c2 c3 c4 hok
        have HX := Lib.hid hx
        clear hx
        have hs2 := (Same.refl wr).alloc (.cells #[.int .i64 x.op, .int .i64 x.a, .int .i64 x.b, .int .i64 x.c, .int .u32 x.n] 67)
        have HS2 := Lib.hid (HS.out.trans hs2)
        have RA := Lib.hid (fun w' => rright_any x.op x.a x.b x.c x.n hok w')
        unfold ins at RA
        clear hs2
        go_wp2_with fail
        refine (RA.out _).mono ?_
        rintro e w1 ⟨rfl, s1⟩
        cases hr : rightB x.op x.a x.b x.c x.n
        · have HRF : Hid (rightI (Fp.at_ p k) = false) := Lib.hid (by rw [← HX.out]; exact hr)
          clear hr
          go_wp2_with fail
          go_ret2
          have := ck_of (check_form HSZ.out HKP.out HRF.out HRI.out)
          exact ⟨ret_ii this.1.symm this.2.symm, HS2.out.trans s1⟩
        · have HRT : Hid (rightI (Fp.at_ p k) = true) := Lib.hid (by rw [← HX.out]; exact hr)
          clear hr
          go_wp2_with fail
          go_roundg GK
          case rel =>
            refine ⟨k + 1, by omega, by go_num, ?_, HS2.out.trans s1⟩
            intro i hi
            rcases Nat.lt_or_ge i k with h1 | h1
            · exact HRI.out i h1
            · have : i = k := by omega
              subst this
              exact HRT.out
          case measure => omega
      | zero =>
        obtain rfl : k = m := by omega
        have hge : ¬ (k : Int) < (k : Int) := by omega
        have HR1 : Hid (∀ j, j < p.length → rightI (Fp.at_ p j) = true) := Lib.hid (fun j hj => HRI.out j (by have := HL.out; omega))
        clear HRI
        go_wp2_with fail
        go_loopg [38] k (fun gk iv wx => ∃ i : Nat, i + gk = k ∧ iv = .int .i64 i ∧ (∀ j, j < i → strayB p j = false) ∧ Same w wx)
        case atStart => exact ⟨0, by omega, rfl, fun j hj => by omega, HS.out⟩
        case round =>
          obtain ⟨i, hi, rfl, hst, sx⟩ := hrel
          have HST := Lib.hid hst
          have HS3 := Lib.hid sx
          clear hst sx HS
          cases gk with
          | succ GK =>
            have hlt : (i : Int) < k := by omega
            have hik : i < k := by omega
            have HIP : Hid (i < p.length) := Lib.hid (by have := HL.out; omega)
            obtain ⟨hok, b, o, rfl, c0, c1, c2, c3, c4⟩ := (HP.out.same HS3.out).at_ (k := i) HIP.out
            have HSB : Hid (strayB p i = if (Fp.at_ p i).op = 16 then decide ((i : Int) ≤ (Fp.at_ p i).n) else if (Fp.at_ p i).op = 14 ∨ (Fp.at_ p i).op = 15 then decide ((Fp.at_ p i).n ≤ (i : Int) ∨ (k : Int) ≤ (Fp.at_ p i).n) else false) := Lib.hid (by rw [← HL.out]; rfl)
            generalize Fp.at_ p i = x at *
            have hn := hok
            unfold Ins.ok at hn
            have f1 := i64_of x.n (by omega)
            have hs2 := (Same.refl wr).alloc (.cells #[.int .i64 x.op, .int .i64 x.a, .int .i64 x.b, .int .i64 x.c, .int .u32 x.n] 67)
            have HS2 := Lib.hid (HS3.out.trans hs2)
            clear hs2
            by_cases h16 : x.op = 16
            · have e14 : (x.op == 14) = false := by rw [h16]; rfl
              have e15 : (x.op == 15) = false := by rw [h16]; rfl
              by_cases hg1 : (i : Int) ≤ x.n
              · have b16 : (x.op == 16) = true := by simpa using h16
                have g1 : decide ((i : Int) ≤ x.n) = true := decide_eq_true hg1
                have HSF : Hid (strayB p i = true) := Lib.hid (by rw [HSB.out, if_pos h16, decide_eq_true hg1])
                try clear h16
                try clear h14
                try clear h15
                try clear hop
                go_wp2_with fail
                go_ret2
                have := ck_of (check_flow HSZ.out HR1.out HIP.out HSF.out HST.out)
                exact ⟨ret_ii this.1.symm this.2.symm, HS2.out⟩
              · have b16 : (x.op == 16) = true := by simpa using h16
                have g1 : decide ((i : Int) ≤ x.n) = false := decide_eq_false hg1
                have HSF : Hid (strayB p i = false) := Lib.hid (by rw [HSB.out, if_pos h16, decide_eq_false hg1])
                try clear h16
                try clear h14
                try clear h15
                try clear hop
                go_wp2_with fail
                go_roundg GK
                case rel =>
                  refine ⟨i + 1, by omega, by go_num, ?_, HS2.out⟩
                  intro j hj
                  rcases Nat.lt_or_ge j i with h1 | h1
                  · exact HST.out j h1
                  · have : j = i := by omega
                    subst this
                    exact HSF.out
                case measure => omega
            · by_cases h14 : x.op = 14
              · have hop : x.op = 14 ∨ x.op = 15 := .inl h14
                by_cases hg2 : x.n ≤ (i : Int)
                · have b16 : (x.op == 16) = false := by simpa using h16
                  have b14 : (x.op == 14) = true := by simpa using h14
                  have g2 : decide (x.n ≤ (i : Int)) = true := decide_eq_true hg2
                  have HSF : Hid (strayB p i = true) := Lib.hid (by rw [HSB.out, if_neg h16, if_pos hop, decide_eq_true (.inl hg2)])
                  try clear h16
                  try clear h14
                  try clear h15
                  try clear hop
                  go_wp2_with fail
                  go_ret2
                  have := ck_of (check_flow HSZ.out HR1.out HIP.out HSF.out HST.out)
                  exact ⟨ret_ii this.1.symm this.2.symm, HS2.out⟩
                · by_cases hg3 : (k : Int) ≤ x.n
                  · have b16 : (x.op == 16) = false := by simpa using h16
                    have b14 : (x.op == 14) = true := by simpa using h14
                    have g2 : decide (x.n ≤ (i : Int)) = false := decide_eq_false hg2
                    have g3 : decide ((k : Int) ≤ x.n) = true := decide_eq_true hg3
                    have HSF : Hid (strayB p i = true) := Lib.hid (by rw [HSB.out, if_neg h16, if_pos hop, decide_eq_true (.inr hg3)])
                    try clear h16
                    try clear h14
                    try clear h15
                    try clear hop
                    go_wp2_with fail
                    go_ret2
                    have := ck_of (check_flow HSZ.out HR1.out HIP.out HSF.out HST.out)
                    exact ⟨ret_ii this.1.symm this.2.symm, HS2.out⟩
                  · have b16 : (x.op == 16) = false := by simpa using h16
                    have b14 : (x.op == 14) = true := by simpa using h14
                    have g2 : decide (x.n ≤ (i : Int)) = false := decide_eq_false hg2
                    have g3 : decide ((k : Int) ≤ x.n) = false := decide_eq_false hg3
                    have HSF : Hid (strayB p i = false) := Lib.hid (by rw [HSB.out, if_neg h16, if_pos hop, decide_eq_false (fun h => h.elim hg2 hg3)])
                    try clear h16
                    try clear h14
                    try clear h15
                    try clear hop
                    go_wp2_with fail
                    go_roundg GK
                    case rel =>
                      refine ⟨i + 1, by omega, by go_num, ?_, HS2.out⟩
                      intro j hj
                      rcases Nat.lt_or_ge j i with h1 | h1
                      · exact HST.out j h1
                      · have : j = i := by omega
                        subst this
                        exact HSF.out
                    case measure => omega
              · by_cases h15 : x.op = 15
                · have hop : x.op = 14 ∨ x.op = 15 := .inr h15
                  by_cases hg2 : x.n ≤ (i : Int)
                  · have b16 : (x.op == 16) = false := by simpa using h16
                    have b14 : (x.op == 14) = false := by simpa using h14
                    have b15 : (x.op == 15) = true := by simpa using h15
                    have g2 : decide (x.n ≤ (i : Int)) = true := decide_eq_true hg2
                    have HSF : Hid (strayB p i = true) := Lib.hid (by rw [HSB.out, if_neg h16, if_pos hop, decide_eq_true (.inl hg2)])
                    try clear h16
                    try clear h14
                    try clear h15
                    try clear hop
                    go_wp2_with fail
                    go_ret2
                    have := ck_of (check_flow HSZ.out HR1.out HIP.out HSF.out HST.out)
                    exact ⟨ret_ii this.1.symm this.2.symm, HS2.out⟩
                  · by_cases hg3 : (k : Int) ≤ x.n
                    · have b16 : (x.op == 16) = false := by simpa using h16
                      have b14 : (x.op == 14) = false := by simpa using h14
                      have b15 : (x.op == 15) = true := by simpa using h15
                      have g2 : decide (x.n ≤ (i : Int)) = false := decide_eq_false hg2
                      have g3 : decide ((k : Int) ≤ x.n) = true := decide_eq_true hg3
                      have HSF : Hid (strayB p i = true) := Lib.hid (by rw [HSB.out, if_neg h16, if_pos hop, decide_eq_true (.inr hg3)])
                      try clear h16
                      try clear h14
                      try clear h15
                      try clear hop
                      go_wp2_with fail
                      go_ret2
                      have := ck_of (check_flow HSZ.out HR1.out HIP.out HSF.out HST.out)
                      exact ⟨ret_ii this.1.symm this.2.symm, HS2.out⟩
                    · have b16 : (x.op == 16) = false := by simpa using h16
                      have b14 : (x.op == 14) = false := by simpa using h14
                      have b15 : (x.op == 15) = true := by simpa using h15
                      have g2 : decide (x.n ≤ (i : Int)) = false := decide_eq_false hg2
                      have g3 : decide ((k : Int) ≤ x.n) = false := decide_eq_false hg3
                      have HSF : Hid (strayB p i = false) := Lib.hid (by rw [HSB.out, if_neg h16, if_pos hop, decide_eq_false (fun h => h.elim hg2 hg3)])
                      try clear h16
                      try clear h14
                      try clear h15
                      try clear hop
                      go_wp2_with fail
                      go_roundg GK
                      case rel =>
                        refine ⟨i + 1, by omega, by go_num, ?_, HS2.out⟩
                        intro j hj
                        rcases Nat.lt_or_ge j i with h1 | h1
                        · exact HST.out j h1
                        · have : j = i := by omega
                          subst this
                          exact HSF.out
                      case measure => omega
                · have b16 : (x.op == 16) = false := by simpa using h16
                  have b14 : (x.op == 14) = false := by simpa using h14
                  have b15 : (x.op == 15) = false := by simpa using h15
                  have HSF : Hid (strayB p i = false) := Lib.hid (by rw [HSB.out, if_neg h16, if_neg (fun h => h.elim h14 h15)])
                  try clear h16
                  try clear h14
                  try clear h15
                  try clear hop
                  go_wp2_with fail
                  go_roundg GK
                  case rel =>
                    refine ⟨i + 1, by omega, by go_num, ?_, HS2.out⟩
                    intro j hj
                    rcases Nat.lt_or_ge j i with h1 | h1
                    · exact HST.out j h1
                    · have : j = i := by omega
                      subst this
                      exact HSF.out
                  case measure => omega
          | zero =>
            obtain rfl : i = k := by omega
            have hge : ¬ (i : Int) < (i : Int) := by omega
            have HR2 : Hid (∀ j, j < p.length → strayB p j = false) := Lib.hid (fun j hj => HST.out j (by have := HL.out; omega))
            clear HST
            have LO := Lib.hid (rloops_any A i c p wr HL.out hm (HP.out.same HS3.out))
            go_wp2_with fail
            refine LO.out.mono ?_
            rintro e w1 ⟨LA, lc, rfl, ho, s1⟩
            have HS4 := Lib.hid (HS3.out.trans s1)
            have HSP := Lib.hid (spn_of ho.row)
            have hlen := loopsTo_len (p := p) p.length
            have HLE : Hid ((loopsL p).length ≤ i) := Lib.hid (by have := HL.out; unfold loopsL; omega)
            have HPN := Lib.hid HP.out.nn
            have HOV : Hid (∀ j k, j < k → k < (loopsL p).length → overR ((lp (loopsL p) j).1, (lp (loopsL p) j).2) ((lp (loopsL p) k).1, (lp (loopsL p) k).2) = overB (lp (loopsL p) j) (lp (loopsL p) k)) := Lib.hid (fun j k hj hk => by
              have h1 := loop_in HR2.out HPN.out (lp_mem (l := loopsL p) (k := j) (by omega))
              have h2 := loop_in HR2.out HPN.out (lp_mem (l := loopsL p) (k := k) hk)
              have h3 := lp_lt hj hk
              exact overR_eq ⟨h1.1, h1.2.1⟩ ⟨h2.1, h2.2.1, by have := HL.out; have := HSZ.out; simp only; omega⟩ h3)
            clear ho hlen s1 LO
            obtain ⟨ln, hln⟩ : ∃ ln, ln = (loopsL p).length := ⟨_, rfl⟩
            rw [← hln]
            have HLN := Lib.hid hln
            have h64l : ln ≤ 64 := by have := HLE.out; omega
            clear hln
            go_wp2_with fail
            go_loopg [81] ln (fun gk iv wx => ∃ k : Nat, k + gk = ln ∧ iv = .int .i64 k ∧ (∀ j, j < k → overAt (loopsL p) j = false) ∧ Same w1 wx)
            case atStart => exact ⟨0, by omega, rfl, fun j hj => by omega, Same.refl _⟩
            case round =>
              obtain ⟨k, hk, rfl, hno, sx⟩ := hrel
              have HNO := Lib.hid hno
              have HS5 := Lib.hid sx
              clear hno sx
              cases gk with
              | succ GK =>
                have hltk : (k : Int) < ln := by omega
                have hk0 : (0 : Int) ≤ k := by omega
                have HKL : Hid (k < (loopsL p).length) := Lib.hid (by have := HLN.out; omega)
                go_wp2_with fail
                go_loopg [11] k (fun gk jv wx => ∃ j : Nat, j + gk = k ∧ jv = .int .i64 j ∧ (∀ q, q < j → overB (lp (loopsL p) q) (lp (loopsL p) k) = false) ∧ Same w1 wx)
                case atStart => exact ⟨0, by omega, rfl, fun j hj => by omega, HS5.out⟩
                case round =>
                  obtain ⟨j, hj, rfl, hno2, sx2⟩ := hrel
                  have HN2 := Lib.hid hno2
                  have HS6 := Lib.hid sx2
                  clear hno2 sx2 HS5
                  cases gk with
                  | zero =>
                    obtain rfl : j = k := by omega
                    have hge2 : ¬ (j : Int) < (j : Int) := by omega
                    go_wp2_with fail
                    go_roundg GK
                    case rel =>
                      refine ⟨j + 1, by omega, by go_num, ?_, HS6.out⟩
                      intro q hq
                      rcases Nat.lt_or_ge q j with h1 | h1
                      · exact HNO.out q h1
                      · have : q = j := by omega
                        subst this
                        exact overAt_no HN2.out
                    case measure => omega
                  | succ G2 =>
                    have hjlt : (j : Int) < k := by omega
                    have hjln : (j : Int) < ln := by omega
                    have hj0 : (0 : Int) ≤ j := by omega
                    have hjn : j < ln := by omega
                    have hkn : k < ln := by omega
                    obtain ⟨lb, lo, rfl, d0, d1⟩ := (HSP.out.same HS6.out).at_ (k := j) (by have := HLN.out; omega)
                    obtain ⟨lb', lo', hA2, z0, z1⟩ := (HSP.out.same HS6.out).at_ (k := k) HKL.out
                    injection hA2 with hA2
                    injection hA2 with e1 e2
                    subst e1
                    subst e2
                    have HO1 := Lib.hid (HOV.out j k (by omega) HKL.out)
                    have HYES : Hid (overB (lp (loopsL p) j) (lp (loopsL p) k) = true → overAt (loopsL p) k = true) := Lib.hid (fun h => overAt_yes (by omega) h)
                    obtain ⟨s, hs⟩ : ∃ s, s = lp (loopsL p) j := ⟨_, rfl⟩
                    obtain ⟨t, ht⟩ : ∃ t, t = lp (loopsL p) k := ⟨_, rfl⟩
                    rw [← hs] at d0 d1
                    rw [← ht] at z0 z1
                    have HSJ := Lib.hid hs
                    have HTK := Lib.hid ht
                    have RO := fun w' => roverlap_any s.1 s.2 t.1 t.2 w'
                    obtain ⟨u, hu⟩ : ∃ u, u = overR (s.1, s.2) (t.1, t.2) := ⟨_, rfl⟩
                    rw [← hu] at RO
                    have HU : Hid (u = overB (lp (loopsL p) j) (lp (loopsL p) k)) := Lib.hid (by rw [hu, ← HO1.out, ← HSJ.out, ← HTK.out])
                    clear hu hs ht
                    go_wp2_with fail
                    go_region_held3 (fun w' => w'.cell? ⟨lb, lo + j * 2, none⟩ = some (.int .i64 s.1) ∧ w'.cell? ⟨lb, lo + j * 2 + 1, none⟩ = some (.int .i64 s.2) ∧ w'.cell? ⟨lb, lo + k * 2, none⟩ = some (.int .i64 t.1) ∧ w'.cell? ⟨lb, lo + k * 2 + 1, none⟩ = some (.int .i64 t.2) ∧ Same wr w')
                      (first | (with_reducible assumption) | exact ⟨d0, d1, z0, z1, (Same.refl wr).drew⟩ | (rcases ‹_ ∧ _ ∧ _ ∧ _ ∧ Same wr _› with ⟨x0, x1, x2, x3, x9⟩; exact ⟨hs.cell x0, hs.cell x1, hs.cell x2, hs.cell x3, x9.trans hs⟩))
                      (first | (go_at_call 40; ((with_reducible refine (RO _).mono ?_); rintro e w' ⟨rfl, hs⟩)))
                    rcases ‹_ ∧ _ ∧ _ ∧ _ ∧ Same wr _› with ⟨x0, x1, x2, x3, x9⟩
                    have HS7 := Lib.hid (HS6.out.trans x9)
                    clear x9
                    cases u
                    · go_wp2_with fail
                      go_roundg G2
                      case rel =>
                        refine ⟨j + 1, by omega, by go_num, ?_, HS7.out⟩
                        intro q hq
                        rcases Nat.lt_or_ge q j with h1 | h1
                        · exact HN2.out q h1
                        · have : q = j := by omega
                          subst this
                          exact HU.out.symm
                      case measure => omega
                    · go_wp2_with fail
                      go_ret2
                      have := ck_of (check_over HSZ.out HR1.out HR2.out HKL.out (HYES.out HU.out.symm) HNO.out)
                      exact ⟨ret_ii (by rw [this.1, HTK.out]) this.2.symm, HS4.out.trans HS7.out⟩
              | zero =>
                obtain rfl : k = ln := by omega
                have hgk : ¬ (k : Int) < (k : Int) := by omega
                have HR3 : Hid (∀ j, j < (loopsL p).length → overAt (loopsL p) j = false) := Lib.hid (fun j hj => HNO.out j (by have := HLN.out; omega))
                have HS8 := Lib.hid (HS4.out.trans HS5.out)
                have HSQ := Lib.hid (HSP.out.same HS5.out)
                clear HNO HS5
                go_wp2_with fail
                have HSR := Lib.hid (Same.refl wr)
                have HLO := Lib.hid HSQ.out
                obtain ⟨w2, hw2⟩ : ∃ w2, w2 = wr := ⟨_, rfl⟩
                rw [← hw2] at HS8 HSQ ⊢
                clear hw2 HSR HLO
                go_loopg [106] i (fun gk iv wx => ∃ r : Nat, r + gk = i ∧ iv = .int .i64 r ∧ (∀ j, j < r → crossAt p (loopsL p) j = false) ∧ Same w2 wx)
                case atStart => exact ⟨0, by omega, rfl, fun j hj => by omega, Same.refl _⟩
                case round =>
                  obtain ⟨r, hr, rfl, hno, sx⟩ := hrel
                  have HNO := Lib.hid hno
                  have HS9 := Lib.hid sx
                  clear hno sx
                  cases gk with
                  | succ GK =>
                    have hltr : (r : Int) < i := by omega
                    have hrp : r < p.length := by have := HL.out; omega
                    have HRP := Lib.hid hrp
                    obtain ⟨hok, b, o, rfl, c0, c1, c2, c3, c4⟩ := (HP.out.same (HS8.out.trans HS9.out)).at_ (k := r) hrp
                    have HYES := Lib.hid (fun (j : Nat) => crossAt_yes (p := p) (l := loopsL p) (j := j) (k := r))
                    have HNOT := Lib.hid (crossAt_not (p := p) (l := loopsL p) (k := r))
                    have HNO2 := Lib.hid (crossAt_no (p := p) (l := loopsL p) (k := r))
                    have NEXT : Hid (crossAt p (loopsL p) r = false → ∀ j, j < r + 1 → crossAt p (loopsL p) j = false) := Lib.hid (fun h q hq => by
                      rcases Nat.lt_or_ge q r with h1 | h1
                      · exact HNO.out q h1
                      · have : q = r := by omega
                        subst this
                        exact h)
                    clear hrp
                    generalize Fp.at_ p r = x at *
                    have hn := hok
                    unfold Ins.ok at hn
                    have f1 := i64_of x.n (by omega)
                    have hs2 := (Same.refl wr).alloc (.cells #[.int .i64 x.op, .int .i64 x.a, .int .i64 x.b, .int .i64 x.c, .int .u32 x.n] 67)
                    have hb2 := Blk.new wr 67 #[.int .i64 x.op, .int .i64 x.a, .int .i64 x.b, .int .i64 x.c, .int .u32 x.n]
                    have HSA := Lib.hid (HS9.out.trans hs2)
                    have HBA := Lib.hid hb2
                    clear hs2 hb2
                    go_wp2_with fail
                    generalize wr.heap.size = qx at *
                    generalize wr.alloc (.cells #[.int .i64 x.op, .int .i64 x.a, .int .i64 x.b, .int .i64 x.c, .int .u32 x.n] 67) = wa at *
                    clear c0 c1 c2 c3 c4
                    go_loopg [113] k (fun gk jv wx => ∃ j : Nat, j + gk = k ∧ jv = .int .i64 j ∧ ((x.op = 14 ∨ x.op = 15) → ∀ q, q < j → (hasB (lp (loopsL p) q) (r : Int) != hasB (lp (loopsL p) q) x.n) = false) ∧ Same w2 wx ∧ Blk wx qx 67 #[.int .i64 x.op, .int .i64 x.a, .int .i64 x.b, .int .i64 x.c, .int .u32 x.n])
                    case atStart => exact ⟨0, by omega, rfl, fun _ j hj => by omega, HSA.out, HBA.out⟩
                    case round =>
                      obtain ⟨j, hj, rfl, hno2, sx2, bx⟩ := hrel
                      have HN2 := Lib.hid hno2
                      have HSB := Lib.hid sx2
                      have HBX := Lib.hid bx
                      clear hno2 sx2 bx HSA HBA
                      cases gk with
                      | zero =>
                        obtain rfl : j = k := by omega
                        have hge2 : ¬ (j : Int) < (j : Int) := by omega
                        go_wp2_with fail
                        go_roundg GK
                        case rel =>
                          refine ⟨r + 1, by omega, by go_num, NEXT.out ?_, HSB.out⟩
                          by_cases hop : x.op = 14 ∨ x.op = 15
                          · exact HNO2.out fun q hq => HN2.out hop q (by have := HLN.out; omega)
                          · exact HNOT.out hop
                        case measure => omega
                      | succ G2 =>
                        have hjlt : (j : Int) < k := by omega
                        obtain ⟨lb, lo, rfl, d0, d1⟩ := (HSQ.out.same HSB.out).at_ (k := j) (by have := HLN.out; omega)
                        obtain ⟨t, htx⟩ : ∃ t, t = lp (loopsL p) j := ⟨_, rfl⟩
                        rw [← htx] at d0 d1
                        have HTX := Lib.hid htx
                        clear htx
                        have hs4 := (Same.refl wr).alloc (.cells #[.int .i64 t.1, .int .i64 t.2] 78)
                        have hb4 := Blk.new wr 78 #[.int .i64 t.1, .int .i64 t.2]
                        have HS4' := Lib.hid (HSB.out.trans hs4)
                        have HBX4 := Lib.hid (HBX.out.same hs4)
                        have HB4 := Lib.hid hb4
                        have HA := fun w' => rin_any t.1 t.2 r w'
                        have HB := fun w' => rin_any t.1 t.2 x.n w'
                        obtain ⟨u, hu⟩ : ∃ u, u = hasB (t.1, t.2) (r : Int) := ⟨_, rfl⟩
                        obtain ⟨v, hv⟩ : ∃ v, v = hasB (t.1, t.2) x.n := ⟨_, rfl⟩
                        rw [← hu] at HA
                        rw [← hv] at HB
                        have HU := Lib.hid hu
                        have HV := Lib.hid hv
                        clear hs4 hb4 hu hv
                        go_wp2_with fail
                        generalize wr.heap.size = q at *
                        generalize wr.alloc (.cells #[.int .i64 t.1, .int .i64 t.2] 78) = w4 at *
                        clear d0 d1
                        have ST0 : w4.drew.cell? ⟨qx, 0, none⟩ = some (.int .i64 x.op) ∧ w4.drew.cell? ⟨qx, 4, none⟩ = some (.int .u32 x.n) ∧ w4.drew.cell? ⟨q, 0, none⟩ = some (.int .i64 t.1) ∧ w4.drew.cell? ⟨q, 1, none⟩ = some (.int .i64 t.2) ∧ Same w4 w4.drew := ⟨HBX4.out.cell 0, HBX4.out.cell 4, HB4.out.cell 0, HB4.out.cell 1, (Same.refl w4).drew⟩
                        have HST0 := Lib.hid ST0
                        clear ST0
                        have hsk : ∀ {wa wb : World}, (wa.cell? ⟨qx, 0, none⟩ = some (.int .i64 x.op) ∧ wa.cell? ⟨qx, 4, none⟩ = some (.int .u32 x.n) ∧ wa.cell? ⟨q, 0, none⟩ = some (.int .i64 t.1) ∧ wa.cell? ⟨q, 1, none⟩ = some (.int .i64 t.2) ∧ Same w4 wa) → Same wa wb → wb.cell? ⟨qx, 0, none⟩ = some (.int .i64 x.op) ∧ wb.cell? ⟨qx, 4, none⟩ = some (.int .u32 x.n) ∧ wb.cell? ⟨q, 0, none⟩ = some (.int .i64 t.1) ∧ wb.cell? ⟨q, 1, none⟩ = some (.int .i64 t.2) ∧ Same w4 wb := fun h s => ⟨s.cell h.1, s.cell h.2.1, s.cell h.2.2.1, s.cell h.2.2.2.1, h.2.2.2.2.trans s⟩
                        have HSK := Lib.hid (fun (wa wb : World) => hsk (wa := wa) (wb := wb))
                        clear hsk
                        by_cases h14 : x.op = 14
                        · have b14 : (x.op == 14) = true := by simpa using h14
                          have b15 : (x.op == 15) = false := by rw [h14]; rfl
                          have HOPX : Hid (x.op = 14 ∨ x.op = 15) := Lib.hid (.inl h14)
                          clear h14
                          cases u <;> cases v
                          all_goals
                            refine wp_region_held_drew (S := fun w' => w'.cell? ⟨qx, 0, none⟩ = some (.int .i64 x.op) ∧ w'.cell? ⟨qx, 4, none⟩ = some (.int .u32 x.n) ∧ w'.cell? ⟨q, 0, none⟩ = some (.int .i64 t.1) ∧ w'.cell? ⟨q, 1, none⟩ = some (.int .i64 t.2) ∧ Same w4 w') (by kernel_rfl) ?_ (fun hHeld => ?_)
                            · exact HST0.out
                            first
                              | (refine Ro.take_off (i := 0) rfl (by kernel_rfl) (by kernel_rfl) (by kernel_rfl) (fun _ _ _ h => h) (by rfl) (by assumption) ?_)
                              | (refine Ro.take_on (i := 0) (v := ?_) rfl (by kernel_rfl) (by kernel_rfl) (by kernel_rfl) (fun _ _ _ h => h) (by rfl) (by assumption) ?_ ?_; rotate_left; · (intro wS hSw; (try dsimp only at hSw); go_simp; try with_reducible rfl))
                            try simp only [Act.put, List.setIfInBounds_toArray, List.set_cons_zero, List.set_cons_succ]
                            first
                              | (refine Ro.take_off (i := 1) rfl (by kernel_rfl) (by kernel_rfl) (by kernel_rfl) (fun _ _ _ h => h) (by rfl) (by assumption) ?_)
                              | (refine Ro.take_on (i := 1) (v := ?_) rfl (by kernel_rfl) (by kernel_rfl) (by kernel_rfl) (fun _ _ _ h => h) (by rfl) (by assumption) ?_ ?_; rotate_left; · (intro wS hSw; (try dsimp only at hSw); go_simp; try with_reducible rfl))
                            try simp only [Act.put, List.setIfInBounds_toArray, List.set_cons_zero, List.set_cons_succ]
                            first
                              | (refine Ro.take_off (i := 2) rfl (by kernel_rfl) (by kernel_rfl) (by kernel_rfl) (fun _ _ _ h => h) (by rfl) (by assumption) ?_)
                              | (refine Ro.take_on (i := 2) (v := ?_) rfl (by kernel_rfl) (by kernel_rfl) (by kernel_rfl) (fun _ _ _ h => h) (by rfl) (by assumption) ?_ ?_; rotate_left; · (intro wS hSw; (try dsimp only at hSw); go_simp; try with_reducible rfl))
                            try simp only [Act.put, List.setIfInBounds_toArray, List.set_cons_zero, List.set_cons_succ]
                            first
                              | (refine Ro.take_off (i := 3) rfl (by kernel_rfl) (by kernel_rfl) (by kernel_rfl) (fun _ _ _ h => h) (by rfl) (by assumption) ?_)
                              | (refine Ro.take_on (i := 3) (v := ?_) rfl (by kernel_rfl) (by kernel_rfl) (by kernel_rfl) (fun _ _ _ h => h) (by rfl) (by assumption) ?_ ?_; rotate_left; · (intro wS hSw; (try dsimp only at hSw); go_simp; try with_reducible rfl))
                            try simp only [Act.put, List.setIfInBounds_toArray, List.set_cons_zero, List.set_cons_succ]
                            first
                              | (refine Ro.take_off (i := 4) rfl (by kernel_rfl) (by kernel_rfl) (by kernel_rfl) (fun _ _ _ h => h) (by rfl) (by assumption) ?_)
                              | (refine Ro.take_on (i := 4) (v := ?_) rfl (by kernel_rfl) (by kernel_rfl) (by kernel_rfl) (fun _ _ _ h => h) (by rfl) (by assumption) ?_ ?_; rotate_left; · (intro wS hSw; (try dsimp only at hSw); go_simp; try with_reducible rfl))
                            try simp only [Act.put, List.setIfInBounds_toArray, List.set_cons_zero, List.set_cons_succ]
                            first
                              | (refine Ro.take_off (i := 5) rfl (by kernel_rfl) (by kernel_rfl) (by kernel_rfl) (fun _ _ _ h => h) (by rfl) (by assumption) ?_)
                              | (refine Ro.take_on (i := 5) (v := ?_) rfl (by kernel_rfl) (by kernel_rfl) (by kernel_rfl) (fun _ _ _ h => h) (by rfl) (by assumption) ?_ ?_; rotate_left; · (intro wS hSw; (try dsimp only at hSw); go_simp; try with_reducible rfl))
                            try simp only [Act.put, List.setIfInBounds_toArray, List.set_cons_zero, List.set_cons_succ]
                            first
                              | (refine Ro.take_off (i := 6) rfl (by kernel_rfl) (by kernel_rfl) (by kernel_rfl) (fun _ _ _ h => h) (by rfl) (by assumption) ?_)
                              | (refine Ro.take_on (i := 6) (v := ?_) rfl (by kernel_rfl) (by kernel_rfl) (by kernel_rfl) (fun _ _ _ h => h) (by rfl) (by assumption) ?_ ?_; rotate_left; · (intro wS hSw; (try dsimp only at hSw); go_simp; try with_reducible rfl))
                            try simp only [Act.put, List.setIfInBounds_toArray, List.set_cons_zero, List.set_cons_succ]
                            first
                              | (refine Ro.take_off (i := 7) rfl (by kernel_rfl) (by kernel_rfl) (by kernel_rfl) (fun _ _ _ h => h) (by rfl) (by assumption) ?_)
                              | (refine Ro.take_on (i := 7) (v := ?_) rfl (by kernel_rfl) (by kernel_rfl) (by kernel_rfl) (fun _ _ _ h => h) (by rfl) (by assumption) ?_ ?_; rotate_left; · (intro wS hSw; (try dsimp only at hSw); go_simp; try with_reducible rfl))
                            try simp only [Act.put, List.setIfInBounds_toArray, List.set_cons_zero, List.set_cons_succ]
                            first
                              | (refine Ro.take_off (i := 8) rfl (by kernel_rfl) (by kernel_rfl) (by kernel_rfl) (fun _ _ _ h => h) (by rfl) (by assumption) ?_)
                              | (refine Ro.take_on (i := 8) (v := ?_) rfl (by kernel_rfl) (by kernel_rfl) (by kernel_rfl) (fun _ _ _ h => h) (by rfl) (by assumption) ?_ ?_; rotate_left; · (intro wS hSw; (try dsimp only at hSw); go_simp; try with_reducible rfl))
                            try simp only [Act.put, List.setIfInBounds_toArray, List.set_cons_zero, List.set_cons_succ]
                            first
                              | (refine Ro.take_off (i := 9) rfl (by kernel_rfl) (by kernel_rfl) (by kernel_rfl) (fun _ _ _ h => h) (by rfl) (by assumption) ?_)
                              | (refine Ro.take_on (i := 9) (v := ?_) rfl (by kernel_rfl) (by kernel_rfl) (by kernel_rfl) (fun _ _ _ h => h) (by rfl) (by assumption) ?_ ?_; rotate_left; · (intro wS hSw; (try dsimp only at hSw); go_simp; try with_reducible rfl))
                            try simp only [Act.put, List.setIfInBounds_toArray, List.set_cons_zero, List.set_cons_succ]
                            first
                              | (refine Ro.take_off (i := 10) rfl (by kernel_rfl) (by kernel_rfl) (by kernel_rfl) (fun _ _ _ h => h) (by rfl) (by assumption) ?_)
                              | (refine Ro.take_on (i := 10) (v := ?_) rfl (by kernel_rfl) (by kernel_rfl) (by kernel_rfl) (fun _ _ _ h => h) (by rfl) (by assumption) ?_ ?_; rotate_left; · (intro wS hSw; (try dsimp only at hSw); go_simp; try with_reducible rfl))
                            try simp only [Act.put, List.setIfInBounds_toArray, List.set_cons_zero, List.set_cons_succ]
                            first
                              | (refine Ro.take_off (i := 12) rfl (by kernel_rfl) (by kernel_rfl) (by kernel_rfl) (fun _ _ _ h => h) (by rfl) (by assumption) ?_)
                              | (refine Ro.take_on (i := 12) (v := ?_) rfl (by kernel_rfl) (by kernel_rfl) (by kernel_rfl) (fun _ _ _ h => h) (by rfl) (by assumption) ?_ ?_; rotate_left; · (intro wS hSw; (try dsimp only at hSw); go_simp; try with_reducible rfl))
                            try simp only [Act.put, List.setIfInBounds_toArray, List.set_cons_zero, List.set_cons_succ]
                            first
                              | (refine Ro.take_off (i := 13) rfl (by kernel_rfl) (by kernel_rfl) (by kernel_rfl) (fun _ _ _ h => h) (by rfl) (by assumption) ?_)
                              | (refine Ro.take_on (i := 13) (v := ?_) rfl (by kernel_rfl) (by kernel_rfl) (by kernel_rfl) (fun _ _ _ h => h) (by rfl) (by assumption) ?_ ?_; rotate_left; · (intro wS hSw; (try dsimp only at hSw); go_simp; try with_reducible rfl))
                            try simp only [Act.put, List.setIfInBounds_toArray, List.set_cons_zero, List.set_cons_succ]
                            first
                              | (refine Ro.take_off (i := 14) rfl (by kernel_rfl) (by kernel_rfl) (by kernel_rfl) (fun _ _ _ h => h) (by rfl) (by assumption) ?_)
                              | (refine Ro.take_on (i := 14) (v := ?_) rfl (by kernel_rfl) (by kernel_rfl) (by kernel_rfl) (fun _ _ _ h => h) (by rfl) (by assumption) ?_ ?_; rotate_left; · (intro wS hSw; (try dsimp only at hSw); go_simp; try with_reducible rfl))
                            try simp only [Act.put, List.setIfInBounds_toArray, List.set_cons_zero, List.set_cons_succ]
                            first
                              | (refine Ro.take_off (i := 15) rfl (by kernel_rfl) (by kernel_rfl) (by kernel_rfl) (fun _ _ _ h => h) (by rfl) (by assumption) ?_)
                              | (refine Ro.take_on (i := 15) (v := ?_) rfl (by kernel_rfl) (by kernel_rfl) (by kernel_rfl) (fun _ _ _ h => h) (by rfl) (by assumption) ?_ ?_; rotate_left; · (intro wS hSw; (try dsimp only at hSw); go_simp; try with_reducible rfl))
                            try simp only [Act.put, List.setIfInBounds_toArray, List.set_cons_zero, List.set_cons_succ]
                            first
                              | (refine Ro.take_off (i := 11) rfl (by kernel_rfl) (by kernel_rfl) (by kernel_rfl) (fun _ _ _ h => h) (by rfl) (by assumption) ?_)
                              | (refine Ro.one_on (i := 11) rfl (by kernel_rfl) (by rfl) (fun K hK => ?_); go_simp; go_at_call 41; (with_reducible refine (HA _).mono ?_); rintro e w' ⟨rfl, hs9⟩; (first | refine hK.out _ _ ?_ (fun hNew => ?_) | (go_wp2_with fail; refine hK.out _ _ ?_ (fun hNew => ?_))); (· (exact HSK.out _ _ hHeld hs9)); clear hK K hHeld; have hHeld := hNew; clear hNew)
                            try simp only [Act.put, List.setIfInBounds_toArray, List.set_cons_zero, List.set_cons_succ]
                            first
                              | (refine Ro.take_off (i := 16) rfl (by kernel_rfl) (by kernel_rfl) (by kernel_rfl) (fun _ _ _ h => h) (by rfl) (by assumption) ?_)
                              | (refine Ro.one_on (i := 16) rfl (by kernel_rfl) (by rfl) (fun K hK => ?_); go_simp; go_at_call 41; (with_reducible refine (HB _).mono ?_); rintro e w' ⟨rfl, hs9⟩; (first | refine hK.out _ _ ?_ (fun hNew => ?_) | (go_wp2_with fail; refine hK.out _ _ ?_ (fun hNew => ?_))); (· (exact HSK.out _ _ hHeld hs9)); clear hK K hHeld; have hHeld := hNew; clear hNew)
                            try simp only [Act.put, List.setIfInBounds_toArray, List.set_cons_zero, List.set_cons_succ]
                            first
                              | (refine Ro.take_off (i := 17) rfl (by kernel_rfl) (by kernel_rfl) (by kernel_rfl) (fun _ _ _ h => h) (by rfl) (by assumption) ?_)
                              | (refine Ro.take_on (i := 17) (v := ?_) rfl (by kernel_rfl) (by kernel_rfl) (by kernel_rfl) (fun _ _ _ h => h) (by rfl) (by assumption) ?_ ?_; rotate_left; · (intro wS hSw; (try dsimp only at hSw); go_simp; try with_reducible rfl))
                            try simp only [Act.put, List.setIfInBounds_toArray, List.set_cons_zero, List.set_cons_succ]
                            first
                              | (refine Ro.take_off (i := 18) rfl (by kernel_rfl) (by kernel_rfl) (by kernel_rfl) (fun _ _ _ h => h) (by rfl) (by assumption) ?_)
                              | (refine Ro.take_on (i := 18) (v := ?_) rfl (by kernel_rfl) (by kernel_rfl) (by kernel_rfl) (fun _ _ _ h => h) (by rfl) (by assumption) ?_ ?_; rotate_left; · (intro wS hSw; (try dsimp only at hSw); go_simp; try with_reducible rfl))
                            try simp only [Act.put, List.setIfInBounds_toArray, List.set_cons_zero, List.set_cons_succ]
                            refine wpAnyH_done (by kernel_rfl) ?_ _
                          · have HS10 := Lib.hid (HS4'.out.trans hHeld.2.2.2.2)
                            have HBX5 := Lib.hid (HBX4.out.same hHeld.2.2.2.2)
                            clear hHeld
                            go_wp2_with fail
                            go_roundg G2
                            case rel =>
                              refine ⟨j + 1, by omega, by go_num, ?_, HS10.out, HBX5.out⟩
                              intro hop2 q2 hq2
                              rcases Nat.lt_or_ge q2 j with h1 | h1
                              · exact HN2.out hop2 q2 h1
                              · have : q2 = j := by omega
                                subst this
                                rw [← HTX.out]
                                show (hasB (t.1, t.2) (r : Int) != hasB (t.1, t.2) x.n) = false
                                rw [← HU.out, ← HV.out]
                                rfl
                            case measure => omega
                          · have HS10 := Lib.hid (HS4'.out.trans hHeld.2.2.2.2)
                            clear hHeld
                            go_wp2_with fail
                            go_ret2
                            have hy : crossAt p (loopsL p) r = true := HYES.out j HOPX.out (by have := HLN.out; omega) (by rw [← HTX.out]; show (hasB (t.1, t.2) (r : Int) != hasB (t.1, t.2) x.n) = true; rw [← HU.out, ← HV.out]; rfl)
                            have := ck_of (check_cross HSZ.out HR1.out HR2.out HR3.out HRP.out hy HNO.out)
                            exact ⟨ret_ii this.1.symm this.2.symm, HS8.out.trans HS10.out⟩
                          · have HS10 := Lib.hid (HS4'.out.trans hHeld.2.2.2.2)
                            clear hHeld
                            go_wp2_with fail
                            go_ret2
                            have hy : crossAt p (loopsL p) r = true := HYES.out j HOPX.out (by have := HLN.out; omega) (by rw [← HTX.out]; show (hasB (t.1, t.2) (r : Int) != hasB (t.1, t.2) x.n) = true; rw [← HU.out, ← HV.out]; rfl)
                            have := ck_of (check_cross HSZ.out HR1.out HR2.out HR3.out HRP.out hy HNO.out)
                            exact ⟨ret_ii this.1.symm this.2.symm, HS8.out.trans HS10.out⟩
                          · have HS10 := Lib.hid (HS4'.out.trans hHeld.2.2.2.2)
                            have HBX5 := Lib.hid (HBX4.out.same hHeld.2.2.2.2)
                            clear hHeld
                            go_wp2_with fail
                            go_roundg G2
                            case rel =>
                              refine ⟨j + 1, by omega, by go_num, ?_, HS10.out, HBX5.out⟩
                              intro hop2 q2 hq2
                              rcases Nat.lt_or_ge q2 j with h1 | h1
                              · exact HN2.out hop2 q2 h1
                              · have : q2 = j := by omega
                                subst this
                                rw [← HTX.out]
                                show (hasB (t.1, t.2) (r : Int) != hasB (t.1, t.2) x.n) = false
                                rw [← HU.out, ← HV.out]
                                rfl
                            case measure => omega
                        · by_cases h15 : x.op = 15
                          · have b14 : (x.op == 14) = false := by simpa using h14
                            have b15 : (x.op == 15) = true := by simpa using h15
                            have HOPX : Hid (x.op = 14 ∨ x.op = 15) := Lib.hid (.inr h15)
                            clear h14 h15
                            cases u <;> cases v
                            all_goals
                              refine wp_region_held_drew (S := fun w' => w'.cell? ⟨qx, 0, none⟩ = some (.int .i64 x.op) ∧ w'.cell? ⟨qx, 4, none⟩ = some (.int .u32 x.n) ∧ w'.cell? ⟨q, 0, none⟩ = some (.int .i64 t.1) ∧ w'.cell? ⟨q, 1, none⟩ = some (.int .i64 t.2) ∧ Same w4 w') (by kernel_rfl) ?_ (fun hHeld => ?_)
                              · exact HST0.out
                              first
                                | (refine Ro.take_off (i := 0) rfl (by kernel_rfl) (by kernel_rfl) (by kernel_rfl) (fun _ _ _ h => h) (by rfl) (by assumption) ?_)
                                | (refine Ro.take_on (i := 0) (v := ?_) rfl (by kernel_rfl) (by kernel_rfl) (by kernel_rfl) (fun _ _ _ h => h) (by rfl) (by assumption) ?_ ?_; rotate_left; · (intro wS hSw; (try dsimp only at hSw); go_simp; try with_reducible rfl))
                              try simp only [Act.put, List.setIfInBounds_toArray, List.set_cons_zero, List.set_cons_succ]
                              first
                                | (refine Ro.take_off (i := 1) rfl (by kernel_rfl) (by kernel_rfl) (by kernel_rfl) (fun _ _ _ h => h) (by rfl) (by assumption) ?_)
                                | (refine Ro.take_on (i := 1) (v := ?_) rfl (by kernel_rfl) (by kernel_rfl) (by kernel_rfl) (fun _ _ _ h => h) (by rfl) (by assumption) ?_ ?_; rotate_left; · (intro wS hSw; (try dsimp only at hSw); go_simp; try with_reducible rfl))
                              try simp only [Act.put, List.setIfInBounds_toArray, List.set_cons_zero, List.set_cons_succ]
                              first
                                | (refine Ro.take_off (i := 2) rfl (by kernel_rfl) (by kernel_rfl) (by kernel_rfl) (fun _ _ _ h => h) (by rfl) (by assumption) ?_)
                                | (refine Ro.take_on (i := 2) (v := ?_) rfl (by kernel_rfl) (by kernel_rfl) (by kernel_rfl) (fun _ _ _ h => h) (by rfl) (by assumption) ?_ ?_; rotate_left; · (intro wS hSw; (try dsimp only at hSw); go_simp; try with_reducible rfl))
                              try simp only [Act.put, List.setIfInBounds_toArray, List.set_cons_zero, List.set_cons_succ]
                              first
                                | (refine Ro.take_off (i := 3) rfl (by kernel_rfl) (by kernel_rfl) (by kernel_rfl) (fun _ _ _ h => h) (by rfl) (by assumption) ?_)
                                | (refine Ro.take_on (i := 3) (v := ?_) rfl (by kernel_rfl) (by kernel_rfl) (by kernel_rfl) (fun _ _ _ h => h) (by rfl) (by assumption) ?_ ?_; rotate_left; · (intro wS hSw; (try dsimp only at hSw); go_simp; try with_reducible rfl))
                              try simp only [Act.put, List.setIfInBounds_toArray, List.set_cons_zero, List.set_cons_succ]
                              first
                                | (refine Ro.take_off (i := 4) rfl (by kernel_rfl) (by kernel_rfl) (by kernel_rfl) (fun _ _ _ h => h) (by rfl) (by assumption) ?_)
                                | (refine Ro.take_on (i := 4) (v := ?_) rfl (by kernel_rfl) (by kernel_rfl) (by kernel_rfl) (fun _ _ _ h => h) (by rfl) (by assumption) ?_ ?_; rotate_left; · (intro wS hSw; (try dsimp only at hSw); go_simp; try with_reducible rfl))
                              try simp only [Act.put, List.setIfInBounds_toArray, List.set_cons_zero, List.set_cons_succ]
                              first
                                | (refine Ro.take_off (i := 5) rfl (by kernel_rfl) (by kernel_rfl) (by kernel_rfl) (fun _ _ _ h => h) (by rfl) (by assumption) ?_)
                                | (refine Ro.take_on (i := 5) (v := ?_) rfl (by kernel_rfl) (by kernel_rfl) (by kernel_rfl) (fun _ _ _ h => h) (by rfl) (by assumption) ?_ ?_; rotate_left; · (intro wS hSw; (try dsimp only at hSw); go_simp; try with_reducible rfl))
                              try simp only [Act.put, List.setIfInBounds_toArray, List.set_cons_zero, List.set_cons_succ]
                              first
                                | (refine Ro.take_off (i := 6) rfl (by kernel_rfl) (by kernel_rfl) (by kernel_rfl) (fun _ _ _ h => h) (by rfl) (by assumption) ?_)
                                | (refine Ro.take_on (i := 6) (v := ?_) rfl (by kernel_rfl) (by kernel_rfl) (by kernel_rfl) (fun _ _ _ h => h) (by rfl) (by assumption) ?_ ?_; rotate_left; · (intro wS hSw; (try dsimp only at hSw); go_simp; try with_reducible rfl))
                              try simp only [Act.put, List.setIfInBounds_toArray, List.set_cons_zero, List.set_cons_succ]
                              first
                                | (refine Ro.take_off (i := 7) rfl (by kernel_rfl) (by kernel_rfl) (by kernel_rfl) (fun _ _ _ h => h) (by rfl) (by assumption) ?_)
                                | (refine Ro.take_on (i := 7) (v := ?_) rfl (by kernel_rfl) (by kernel_rfl) (by kernel_rfl) (fun _ _ _ h => h) (by rfl) (by assumption) ?_ ?_; rotate_left; · (intro wS hSw; (try dsimp only at hSw); go_simp; try with_reducible rfl))
                              try simp only [Act.put, List.setIfInBounds_toArray, List.set_cons_zero, List.set_cons_succ]
                              first
                                | (refine Ro.take_off (i := 8) rfl (by kernel_rfl) (by kernel_rfl) (by kernel_rfl) (fun _ _ _ h => h) (by rfl) (by assumption) ?_)
                                | (refine Ro.take_on (i := 8) (v := ?_) rfl (by kernel_rfl) (by kernel_rfl) (by kernel_rfl) (fun _ _ _ h => h) (by rfl) (by assumption) ?_ ?_; rotate_left; · (intro wS hSw; (try dsimp only at hSw); go_simp; try with_reducible rfl))
                              try simp only [Act.put, List.setIfInBounds_toArray, List.set_cons_zero, List.set_cons_succ]
                              first
                                | (refine Ro.take_off (i := 9) rfl (by kernel_rfl) (by kernel_rfl) (by kernel_rfl) (fun _ _ _ h => h) (by rfl) (by assumption) ?_)
                                | (refine Ro.take_on (i := 9) (v := ?_) rfl (by kernel_rfl) (by kernel_rfl) (by kernel_rfl) (fun _ _ _ h => h) (by rfl) (by assumption) ?_ ?_; rotate_left; · (intro wS hSw; (try dsimp only at hSw); go_simp; try with_reducible rfl))
                              try simp only [Act.put, List.setIfInBounds_toArray, List.set_cons_zero, List.set_cons_succ]
                              first
                                | (refine Ro.take_off (i := 10) rfl (by kernel_rfl) (by kernel_rfl) (by kernel_rfl) (fun _ _ _ h => h) (by rfl) (by assumption) ?_)
                                | (refine Ro.take_on (i := 10) (v := ?_) rfl (by kernel_rfl) (by kernel_rfl) (by kernel_rfl) (fun _ _ _ h => h) (by rfl) (by assumption) ?_ ?_; rotate_left; · (intro wS hSw; (try dsimp only at hSw); go_simp; try with_reducible rfl))
                              try simp only [Act.put, List.setIfInBounds_toArray, List.set_cons_zero, List.set_cons_succ]
                              first
                                | (refine Ro.take_off (i := 12) rfl (by kernel_rfl) (by kernel_rfl) (by kernel_rfl) (fun _ _ _ h => h) (by rfl) (by assumption) ?_)
                                | (refine Ro.take_on (i := 12) (v := ?_) rfl (by kernel_rfl) (by kernel_rfl) (by kernel_rfl) (fun _ _ _ h => h) (by rfl) (by assumption) ?_ ?_; rotate_left; · (intro wS hSw; (try dsimp only at hSw); go_simp; try with_reducible rfl))
                              try simp only [Act.put, List.setIfInBounds_toArray, List.set_cons_zero, List.set_cons_succ]
                              first
                                | (refine Ro.take_off (i := 13) rfl (by kernel_rfl) (by kernel_rfl) (by kernel_rfl) (fun _ _ _ h => h) (by rfl) (by assumption) ?_)
                                | (refine Ro.take_on (i := 13) (v := ?_) rfl (by kernel_rfl) (by kernel_rfl) (by kernel_rfl) (fun _ _ _ h => h) (by rfl) (by assumption) ?_ ?_; rotate_left; · (intro wS hSw; (try dsimp only at hSw); go_simp; try with_reducible rfl))
                              try simp only [Act.put, List.setIfInBounds_toArray, List.set_cons_zero, List.set_cons_succ]
                              first
                                | (refine Ro.take_off (i := 14) rfl (by kernel_rfl) (by kernel_rfl) (by kernel_rfl) (fun _ _ _ h => h) (by rfl) (by assumption) ?_)
                                | (refine Ro.take_on (i := 14) (v := ?_) rfl (by kernel_rfl) (by kernel_rfl) (by kernel_rfl) (fun _ _ _ h => h) (by rfl) (by assumption) ?_ ?_; rotate_left; · (intro wS hSw; (try dsimp only at hSw); go_simp; try with_reducible rfl))
                              try simp only [Act.put, List.setIfInBounds_toArray, List.set_cons_zero, List.set_cons_succ]
                              first
                                | (refine Ro.take_off (i := 15) rfl (by kernel_rfl) (by kernel_rfl) (by kernel_rfl) (fun _ _ _ h => h) (by rfl) (by assumption) ?_)
                                | (refine Ro.take_on (i := 15) (v := ?_) rfl (by kernel_rfl) (by kernel_rfl) (by kernel_rfl) (fun _ _ _ h => h) (by rfl) (by assumption) ?_ ?_; rotate_left; · (intro wS hSw; (try dsimp only at hSw); go_simp; try with_reducible rfl))
                              try simp only [Act.put, List.setIfInBounds_toArray, List.set_cons_zero, List.set_cons_succ]
                              first
                                | (refine Ro.take_off (i := 11) rfl (by kernel_rfl) (by kernel_rfl) (by kernel_rfl) (fun _ _ _ h => h) (by rfl) (by assumption) ?_)
                                | (refine Ro.one_on (i := 11) rfl (by kernel_rfl) (by rfl) (fun K hK => ?_); go_simp; go_at_call 41; (with_reducible refine (HA _).mono ?_); rintro e w' ⟨rfl, hs9⟩; (first | refine hK.out _ _ ?_ (fun hNew => ?_) | (go_wp2_with fail; refine hK.out _ _ ?_ (fun hNew => ?_))); (· (exact HSK.out _ _ hHeld hs9)); clear hK K hHeld; have hHeld := hNew; clear hNew)
                              try simp only [Act.put, List.setIfInBounds_toArray, List.set_cons_zero, List.set_cons_succ]
                              first
                                | (refine Ro.take_off (i := 16) rfl (by kernel_rfl) (by kernel_rfl) (by kernel_rfl) (fun _ _ _ h => h) (by rfl) (by assumption) ?_)
                                | (refine Ro.one_on (i := 16) rfl (by kernel_rfl) (by rfl) (fun K hK => ?_); go_simp; go_at_call 41; (with_reducible refine (HB _).mono ?_); rintro e w' ⟨rfl, hs9⟩; (first | refine hK.out _ _ ?_ (fun hNew => ?_) | (go_wp2_with fail; refine hK.out _ _ ?_ (fun hNew => ?_))); (· (exact HSK.out _ _ hHeld hs9)); clear hK K hHeld; have hHeld := hNew; clear hNew)
                              try simp only [Act.put, List.setIfInBounds_toArray, List.set_cons_zero, List.set_cons_succ]
                              first
                                | (refine Ro.take_off (i := 17) rfl (by kernel_rfl) (by kernel_rfl) (by kernel_rfl) (fun _ _ _ h => h) (by rfl) (by assumption) ?_)
                                | (refine Ro.take_on (i := 17) (v := ?_) rfl (by kernel_rfl) (by kernel_rfl) (by kernel_rfl) (fun _ _ _ h => h) (by rfl) (by assumption) ?_ ?_; rotate_left; · (intro wS hSw; (try dsimp only at hSw); go_simp; try with_reducible rfl))
                              try simp only [Act.put, List.setIfInBounds_toArray, List.set_cons_zero, List.set_cons_succ]
                              first
                                | (refine Ro.take_off (i := 18) rfl (by kernel_rfl) (by kernel_rfl) (by kernel_rfl) (fun _ _ _ h => h) (by rfl) (by assumption) ?_)
                                | (refine Ro.take_on (i := 18) (v := ?_) rfl (by kernel_rfl) (by kernel_rfl) (by kernel_rfl) (fun _ _ _ h => h) (by rfl) (by assumption) ?_ ?_; rotate_left; · (intro wS hSw; (try dsimp only at hSw); go_simp; try with_reducible rfl))
                              try simp only [Act.put, List.setIfInBounds_toArray, List.set_cons_zero, List.set_cons_succ]
                              refine wpAnyH_done (by kernel_rfl) ?_ _
                            · have HS10 := Lib.hid (HS4'.out.trans hHeld.2.2.2.2)
                              have HBX5 := Lib.hid (HBX4.out.same hHeld.2.2.2.2)
                              clear hHeld
                              go_wp2_with fail
                              go_roundg G2
                              case rel =>
                                refine ⟨j + 1, by omega, by go_num, ?_, HS10.out, HBX5.out⟩
                                intro hop2 q2 hq2
                                rcases Nat.lt_or_ge q2 j with h1 | h1
                                · exact HN2.out hop2 q2 h1
                                · have : q2 = j := by omega
                                  subst this
                                  rw [← HTX.out]
                                  show (hasB (t.1, t.2) (r : Int) != hasB (t.1, t.2) x.n) = false
                                  rw [← HU.out, ← HV.out]
                                  rfl
                              case measure => omega
                            · have HS10 := Lib.hid (HS4'.out.trans hHeld.2.2.2.2)
                              clear hHeld
                              go_wp2_with fail
                              go_ret2
                              have hy : crossAt p (loopsL p) r = true := HYES.out j HOPX.out (by have := HLN.out; omega) (by rw [← HTX.out]; show (hasB (t.1, t.2) (r : Int) != hasB (t.1, t.2) x.n) = true; rw [← HU.out, ← HV.out]; rfl)
                              have := ck_of (check_cross HSZ.out HR1.out HR2.out HR3.out HRP.out hy HNO.out)
                              exact ⟨ret_ii this.1.symm this.2.symm, HS8.out.trans HS10.out⟩
                            · have HS10 := Lib.hid (HS4'.out.trans hHeld.2.2.2.2)
                              clear hHeld
                              go_wp2_with fail
                              go_ret2
                              have hy : crossAt p (loopsL p) r = true := HYES.out j HOPX.out (by have := HLN.out; omega) (by rw [← HTX.out]; show (hasB (t.1, t.2) (r : Int) != hasB (t.1, t.2) x.n) = true; rw [← HU.out, ← HV.out]; rfl)
                              have := ck_of (check_cross HSZ.out HR1.out HR2.out HR3.out HRP.out hy HNO.out)
                              exact ⟨ret_ii this.1.symm this.2.symm, HS8.out.trans HS10.out⟩
                            · have HS10 := Lib.hid (HS4'.out.trans hHeld.2.2.2.2)
                              have HBX5 := Lib.hid (HBX4.out.same hHeld.2.2.2.2)
                              clear hHeld
                              go_wp2_with fail
                              go_roundg G2
                              case rel =>
                                refine ⟨j + 1, by omega, by go_num, ?_, HS10.out, HBX5.out⟩
                                intro hop2 q2 hq2
                                rcases Nat.lt_or_ge q2 j with h1 | h1
                                · exact HN2.out hop2 q2 h1
                                · have : q2 = j := by omega
                                  subst this
                                  rw [← HTX.out]
                                  show (hasB (t.1, t.2) (r : Int) != hasB (t.1, t.2) x.n) = false
                                  rw [← HU.out, ← HV.out]
                                  rfl
                              case measure => omega
                          · have b14 : (x.op == 14) = false := by simpa using h14
                            have b15 : (x.op == 15) = false := by simpa using h15
                            have HNP : Hid (¬ (x.op = 14 ∨ x.op = 15)) := Lib.hid (fun h => h.elim h14 h15)
                            clear h14 h15
                            refine wp_region_held_drew (S := fun w' => w'.cell? ⟨qx, 0, none⟩ = some (.int .i64 x.op) ∧ w'.cell? ⟨qx, 4, none⟩ = some (.int .u32 x.n) ∧ w'.cell? ⟨q, 0, none⟩ = some (.int .i64 t.1) ∧ w'.cell? ⟨q, 1, none⟩ = some (.int .i64 t.2) ∧ Same w4 w') (by kernel_rfl) ?_ (fun hHeld => ?_)
                            · exact HST0.out
                            first
                              | (refine Ro.take_off (i := 0) rfl (by kernel_rfl) (by kernel_rfl) (by kernel_rfl) (fun _ _ _ h => h) (by rfl) (by assumption) ?_)
                              | (refine Ro.take_on (i := 0) (v := ?_) rfl (by kernel_rfl) (by kernel_rfl) (by kernel_rfl) (fun _ _ _ h => h) (by rfl) (by assumption) ?_ ?_; rotate_left; · (intro wS hSw; (try dsimp only at hSw); go_simp; try with_reducible rfl))
                            try simp only [Act.put, List.setIfInBounds_toArray, List.set_cons_zero, List.set_cons_succ]
                            first
                              | (refine Ro.take_off (i := 1) rfl (by kernel_rfl) (by kernel_rfl) (by kernel_rfl) (fun _ _ _ h => h) (by rfl) (by assumption) ?_)
                              | (refine Ro.take_on (i := 1) (v := ?_) rfl (by kernel_rfl) (by kernel_rfl) (by kernel_rfl) (fun _ _ _ h => h) (by rfl) (by assumption) ?_ ?_; rotate_left; · (intro wS hSw; (try dsimp only at hSw); go_simp; try with_reducible rfl))
                            try simp only [Act.put, List.setIfInBounds_toArray, List.set_cons_zero, List.set_cons_succ]
                            first
                              | (refine Ro.take_off (i := 2) rfl (by kernel_rfl) (by kernel_rfl) (by kernel_rfl) (fun _ _ _ h => h) (by rfl) (by assumption) ?_)
                              | (refine Ro.take_on (i := 2) (v := ?_) rfl (by kernel_rfl) (by kernel_rfl) (by kernel_rfl) (fun _ _ _ h => h) (by rfl) (by assumption) ?_ ?_; rotate_left; · (intro wS hSw; (try dsimp only at hSw); go_simp; try with_reducible rfl))
                            try simp only [Act.put, List.setIfInBounds_toArray, List.set_cons_zero, List.set_cons_succ]
                            first
                              | (refine Ro.take_off (i := 3) rfl (by kernel_rfl) (by kernel_rfl) (by kernel_rfl) (fun _ _ _ h => h) (by rfl) (by assumption) ?_)
                              | (refine Ro.take_on (i := 3) (v := ?_) rfl (by kernel_rfl) (by kernel_rfl) (by kernel_rfl) (fun _ _ _ h => h) (by rfl) (by assumption) ?_ ?_; rotate_left; · (intro wS hSw; (try dsimp only at hSw); go_simp; try with_reducible rfl))
                            try simp only [Act.put, List.setIfInBounds_toArray, List.set_cons_zero, List.set_cons_succ]
                            first
                              | (refine Ro.take_off (i := 4) rfl (by kernel_rfl) (by kernel_rfl) (by kernel_rfl) (fun _ _ _ h => h) (by rfl) (by assumption) ?_)
                              | (refine Ro.take_on (i := 4) (v := ?_) rfl (by kernel_rfl) (by kernel_rfl) (by kernel_rfl) (fun _ _ _ h => h) (by rfl) (by assumption) ?_ ?_; rotate_left; · (intro wS hSw; (try dsimp only at hSw); go_simp; try with_reducible rfl))
                            try simp only [Act.put, List.setIfInBounds_toArray, List.set_cons_zero, List.set_cons_succ]
                            first
                              | (refine Ro.take_off (i := 5) rfl (by kernel_rfl) (by kernel_rfl) (by kernel_rfl) (fun _ _ _ h => h) (by rfl) (by assumption) ?_)
                              | (refine Ro.take_on (i := 5) (v := ?_) rfl (by kernel_rfl) (by kernel_rfl) (by kernel_rfl) (fun _ _ _ h => h) (by rfl) (by assumption) ?_ ?_; rotate_left; · (intro wS hSw; (try dsimp only at hSw); go_simp; try with_reducible rfl))
                            try simp only [Act.put, List.setIfInBounds_toArray, List.set_cons_zero, List.set_cons_succ]
                            first
                              | (refine Ro.take_off (i := 6) rfl (by kernel_rfl) (by kernel_rfl) (by kernel_rfl) (fun _ _ _ h => h) (by rfl) (by assumption) ?_)
                              | (refine Ro.take_on (i := 6) (v := ?_) rfl (by kernel_rfl) (by kernel_rfl) (by kernel_rfl) (fun _ _ _ h => h) (by rfl) (by assumption) ?_ ?_; rotate_left; · (intro wS hSw; (try dsimp only at hSw); go_simp; try with_reducible rfl))
                            try simp only [Act.put, List.setIfInBounds_toArray, List.set_cons_zero, List.set_cons_succ]
                            first
                              | (refine Ro.take_off (i := 7) rfl (by kernel_rfl) (by kernel_rfl) (by kernel_rfl) (fun _ _ _ h => h) (by rfl) (by assumption) ?_)
                              | (refine Ro.take_on (i := 7) (v := ?_) rfl (by kernel_rfl) (by kernel_rfl) (by kernel_rfl) (fun _ _ _ h => h) (by rfl) (by assumption) ?_ ?_; rotate_left; · (intro wS hSw; (try dsimp only at hSw); go_simp; try with_reducible rfl))
                            try simp only [Act.put, List.setIfInBounds_toArray, List.set_cons_zero, List.set_cons_succ]
                            first
                              | (refine Ro.take_off (i := 8) rfl (by kernel_rfl) (by kernel_rfl) (by kernel_rfl) (fun _ _ _ h => h) (by rfl) (by assumption) ?_)
                              | (refine Ro.take_on (i := 8) (v := ?_) rfl (by kernel_rfl) (by kernel_rfl) (by kernel_rfl) (fun _ _ _ h => h) (by rfl) (by assumption) ?_ ?_; rotate_left; · (intro wS hSw; (try dsimp only at hSw); go_simp; try with_reducible rfl))
                            try simp only [Act.put, List.setIfInBounds_toArray, List.set_cons_zero, List.set_cons_succ]
                            first
                              | (refine Ro.take_off (i := 9) rfl (by kernel_rfl) (by kernel_rfl) (by kernel_rfl) (fun _ _ _ h => h) (by rfl) (by assumption) ?_)
                              | (refine Ro.take_on (i := 9) (v := ?_) rfl (by kernel_rfl) (by kernel_rfl) (by kernel_rfl) (fun _ _ _ h => h) (by rfl) (by assumption) ?_ ?_; rotate_left; · (intro wS hSw; (try dsimp only at hSw); go_simp; try with_reducible rfl))
                            try simp only [Act.put, List.setIfInBounds_toArray, List.set_cons_zero, List.set_cons_succ]
                            first
                              | (refine Ro.take_off (i := 10) rfl (by kernel_rfl) (by kernel_rfl) (by kernel_rfl) (fun _ _ _ h => h) (by rfl) (by assumption) ?_)
                              | (refine Ro.take_on (i := 10) (v := ?_) rfl (by kernel_rfl) (by kernel_rfl) (by kernel_rfl) (fun _ _ _ h => h) (by rfl) (by assumption) ?_ ?_; rotate_left; · (intro wS hSw; (try dsimp only at hSw); go_simp; try with_reducible rfl))
                            try simp only [Act.put, List.setIfInBounds_toArray, List.set_cons_zero, List.set_cons_succ]
                            first
                              | (refine Ro.take_off (i := 12) rfl (by kernel_rfl) (by kernel_rfl) (by kernel_rfl) (fun _ _ _ h => h) (by rfl) (by assumption) ?_)
                              | (refine Ro.take_on (i := 12) (v := ?_) rfl (by kernel_rfl) (by kernel_rfl) (by kernel_rfl) (fun _ _ _ h => h) (by rfl) (by assumption) ?_ ?_; rotate_left; · (intro wS hSw; (try dsimp only at hSw); go_simp; try with_reducible rfl))
                            try simp only [Act.put, List.setIfInBounds_toArray, List.set_cons_zero, List.set_cons_succ]
                            first
                              | (refine Ro.take_off (i := 13) rfl (by kernel_rfl) (by kernel_rfl) (by kernel_rfl) (fun _ _ _ h => h) (by rfl) (by assumption) ?_)
                              | (refine Ro.take_on (i := 13) (v := ?_) rfl (by kernel_rfl) (by kernel_rfl) (by kernel_rfl) (fun _ _ _ h => h) (by rfl) (by assumption) ?_ ?_; rotate_left; · (intro wS hSw; (try dsimp only at hSw); go_simp; try with_reducible rfl))
                            try simp only [Act.put, List.setIfInBounds_toArray, List.set_cons_zero, List.set_cons_succ]
                            first
                              | (refine Ro.take_off (i := 14) rfl (by kernel_rfl) (by kernel_rfl) (by kernel_rfl) (fun _ _ _ h => h) (by rfl) (by assumption) ?_)
                              | (refine Ro.take_on (i := 14) (v := ?_) rfl (by kernel_rfl) (by kernel_rfl) (by kernel_rfl) (fun _ _ _ h => h) (by rfl) (by assumption) ?_ ?_; rotate_left; · (intro wS hSw; (try dsimp only at hSw); go_simp; try with_reducible rfl))
                            try simp only [Act.put, List.setIfInBounds_toArray, List.set_cons_zero, List.set_cons_succ]
                            first
                              | (refine Ro.take_off (i := 15) rfl (by kernel_rfl) (by kernel_rfl) (by kernel_rfl) (fun _ _ _ h => h) (by rfl) (by assumption) ?_)
                              | (refine Ro.take_on (i := 15) (v := ?_) rfl (by kernel_rfl) (by kernel_rfl) (by kernel_rfl) (fun _ _ _ h => h) (by rfl) (by assumption) ?_ ?_; rotate_left; · (intro wS hSw; (try dsimp only at hSw); go_simp; try with_reducible rfl))
                            try simp only [Act.put, List.setIfInBounds_toArray, List.set_cons_zero, List.set_cons_succ]
                            first
                              | (refine Ro.take_off (i := 11) rfl (by kernel_rfl) (by kernel_rfl) (by kernel_rfl) (fun _ _ _ h => h) (by rfl) (by assumption) ?_)
                              | (refine Ro.one_on (i := 11) rfl (by kernel_rfl) (by rfl) (fun K hK => ?_); go_simp; go_at_call 41; (with_reducible refine (HA _).mono ?_); rintro e w' ⟨rfl, hs9⟩; (first | refine hK.out _ _ ?_ (fun hNew => ?_) | (go_wp2_with fail; refine hK.out _ _ ?_ (fun hNew => ?_))); (· (exact HSK.out _ _ hHeld hs9)); clear hK K hHeld; have hHeld := hNew; clear hNew)
                            try simp only [Act.put, List.setIfInBounds_toArray, List.set_cons_zero, List.set_cons_succ]
                            first
                              | (refine Ro.take_off (i := 16) rfl (by kernel_rfl) (by kernel_rfl) (by kernel_rfl) (fun _ _ _ h => h) (by rfl) (by assumption) ?_)
                              | (refine Ro.one_on (i := 16) rfl (by kernel_rfl) (by rfl) (fun K hK => ?_); go_simp; go_at_call 41; (with_reducible refine (HB _).mono ?_); rintro e w' ⟨rfl, hs9⟩; (first | refine hK.out _ _ ?_ (fun hNew => ?_) | (go_wp2_with fail; refine hK.out _ _ ?_ (fun hNew => ?_))); (· (exact HSK.out _ _ hHeld hs9)); clear hK K hHeld; have hHeld := hNew; clear hNew)
                            try simp only [Act.put, List.setIfInBounds_toArray, List.set_cons_zero, List.set_cons_succ]
                            first
                              | (refine Ro.take_off (i := 17) rfl (by kernel_rfl) (by kernel_rfl) (by kernel_rfl) (fun _ _ _ h => h) (by rfl) (by assumption) ?_)
                              | (refine Ro.take_on (i := 17) (v := ?_) rfl (by kernel_rfl) (by kernel_rfl) (by kernel_rfl) (fun _ _ _ h => h) (by rfl) (by assumption) ?_ ?_; rotate_left; · (intro wS hSw; (try dsimp only at hSw); go_simp; try with_reducible rfl))
                            try simp only [Act.put, List.setIfInBounds_toArray, List.set_cons_zero, List.set_cons_succ]
                            first
                              | (refine Ro.take_off (i := 18) rfl (by kernel_rfl) (by kernel_rfl) (by kernel_rfl) (fun _ _ _ h => h) (by rfl) (by assumption) ?_)
                              | (refine Ro.take_on (i := 18) (v := ?_) rfl (by kernel_rfl) (by kernel_rfl) (by kernel_rfl) (fun _ _ _ h => h) (by rfl) (by assumption) ?_ ?_; rotate_left; · (intro wS hSw; (try dsimp only at hSw); go_simp; try with_reducible rfl))
                            try simp only [Act.put, List.setIfInBounds_toArray, List.set_cons_zero, List.set_cons_succ]
                            refine wpAnyH_done (by kernel_rfl) ?_ _
                            have HS10 := Lib.hid (HS4'.out.trans hHeld.2.2.2.2)
                            have HBX5 := Lib.hid (HBX4.out.same hHeld.2.2.2.2)
                            clear hHeld
                            go_wp2_with fail
                            go_roundg G2
                            case rel =>
                              refine ⟨j + 1, by omega, by go_num, ?_, HS10.out, HBX5.out⟩
                              intro hop2 q2 hq2
                              rcases Nat.lt_or_ge q2 j with h1 | h1
                              · exact HN2.out hop2 q2 h1
                              · exact absurd hop2 HNP.out
                            case measure => omega
                  | zero =>
                    obtain rfl : r = i := by omega
                    have hger : ¬ (r : Int) < (r : Int) := by omega
                    have HR4 : Hid (∀ j, j < p.length → crossAt p (loopsL p) j = false) := Lib.hid (fun j hj => HNO.out j (by have := HL.out; omega))
                    have HSF := Lib.hid (HS8.out.trans HS9.out)
                    have hi1 : 1 ≤ r := by have := HSZ.out; have := HL.out; omega
                    obtain ⟨hok, b, o, rfl, c0, _⟩ := (HP.out.same HSF.out).at_ (k := r - 1) (by have := HL.out; omega)
                    have f1 := i64_of ((r : Int) - 1) (by omega)
                    have f2 : ((r : Int) - 1).toNat = r - 1 := by omega
                    have f3 : (0 : Int) ≤ (r : Int) - 1 := by omega
                    have f4 : (r : Int) - 1 < r := by omega
                    have HE : Hid (p.length - 1 = r - 1 ∧ (p.length : Int) - 1 = (r : Int) - 1) := Lib.hid (by have := HL.out; omega)
                    have hck' := check_last HSZ.out HR1.out HR2.out HR3.out HR4.out
                    rw [HE.out.1, HE.out.2] at hck'
                    have HCK := Lib.hid hck'
                    clear hck' hok
                    generalize Fp.at_ p (r - 1) = x at *
                    by_cases h21 : x.op = 21
                    · have b21 : (x.op != 21) = false := by simpa using h21
                      have := HCK.out
                      rw [if_pos h21] at this
                      have HC2 := Lib.hid (ck_of this)
                      clear this h21
                      go_wp2_with fail
                      go_ret2
                      exact ⟨ret_ii HC2.out.1.symm HC2.out.2.symm, HSF.out⟩
                    · have b21 : (x.op != 21) = true := by simpa using h21
                      have := HCK.out
                      rw [if_neg h21] at this
                      have HC2 := Lib.hid (ck_of this)
                      clear this h21
                      go_wp2_with fail
                      go_ret2
                      exact ⟨ret_ii HC2.out.1.symm HC2.out.2.symm, HSF.out⟩

end Go.Proofs.YtnlndkpjfgpodaaDoor.Fw
