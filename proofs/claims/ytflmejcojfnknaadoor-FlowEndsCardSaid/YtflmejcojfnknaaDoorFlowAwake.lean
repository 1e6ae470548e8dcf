/-

  Two rows of loops held against each other; the example of chapter 10.
-/
import Derived.Test.YtflmejcojfnknaaDoorFlowUse
set_option linter.unusedVariables false
set_option linter.unusedSimpArgs false
namespace Go.Proofs.YtflmejcojfnknaaDoor.Fw
open Go.ChangeShapes Go.WideShapes Go.ChangeAt Go.RowKit Ws Fp
open Go.Proofs.YtflmejcojfnknaaDoor.Is (Tabs ins rightB leadB)

theorem take_lp {l : List (Int × Int)} {k : Nat} (h : k < l.length) : l.take (k + 1) = l.take k ++ [lp l k] := by
  rw [List.take_add_one, lp_get h]
  rfl
set_option maxRecDepth 100000 in
theorem spans_eq (A C : Option Addr) (n m c d : Nat) (xs ys : List (Int × Int)) (w : World) (hn : xs.length = n) (hm : ys.length = m) (hx : Spn w A xs) (hy : Spn w C ys) (b1 : n ≤ 5000) (b2 : m ≤ 5000) :
    Calls Tryd.prog 60 #[.slice A n c, .slice C m d] w fun e w' => e = .returned (.bool (decide (xs = ys))) ∧ Same w w' := by
  have HX := Lib.hid hx
  have HY := Lib.hid hy
  have HN := Lib.hid hn
  have HM := Lib.hid hm
  by_cases hl : n = m
  · clear hx hy hn hm
    subst hl
    go_enter Tryd.func60, Tryd.ntmps60
    go_wp2_with fail
    go_loopg [13] n (fun gk iv wx => ∃ k : Nat, k + gk = n ∧ iv = .int .i64 k ∧ xs.take k = ys.take k ∧ Same w wx)
    case atStart => exact ⟨0, by omega, rfl, by simp, Same.refl _⟩
    case round =>
      obtain ⟨k, hk, rfl, hp, sx⟩ := hrel
      have HP := Lib.hid hp
      have HS := Lib.hid sx
      clear hp sx
      cases gk with
      | zero =>
        obtain rfl : k = n := by omega
        have hge : ¬ (k : Int) < (k : Int) := by omega
        go_wp2_with fail
        go_ret
        refine ⟨ret_bool ?_, HS.out⟩
        have := HP.out
        rw [List.take_of_length_le (by have := HN.out; omega), List.take_of_length_le (by have := HM.out; omega)] at this
        rw [decide_eq_true this]
      | succ GK =>
        have hlt : (k : Int) < n := by omega
        have hk0 : (0 : Int) ≤ k := by omega
        have hkn : k < n := by omega
        obtain ⟨b, o, rfl, c0, c1⟩ := (HX.out.same HS.out).at_ (k := k) (by have := HN.out; omega)
        obtain ⟨b', o', rfl, d0, d1⟩ := (HY.out.same HS.out).at_ (k := k) (by have := HM.out; omega)
        have HTX := Lib.hid (take_lp (l := xs) (k := k) (by have := HN.out; omega))
        have HTY := Lib.hid (take_lp (l := ys) (k := k) (by have := HM.out; omega))
        generalize lp xs k = s at *
        generalize lp ys k = t at *
        by_cases hst : s = t
        · subst hst
          go_wp2_with fail
          go_quiet (fail)
          have HS2 := Lib.hid (HS.out.drewN nq)
          go_wp2_with fail
          go_roundg GK
          case rel => exact ⟨k + 1, by omega, by go_num, by rw [HTX.out, HTY.out, HP.out], HS2.out⟩
          case measure => omega
        · have hne : ¬ (s.1 = t.1 ∧ s.2 = t.2) := fun h => hst (by obtain ⟨a, b⟩ := s; obtain ⟨c, d⟩ := t; simp only at h; rw [h.1, h.2])
          have hd : decide (xs = ys) = false := by
            rw [decide_eq_false_iff_not]
            intro he
            have h1 := HTX.out
            rw [he, HTY.out] at h1
            have := List.append_cancel_left h1
            injection this with this
            exact hst this.symm
          have HD := Lib.hid hd
          clear hd hst
          by_cases h1 : s.1 = t.1
          · have h2 : ¬ s.2 = t.2 := fun h => hne ⟨h1, h⟩
            have e1 : (s.1 == t.1) = true := by simpa using h1
            have e2 : (s.2 == t.2) = false := by simpa using h2
            clear hne h1 h2
            go_wp2_with fail
            go_quiet (fail)
            have HS2 := Lib.hid (HS.out.drewN nq)
            go_wp2_with fail
            go_ret
            exact ⟨ret_bool HD.out.symm, HS2.out⟩
          · have e1 : (s.1 == t.1) = false := by simpa using h1
            clear hne h1
            go_wp2_with fail
            go_quiet (fail)
            have HS2 := Lib.hid (HS.out.drewN nq)
            go_wp2_with fail
            go_ret
            exact ⟨ret_bool HD.out.symm, HS2.out⟩
  · have hd : decide (xs = ys) = false := by
      rw [decide_eq_false_iff_not]
      rintro rfl
      omega
    have hne : ((n : Int) != (m : Int)) = true := by simp; omega
    rw [hd]
    clear hx hy hn hm hl hd
    go_enter Tryd.func60, Tryd.ntmps60
    go_wp2_with fail
    go_ret
    exact ⟨rfl, Same.refl _⟩

def prgCells (p : List Ins) : List Value := p.flatMap cells
theorem prgCells_get : ∀ (p : List Ins) (i : Nat) (x : Ins), p[i]? = some x → ∀ j v, (cells x)[j]? = some v → (prgCells p)[i * 5 + j]? = some v
  | [], i, x, h, _, _, _ => by simp at h
  | y :: p, 0, x, h, j, v, hv => by
    simp at h
    subst h
    have hj : j < (cells y).length := by
      rcases Nat.lt_or_ge j (cells y).length with h | h
      · exact h
      · rw [List.getElem?_eq_none h] at hv; cases hv
    have e : prgCells (y :: p) = cells y ++ prgCells p := rfl
    rw [e, Nat.zero_mul, Nat.zero_add, List.getElem?_append_left hj]
    exact hv
  | y :: p, i + 1, x, h, j, v, hv => by
    have := prgCells_get p i x (by simpa using h) j v hv
    have e : prgCells (y :: p) = cells y ++ prgCells p := rfl
    have hl : (cells y).length = 5 := rfl
    rw [e, List.getElem?_append_right (by omega), hl, show (i + 1) * 5 + j - 5 = i * 5 + j by omega]
    exact this
theorem prg_of {w : World} {A : Option Addr} {p : List Ins} (h : Row w A (prgCells p)) (hok : ∀ x ∈ p, x.ok) : Prg w A p := by
  intro i x hx
  refine ⟨hok x (List.mem_of_getElem? hx), ?_⟩
  obtain ⟨b, o, hA, _⟩ := h _ _ (prgCells_get p i x hx 0 _ rfl)
  refine ⟨b, o, hA, fun j v hv => ?_⟩
  obtain ⟨b', o', hA', hc⟩ := h _ _ (prgCells_get p i x hx j v hv)
  rw [hA] at hA'
  injection hA' with hA'
  injection hA' with e1 e2
  subst e1
  subst e2
  rw [Nat.add_assoc]
  exact hc

def p0 : List Ins := [⟨0, 0, 0, 0, 0⟩, ⟨16, 0, 0, 3, 0⟩, ⟨21, 0, 0, 0, 0⟩]
theorem p0_ok : ckE p0 = 0 := by decide +kernel
theorem p0_told : toldL p0 = [(0, 1)] := by decide +kernel
theorem p0_next : nextsL p0 1 = [0, 2] := by decide +kernel
theorem p0_depth : depthI (toldL p0) 0 = 1 := by decide +kernel

set_option maxRecDepth 100000 in
theorem awake10 (w : World) (ht : Tabs w) : Calls Tryd.prog 31 #[] w fun e w' => e = .returned (.bool true) ∧ Same w w' := by
  have hr := row_new w (prgCells p0).toArray 53
  have HPR : Hid (Prg (w.alloc (.cells (prgCells p0).toArray 53)) (some ⟨w.heap.size, 0, none⟩) p0) := Lib.hid (prg_of (by simpa using hr) (by intro x hx; simp [p0] at hx; rcases hx with rfl | rfl | rfl <;> (unfold Ins.ok; simp)))
  have HS0 := Lib.hid ((Same.refl w).alloc (.cells (prgCells p0).toArray 53))
  have HT := Lib.hid ht
  clear hr ht
  have hcl : (prgCells p0).toArray = #[.int .i64 0, .int .i64 0, .int .i64 0, .int .i64 0, .int .u32 0, .int .i64 16, .int .i64 0, .int .i64 0, .int .i64 3, .int .u32 0, .int .i64 21, .int .i64 0, .int .i64 0, .int .i64 0, .int .u32 0] := rfl
  rw [hcl] at HPR HS0
  clear hcl
  go_enter Tryd.func31, Tryd.ntmps31
  go_wp2_with fail
  generalize w.alloc (.cells #[.int .i64 0, .int .i64 0, .int .i64 0, .int .i64 0, .int .u32 0, .int .i64 16, .int .i64 0, .int .i64 0, .int .i64 3, .int .u32 0, .int .i64 21, .int .i64 0, .int .i64 0, .int .i64 0, .int .u32 0] 53) = w0 at *
  generalize w.heap.size = q at *
  have CK := check_any (some ⟨q, 0, none⟩) 3 3 p0 w0 rfl (by omega) HPR.out (HT.out.same HS0.out)
  rw [p0_ok] at CK
  have HCK := Lib.hid CK
  clear CK
  refine HCK.out.mono ?_
  rintro e w1 ⟨rfl, s1⟩
  have HS1 := Lib.hid s1
  have TL := told_any (some ⟨q, 0, none⟩) 3 3 p0 w1 rfl (by omega) (HPR.out.same s1) ((HT.out.same HS0.out).same s1)
  rw [p0_told] at TL
  have HTL := Lib.hid TL
  clear TL s1 HCK
  go_wp2_with fail
  refine HTL.out.mono ?_
  rintro e w2 ⟨A2, c2, rfl, sp2, s2⟩
  have HS2 := Lib.hid (HS1.out.trans s2)
  have HSP := Lib.hid sp2
  clear s2 sp2 HTL
  have hs3 := (Same.refl w2).alloc (.cells #[.int .i64 0, .int .i64 1] 58)
  have SE := spans_eq A2 (some ⟨w2.heap.size, 0, none⟩) 1 1 c2 1 [(0, 1)] [(0, 1)] (w2.alloc (.cells #[.int .i64 0, .int .i64 1] 58)) rfl rfl (HSP.out.same hs3) (spn_of (row_new _ _ _)) (by omega) (by omega)
  rw [decide_eq_true rfl] at SE
  have HSE := Lib.hid SE
  have HS3 := Lib.hid (HS2.out.trans hs3)
  clear SE hs3
  go_wp2_with fail
  refine HSE.out.mono ?_
  rintro e w3 ⟨rfl, s3⟩
  have HS4 := Lib.hid (HS3.out.trans s3)
  have NX := nexts_any (some ⟨q, 0, none⟩) 3 3 p0 1 w3 rfl (by omega) (HPR.out.same HS4.out) ((HT.out.same HS0.out).same HS4.out)
  rw [p0_next] at NX
  have HNX := Lib.hid NX
  clear NX s3 HSE
  go_wp2_with fail
  refine HNX.out.mono ?_
  rintro e w4 ⟨A4, c4, rfl, r4, s4⟩
  have HS5 := Lib.hid (HS4.out.trans s4)
  have hs5 := (Same.refl w4).alloc (.cells #[.int .i64 0, .int .i64 2] 3)
  have HS6 := Lib.hid (HS5.out.trans hs5)
  have IE := ints_eq A4 (some ⟨w4.heap.size, 0, none⟩) 2 2 c4 2 [0, 2] [0, 2] (w4.alloc (.cells #[.int .i64 0, .int .i64 2] 3)) rfl rfl (r4.same hs5) (row_new _ _ _) (by omega) (by omega)
  rw [decide_eq_true rfl] at IE
  have HIE := Lib.hid IE
  clear IE s4 r4 hs5 HNX
  go_wp2_with fail
  refine HIE.out.mono ?_
  rintro e w5 ⟨rfl, k5, rfl⟩
  have HS7 := Lib.hid (HS6.out.drewN k5)
  have DP := depth_any (some ⟨q, 0, none⟩) 3 3 p0 0 ((w4.alloc (.cells #[.int .i64 0, .int .i64 2] 3)).drewN k5) rfl (by omega) (HPR.out.same HS7.out) ((HT.out.same HS0.out).same HS7.out)
  rw [p0_depth] at DP
  have HDP := Lib.hid DP
  clear DP HIE
  go_wp2_with fail
  refine HDP.out.mono ?_
  rintro e w6 ⟨rfl, s6⟩
  go_wp2
  go_ret
  exact ⟨rfl, HS0.out.trans (HS7.out.trans s6)⟩

end Go.Proofs.YtflmejcojfnknaaDoor.Fw
