/-

  ReleaseFilters: what is let through and what is refused, and that what is let through lies a period apart.
-/
import Derived.Test.YtejajmdmfipplacRelRef
import Derived.Test.YtejajmdmfipplacRelAwake
import Derived.Test.YtejajmdmfipplacFlat
set_option linter.unusedVariables false
set_option linter.unusedSimpArgs false
namespace Go.Proofs.Ytejajmdmfipplac.Rl
open Go.ChangeShapes Go.WideShapes Go.ChangeAt Go.RowKit Ws

theorem bd_of {l : List Int} (h : ∀ x ∈ l, (Lit.int .i64 x).wf = true) : BD l := fun x hx => Fl.i64_bd (h x hx)
set_option maxRecDepth 100000 in
theorem filters_any (P : Int) (ts : List Int) (A : Option Addr) (n c : Nat) (w : World) (hl : ts.length = n) (hr : Row w A (ts.map (Value.int .i64))) (hb : BD ts) :
    Calls Try.prog 3 #[.int .i64 P, .slice A n c] w fun e w' => e = .returned (.bool true) ∧ Same w w' := by
  by_cases hm : (200 : Int) < n
  · have AW := Lib.hid (awake27 w)
    clear hl hr hb
    go_enter Try.func3, Try.ntmps3
    go_wp2_with fail
    refine AW.out.mono ?_
    rintro e w3 ⟨rfl, s3⟩
    go_wp2
    go_ret
    exact ⟨rfl, s3⟩
  · have hn : n ≤ 1000 := by omega
    have FI := Lib.hid (filter_any P ts A n c w hl hn hr hb)
    have RF := Lib.hid (fun w' (s : Same w w') => rfilter_any P ts A n c w' hl hn (hr.same s) hb)
    have HG := Lib.hid (run_good P ts (fun x hx => (hb x hx).2) n (by omega))
    have HLE := Lib.hid (run_len P ts n)
    clear hl hr hb
    generalize hL1 : (runTo P ts n).1 = l1 at *
    generalize hL2 : (runTo P ts n).2 = l2 at *
    clear hL1 hL2
    obtain ⟨n1, hn1⟩ : ∃ k, k = l1.length := ⟨_, rfl⟩
    obtain ⟨n2, hn2⟩ : ∃ k, k = l2.length := ⟨_, rfl⟩
    unfold Told at FI RF
    rw [← hn1, ← hn2] at FI RF
    have b1 : n1 ≤ 1000 := by have := HLE.out; omega
    have b2 : n2 ≤ 1000 := by have := HLE.out; omega
    have HN1 := Lib.hid hn1
    have HN2 := Lib.hid hn2
    clear hn1 hn2 HLE
    go_enter Try.func3, Try.ntmps3
    go_wp2_with fail
    refine FI.out.mono ?_
    rintro e w1 ⟨A1, c1, A2, c2, rfl, r1, r2, s1⟩
    have R1 := Lib.hid r1
    have R2 := Lib.hid r2
    have S1 := Lib.hid s1
    clear r1 r2 s1 FI
    go_wp2_with fail
    refine (RF.out _ S1.out).mono ?_
    rintro e w2 ⟨B1, d1, B2, d2, rfl, q1, q2, s2⟩
    have Q1 := Lib.hid q1
    have Q2 := Lib.hid q2
    have P1 := Lib.hid (R1.out.same s2)
    have P2 := Lib.hid (R2.out.same s2)
    have S2 := Lib.hid (S1.out.trans s2)
    clear q1 q2 s2 RF R1 R2 S1
    go_wp2_with fail
    go_loopg [9] (n1 + 1) (fun gk iv wx => ∃ k : Nat, k + gk = n1 + 2 ∧ 1 ≤ k ∧ iv = .int .i64 k ∧ Same w2 wx)
    case atStart => exact ⟨1, by omega, by omega, rfl, Same.refl _⟩
    case round =>
      obtain ⟨k, hk, hk1, rfl, sx⟩ := hrel
      have HS := Lib.hid sx
      clear sx
      by_cases hlt : k < n1
      · obtain ⟨j, rfl⟩ : ∃ j, k = j + 1 := ⟨k - 1, by omega⟩
        have hj1 : ((j + 1 : Nat) : Int) < n1 := by omega
        have hj2 : ((j + 1 : Nat) : Int) - 1 = (j : Int) := by omega
        have hj3 : wrap64 (((j + 1 : Nat) : Int) - 1) = (j : Int) := by rw [hj2]; exact Go.IntWalk.wrap64_in _ (by omega)
        have hj4 : (j : Int) < n1 := by omega
        have hj5 : (0 : Int) ≤ j := by omega
        have hj6 : (0 : Int) ≤ ((j + 1 : Nat) : Int) := by omega
        have hj7 : j < n1 := by omega
        obtain ⟨b, o, rfl, x0⟩ := (P1.out.same HS.out).at_ (k := j) (by rw [List.length_map, ← HN1.out]; omega)
        obtain ⟨b', o', hA, x1⟩ := (P1.out.same HS.out).at_ (k := j + 1) (by rw [List.length_map, ← HN1.out]; omega)
        injection hA with hA
        injection hA with e1 e2
        subst e1
        subst e2
        have hx0 : l1[j]'(by rw [← HN1.out]; omega) = l1.getD j 0 := by
          rw [List.getD_eq_getElem?_getD, List.getElem?_eq_getElem (by rw [← HN1.out]; omega)]
          rfl
        have hx1 : l1[j + 1]'(by rw [← HN1.out]; omega) = l1.getD (j + 1) 0 := by
          rw [List.getD_eq_getElem?_getD, List.getElem?_eq_getElem (by rw [← HN1.out]; omega)]
          rfl
        have m0 := HG.out.inn _ (List.getElem_mem (show j < l1.length by rw [← HN1.out]; omega))
        have m1 := HG.out.inn _ (List.getElem_mem (show j + 1 < l1.length by rw [← HN1.out]; omega))
        have gp := HG.out.gap j (by rw [← HN1.out]; omega)
        rw [hx0] at m0
        rw [hx1] at m1
        rw [List.getElem_map, hx0] at x0
        rw [List.getElem_map, hx1] at x1
        clear hx0 hx1
        generalize l1.getD j 0 = y at *
        generalize l1.getD (j + 1) 0 = x at *
        obtain ⟨m00, m01⟩ := m0
        obtain ⟨m10, m11⟩ := m1
        have f3 : wrap64 (x - y) = x - y := Go.IntWalk.wrap64_in _ (by omega)
        have e3 : decide (x - y < P) = false := decide_eq_false (by omega)
        clear gp
        cases gk with
        | zero => omega
        | succ GK =>
          go_wp2_with fail
          go_quiet (fail)
          have HS2 := Lib.hid (HS.out.drewN nq)
          go_wp2_with fail
          go_roundg GK
          case rel => exact ⟨j + 1 + 1, by omega, by omega, by go_num, HS2.out⟩
          case measure => omega
      · have hge : ¬ (k : Int) < n1 := by omega
        have IE := Lib.hid (ints_eq A1 B1 n1 n1 c1 d1 l1 l1 wr HN1.out.symm HN1.out.symm (P1.out.same HS.out) (Q1.out.same HS.out) (by omega) (by omega))
        rw [decide_eq_true rfl] at IE
        go_wp2_with fail
        refine IE.out.mono ?_
        rintro e w3 ⟨rfl, k3, rfl⟩
        have IE2 := Lib.hid (ints_eq A2 B2 n2 n2 c2 d2 l2 l2 (wr.drewN k3) HN2.out.symm HN2.out.symm (P2.out.same (HS.out.drewN k3)) (Q2.out.same (HS.out.drewN k3)) (by omega) (by omega))
        rw [decide_eq_true rfl] at IE2
        clear IE
        go_wp2_with fail
        refine IE2.out.mono ?_
        rintro e w4 ⟨rfl, k4, rfl⟩
        have S4 := Lib.hid ((S2.out.trans HS.out).drewN (k3 + k4))
        clear IE2
        go_wp2_with fail
        refine (awake27 _).mono ?_
        rintro e w5 ⟨rfl, s5⟩
        go_wp2
        go_ret
        exact ⟨rfl, S4.out.trans s5⟩

end Go.Proofs.Ytejajmdmfipplac.Rl
