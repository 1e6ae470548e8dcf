/-

  slices.Equal of words, numbers and instructions; task.Same and alike
-/
import Derived.Test.YtaclphhbdfoaeaaDoorImgSameO
set_option linter.unusedVariables false
set_option linter.unusedSimpArgs false
namespace Go.Proofs.YtaclphhbdfoaeaaDoor.Im
open Go.ChangeShapes Go.WideShapes Go.ChangeAt Go.RowKit Ws Cd

set_option maxRecDepth 100000 in
theorem sceq_any (A C : Option Addr) (n m c d : Nat) (xs ys : List Ins) (w : World) (hn : xs.length = n) (hm : ys.length = m) (hx : Code w A xs) (hy : Code w C ys) (b1 : n ≤ 9223372036854775807) (b2 : m ≤ 9223372036854775807) :
    Calls Tryd.prog 34 #[.slice A n c, .slice C m d] w fun e w' => e = .returned (.bool (decide (xs = ys))) ∧ Same w w' := by
  have HX := Lib.hid hx
  have HY := Lib.hid hy
  have HN := Lib.hid hn
  have HM := Lib.hid hm
  by_cases hl : n = m
  · clear hx hy hn hm
    subst hl
    have hnn : ((n : Int) != (n : Int)) = false := by simp
    go_enter Tryd.func34, Tryd.ntmps34
    go_wp2_with fail
    go_loopg [13] n (fun gk iv wx => ∃ k : Nat, k + gk = n ∧ iv = .int .i64 k ∧ xs.take k = ys.take k ∧ Same w wx)
    case atStart => exact ⟨0, by omega, rfl, by simp, Same.refl _⟩
    case round =>
      obtain ⟨k, hk, rfl, hp, sx⟩ := hrel
      have HP := Lib.hid hp
      have HS := Lib.hid sx
      clear hp sx
      cases gk with
      | zero =>
        obtain rfl : k = n := by omega
        have hge : ¬ (k : Int) < (k : Int) := by omega
        go_wp2_with fail
        go_ret
        refine ⟨ret_bool ?_, HS.out⟩
        have := HP.out
        rw [List.take_of_length_le (by have := HN.out; omega), List.take_of_length_le (by have := HM.out; omega)] at this
        rw [decide_eq_true this]
      | succ GK =>
        have hlt : (k : Int) < n := by omega
        have hk0 : (0 : Int) ≤ k := by omega
        have hkn : k < n := by omega
        obtain ⟨b, o, rfl, c0, c1, c2, c3, c4⟩ := (HX.out.same HS.out).atk (k := k) (by have := HN.out; omega)
        obtain ⟨b', o', rfl, d0, d1, d2, d3, d4⟩ := (HY.out.same HS.out).atk (k := k) (by have := HM.out; omega)
        have HTX := Lib.hid (take_at (p := xs) (k := k) (by have := HN.out; omega))
        have HTY := Lib.hid (take_at (p := ys) (k := k) (by have := HM.out; omega))
        generalize atI xs k = s at *
        generalize atI ys k = t at *
        by_cases hst : s = t
        · subst hst
          go_wp2_with fail
          go_quiet (fail)
          have HS2 := Lib.hid (HS.out.drewN nq)
          go_wp2_with fail
          go_roundg GK
          case rel => exact ⟨k + 1, by omega, by go_num, by rw [HTX.out, HTY.out, HP.out], HS2.out⟩
          case measure => omega
        · have hne : ¬ (s.op = t.op ∧ s.a = t.a ∧ s.b = t.b ∧ s.c = t.c ∧ s.n = t.n) := fun h => hst (by obtain ⟨a1, a2, a3, a4, a5⟩ := s; obtain ⟨b1, b2, b3, b4, b5⟩ := t; simp only at h; rw [h.1, h.2.1, h.2.2.1, h.2.2.2.1, h.2.2.2.2])
          have hd : decide (xs = ys) = false := by
            rw [decide_eq_false_iff_not]
            intro he
            have h1 := HTX.out
            rw [he, HTY.out] at h1
            have := List.append_cancel_left h1
            injection this with this
            exact hst this.symm
          have HD := Lib.hid hd
          clear hd hst
          by_cases h0 : s.op = t.op
          rotate_left
          · have e0 : (s.op == t.op) = false := by simpa using h0
            clear hne h0
            go_wp2_with fail
            go_quiet (fail)
            have HS2 := Lib.hid (HS.out.drewN nq)
            go_wp2_with fail
            go_ret
            exact ⟨ret_bool HD.out.symm, HS2.out⟩
          have e0 : (s.op == t.op) = true := by simpa using h0
          by_cases h1 : s.a = t.a
          rotate_left
          · have e1 : (s.a == t.a) = false := by simpa using h1
            clear hne h0 h1
            go_wp2_with fail
            go_quiet (fail)
            have HS2 := Lib.hid (HS.out.drewN nq)
            go_wp2_with fail
            go_ret
            exact ⟨ret_bool HD.out.symm, HS2.out⟩
          have e1 : (s.a == t.a) = true := by simpa using h1
          by_cases h2 : s.b = t.b
          rotate_left
          · have e2 : (s.b == t.b) = false := by simpa using h2
            clear hne h0 h1 h2
            go_wp2_with fail
            go_quiet (fail)
            have HS2 := Lib.hid (HS.out.drewN nq)
            go_wp2_with fail
            go_ret
            exact ⟨ret_bool HD.out.symm, HS2.out⟩
          have e2 : (s.b == t.b) = true := by simpa using h2
          by_cases h3 : s.c = t.c
          rotate_left
          · have e3 : (s.c == t.c) = false := by simpa using h3
            clear hne h0 h1 h2 h3
            go_wp2_with fail
            go_quiet (fail)
            have HS2 := Lib.hid (HS.out.drewN nq)
            go_wp2_with fail
            go_ret
            exact ⟨ret_bool HD.out.symm, HS2.out⟩
          have e3 : (s.c == t.c) = true := by simpa using h3
          have h4 : ¬ s.n = t.n := fun h => hne ⟨h0, h1, h2, h3, h⟩
          have e4 : (s.n == t.n) = false := by simpa using h4
          clear hne h0 h1 h2 h3 h4
          go_wp2_with fail
          go_quiet (fail)
          have HS2 := Lib.hid (HS.out.drewN nq)
          go_wp2_with fail
          go_ret
          exact ⟨ret_bool HD.out.symm, HS2.out⟩
  · have hd : decide (xs = ys) = false := by
      rw [decide_eq_false_iff_not]
      rintro rfl
      omega
    have hne : ((n : Int) != (m : Int)) = true := by simp; omega
    rw [hd]
    clear hx hy hn hm hl hd
    go_enter Tryd.func34, Tryd.ntmps34
    go_wp2_with fail
    go_ret
    exact ⟨rfl, Same.refl _⟩

theorem sieq_any (A C : Option Addr) (n m c d : Nat) (xs ys : List Int) (w : World) (hn : xs.length = n) (hm : ys.length = m) (hx : Row w A (xs.map (Value.int .i64))) (hy : Row w C (ys.map (Value.int .i64)))
    (b1 : n ≤ 9223372036854775807) (b2 : m ≤ 9223372036854775807) :
    Calls Tryd.prog 36 #[.slice A n c, .slice C m d] w fun e w' => e = .returned (.bool (decide (xs = ys))) ∧ ∃ k, w' = w.drewN k := by
  by_cases hl : n = m
  · subst hl
    have HX := Lib.hid hn
    have HY := Lib.hid hm
    clear hn hm
    go_enter Tryd.func36, Tryd.ntmps36
    go_wp2
    go_loopw [5, 13] (fun _ i wr => ∃ k : Nat, k ≤ n ∧ i = .int .i64 k ∧ xs.take k = ys.take k ∧ ∃ q, wr = w.drewN q) (fun _ i _ => n - (intOf i).toNat)
    case atStart => exact ⟨0, Nat.zero_le _, rfl, by simp, 0, rfl⟩
    case round =>
      obtain ⟨k, hk, rfl, hp, q, rfl⟩ := hrel
      have HP := Lib.hid hp
      clear hp
      by_cases hlt : k < n
      · obtain ⟨b, o, rfl, hc1⟩ := hx.at_ (k := k) (by have := HX.out; simp; omega)
        obtain ⟨b', o', rfl, hc2⟩ := hy.at_ (k := k) (by have := HY.out; simp; omega)
        rw [List.getElem_map] at hc1 hc2
        have hkx : k < xs.length := by have := HX.out; omega
        have hky : k < ys.length := by have := HY.out; omega
        have hsx : xs.take (k + 1) = xs.take k ++ [xs[k]] := by rw [List.take_succ_eq_append_getElem hkx]
        have hsy : ys.take (k + 1) = ys.take k ++ [ys[k]] := by rw [List.take_succ_eq_append_getElem hky]
        obtain ⟨x, hxx⟩ : ∃ x, x = xs[k] := ⟨_, rfl⟩
        obtain ⟨y, hyy⟩ : ∃ y, y = ys[k] := ⟨_, rfl⟩
        rw [← hxx] at hc1 hsx
        rw [← hyy] at hc2 hsy
        have HSX := Lib.hid hsx
        have HSY := Lib.hid hsy
        clear hsx hsy hxx hyy
        by_cases hxy : x = y
        · have hb : (x != y) = false := by simpa using hxy
          have HXY := Lib.hid hxy
          clear hxy
          go_wp2
          go_quiet (fail)
          go_wp2
          go_roundw
          case rel => exact ⟨k + 1, by omega, by go_num, by rw [HSX.out, HSY.out, HP.out, HXY.out], _, rfl⟩
          case measure => simp [intOf]; omega
        · have hb : (x != y) = true := by simpa using hxy
          have hd : decide (xs = ys) = false := by
            rw [decide_eq_false_iff_not]
            rintro rfl
            have := HSX.out
            rw [HSY.out] at this
            have := List.append_cancel_left this
            injection this with this
            exact hxy this.symm
          have HD := Lib.hid hd
          clear hd hxy
          go_wp2
          go_quiet (fail)
          go_wp2
          go_ret
          exact ⟨ret_bool HD.out.symm, q + nq, by simp⟩
      · have hkn : k = n := by omega
        subst hkn
        have hd : decide (xs = ys) = true := by
          rw [decide_eq_true_iff]
          have h1 := HP.out
          rw [List.take_of_length_le (by have := HX.out; omega), List.take_of_length_le (by have := HY.out; omega)] at h1
          exact h1
        have HD := Lib.hid hd
        clear hd
        go_wp2
        go_ret
        exact ⟨ret_bool HD.out.symm, _, rfl⟩
  · have hd : decide (xs = ys) = false := by
      rw [decide_eq_false_iff_not]
      rintro rfl
      omega
    have HD := Lib.hid hd
    clear hd
    have hne : ((n : Int) != (m : Int)) = true := by simp; omega
    go_enter Tryd.func36, Tryd.ntmps36
    go_wp2
    go_ret
    exact ⟨ret_bool HD.out.symm, 0, rfl⟩

theorem sweq_any (A C : Option Addr) (n m c d : Nat) (xs ys : List Int) (w : World) (hn : xs.length = n) (hm : ys.length = m) (hx : Row w A (xs.map (Value.int .u32))) (hy : Row w C (ys.map (Value.int .u32)))
    (b1 : n ≤ 9223372036854775807) (b2 : m ≤ 9223372036854775807) :
    Calls Tryd.prog 35 #[.slice A n c, .slice C m d] w fun e w' => e = .returned (.bool (decide (xs = ys))) ∧ ∃ k, w' = w.drewN k := by
  by_cases hl : n = m
  · subst hl
    have HX := Lib.hid hn
    have HY := Lib.hid hm
    clear hn hm
    go_enter Tryd.func35, Tryd.ntmps35
    go_wp2
    go_loopw [5, 13] (fun _ i wr => ∃ k : Nat, k ≤ n ∧ i = .int .i64 k ∧ xs.take k = ys.take k ∧ ∃ q, wr = w.drewN q) (fun _ i _ => n - (intOf i).toNat)
    case atStart => exact ⟨0, Nat.zero_le _, rfl, by simp, 0, rfl⟩
    case round =>
      obtain ⟨k, hk, rfl, hp, q, rfl⟩ := hrel
      have HP := Lib.hid hp
      clear hp
      by_cases hlt : k < n
      · obtain ⟨b, o, rfl, hc1⟩ := hx.at_ (k := k) (by have := HX.out; simp; omega)
        obtain ⟨b', o', rfl, hc2⟩ := hy.at_ (k := k) (by have := HY.out; simp; omega)
        rw [List.getElem_map] at hc1 hc2
        have hkx : k < xs.length := by have := HX.out; omega
        have hky : k < ys.length := by have := HY.out; omega
        have hsx : xs.take (k + 1) = xs.take k ++ [xs[k]] := by rw [List.take_succ_eq_append_getElem hkx]
        have hsy : ys.take (k + 1) = ys.take k ++ [ys[k]] := by rw [List.take_succ_eq_append_getElem hky]
        obtain ⟨x, hxx⟩ : ∃ x, x = xs[k] := ⟨_, rfl⟩
        obtain ⟨y, hyy⟩ : ∃ y, y = ys[k] := ⟨_, rfl⟩
        rw [← hxx] at hc1 hsx
        rw [← hyy] at hc2 hsy
        have HSX := Lib.hid hsx
        have HSY := Lib.hid hsy
        clear hsx hsy hxx hyy
        by_cases hxy : x = y
        · have hb : (x != y) = false := by simpa using hxy
          have HXY := Lib.hid hxy
          clear hxy
          go_wp2
          go_quiet (fail)
          go_wp2
          go_roundw
          case rel => exact ⟨k + 1, by omega, by go_num, by rw [HSX.out, HSY.out, HP.out, HXY.out], _, rfl⟩
          case measure => simp [intOf]; omega
        · have hb : (x != y) = true := by simpa using hxy
          have hd : decide (xs = ys) = false := by
            rw [decide_eq_false_iff_not]
            rintro rfl
            have := HSX.out
            rw [HSY.out] at this
            have := List.append_cancel_left this
            injection this with this
            exact hxy this.symm
          have HD := Lib.hid hd
          clear hd hxy
          go_wp2
          go_quiet (fail)
          go_wp2
          go_ret
          exact ⟨ret_bool HD.out.symm, q + nq, by simp⟩
      · have hkn : k = n := by omega
        subst hkn
        have hd : decide (xs = ys) = true := by
          rw [decide_eq_true_iff]
          have h1 := HP.out
          rw [List.take_of_length_le (by have := HX.out; omega), List.take_of_length_le (by have := HY.out; omega)] at h1
          exact h1
        have HD := Lib.hid hd
        clear hd
        go_wp2
        go_ret
        exact ⟨ret_bool HD.out.symm, _, rfl⟩
  · have hd : decide (xs = ys) = false := by
      rw [decide_eq_false_iff_not]
      rintro rfl
      omega
    have HD := Lib.hid hd
    clear hd
    have hne : ((n : Int) != (m : Int)) = true := by simp; omega
    go_enter Tryd.func35, Tryd.ntmps35
    go_wp2
    go_ret
    exact ⟨ret_bool HD.out.symm, 0, rfl⟩

set_option maxRecDepth 100000 in
set_option maxHeartbeats 2000000 in
theorem tsame_any (a1 a2 a3 a4 a5 a6 b1 b2 b3 b4 b5 b6 : Int) (a7 b7 : List Ins) (X Y : Option Addr) (c d : Nat) (w : World) (hx : Code w X a7) (hy : Code w Y b7) (l1 : a7.length ≤ 9223372036854775807) (l2 : b7.length ≤ 9223372036854775807) (E : Bool) (hE : E = decide (a1 = b1 ∧ a2 = b2 ∧ a3 = b3 ∧ a4 = b4 ∧ a5 = b5 ∧ a6 = b6 ∧ a7 = b7)) :
    Calls Tryd.prog 19 #[.agg #[.int .i64 a1, .int .i64 a2, .int .i64 a3, .int .i64 a4, .int .i64 a5, .int .i64 a6, .slice X a7.length c], .agg #[.int .i64 b1, .int .i64 b2, .int .i64 b3, .int .i64 b4, .int .i64 b5, .int .i64 b6, .slice Y b7.length d]] w fun e w' => e = .returned (.bool E) ∧ Same w w' := by
  have EQ := Lib.hid (fun w' (s : Same w w') => sceq_any X Y a7.length b7.length c d a7 b7 w' rfl rfl (hx.same s) (hy.same s) l1 l2)
  have S2 := Lib.hid (((Same.refl w).alloc (.cells #[.int .i64 a1, .int .i64 a2, .int .i64 a3, .int .i64 a4, .int .i64 a5, .int .i64 a6, .slice X a7.length c] 32)).alloc (.cells #[.int .i64 b1, .int .i64 b2, .int .i64 b3, .int .i64 b4, .int .i64 b5, .int .i64 b6, .slice Y b7.length d] 32))
  clear hx hy l1 l2
  by_cases h0 : a1 = b1
  rotate_left
  · have e0 : (a1 == b1) = false := by simpa using h0
    rw [decide_eq_false (fun h => h0 h.1)] at hE
    have HE := Lib.hid hE
    clear hE h0
    go_enter Tryd.func19, Tryd.ntmps19
    go_wp2_with fail
    go_ret
    exact ⟨ret_bool HE.out.symm, S2.out⟩
  have e0 : (a1 == b1) = true := by simpa using h0
  by_cases h1 : a2 = b2
  rotate_left
  · have e1 : (a2 == b2) = false := by simpa using h1
    rw [decide_eq_false (fun h => h1 h.2.1)] at hE
    have HE := Lib.hid hE
    clear hE h0 h1
    go_enter Tryd.func19, Tryd.ntmps19
    go_wp2_with fail
    go_ret
    exact ⟨ret_bool HE.out.symm, S2.out⟩
  have e1 : (a2 == b2) = true := by simpa using h1
  by_cases h2 : a3 = b3
  rotate_left
  · have e2 : (a3 == b3) = false := by simpa using h2
    rw [decide_eq_false (fun h => h2 h.2.2.1)] at hE
    have HE := Lib.hid hE
    clear hE h0 h1 h2
    go_enter Tryd.func19, Tryd.ntmps19
    go_wp2_with fail
    go_ret
    exact ⟨ret_bool HE.out.symm, S2.out⟩
  have e2 : (a3 == b3) = true := by simpa using h2
  by_cases h3 : a4 = b4
  rotate_left
  · have e3 : (a4 == b4) = false := by simpa using h3
    rw [decide_eq_false (fun h => h3 h.2.2.2.1)] at hE
    have HE := Lib.hid hE
    clear hE h0 h1 h2 h3
    go_enter Tryd.func19, Tryd.ntmps19
    go_wp2_with fail
    go_ret
    exact ⟨ret_bool HE.out.symm, S2.out⟩
  have e3 : (a4 == b4) = true := by simpa using h3
  by_cases h4 : a5 = b5
  rotate_left
  · have e4 : (a5 == b5) = false := by simpa using h4
    rw [decide_eq_false (fun h => h4 h.2.2.2.2.1)] at hE
    have HE := Lib.hid hE
    clear hE h0 h1 h2 h3 h4
    go_enter Tryd.func19, Tryd.ntmps19
    go_wp2_with fail
    go_ret
    exact ⟨ret_bool HE.out.symm, S2.out⟩
  have e4 : (a5 == b5) = true := by simpa using h4
  by_cases h5 : a6 = b6
  rotate_left
  · have e5 : (a6 == b6) = false := by simpa using h5
    rw [decide_eq_false (fun h => h5 h.2.2.2.2.2.1)] at hE
    have HE := Lib.hid hE
    clear hE h0 h1 h2 h3 h4 h5
    go_enter Tryd.func19, Tryd.ntmps19
    go_wp2_with fail
    go_ret
    exact ⟨ret_bool HE.out.symm, S2.out⟩
  have e5 : (a6 == b6) = true := by simpa using h5
  have hE2 : E = decide (a7 = b7) := by rw [hE, Bool.eq_iff_iff]; simp [h0, h1, h2, h3, h4, h5]
  have HE := Lib.hid hE2
  clear hE hE2 h0 h1 h2 h3 h4 h5
  go_enter Tryd.func19, Tryd.ntmps19
  go_wp2_with fail
  refine (EQ.out _ (S2.out)).mono ?_
  rintro e wEQ ⟨rfl, sEQ⟩
  go_wp2_with fail
  go_ret
  exact ⟨ret_bool HE.out.symm, (S2.out).trans sEQ⟩
set_option maxRecDepth 100000 in
set_option maxHeartbeats 4000000 in
theorem alike_any (a1 a2 a3 a4 a5 a6 b1 b2 b3 b4 b5 b6 : Int) (a7 b7 a8 b8 : List Int) (X Y Z V : Option Addr) (c d f g : Nat) (w : World) (h8 : Row w X (a8.map (Value.int .u32))) (k8 : Row w Z (b8.map (Value.int .u32))) (h7 : Row w Y (a7.map (Value.int .i64))) (k7 : Row w V (b7.map (Value.int .i64)))
    (l1 : a7.length ≤ 9223372036854775807 ∧ b7.length ≤ 9223372036854775807 ∧ a8.length ≤ 9223372036854775807 ∧ b8.length ≤ 9223372036854775807) (E : Bool) (hE : E = decide (a1 = b1 ∧ a2 = b2 ∧ a3 = b3 ∧ a4 = b4 ∧ a5 = b5 ∧ a6 = b6 ∧ a8 = b8 ∧ a7 = b7)) :
    Calls Tryd.prog 21 #[.agg #[.int .i64 a1, .int .i64 a2, .int .i64 a3, .int .i64 a4, .int .u32 a5, .slice X a8.length c, .int .i64 a6, .slice Y a7.length d], .agg #[.int .i64 b1, .int .i64 b2, .int .i64 b3, .int .i64 b4, .int .u32 b5, .slice Z b8.length f, .int .i64 b6, .slice V b7.length g]] w fun e w' => e = .returned (.bool E) ∧ Same w w' := by
  have EW := Lib.hid (fun w' (s : Same w w') => (sweq_any X Z a8.length b8.length c f a8 b8 w' rfl rfl (h8.same s) (k8.same s) l1.2.2.1 l1.2.2.2).mono (fun e w2 ⟨h1, k, h2⟩ => (⟨h1, h2 ▸ (Same.refl w').drewN k⟩ : _ ∧ Same w' w2)))
  have EI := Lib.hid (fun w' (s : Same w w') => (sieq_any Y V a7.length b7.length d g a7 b7 w' rfl rfl (h7.same s) (k7.same s) l1.1 l1.2.1).mono (fun e w2 ⟨h1, k, h2⟩ => (⟨h1, h2 ▸ (Same.refl w').drewN k⟩ : _ ∧ Same w' w2)))
  have S2 := Lib.hid (((Same.refl w).alloc (.cells #[.int .i64 a1, .int .i64 a2, .int .i64 a3, .int .i64 a4, .int .u32 a5, .slice X a8.length c, .int .i64 a6, .slice Y a7.length d] 39)).alloc (.cells #[.int .i64 b1, .int .i64 b2, .int .i64 b3, .int .i64 b4, .int .u32 b5, .slice Z b8.length f, .int .i64 b6, .slice V b7.length g] 39))
  have hs2 := (Same.refl (w.alloc (.cells #[.int .i64 a1, .int .i64 a2, .int .i64 a3, .int .i64 a4, .int .u32 a5, .slice X a8.length c, .int .i64 a6, .slice Y a7.length d] 39))).alloc (.cells #[.int .i64 b1, .int .i64 b2, .int .i64 b3, .int .i64 b4, .int .u32 b5, .slice Z b8.length f, .int .i64 b6, .slice V b7.length g] 39)
  have hb2 := Blk.new (w.alloc (.cells #[.int .i64 a1, .int .i64 a2, .int .i64 a3, .int .i64 a4, .int .u32 a5, .slice X a8.length c, .int .i64 a6, .slice Y a7.length d] 39)) 39 #[.int .i64 b1, .int .i64 b2, .int .i64 b3, .int .i64 b4, .int .u32 b5, .slice Z b8.length f, .int .i64 b6, .slice V b7.length g]
  rw [show (w.alloc (.cells #[.int .i64 a1, .int .i64 a2, .int .i64 a3, .int .i64 a4, .int .u32 a5, .slice X a8.length c, .int .i64 a6, .slice Y a7.length d] 39)).heap.size = w.heap.size + 1 by simp] at hb2
  have HB1 := Lib.hid ((Blk.new w 39 #[.int .i64 a1, .int .i64 a2, .int .i64 a3, .int .i64 a4, .int .u32 a5, .slice X a8.length c, .int .i64 a6, .slice Y a7.length d]).same hs2)
  have HB2 := Lib.hid hb2
  clear h8 k8 h7 k7 l1 hs2 hb2
  by_cases h0 : a1 = b1
  rotate_left
  · have e0 : (a1 == b1) = false := by simpa using h0
    rw [decide_eq_false (fun h => h0 h.1)] at hE
    have HE := Lib.hid hE
    clear hE h0
    go_enter Tryd.func21, Tryd.ntmps21
    go_wp2_with fail
    go_ret
    exact ⟨ret_bool HE.out.symm, S2.out⟩
  have e0 : (a1 == b1) = true := by simpa using h0
  by_cases h1 : a2 = b2
  rotate_left
  · have e1 : (a2 == b2) = false := by simpa using h1
    rw [decide_eq_false (fun h => h1 h.2.1)] at hE
    have HE := Lib.hid hE
    clear hE h0 h1
    go_enter Tryd.func21, Tryd.ntmps21
    go_wp2_with fail
    go_ret
    exact ⟨ret_bool HE.out.symm, S2.out⟩
  have e1 : (a2 == b2) = true := by simpa using h1
  by_cases h2 : a3 = b3
  rotate_left
  · have e2 : (a3 == b3) = false := by simpa using h2
    rw [decide_eq_false (fun h => h2 h.2.2.1)] at hE
    have HE := Lib.hid hE
    clear hE h0 h1 h2
    go_enter Tryd.func21, Tryd.ntmps21
    go_wp2_with fail
    go_ret
    exact ⟨ret_bool HE.out.symm, S2.out⟩
  have e2 : (a3 == b3) = true := by simpa using h2
  by_cases h3 : a4 = b4
  rotate_left
  · have e3 : (a4 == b4) = false := by simpa using h3
    rw [decide_eq_false (fun h => h3 h.2.2.2.1)] at hE
    have HE := Lib.hid hE
    clear hE h0 h1 h2 h3
    go_enter Tryd.func21, Tryd.ntmps21
    go_wp2_with fail
    go_ret
    exact ⟨ret_bool HE.out.symm, S2.out⟩
  have e3 : (a4 == b4) = true := by simpa using h3
  by_cases h4 : a5 = b5
  rotate_left
  · have e4 : (a5 == b5) = false := by simpa using h4
    rw [decide_eq_false (fun h => h4 h.2.2.2.2.1)] at hE
    have HE := Lib.hid hE
    clear hE h0 h1 h2 h3 h4
    go_enter Tryd.func21, Tryd.ntmps21
    go_wp2_with fail
    go_ret
    exact ⟨ret_bool HE.out.symm, S2.out⟩
  have e4 : (a5 == b5) = true := by simpa using h4
  by_cases h5 : a6 = b6
  rotate_left
  · have e5 : (a6 == b6) = false := by simpa using h5
    rw [decide_eq_false (fun h => h5 h.2.2.2.2.2.1)] at hE
    have HE := Lib.hid hE
    clear hE h0 h1 h2 h3 h4 h5
    go_enter Tryd.func21, Tryd.ntmps21
    go_wp2_with fail
    go_ret
    exact ⟨ret_bool HE.out.symm, S2.out⟩
  have e5 : (a6 == b6) = true := by simpa using h5
  by_cases gEW : a8 = b8
  rotate_left
  · rw [decide_eq_false (fun h => gEW h.2.2.2.2.2.2.1)] at hE
    have HE := Lib.hid hE
    have HG := Lib.hid gEW
    clear hE gEW h0 h1 h2 h3 h4 h5
    go_enter Tryd.func21, Tryd.ntmps21
    go_wp2_with fail
    refine (EW.out _ (S2.out)).mono ?_
    rintro e wEW ⟨rfl, sEW⟩
    obtain ⟨u0, u1, u2, u3, u4, u5, u6, u7⟩ := oc (HB1.out.same sEW)
    obtain ⟨v0, v1, v2, v3, v4, v5, v6, v7⟩ := oc (HB2.out.same sEW)
    go_wp2_with fail
    go_ret
    exact ⟨ret_bool HE.out.symm, (S2.out).trans sEW⟩
  have GEW := Lib.hid gEW
  clear gEW
  have hE2 : E = decide (a7 = b7) := by rw [hE, Bool.eq_iff_iff]; simp [h0, h1, h2, h3, h4, h5, GEW.out]
  have HE := Lib.hid hE2
  clear hE hE2 h0 h1 h2 h3 h4 h5
  go_enter Tryd.func21, Tryd.ntmps21
  go_wp2_with fail
  refine (EW.out _ (S2.out)).mono ?_
  rintro e wEW ⟨rfl, sEW⟩
  rw [decide_eq_true GEW.out]
  obtain ⟨u0, u1, u2, u3, u4, u5, u6, u7⟩ := oc (HB1.out.same sEW)
  obtain ⟨v0, v1, v2, v3, v4, v5, v6, v7⟩ := oc (HB2.out.same sEW)
  go_wp2_with fail
  refine (EI.out _ ((S2.out).trans sEW)).mono ?_
  rintro e wEI ⟨rfl, sEI⟩
  go_wp2_with fail
  go_ret
  exact ⟨ret_bool HE.out.symm, ((S2.out).trans sEW).trans sEI⟩
end Go.Proofs.YtaclphhbdfoaeaaDoor.Im
