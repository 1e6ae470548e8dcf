/-
  Layer 33: numbers laid as one byte each, and as four (image.out's small and large).
-/
import Derived.Test.YtfpefkpbiioofabImgTakes
import Derived.Test.YtfpefkpbiioofabOperApp
import Derived.Deep.LoopGhost
import Derived.WalkKit
import Derived.WalkLawsBesides
import Derived.BigQuiet
set_option linter.unusedVariables false
set_option linter.unusedSimpArgs false
namespace Go.Proofs.Ytfpefkpbiioofab.Im
open Go.ChangeShapes Go.WideShapes Go.ChangeAt Go.RowKit Ws Cd

theorem sm_len (l : List Int) : (sm l).length = l.length := by simp [sm]
theorem lg_len (l : List Int) : (lg l).length = l.length := by simp [lg]
theorem fit_lo1 {s : St} {x : Int} (h : may s (x, 1)) : low (x % 4294967296) 1 = lo x 1 := by
  have h2 := h.2.1
  unfold fit at h2
  simp only [decide_eq_true_eq] at h2
  rw [Int.emod_eq_of_lt h2.1 (by omega)]
  rfl
theorem fit_lo4 {s : St} {x : Int} (h : may s (x, 4)) : low (x % 4294967296) 4 = lo x 4 := by
  have h2 := h.2.1
  unfold fit at h2
  simp only [decide_eq_true_eq] at h2
  rw [Int.emod_eq_of_lt h2.1 (by omega)]
  rfl
set_option maxRecDepth 100000 in
set_option maxHeartbeats 2000000 in
theorem small_any {H g : Nat} {A : Option Addr} {c : Nat} {s : St} (X : Option Addr) (n d : Nat) (xs : List Int) (w : World) (hx : xs.length = n) (hnb : n ≤ 9223372036854775807) (h : Out w H g A c s) (hrow : ∀ wx, Lain w H g wx → Row wx X (xs.map (Value.int .i64))) :
    Calls Try.prog 22 #[.pointer (some ⟨g, 0, none⟩), .slice X n d] w fun e w' => e = .returned (.tuple #[]) ∧ (∃ A' c', Out w' H g A' c' (lay s (sm xs))) ∧ Lain w H g w' := by
  obtain ⟨i0, hi, hz0, hz1, hz2⟩ := info_parts u8_info
  have HN := Lib.hid hx
  have HR := Lib.hid hrow
  have HO := Lib.hid h
  clear hx hrow h
  go_enter Try.func22, Try.ntmps22
  go_wp2_with fail
  go_loopg [8] n (fun gk iv wx => ∃ (k : Nat) (A1 : Option Addr) (c1 : Nat), k + gk = n ∧ iv = .int .i64 k ∧ Out wx H g A1 c1 (lay s ((sm xs).take k)) ∧ Lain w H g wx)
  case atStart => exact ⟨0, A, c, by omega, rfl, HO.out, Lain.refl _ _ _⟩
  case round =>
    obtain ⟨k, A1, c1, hk, rfl, ho, hl⟩ := hrel
    have HO1 := Lib.hid ho
    have HL := Lib.hid hl
    clear ho hl
    cases gk with
    | zero =>
      obtain rfl : k = n := by omega
      have hge : ¬ (k : Int) < (k : Int) := by omega
      go_wp2_with fail
      go_end0
      refine ⟨rfl, ⟨A1, c1, ?_⟩, HL.out⟩
      have h1 := HO1.out
      rw [List.take_of_length_le (by rw [sm_len, HN.out]; omega)] at h1
      exact h1
    | succ GK =>
      have hlt : (k : Int) < n := by omega
      have k0 : (0 : Int) ≤ k := by omega
      obtain ⟨x, hx⟩ : ∃ x, xs[k]? = some x := ⟨_, List.getElem?_eq_getElem (by have := HN.out; omega)⟩
      have HX := Lib.hid (show (sm xs)[k]? = some (x, 1) by simp [sm, hx])
      obtain ⟨b, o, rfl, cx⟩ := (HR.out _ HL.out) k (.int .i64 x) (by rw [List.getElem?_map, hx]; rfl)
      clear hx
      go_wp2_with fail
      have HOX := Lib.hid HO1.out
      refine (takes1 x _ HO1.out).mono ?_
      rintro e w1 (⟨hm, rfl, rfl⟩ | ⟨hm, rfl, h1, h2⟩)
      · have HMAY := Lib.hid hm
        clear hm cx
        have HLO := Lib.hid (fit_lo1 HMAY.out)
        have hroom := HMAY.out.2.2
        generalize hst : lay s ((sm xs).take k) = st at *
        have HST := Lib.hid hst
        clear hst
        have a0 : w1.cell? ⟨g, 0, none⟩ = some (.slice A1 st.bs.length c1) := HO1.out.blk.cell 0
        go_wp2_with fail
        refine wp_region_held_drew (S := fun _ => True) (by kernel_rfl) ?_ (fun hHeld => ?_)
        · trivial
        refine Ro.take_on (i := 0) (v := ?_) rfl (by kernel_rfl) (by kernel_rfl) (by kernel_rfl) (fun _ _ _ h => h) (by rfl) trivial ?_ ?_
        rotate_left
        · intro wS hSw; (try dsimp only at hSw); go_simp; try with_reducible rfl
        try simp only [Act.put, List.setIfInBounds_toArray, List.set_cons_zero, List.set_cons_succ]
        refine Ro.take_on (i := 1) (v := ?_) rfl (by kernel_rfl) (by kernel_rfl) (by kernel_rfl) (fun _ _ _ h => h) (by rfl) trivial ?_ ?_
        rotate_left
        · intro wS hSw; (try dsimp only at hSw); go_simp; try with_reducible rfl
        try simp only [Act.put, List.setIfInBounds_toArray, List.set_cons_zero, List.set_cons_succ]
        refine Ro.take_on (i := 2) (v := ?_) rfl (by kernel_rfl) (by kernel_rfl) (by kernel_rfl) (fun _ _ _ h => h) (by rfl) trivial ?_ ?_
        rotate_left
        · intro wS hSw; (try dsimp only at hSw); go_simp; try with_reducible rfl
        try simp only [Act.put, List.setIfInBounds_toArray, List.set_cons_zero, List.set_cons_succ]
        refine Ro.take_on (i := 3) (v := ?_) rfl (by kernel_rfl) (by kernel_rfl) (by kernel_rfl) (fun _ _ _ h => h) (by rfl) trivial ?_ ?_
        rotate_left
        · intro wS hSw; (try dsimp only at hSw); go_simp; try with_reducible rfl
        try simp only [Act.put, List.setIfInBounds_toArray, List.set_cons_zero, List.set_cons_succ]
        refine Ro.take_on (i := 5) (v := ?_) rfl (by kernel_rfl) (by kernel_rfl) (by kernel_rfl) (fun _ _ _ h => h) (by rfl) trivial ?_ ?_
        rotate_left
        · intro wS hSw; (try dsimp only at hSw); go_simp; try with_reducible rfl
        try simp only [Act.put, List.setIfInBounds_toArray, List.set_cons_zero, List.set_cons_succ]
        refine Ra.two_on (i := 4) (j := 6) rfl rfl (by kernel_rfl) (by rfl) (by rfl) (fun K hK => ?_) (fun K hK => ?_)
        · go_simp
          refine hK.out _ _ trivial (fun hNew => ?_)
          clear hK K hNew
          try simp only [Act.put, List.setIfInBounds_toArray, List.set_cons_zero, List.set_cons_succ]
          refine Ro.one_on (i := 6) rfl (by kernel_rfl) (by rfl) (fun K hK => ?_)
          go_simp
          go_at_call 42
          refine (put8_any none 0 0 [] x _ rfl (by omega) (Row.nil _ _)).mono ?_
          rintro e w2 ⟨A2, c2, rfl, h2, s2⟩
          have hrow2 := h2.row
          clear h2
          have s2 := Same.trans ((Same.refl w1).drew) s2
          have S2 := Lib.hid s2
          have HO2 := Lib.hid (HO1.out.same s2)
          clear s2
          refine hK.out _ _ trivial (fun hNew => ?_)
          clear hK K hNew
          try simp only [Act.put, List.setIfInBounds_toArray, List.set_cons_zero, List.set_cons_succ]
          refine Ro.one_on (i := 7) rfl (by kernel_rfl) (by rfl) (fun K hK => ?_)
          refine oper_app2 (.tmp 19) (.tmp 21) 22 rfl H i0 _ Try.underlying22 hi hz0 hz1 hz2 rfl A1 st.bs.length c1 st.bs rfl rfl HO2.out.own A2 1 c2 (low (x % 4294967296) 1) rfl (low_len _ _) (by omega) hrow2 (by have := HO2.out.len; omega) ?_ (st.bs.length + 1) rfl ?_
          · have := HO2.out.low; have := HO2.out.blk.lt; omega
          intro A3 c3 w3 ho3 hc3
          have HO3 := Lib.hid ho3
          have HC3 := Lib.hid hc3
          clear ho3 hc3
          refine hK.out _ _ trivial (fun hNew => ?_)
          clear hK K hNew
          try simp only [Act.put, List.setIfInBounds_toArray, List.set_cons_zero, List.set_cons_succ]
          refine Ro.take_on (i := 8) (v := ?_) rfl (by kernel_rfl) (by kernel_rfl) (by kernel_rfl) (fun _ _ _ h => h) (by rfl) trivial ?_ ?_
          rotate_left
          · intro wS hSw; (try dsimp only at hSw); go_simp; try with_reducible rfl
          try simp only [Act.put, List.setIfInBounds_toArray, List.set_cons_zero, List.set_cons_succ]
          refine Ro.take_on (i := 9) (v := ?_) rfl (by kernel_rfl) (by kernel_rfl) (by kernel_rfl) (fun _ _ _ h => h) (by rfl) trivial ?_ ?_
          rotate_left
          · intro wS hSw; (try dsimp only at hSw); go_simp; try with_reducible rfl
          try simp only [Act.put, List.setIfInBounds_toArray, List.set_cons_zero, List.set_cons_succ]
          refine Ro.one_on (i := 10) rfl (by kernel_rfl) (by rfl) (fun K hK => ?_)
          obtain ⟨_, _, f0, d0⟩ := out_app HO2.out HO3.out HC3.out HMAY.out.1 (low_len _ _) (by omega)
          go_wp2_with fail
          refine hK.out _ _ trivial (fun hNew => ?_)
          clear hK K hNew
          try simp only [Act.put, List.setIfInBounds_toArray, List.set_cons_zero, List.set_cons_succ]
          refine wpAnyH_done (by kernel_rfl) ?_ _
          obtain ⟨q1, q2, _⟩ := out_app HO2.out HO3.out HC3.out HMAY.out.1 (low_len _ _) (by omega)
          have HQ1 := Lib.hid q1
          have HQ2 := Lib.hid (Lain.trans (Lain.of S2.out) q2)
          clear q1 q2 HO3 HC3 HO2 S2 HO1
          generalize w3.setCell _ _ = w4 at *
          go_wp2_with fail
          go_roundg GK
          case measure => omega
          case rel => exact ⟨k + 1, A3, c3, by omega, by go_num, by rw [lay_take _ HX.out, HST.out, lay1_yes HMAY.out]; rw [HLO.out] at HQ1; exact HQ1.out, Lain.trans HL.out HQ2.out⟩
        · go_simp
          go_at_call 42
          refine (put8_any none 0 0 [] x _ rfl (by omega) (Row.nil _ _)).mono ?_
          rintro e w2 ⟨A2, c2, rfl, h2, s2⟩
          have hrow2 := h2.row
          clear h2
          have s2 := Same.trans ((Same.refl w1).drew) s2
          have S2 := Lib.hid s2
          have HO2 := Lib.hid (HO1.out.same s2)
          clear s2
          refine hK.out _ _ trivial (fun hNew => ?_)
          clear hK K hNew
          try simp only [Act.put, List.setIfInBounds_toArray, List.set_cons_zero, List.set_cons_succ]
          have a0' : w2.cell? ⟨g, 0, none⟩ = some (.slice A1 st.bs.length c1) := HO2.out.blk.cell 0
          refine Ro.one_on (i := 4) rfl (by kernel_rfl) (by rfl) (fun K hK => ?_)
          go_simp
          refine hK.out _ _ trivial (fun hNew => ?_)
          clear hK K hNew
          try simp only [Act.put, List.setIfInBounds_toArray, List.set_cons_zero, List.set_cons_succ]
          clear a0'
          refine Ro.one_on (i := 7) rfl (by kernel_rfl) (by rfl) (fun K hK => ?_)
          refine oper_app2 (.tmp 19) (.tmp 21) 22 rfl H i0 _ Try.underlying22 hi hz0 hz1 hz2 rfl A1 st.bs.length c1 st.bs rfl rfl HO2.out.own A2 1 c2 (low (x % 4294967296) 1) rfl (low_len _ _) (by omega) hrow2 (by have := HO2.out.len; omega) ?_ (st.bs.length + 1) rfl ?_
          · have := HO2.out.low; have := HO2.out.blk.lt; omega
          intro A3 c3 w3 ho3 hc3
          have HO3 := Lib.hid ho3
          have HC3 := Lib.hid hc3
          clear ho3 hc3
          refine hK.out _ _ trivial (fun hNew => ?_)
          clear hK K hNew
          try simp only [Act.put, List.setIfInBounds_toArray, List.set_cons_zero, List.set_cons_succ]
          refine Ro.take_on (i := 8) (v := ?_) rfl (by kernel_rfl) (by kernel_rfl) (by kernel_rfl) (fun _ _ _ h => h) (by rfl) trivial ?_ ?_
          rotate_left
          · intro wS hSw; (try dsimp only at hSw); go_simp; try with_reducible rfl
          try simp only [Act.put, List.setIfInBounds_toArray, List.set_cons_zero, List.set_cons_succ]
          refine Ro.take_on (i := 9) (v := ?_) rfl (by kernel_rfl) (by kernel_rfl) (by kernel_rfl) (fun _ _ _ h => h) (by rfl) trivial ?_ ?_
          rotate_left
          · intro wS hSw; (try dsimp only at hSw); go_simp; try with_reducible rfl
          try simp only [Act.put, List.setIfInBounds_toArray, List.set_cons_zero, List.set_cons_succ]
          refine Ro.one_on (i := 10) rfl (by kernel_rfl) (by rfl) (fun K hK => ?_)
          obtain ⟨_, _, f0, d0⟩ := out_app HO2.out HO3.out HC3.out HMAY.out.1 (low_len _ _) (by omega)
          go_wp2_with fail
          refine hK.out _ _ trivial (fun hNew => ?_)
          clear hK K hNew
          try simp only [Act.put, List.setIfInBounds_toArray, List.set_cons_zero, List.set_cons_succ]
          refine wpAnyH_done (by kernel_rfl) ?_ _
          obtain ⟨q1, q2, _⟩ := out_app HO2.out HO3.out HC3.out HMAY.out.1 (low_len _ _) (by omega)
          have HQ1 := Lib.hid q1
          have HQ2 := Lib.hid (Lain.trans (Lain.of S2.out) q2)
          clear q1 q2 HO3 HC3 HO2 S2 HO1
          generalize w3.setCell _ _ = w4 at *
          go_wp2_with fail
          go_roundg GK
          case measure => omega
          case rel => exact ⟨k + 1, A3, c3, by omega, by go_num, by rw [lay_take _ HX.out, HST.out, lay1_yes HMAY.out]; rw [HLO.out] at HQ1; exact HQ1.out, Lain.trans HL.out HQ2.out⟩
      · have HMAY := Lib.hid hm
        have HO2 := Lib.hid h1
        have HL2 := Lib.hid h2
        clear hm cx h1 h2
        go_wp2_with fail
        go_roundg GK
        case measure => omega
        case rel =>
          refine ⟨k + 1, A1, c1, by omega, by go_num, ?_, Lain.trans HL.out HL2.out⟩
          rw [lay_take _ HX.out, lay1_no HMAY.out]
          exact HO2.out
set_option maxRecDepth 100000 in
set_option maxHeartbeats 2000000 in
theorem large_any {H g : Nat} {A : Option Addr} {c : Nat} {s : St} (X : Option Addr) (n d : Nat) (xs : List Int) (w : World) (hx : xs.length = n) (hnb : n ≤ 9223372036854775807) (h : Out w H g A c s) (hrow : ∀ wx, Lain w H g wx → Row wx X (xs.map (Value.int .i64))) :
    Calls Try.prog 43 #[.pointer (some ⟨g, 0, none⟩), .slice X n d] w fun e w' => e = .returned (.tuple #[]) ∧ (∃ A' c', Out w' H g A' c' (lay s (lg xs))) ∧ Lain w H g w' := by
  obtain ⟨i0, hi, hz0, hz1, hz2⟩ := info_parts u8_info
  have HN := Lib.hid hx
  have HR := Lib.hid hrow
  have HO := Lib.hid h
  clear hx hrow h
  go_enter Try.func43, Try.ntmps43
  go_wp2_with fail
  go_loopg [8] n (fun gk iv wx => ∃ (k : Nat) (A1 : Option Addr) (c1 : Nat), k + gk = n ∧ iv = .int .i64 k ∧ Out wx H g A1 c1 (lay s ((lg xs).take k)) ∧ Lain w H g wx)
  case atStart => exact ⟨0, A, c, by omega, rfl, HO.out, Lain.refl _ _ _⟩
  case round =>
    obtain ⟨k, A1, c1, hk, rfl, ho, hl⟩ := hrel
    have HO1 := Lib.hid ho
    have HL := Lib.hid hl
    clear ho hl
    cases gk with
    | zero =>
      obtain rfl : k = n := by omega
      have hge : ¬ (k : Int) < (k : Int) := by omega
      go_wp2_with fail
      go_end0
      refine ⟨rfl, ⟨A1, c1, ?_⟩, HL.out⟩
      have h1 := HO1.out
      rw [List.take_of_length_le (by rw [lg_len, HN.out]; omega)] at h1
      exact h1
    | succ GK =>
      have hlt : (k : Int) < n := by omega
      have k0 : (0 : Int) ≤ k := by omega
      obtain ⟨x, hx⟩ : ∃ x, xs[k]? = some x := ⟨_, List.getElem?_eq_getElem (by have := HN.out; omega)⟩
      have HX := Lib.hid (show (lg xs)[k]? = some (x, 4) by simp [lg, hx])
      obtain ⟨b, o, rfl, cx⟩ := (HR.out _ HL.out) k (.int .i64 x) (by rw [List.getElem?_map, hx]; rfl)
      clear hx
      go_wp2_with fail
      have HOX := Lib.hid HO1.out
      refine (takes4 x _ HO1.out).mono ?_
      rintro e w1 (⟨hm, rfl, rfl⟩ | ⟨hm, rfl, h1, h2⟩)
      · have HMAY := Lib.hid hm
        clear hm cx
        have HLO := Lib.hid (fit_lo4 HMAY.out)
        have hroom := HMAY.out.2.2
        generalize hst : lay s ((lg xs).take k) = st at *
        have HST := Lib.hid hst
        clear hst
        have a0 : w1.cell? ⟨g, 0, none⟩ = some (.slice A1 st.bs.length c1) := HO1.out.blk.cell 0
        go_wp2_with fail
        refine wp_region_held_drew (S := fun _ => True) (by kernel_rfl) ?_ (fun hHeld => ?_)
        · trivial
        refine Ro.take_on (i := 0) (v := ?_) rfl (by kernel_rfl) (by kernel_rfl) (by kernel_rfl) (fun _ _ _ h => h) (by rfl) trivial ?_ ?_
        rotate_left
        · intro wS hSw; (try dsimp only at hSw); go_simp; try with_reducible rfl
        try simp only [Act.put, List.setIfInBounds_toArray, List.set_cons_zero, List.set_cons_succ]
        refine Ro.take_on (i := 1) (v := ?_) rfl (by kernel_rfl) (by kernel_rfl) (by kernel_rfl) (fun _ _ _ h => h) (by rfl) trivial ?_ ?_
        rotate_left
        · intro wS hSw; (try dsimp only at hSw); go_simp; try with_reducible rfl
        try simp only [Act.put, List.setIfInBounds_toArray, List.set_cons_zero, List.set_cons_succ]
        refine Ro.take_on (i := 2) (v := ?_) rfl (by kernel_rfl) (by kernel_rfl) (by kernel_rfl) (fun _ _ _ h => h) (by rfl) trivial ?_ ?_
        rotate_left
        · intro wS hSw; (try dsimp only at hSw); go_simp; try with_reducible rfl
        try simp only [Act.put, List.setIfInBounds_toArray, List.set_cons_zero, List.set_cons_succ]
        refine Ro.take_on (i := 3) (v := ?_) rfl (by kernel_rfl) (by kernel_rfl) (by kernel_rfl) (fun _ _ _ h => h) (by rfl) trivial ?_ ?_
        rotate_left
        · intro wS hSw; (try dsimp only at hSw); go_simp; try with_reducible rfl
        try simp only [Act.put, List.setIfInBounds_toArray, List.set_cons_zero, List.set_cons_succ]
        refine Ro.take_on (i := 5) (v := ?_) rfl (by kernel_rfl) (by kernel_rfl) (by kernel_rfl) (fun _ _ _ h => h) (by rfl) trivial ?_ ?_
        rotate_left
        · intro wS hSw; (try dsimp only at hSw); go_simp; try with_reducible rfl
        try simp only [Act.put, List.setIfInBounds_toArray, List.set_cons_zero, List.set_cons_succ]
        refine Ro.take_on (i := 6) (v := ?_) rfl (by kernel_rfl) (by kernel_rfl) (by kernel_rfl) (fun _ _ _ h => h) (by rfl) trivial ?_ ?_
        rotate_left
        · intro wS hSw; (try dsimp only at hSw); go_simp; try with_reducible rfl
        try simp only [Act.put, List.setIfInBounds_toArray, List.set_cons_zero, List.set_cons_succ]
        refine Ra.two_on (i := 4) (j := 7) rfl rfl (by kernel_rfl) (by rfl) (by rfl) (fun K hK => ?_) (fun K hK => ?_)
        · go_simp
          refine hK.out _ _ trivial (fun hNew => ?_)
          clear hK K hNew
          try simp only [Act.put, List.setIfInBounds_toArray, List.set_cons_zero, List.set_cons_succ]
          refine Ro.one_on (i := 7) rfl (by kernel_rfl) (by rfl) (fun K hK => ?_)
          go_simp
          go_at_call 51
          refine (put32_any none 0 0 [] (x % 4294967296) _ rfl (by omega) (Row.nil _ _)).mono ?_
          rintro e w2 ⟨A2, c2, rfl, h2, s2⟩
          have hrow2 := h2.row
          clear h2
          have s2 := Same.trans ((Same.refl w1).drew) s2
          have S2 := Lib.hid s2
          have HO2 := Lib.hid (HO1.out.same s2)
          clear s2
          refine hK.out _ _ trivial (fun hNew => ?_)
          clear hK K hNew
          try simp only [Act.put, List.setIfInBounds_toArray, List.set_cons_zero, List.set_cons_succ]
          refine Ro.one_on (i := 8) rfl (by kernel_rfl) (by rfl) (fun K hK => ?_)
          refine oper_app2 (.tmp 19) (.tmp 22) 22 rfl H i0 _ Try.underlying22 hi hz0 hz1 hz2 rfl A1 st.bs.length c1 st.bs rfl rfl HO2.out.own A2 4 c2 (low (x % 4294967296) 4) rfl (low_len _ _) (by omega) hrow2 (by have := HO2.out.len; omega) ?_ (st.bs.length + 4) rfl ?_
          · have := HO2.out.low; have := HO2.out.blk.lt; omega
          intro A3 c3 w3 ho3 hc3
          have HO3 := Lib.hid ho3
          have HC3 := Lib.hid hc3
          clear ho3 hc3
          refine hK.out _ _ trivial (fun hNew => ?_)
          clear hK K hNew
          try simp only [Act.put, List.setIfInBounds_toArray, List.set_cons_zero, List.set_cons_succ]
          refine Ro.take_on (i := 9) (v := ?_) rfl (by kernel_rfl) (by kernel_rfl) (by kernel_rfl) (fun _ _ _ h => h) (by rfl) trivial ?_ ?_
          rotate_left
          · intro wS hSw; (try dsimp only at hSw); go_simp; try with_reducible rfl
          try simp only [Act.put, List.setIfInBounds_toArray, List.set_cons_zero, List.set_cons_succ]
          refine Ro.take_on (i := 10) (v := ?_) rfl (by kernel_rfl) (by kernel_rfl) (by kernel_rfl) (fun _ _ _ h => h) (by rfl) trivial ?_ ?_
          rotate_left
          · intro wS hSw; (try dsimp only at hSw); go_simp; try with_reducible rfl
          try simp only [Act.put, List.setIfInBounds_toArray, List.set_cons_zero, List.set_cons_succ]
          refine Ro.one_on (i := 11) rfl (by kernel_rfl) (by rfl) (fun K hK => ?_)
          obtain ⟨_, _, f0, d0⟩ := out_app HO2.out HO3.out HC3.out HMAY.out.1 (low_len _ _) (by omega)
          go_wp2_with fail
          refine hK.out _ _ trivial (fun hNew => ?_)
          clear hK K hNew
          try simp only [Act.put, List.setIfInBounds_toArray, List.set_cons_zero, List.set_cons_succ]
          refine wpAnyH_done (by kernel_rfl) ?_ _
          obtain ⟨q1, q2, _⟩ := out_app HO2.out HO3.out HC3.out HMAY.out.1 (low_len _ _) (by omega)
          have HQ1 := Lib.hid q1
          have HQ2 := Lib.hid (Lain.trans (Lain.of S2.out) q2)
          clear q1 q2 HO3 HC3 HO2 S2 HO1
          generalize w3.setCell _ _ = w4 at *
          go_wp2_with fail
          go_roundg GK
          case measure => omega
          case rel => exact ⟨k + 1, A3, c3, by omega, by go_num, by rw [lay_take _ HX.out, HST.out, lay1_yes HMAY.out]; rw [HLO.out] at HQ1; exact HQ1.out, Lain.trans HL.out HQ2.out⟩
        · go_simp
          go_at_call 51
          refine (put32_any none 0 0 [] (x % 4294967296) _ rfl (by omega) (Row.nil _ _)).mono ?_
          rintro e w2 ⟨A2, c2, rfl, h2, s2⟩
          have hrow2 := h2.row
          clear h2
          have s2 := Same.trans ((Same.refl w1).drew) s2
          have S2 := Lib.hid s2
          have HO2 := Lib.hid (HO1.out.same s2)
          clear s2
          refine hK.out _ _ trivial (fun hNew => ?_)
          clear hK K hNew
          try simp only [Act.put, List.setIfInBounds_toArray, List.set_cons_zero, List.set_cons_succ]
          have a0' : w2.cell? ⟨g, 0, none⟩ = some (.slice A1 st.bs.length c1) := HO2.out.blk.cell 0
          refine Ro.one_on (i := 4) rfl (by kernel_rfl) (by rfl) (fun K hK => ?_)
          go_simp
          refine hK.out _ _ trivial (fun hNew => ?_)
          clear hK K hNew
          try simp only [Act.put, List.setIfInBounds_toArray, List.set_cons_zero, List.set_cons_succ]
          clear a0'
          refine Ro.one_on (i := 8) rfl (by kernel_rfl) (by rfl) (fun K hK => ?_)
          refine oper_app2 (.tmp 19) (.tmp 22) 22 rfl H i0 _ Try.underlying22 hi hz0 hz1 hz2 rfl A1 st.bs.length c1 st.bs rfl rfl HO2.out.own A2 4 c2 (low (x % 4294967296) 4) rfl (low_len _ _) (by omega) hrow2 (by have := HO2.out.len; omega) ?_ (st.bs.length + 4) rfl ?_
          · have := HO2.out.low; have := HO2.out.blk.lt; omega
          intro A3 c3 w3 ho3 hc3
          have HO3 := Lib.hid ho3
          have HC3 := Lib.hid hc3
          clear ho3 hc3
          refine hK.out _ _ trivial (fun hNew => ?_)
          clear hK K hNew
          try simp only [Act.put, List.setIfInBounds_toArray, List.set_cons_zero, List.set_cons_succ]
          refine Ro.take_on (i := 9) (v := ?_) rfl (by kernel_rfl) (by kernel_rfl) (by kernel_rfl) (fun _ _ _ h => h) (by rfl) trivial ?_ ?_
          rotate_left
          · intro wS hSw; (try dsimp only at hSw); go_simp; try with_reducible rfl
          try simp only [Act.put, List.setIfInBounds_toArray, List.set_cons_zero, List.set_cons_succ]
          refine Ro.take_on (i := 10) (v := ?_) rfl (by kernel_rfl) (by kernel_rfl) (by kernel_rfl) (fun _ _ _ h => h) (by rfl) trivial ?_ ?_
          rotate_left
          · intro wS hSw; (try dsimp only at hSw); go_simp; try with_reducible rfl
          try simp only [Act.put, List.setIfInBounds_toArray, List.set_cons_zero, List.set_cons_succ]
          refine Ro.one_on (i := 11) rfl (by kernel_rfl) (by rfl) (fun K hK => ?_)
          obtain ⟨_, _, f0, d0⟩ := out_app HO2.out HO3.out HC3.out HMAY.out.1 (low_len _ _) (by omega)
          go_wp2_with fail
          refine hK.out _ _ trivial (fun hNew => ?_)
          clear hK K hNew
          try simp only [Act.put, List.setIfInBounds_toArray, List.set_cons_zero, List.set_cons_succ]
          refine wpAnyH_done (by kernel_rfl) ?_ _
          obtain ⟨q1, q2, _⟩ := out_app HO2.out HO3.out HC3.out HMAY.out.1 (low_len _ _) (by omega)
          have HQ1 := Lib.hid q1
          have HQ2 := Lib.hid (Lain.trans (Lain.of S2.out) q2)
          clear q1 q2 HO3 HC3 HO2 S2 HO1
          generalize w3.setCell _ _ = w4 at *
          go_wp2_with fail
          go_roundg GK
          case measure => omega
          case rel => exact ⟨k + 1, A3, c3, by omega, by go_num, by rw [lay_take _ HX.out, HST.out, lay1_yes HMAY.out]; rw [HLO.out] at HQ1; exact HQ1.out, Lain.trans HL.out HQ2.out⟩
      · have HMAY := Lib.hid hm
        have HO2 := Lib.hid h1
        have HL2 := Lib.hid h2
        clear hm cx h1 h2
        go_wp2_with fail
        go_roundg GK
        case measure => omega
        case rel =>
          refine ⟨k + 1, A1, c1, by omega, by go_num, ?_, Lain.trans HL.out HL2.out⟩
          rw [lay_take _ HX.out, lay1_no HMAY.out]
          exact HO2.out
end Go.Proofs.Ytfpefkpbiioofab.Im
