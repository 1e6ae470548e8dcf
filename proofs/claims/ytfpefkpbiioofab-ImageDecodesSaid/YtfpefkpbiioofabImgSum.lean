/-
  Layer 33: the sum of bytes, of the program and of the document.
-/
import Derived.Test.YtfpefkpbiioofabImgPut
set_option linter.unusedVariables false
set_option linter.unusedSimpArgs false
namespace Go.Proofs.Ytfpefkpbiioofab.Im
open Go.ChangeShapes Go.WideShapes Go.ChangeAt Go.RowKit Ws Cd

theorem sum_take {l : List Int} {k : Nat} {x : Int} (h : l[k]? = some x) : (l.take (k + 1)).sum = (l.take k).sum + x := by
  rw [List.take_add_one, h, List.sum_append]
  simp
theorem sum_bd : ∀ {l : List Int}, By l → 0 ≤ l.sum ∧ l.sum ≤ 255 * l.length
  | [], _ => by simp
  | x :: l, h => by
    have h1 := sum_bd (l := l) fun y hy => h y (by simp [hy])
    have h2 := h x (by simp)
    rw [List.sum_cons, List.length_cons]
    omega
set_option maxRecDepth 100000 in
theorem sum_any (A : Option Addr) (n c : Nat) (l : List Int) (w : World) (hl : l.length = n) (hn : n ≤ 4294967296) (hb : By l) (hr : Row w A (by8 l)) :
    Calls Try.prog 10 #[.slice A n c] w fun e w' => e = .returned (.int .i64 (sumB l)) ∧ w' = w := by
  have HN := Lib.hid hl
  have HB := Lib.hid hb
  have HR := Lib.hid hr
  clear hl hb hr
  go_enter Try.func10, Try.ntmps10
  go_wp2_with fail
  go_loopg [8, 3] n (fun gk iv sv wx => ∃ k : Nat, k + gk = n ∧ iv = .int .i64 k ∧ sv = .int .i64 ((l.take k).sum) ∧ wx = w)
  case atStart => exact ⟨0, by omega, rfl, by simp, rfl⟩
  case round =>
    obtain ⟨k, hk, rfl, rfl, rfl⟩ := hrel
    cases gk with
    | zero =>
      obtain rfl : k = n := by omega
      have hge : ¬ (k : Int) < (k : Int) := by omega
      have he : l.take k = l := List.take_of_length_le (by rw [HN.out]; omega)
      rw [he]
      have HE := Lib.hid (show (l.sum % 65536) = sumB l from rfl)
      have h0 := (sum_bd HB.out).1
      generalize l.sum = s0 at *
      go_wp2_with fail
      go_ret
      exact ⟨by rw [← HE.out]; rfl, rfl⟩
    | succ GK =>
      have hlt : (k : Int) < n := by omega
      have k0 : (0 : Int) ≤ k := by omega
      obtain ⟨x, hx⟩ : ∃ x, l[k]? = some x := ⟨_, List.getElem?_eq_getElem (by have := HN.out; omega)⟩
      obtain ⟨b, o, rfl, cx⟩ := HR.out k (.int .u8 x) (by unfold by8; rw [List.getElem?_map, hx]; rfl)
      have hx8 := HB.out x (List.mem_of_getElem? hx)
      have hs := sum_bd (l := l.take k) fun y hy => HB.out y (List.mem_of_mem_take hy)
      have hkl : (l.take k).length ≤ n := by rw [List.length_take, HN.out]; omega
      have HX := Lib.hid (sum_take hx)
      clear hx
      generalize (l.take k).sum = s0 at *
      generalize (l.take k).length = m0 at *
      go_wp2_with fail
      go_roundg GK
      case measure => omega
      case rel => exact ⟨k + 1, by omega, by go_num, by rw [HX.out], rfl⟩
set_option maxRecDepth 100000 in
theorem rsum_any (A : Option Addr) (n c : Nat) (l : List Int) (w : World) (hl : l.length = n) (hn : n ≤ 4294967296) (hb : By l) (hr : Row w A (by8 l)) :
    Calls Try.prog 19 #[.slice A n c] w fun e w' => e = .returned (.int .i64 (sumB l)) ∧ w' = w := by
  have HN := Lib.hid hl
  have HB := Lib.hid hb
  have HR := Lib.hid hr
  clear hl hb hr
  go_enter Try.func19, Try.ntmps19
  go_wp2_with fail
  go_loopg [8, 3] n (fun gk iv sv wx => ∃ k : Nat, k + gk = n ∧ iv = .int .i64 k ∧ sv = .int .i64 ((l.take k).sum % 65536) ∧ wx = w)
  case atStart => exact ⟨0, by omega, rfl, by simp, rfl⟩
  case round =>
    obtain ⟨k, hk, rfl, rfl, rfl⟩ := hrel
    cases gk with
    | zero =>
      obtain rfl : k = n := by omega
      have hge : ¬ (k : Int) < (k : Int) := by omega
      have he : l.take k = l := List.take_of_length_le (by rw [HN.out]; omega)
      rw [he]
      have HE := Lib.hid (show (l.sum % 65536) = sumB l from rfl)
      rw [HE.out]
      go_wp2_with fail
      go_ret
      exact ⟨by rw [← HE.out]; rfl, rfl⟩
    | succ GK =>
      have hlt : (k : Int) < n := by omega
      have k0 : (0 : Int) ≤ k := by omega
      obtain ⟨x, hx⟩ : ∃ x, l[k]? = some x := ⟨_, List.getElem?_eq_getElem (by have := HN.out; omega)⟩
      obtain ⟨b, o, rfl, cx⟩ := HR.out k (.int .u8 x) (by unfold by8; rw [List.getElem?_map, hx]; rfl)
      have hx8 := HB.out x (List.mem_of_getElem? hx)
      have hs := sum_bd (l := l.take k) fun y hy => HB.out y (List.mem_of_mem_take hy)
      have hkl : (l.take k).length ≤ n := by rw [List.length_take, HN.out]; omega
      have HX := Lib.hid (sum_take hx)
      clear hx
      generalize (l.take k).sum = s0 at *
      generalize (l.take k).length = m0 at *
      have hmod : 0 ≤ s0 % 65536 ∧ s0 % 65536 < 65536 := by omega
      have HM := Lib.hid (show (s0 % 65536 + x) % 65536 = (s0 + x) % 65536 by omega)
      generalize s0 % 65536 = s1 at *
      go_wp2_with fail
      go_roundg GK
      case measure => omega
      case rel => exact ⟨k + 1, by omega, by go_num, by rw [HX.out, ← HM.out], rfl⟩
end Go.Proofs.Ytfpefkpbiioofab.Im
