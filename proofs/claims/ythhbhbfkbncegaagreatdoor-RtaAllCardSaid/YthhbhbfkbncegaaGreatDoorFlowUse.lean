/-

 Contracts of package flow (layer 10): may, Loops, Depth, Next; two rows of numbers, or of loops, held against each other.
-/
import Derived.Test.YthhbhbfkbncegaaGreatDoorFlowCk
import Derived.WalkKit
set_option linter.unusedVariables false
set_option linter.unusedSimpArgs false
namespace Go.Proofs.YthhbhbfkbncegaaGreatDoor.Fw
open Go.ChangeShapes Go.WideShapes Go.ChangeAt Go.RowKit Ws Fp
open Go.Proofs.YthhbhbfkbncegaaGreatDoor.Is (Tabs ins rightB leadB)

theorem ints_eq (A C : Option Addr) (n m c d : Nat) (xs ys : List Int) (w : World) (hn : xs.length = n) (hm : ys.length = m) (hx : Row w A (xs.map (Value.int .i64))) (hy : Row w C (ys.map (Value.int .i64)))
 (b1 : n ≤ 4294967296) (b2 : m ≤ 4294967296) :
 Calls Tryz.prog 29 #[.slice A n c, .slice C m d] w fun e w' => e = .returned (.bool (decide (xs = ys))) ∧ ∃ k, w' = w.drewN k := by
 by_cases hl : n = m
 ·subst hl
  have HX := Lib.hid hn
  have HY := Lib.hid hm
  clear hn hm
  go_enter Tryz.func29, Tryz.ntmps29
  go_wp2
  go_loopw [5, 13] (fun _ i wr => ∃ k : Nat, k ≤ n ∧ i = .int .i64 k ∧ xs.take k = ys.take k ∧ ∃ q, wr = w.drewN q) (fun _ i _ => n - (intOf i).toNat)
  case atStart => exact ⟨0, Nat.zero_le _, rfl, by simp, 0, rfl⟩
  case round =>
   obtain ⟨k, hk, rfl, hp, q, rfl⟩ := hrel
   have HP := Lib.hid hp
   clear hp
   by_cases hlt : k < n
   ·obtain ⟨b, o, rfl, hc1⟩ := hx.at_ (k := k) (by have := HX.out; simp; omega)
    obtain ⟨b', o', rfl, hc2⟩ := hy.at_ (k := k) (by have := HY.out; simp; omega)
    rw [List.getElem_map] at hc1 hc2
    have hkx : k < xs.length := by have := HX.out; omega
    have hky : k < ys.length := by have := HY.out; omega
    have hsx : xs.take (k + 1) = xs.take k ++ [xs[k]] := by rw [List.take_succ_eq_append_getElem hkx]
    have hsy : ys.take (k + 1) = ys.take k ++ [ys[k]] := by rw [List.take_succ_eq_append_getElem hky]
    obtain ⟨x, hxx⟩ : ∃ x, x = xs[k] := ⟨_, rfl⟩
    obtain ⟨y, hyy⟩ : ∃ y, y = ys[k] := ⟨_, rfl⟩
    rw [← hxx] at hc1 hsx
    rw [← hyy] at hc2 hsy
    have HSX := Lib.hid hsx
    have HSY := Lib.hid hsy
    clear hsx hsy hxx hyy
    by_cases hxy : x = y
    ·have hb : (x != y) = false := by simpa using hxy
     have HXY := Lib.hid hxy
     clear hxy
     go_wp2
     go_quiet (fail)
     go_wp2
     go_roundw
     case rel => exact ⟨k + 1, by omega, by go_num, by rw [HSX.out, HSY.out, HP.out, HXY.out], _, rfl⟩
     case measure => simp [intOf]; omega
    ·have hb : (x != y) = true := by simpa using hxy
     have hd : decide (xs = ys) = false := by
      rw [decide_eq_false_iff_not]
      rintro rfl
      have := HSX.out
      rw [HSY.out] at this
      have := List.append_cancel_left this
      injection this with this
      exact hxy this.symm
     have HD := Lib.hid hd
     clear hd hxy
     go_wp2
     go_quiet (fail)
     go_wp2
     go_ret
     exact ⟨ret_bool HD.out.symm, q + nq, by simp⟩
   ·have hkn : k = n := by omega
    subst hkn
    have hd : decide (xs = ys) = true := by
     rw [decide_eq_true_iff]
     have h1 := HP.out
     rw [List.take_of_length_le (by have := HX.out; omega), List.take_of_length_le (by have := HY.out; omega)] at h1
     exact h1
    have HD := Lib.hid hd
    clear hd
    go_wp2
    go_ret
    exact ⟨ret_bool HD.out.symm, _, rfl⟩
 ·have hd : decide (xs = ys) = false := by
   rw [decide_eq_false_iff_not]
   rintro rfl
   omega
  have HD := Lib.hid hd
  clear hd
  have hne : ((n : Int) != (m : Int)) = true := by simp; omega
  go_enter Tryz.func29, Tryz.ntmps29
  go_wp2
  go_ret
  exact ⟨ret_bool HD.out.symm, 0, rfl⟩

/-- does a program go where it may? -/
def okB (p : List Ins) : Bool := decide (ckE p = 0)
theorem okB_fine {p : List Ins} (h : okB p = true) : Fine rightI p := fine_of (of_decide_eq_true h)
theorem may_any (A : Option Addr) (m c : Nat) (p : List Ins) (w : World) (hl : p.length = m) (hm : m ≤ 5000) (hp : Prg w A p) (ht : Tabs w) :
 Calls Tryz.prog 124 #[.slice A m c] w fun e w' => e = .returned (.bool (okB p)) ∧ Same w w' := by
 have CK := Lib.hid (check_any A m c p w hl hm hp ht)
 have hE : (ckE p == 0) = okB p := by unfold okB; rw [Bool.eq_iff_iff]; simp
 have HE := Lib.hid hE
 clear hl hp ht hE
 go_enter Tryz.func124, Tryz.ntmps124
 go_wp2_with fail
 refine CK.out.mono ?_
 rintro e w1 ⟨rfl, s1⟩
 go_wp2_with fail
 go_ret
 exact ⟨ret_bool HE.out, s1⟩
/-- the places to which one may come, as a row of numbers -/
def Nums (w : World) (l : List Int) (e : Ending) (w' : World) : Prop := ∃ A c, e = .returned (.slice A l.length c) ∧ Row w' A (l.map (Value.int .i64)) ∧ Same w w'
/-- what Next tells -/
def nextsL (p : List Ins) (x : Int) : List Int := if okB p = true ∧ 0 ≤ x ∧ x < p.length then nextL p x.toNat else []
end Go.Proofs.YthhbhbfkbncegaaGreatDoor.Fw
