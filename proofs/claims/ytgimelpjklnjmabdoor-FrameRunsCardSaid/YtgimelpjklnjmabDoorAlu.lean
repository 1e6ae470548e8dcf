/-

  Contracts of package alu and of the document's own answer on layer 7. No condition but those that each theorem names.
-/
import Derived.Test.YtgimelpjklnjmabDoorRows
import Derived.Test.YtgimelpjklnjmabDoorAluMath
import Derived.Test.YtgimelpjklnjmabDoorWords
import Derived.WalkKit
import Derived.WalkLawsBesides
import Derived.ProofKit
import Derived.OpenShut
import Derived.Lib.Hide
import Derived.Deep.QuietTactic
import Derived.BigQuiet
import Derived.Outline
set_option linter.unusedSimpArgs false
set_option linter.unusedVariables false
namespace Go.Proofs.YtgimelpjklnjmabDoor.Al
open Go.ChangeShapes Go.WideShapes Go.ChangeAt Go.RowKit Ws

theorem ret_pair {k : IntKind} {a b : Int} {p q : Bool} (h : a = b) (h' : p = q) : Ending.returned (.tuple #[.int k a, .bool p]) = .returned (.tuple #[.int k b, .bool q]) := by rw [h, h']
theorem ret_bool {a b : Bool} (h : a = b) : Ending.returned (.bool a) = .returned (.bool b) := by rw [h]

theorem atruth (t : Bool) (w : World) :
    Calls Tryd.prog 107 #[.bool t] w fun e w' => e = .returned (.int .u32 (if t = true then 1 else 0)) ∧ w = w' := by
  cases t
  all_goals
    go_enter Tryd.func107, Tryd.ntmps107
    go_wp2
    go_ret
    exact ⟨rfl, rfl⟩

theorem ado_3 (b c : Nat) (hb : b < 4294967296) (hc : c < 4294967296) (w : World) :
    Calls Tryd.prog 82 #[.int .i64 3, .int .u32 (b : Int), .int .u32 (c : Int)] w fun e w' => e = .returned (.tuple #[.int .u32 (doN 3 b c : Nat), .bool true]) ∧ w = w' := by
  go_enter Tryd.func82, Tryd.ntmps82
  go_wp2_with fail
  go_ret2
  exact ⟨ret_pair (by simp [doN]) rfl, rfl⟩

theorem ado_4 (b c : Nat) (hb : b < 4294967296) (hc : c < 4294967296) (w : World) :
    Calls Tryd.prog 82 #[.int .i64 4, .int .u32 (b : Int), .int .u32 (c : Int)] w fun e w' => e = .returned (.tuple #[.int .u32 (doN 4 b c : Nat), .bool true]) ∧ w = w' := by
  go_enter Tryd.func82, Tryd.ntmps82
  go_wp2_with fail
  go_ret2
  exact ⟨ret_pair (by simp only [doN, if_neg (show ¬ ((4 : Int) = 3) by decide), if_true]; omega) rfl, rfl⟩

theorem ado_5 (b c : Nat) (hb : b < 4294967296) (hc : c < 4294967296) (w : World) :
    Calls Tryd.prog 82 #[.int .i64 5, .int .u32 (b : Int), .int .u32 (c : Int)] w fun e w' => e = .returned (.tuple #[.int .u32 (doN 5 b c : Nat), .bool true]) ∧ w = w' := by
  go_enter Tryd.func82, Tryd.ntmps82
  go_wp2_with fail
  go_ret2
  exact ⟨ret_pair (by simp [doN]) rfl, rfl⟩

theorem ado_6 (b c : Nat) (hb : b < 4294967296) (hc : c < 4294967296) (w : World) :
    Calls Tryd.prog 82 #[.int .i64 6, .int .u32 (b : Int), .int .u32 (c : Int)] w fun e w' => e = .returned (.tuple #[.int .u32 (doN 6 b c : Nat), .bool true]) ∧ w = w' := by
  go_enter Tryd.func82, Tryd.ntmps82
  go_wp2_with fail
  go_ret2
  exact ⟨ret_pair (by rw [bits_and_u32 b c hb hc]; rfl) rfl, rfl⟩

theorem ado_7 (b c : Nat) (hb : b < 4294967296) (hc : c < 4294967296) (w : World) :
    Calls Tryd.prog 82 #[.int .i64 7, .int .u32 (b : Int), .int .u32 (c : Int)] w fun e w' => e = .returned (.tuple #[.int .u32 (doN 7 b c : Nat), .bool true]) ∧ w = w' := by
  go_enter Tryd.func82, Tryd.ntmps82
  go_wp2_with fail
  go_ret2
  exact ⟨ret_pair (by rw [bits_or_u32 b c hb hc]; rfl) rfl, rfl⟩

theorem ado_8 (b c : Nat) (hb : b < 4294967296) (hc : c < 4294967296) (w : World) :
    Calls Tryd.prog 82 #[.int .i64 8, .int .u32 (b : Int), .int .u32 (c : Int)] w fun e w' => e = .returned (.tuple #[.int .u32 (doN 8 b c : Nat), .bool true]) ∧ w = w' := by
  go_enter Tryd.func82, Tryd.ntmps82
  go_wp2_with fail
  go_ret2
  exact ⟨ret_pair (by rw [bits_xor_u32 b c hb hc]; rfl) rfl, rfl⟩

theorem ado_9 (b c : Nat) (hb : b < 4294967296) (hc : c < 4294967296) (w : World) :
    Calls Tryd.prog 82 #[.int .i64 9, .int .u32 (b : Int), .int .u32 (c : Int)] w fun e w' => e = .returned (.tuple #[.int .u32 (doN 9 b c : Nat), .bool true]) ∧ w = w' := by
  by_cases h : b < c
  · have hd : decide ((b : Int) < (c : Int)) = true := by simpa using h
    have hv : doN 9 b c = 1 := by simp [doN, h]
    rw [hv]
    clear hv
    go_enter Tryd.func82, Tryd.ntmps82
    go_wp2_with (go_at_call 107; refine (atruth _ _).mono ?_; rintro e w' ⟨rfl, rfl⟩)
    go_ret2
    exact ⟨rfl, rfl⟩
  · have hd : decide ((b : Int) < (c : Int)) = false := by simpa using h
    have hv : doN 9 b c = 0 := by simp [doN, h]
    rw [hv]
    clear hv
    go_enter Tryd.func82, Tryd.ntmps82
    go_wp2_with (go_at_call 107; refine (atruth _ _).mono ?_; rintro e w' ⟨rfl, rfl⟩)
    go_ret2
    exact ⟨rfl, rfl⟩

theorem ado_10 (b c : Nat) (hb : b < 4294967296) (hc : c < 4294967296) (w : World) :
    Calls Tryd.prog 82 #[.int .i64 10, .int .u32 (b : Int), .int .u32 (c : Int)] w fun e w' => e = .returned (.tuple #[.int .u32 (doN 10 b c : Nat), .bool true]) ∧ w = w' := by
  by_cases h : b = c
  · have hd : ((b : Int) == (c : Int)) = true := by simp; omega
    have hv : doN 10 b c = 1 := by simp [doN, h]
    rw [hv]
    clear hv
    go_enter Tryd.func82, Tryd.ntmps82
    go_wp2_with (go_at_call 107; refine (atruth _ _).mono ?_; rintro e w' ⟨rfl, rfl⟩)
    go_ret2
    exact ⟨rfl, rfl⟩
  · have hd : ((b : Int) == (c : Int)) = false := by simp; omega
    have hv : doN 10 b c = 0 := by simp [doN, h]
    rw [hv]
    clear hv
    go_enter Tryd.func82, Tryd.ntmps82
    go_wp2_with (go_at_call 107; refine (atruth _ _).mono ?_; rintro e w' ⟨rfl, rfl⟩)
    go_ret2
    exact ⟨rfl, rfl⟩

theorem ado_no (op : Int) (ho : op < 3 ∨ 10 < op) (b c : Nat) (w : World) :
    Calls Tryd.prog 82 #[.int .i64 op, .int .u32 (b : Int), .int .u32 (c : Int)] w fun e w' => e = .returned (.tuple #[.int .u32 0, .bool false]) ∧ w = w' := by
  rcases ho with ho | ho
  all_goals
    go_enter Tryd.func82, Tryd.ntmps82
    go_wp2_with fail
    go_ret2
    exact ⟨rfl, rfl⟩

theorem rdo_3 (b c : Nat) (hb : b < 4294967296) (hc : c < 4294967296) (w : World) :
    Calls Tryd.prog 36 #[.int .i64 3, .int .u32 (b : Int), .int .u32 (c : Int)] w fun e w' => e = .returned (.tuple #[.int .u32 (doN 3 b c : Nat), .bool true]) ∧ w = w' := by
  go_enter Tryd.func36, Tryd.ntmps36
  go_wp2_with fail
  go_ret2
  exact ⟨ret_pair (by simp [doN]; try omega) rfl, rfl⟩

theorem rdo_4 (b c : Nat) (hb : b < 4294967296) (hc : c < 4294967296) (w : World) :
    Calls Tryd.prog 36 #[.int .i64 4, .int .u32 (b : Int), .int .u32 (c : Int)] w fun e w' => e = .returned (.tuple #[.int .u32 (doN 4 b c : Nat), .bool true]) ∧ w = w' := by
  go_enter Tryd.func36, Tryd.ntmps36
  go_wp2_with fail
  go_ret2
  exact ⟨ret_pair (by simp only [doN, if_neg (show ¬ ((4 : Int) = 3) by decide), if_true]; omega) rfl, rfl⟩

theorem rdo_5 (b c : Nat) (hb : b < 4294967296) (hc : c < 4294967296) (w : World) :
    Calls Tryd.prog 36 #[.int .i64 5, .int .u32 (b : Int), .int .u32 (c : Int)] w fun e w' => e = .returned (.tuple #[.int .u32 (doN 5 b c : Nat), .bool true]) ∧ w = w' := by
  have hp : b * c ≤ 4294967295 * 4294967295 := Nat.mul_le_mul (by omega) (by omega)
  have hp' : (b : Int) * (c : Int) ≤ 18446744065119617025 := by have := Int.ofNat_le.2 hp; simpa using this
  have hq : 0 ≤ (b : Int) * (c : Int) := Int.mul_nonneg (by omega) (by omega)
  clear hp
  go_enter Tryd.func36, Tryd.ntmps36
  go_wp2_with fail
  go_ret2
  exact ⟨ret_pair (by simp [doN]; try omega) rfl, rfl⟩

theorem rdo_9 (b c : Nat) (hb : b < 4294967296) (hc : c < 4294967296) (w : World) :
    Calls Tryd.prog 36 #[.int .i64 9, .int .u32 (b : Int), .int .u32 (c : Int)] w fun e w' => e = .returned (.tuple #[.int .u32 (doN 9 b c : Nat), .bool true]) ∧ w = w' := by
  by_cases h : b < c
  · have hd : decide ((b : Int) < (c : Int)) = true := by simpa using h
    have hv : doN 9 b c = 1 := by simp [doN, h]
    rw [hv]
    clear hv
    go_enter Tryd.func36, Tryd.ntmps36
    go_wp2_with fail
    go_ret2
    exact ⟨rfl, rfl⟩
  · have hd : decide ((b : Int) < (c : Int)) = false := by simpa using h
    have hv : doN 9 b c = 0 := by simp [doN, h]
    rw [hv]
    clear hv
    go_enter Tryd.func36, Tryd.ntmps36
    go_wp2_with fail
    go_ret2
    exact ⟨rfl, rfl⟩

theorem rdo_10 (b c : Nat) (hb : b < 4294967296) (hc : c < 4294967296) (w : World) :
    Calls Tryd.prog 36 #[.int .i64 10, .int .u32 (b : Int), .int .u32 (c : Int)] w fun e w' => e = .returned (.tuple #[.int .u32 (doN 10 b c : Nat), .bool true]) ∧ w = w' := by
  by_cases h : b = c
  · have hd : ((b : Int) == (c : Int)) = true := by simp; omega
    have hv : doN 10 b c = 1 := by simp [doN, h]
    rw [hv]
    clear hv
    go_enter Tryd.func36, Tryd.ntmps36
    go_wp2_with fail
    go_ret2
    exact ⟨rfl, rfl⟩
  · have hd : ((b : Int) == (c : Int)) = false := by simp; omega
    have hv : doN 10 b c = 0 := by simp [doN, h]
    rw [hv]
    clear hv
    go_enter Tryd.func36, Tryd.ntmps36
    go_wp2_with fail
    go_ret2
    exact ⟨rfl, rfl⟩

theorem rdo_no (op : Int) (ho : op < 3 ∨ 10 < op) (b c : Nat) (hb : b < 4294967296) (hc : c < 4294967296) (w : World) :
    Calls Tryd.prog 36 #[.int .i64 op, .int .u32 (b : Int), .int .u32 (c : Int)] w fun e w' => e = .returned (.tuple #[.int .u32 0, .bool false]) ∧ w = w' := by
  have h9 : (op == 9) = false := by simp; omega
  have h10 : (op == 10) = false := by simp; omega
  have h6 : (op != 6) = true := by simp; omega
  have h7 : (op != 7) = true := by simp; omega
  have h8 : (op != 8) = true := by simp; omega
  rcases ho with ho | ho
  all_goals
    go_enter Tryd.func36, Tryd.ntmps36
    go_wp2_with fail
    go_ret2
    exact ⟨rfl, rfl⟩

theorem rdo_6 (b c : Nat) (hb : b < 4294967296) (hc : c < 4294967296) (w : World) :
    Calls Tryd.prog 36 #[.int .i64 6, .int .u32 (b : Int), .int .u32 (c : Int)] w fun e w' => e = .returned (.tuple #[.int .u32 (doN 6 b c : Nat), .bool true]) ∧ w = w' := by
  go_enter Tryd.func36, Tryd.ntmps36
  go_wp2_with fail
  go_loop [8, 9, 10, 11, 12] (fun x y v p i => ∃ k x0 y0 p0 v0 : Nat, k ≤ 32 ∧ x = .int .u64 (x0 : Int) ∧ y = .int .u64 (y0 : Int) ∧ v = .int .u64 (v0 : Int) ∧ p = .int .u64 (p0 : Int) ∧ i = .int .i64 (k : Int) ∧ At 6 b c k x0 y0 p0 v0) (fun _ _ _ _ i => 32 - (intOf i).toNat)
  case atStart => exact ⟨0, b, c, 1, 0, by omega, rfl, rfl, rfl, rfl, rfl, At.zero _ _ _⟩
  case round =>
    obtain ⟨k, x0, y0, p0, v0, hk, rfl, rfl, rfl, rfl, rfl, hat⟩ := hrel
    obtain ⟨b1, b2, b3, b4, b5⟩ := hat.bound hb hc hk
    by_cases hlt : k < 32
    · have hs := Lib.hid hat.step
      have hm1 : x0 % 2 < 2 := Nat.mod_lt _ (by decide)
      have hm2 : y0 % 2 < 2 := Nat.mod_lt _ (by decide)
      have HT : bt 6 (x0 % 2 + y0 % 2) = true ∨ bt 6 (x0 % 2 + y0 % 2) = false := by cases bt 6 (x0 % 2 + y0 % 2) <;> simp
      clear hat
      go_wp2_with fail
      all_goals
        go_round
        case rel =>
          first
          | (have e : bt 6 (x0 % 2 + y0 % 2) = true := by
               simp [bt]; omega
             exact ⟨k + 1, x0 / 2, y0 / 2, 2 * p0, v0 + p0, by omega, by go_num, by go_num, by go_num, by go_num, by go_num, by have := hs.out; rw [e] at this; exact this⟩)
          | (have e : bt 6 (x0 % 2 + y0 % 2) = false := by
               simp [bt]; omega
             exact ⟨k + 1, x0 / 2, y0 / 2, 2 * p0, v0, by omega, by go_num, by go_num, rfl, by go_num, by go_num, by have := hs.out; rw [e] at this; exact this⟩)
        case measure => simp [intOf]; omega
    · obtain rfl : k = 32 := by omega
      have hl := hat.last hb hc
      subst hl
      have hbl := bw_lt 6 b c hb hc
      go_wp2_with fail
      go_ret2
      exact ⟨ret_pair (by first | (simp [doN]; done) | (simp [doN]; omega)) rfl, rfl⟩

theorem rdo_7 (b c : Nat) (hb : b < 4294967296) (hc : c < 4294967296) (w : World) :
    Calls Tryd.prog 36 #[.int .i64 7, .int .u32 (b : Int), .int .u32 (c : Int)] w fun e w' => e = .returned (.tuple #[.int .u32 (doN 7 b c : Nat), .bool true]) ∧ w = w' := by
  go_enter Tryd.func36, Tryd.ntmps36
  go_wp2_with fail
  go_loop [8, 9, 10, 11, 12] (fun x y v p i => ∃ k x0 y0 p0 v0 : Nat, k ≤ 32 ∧ x = .int .u64 (x0 : Int) ∧ y = .int .u64 (y0 : Int) ∧ v = .int .u64 (v0 : Int) ∧ p = .int .u64 (p0 : Int) ∧ i = .int .i64 (k : Int) ∧ At 7 b c k x0 y0 p0 v0) (fun _ _ _ _ i => 32 - (intOf i).toNat)
  case atStart => exact ⟨0, b, c, 1, 0, by omega, rfl, rfl, rfl, rfl, rfl, At.zero _ _ _⟩
  case round =>
    obtain ⟨k, x0, y0, p0, v0, hk, rfl, rfl, rfl, rfl, rfl, hat⟩ := hrel
    obtain ⟨b1, b2, b3, b4, b5⟩ := hat.bound hb hc hk
    by_cases hlt : k < 32
    · have hs := Lib.hid hat.step
      have hm1 : x0 % 2 < 2 := Nat.mod_lt _ (by decide)
      have hm2 : y0 % 2 < 2 := Nat.mod_lt _ (by decide)
      have HT : bt 7 (x0 % 2 + y0 % 2) = true ∨ bt 7 (x0 % 2 + y0 % 2) = false := by cases bt 7 (x0 % 2 + y0 % 2) <;> simp
      clear hat
      go_wp2_with fail
      all_goals
        go_round
        case rel =>
          first
          | (have e : bt 7 (x0 % 2 + y0 % 2) = true := by
               simp [bt]; omega
             exact ⟨k + 1, x0 / 2, y0 / 2, 2 * p0, v0 + p0, by omega, by go_num, by go_num, by go_num, by go_num, by go_num, by have := hs.out; rw [e] at this; exact this⟩)
          | (have e : bt 7 (x0 % 2 + y0 % 2) = false := by
               simp [bt]; omega
             exact ⟨k + 1, x0 / 2, y0 / 2, 2 * p0, v0, by omega, by go_num, by go_num, rfl, by go_num, by go_num, by have := hs.out; rw [e] at this; exact this⟩)
        case measure => simp [intOf]; omega
    · obtain rfl : k = 32 := by omega
      have hl := hat.last hb hc
      subst hl
      have hbl := bw_lt 7 b c hb hc
      go_wp2_with fail
      go_ret2
      exact ⟨ret_pair (by first | (simp [doN]; done) | (simp [doN]; omega)) rfl, rfl⟩

theorem rdo_8 (b c : Nat) (hb : b < 4294967296) (hc : c < 4294967296) (w : World) :
    Calls Tryd.prog 36 #[.int .i64 8, .int .u32 (b : Int), .int .u32 (c : Int)] w fun e w' => e = .returned (.tuple #[.int .u32 (doN 8 b c : Nat), .bool true]) ∧ w = w' := by
  go_enter Tryd.func36, Tryd.ntmps36
  go_wp2_with fail
  go_loop [8, 9, 10, 11, 12] (fun x y v p i => ∃ k x0 y0 p0 v0 : Nat, k ≤ 32 ∧ x = .int .u64 (x0 : Int) ∧ y = .int .u64 (y0 : Int) ∧ v = .int .u64 (v0 : Int) ∧ p = .int .u64 (p0 : Int) ∧ i = .int .i64 (k : Int) ∧ At 8 b c k x0 y0 p0 v0) (fun _ _ _ _ i => 32 - (intOf i).toNat)
  case atStart => exact ⟨0, b, c, 1, 0, by omega, rfl, rfl, rfl, rfl, rfl, At.zero _ _ _⟩
  case round =>
    obtain ⟨k, x0, y0, p0, v0, hk, rfl, rfl, rfl, rfl, rfl, hat⟩ := hrel
    obtain ⟨b1, b2, b3, b4, b5⟩ := hat.bound hb hc hk
    by_cases hlt : k < 32
    · have hs := Lib.hid hat.step
      have hm1 : x0 % 2 < 2 := Nat.mod_lt _ (by decide)
      have hm2 : y0 % 2 < 2 := Nat.mod_lt _ (by decide)
      have HT : bt 8 (x0 % 2 + y0 % 2) = true ∨ bt 8 (x0 % 2 + y0 % 2) = false := by cases bt 8 (x0 % 2 + y0 % 2) <;> simp
      clear hat
      by_cases hq : x0 % 2 + y0 % 2 = 1
      · have hd : ((x0 : Int) % 2 + (y0 : Int) % 2 == 1) = true := by simp; omega
        have e : bt 8 (x0 % 2 + y0 % 2) = true := by simp [bt, hq]
        have hs' := hs.out
        rw [e] at hs'
        have HS := Lib.hid hs'
        clear hs hs' e HT
        go_wp2_with fail
        go_round
        case rel => exact ⟨k + 1, x0 / 2, y0 / 2, 2 * p0, v0 + p0, by omega, by go_num, by go_num, by go_num, by go_num, by go_num, HS.out⟩
        case measure => simp [intOf]; omega
      · have hd : ((x0 : Int) % 2 + (y0 : Int) % 2 == 1) = false := by simp; omega
        have e : bt 8 (x0 % 2 + y0 % 2) = false := by simp [bt, hq]
        have hs' := hs.out
        rw [e] at hs'
        have HS := Lib.hid hs'
        clear hs hs' e HT
        go_wp2_with fail
        go_round
        case rel => exact ⟨k + 1, x0 / 2, y0 / 2, 2 * p0, v0, by omega, by go_num, by go_num, rfl, by go_num, by go_num, HS.out⟩
        case measure => simp [intOf]; omega
    · obtain rfl : k = 32 := by omega
      have hl := hat.last hb hc
      subst hl
      have hbl := bw_lt 8 b c hb hc
      go_wp2_with fail
      go_ret2
      exact ⟨ret_pair (by first | (simp [doN]; done) | (simp [doN]; omega)) rfl, rfl⟩

end Go.Proofs.YtgimelpjklnjmabDoor.Al
