/-

  Sets of numbers (layer 3): who is in one, how many, all of them in order; the document's own list, and its own pick.
-/
import Derived.Test.YtikjkmomokhanaaDoorBitPick
import Derived.Test.YtikjkmomokhanaaDoorBitPop
import Derived.Test.YtikjkmomokhanaaDoorBitRef
import Derived.Maps.AppendAt
set_option linter.unusedVariables false
set_option linter.unusedSimpArgs false
namespace Go.Proofs.YtikjkmomokhanaaDoor.Be
open Go.ChangeShapes Go.WideShapes Go.ChangeAt Go.RowKit Ws
open Go.Shelf
open Go.Proofs.YtikjkmomokhanaaDoor.Bo

theorem bitI_at {k : Nat} (hk : k < 64) : Op.bitI (k : Int) = 2 ^ k := by unfold Op.bitI; rw [if_pos (by omega), Int.toNat_natCast]
theorem bitI_bit (i : Int) (j : Nat) : (Op.bitI i).testBit j = decide (j < 64 ∧ (j : Int) = i) := by
  unfold Op.bitI
  by_cases h : 0 ≤ i ∧ i ≤ 63
  · rw [if_pos h, Nat.testBit_two_pow, Bool.eq_iff_iff]
    simp
    omega
  · rw [if_neg h]
    simp
    omega
theorem dropN_bit (x : Nat) (i : Int) (j : Nat) (hj : j < 64) : (x &&& (18446744073709551615 - Op.bitI i)).testBit j = (x.testBit j && !decide ((j : Int) = i)) := by
  have hlt := Op.bitI_lt i
  have e2 : 18446744073709551615 - Op.bitI i = 2 ^ 64 - (Op.bitI i + 1) := by omega
  rw [Nat.testBit_and, e2, Nat.testBit_two_pow_sub_succ (by simpa using hlt), bitI_bit, decide_eq_true hj]
  congr 1
  simp [hj]
theorem zero_of_bits {x : Nat} (hx : x < 18446744073709551616) (h : ∀ j, j < 64 → x.testBit j = false) : x = 0 := by
  apply Nat.eq_of_testBit_eq
  intro j
  rw [Nat.zero_testBit]
  by_cases hj : j < 64
  · exact h j hj
  · exact Nat.testBit_lt_two_pow (Nat.lt_of_lt_of_le hx (show 2 ^ 64 ≤ 2 ^ j from Nat.pow_le_pow_right (by omega) (by omega)))
theorem ctz_low {x : Nat} (h0 : x ≠ 0) (hx : x < 18446744073709551616) (j : Nat) (hj : j < Lib.ctz 64 x) : x.testBit j = false := by
  obtain ⟨m, h1, h2⟩ := Lib.ctzFrom_spec 64 x (by omega) hx
  have e : Lib.ctz 64 x = Lib.ctzFrom 64 x := by unfold Lib.ctz; rw [if_neg h0]
  rw [e] at hj
  rw [h1, Nat.testBit_two_pow_mul, decide_eq_false (by omega)]
  rfl
theorem bitsL_filter (n : Nat) : ∀ (k x : Nat), k + n = 64 → x < 18446744073709551616 → (∀ j, j < k → x.testBit j = false) → bitsL x = (List.range' k n).filter (fun i => x.testBit i) := by
  induction n with
  | zero =>
    intro k x hk hx h
    obtain rfl := zero_of_bits hx (fun j hj => h j (by omega))
    rw [bitsL_zero]
    rfl
  | succ n ih =>
    intro k x hk hx h
    rw [List.range'_succ, List.filter_cons]
    cases hb : x.testBit k
    · rw [if_neg (by simp)]
      exact ih (k + 1) x (by omega) hx (fun j hj => by
        by_cases e : j = k
        · rw [e]; exact hb
        · exact h j (by omega))
    · rw [if_pos rfl]
      have h0 : x ≠ 0 := by
        rintro rfl
        rw [Nat.zero_testBit] at hb
        cases hb
      obtain ⟨c1, c2⟩ := ctz_bit h0 hx
      have hck : Lib.ctz 64 x = k := by
        rcases Nat.lt_trichotomy (Lib.ctz 64 x) k with hlt | heq | hgt
        · rw [h _ hlt] at c1; cases c1
        · exact heq
        · rw [ctz_low h0 hx k hgt] at hb; cases hb
      have hdl := drop_lt h0 hx
      rw [bitsL_next h0 hx, hck]
      rw [hck] at hdl
      have hbit : ∀ j, j < 64 → (dropN x k).testBit j = (x.testBit j && !decide (j = k)) := by
        intro j hj
        unfold dropN
        rw [dropN_bit x (k : Int) j hj]
        congr 2
        rw [decide_eq_decide]
        omega
      rw [ih (k + 1) (dropN x k) (by omega) (by omega) (fun j hj => by
        rw [hbit j (by omega)]
        by_cases e : j = k
        · simp [e]
        · rw [h j (by omega)]; rfl)]
      congr 1
      apply List.filter_congr
      intro i hi
      have hi2 := List.mem_range'_1.1 hi
      rw [hbit i (by omega)]
      have : decide (i = k) = false := decide_eq_false (by omega)
      rw [this]
      simp
theorem bitsL_eq {x : Nat} (hx : x < 18446744073709551616) : bitsL x = (List.range' 0 64).filter (fun i => x.testBit i) := bitsL_filter 64 0 x rfl hx (fun j hj => by omega)
theorem bitsL_mem {x : Nat} (hx : x < 18446744073709551616) (i : Nat) : i ∈ bitsL x ↔ i < 64 ∧ x.testBit i = true := by
  rw [bitsL_eq hx, List.mem_filter, List.mem_range'_1]
  constructor
  · rintro ⟨h1, h2⟩; exact ⟨by omega, h2⟩
  · rintro ⟨h1, h2⟩; exact ⟨⟨by omega, by omega⟩, h2⟩
theorem bitsL_len {x : Nat} (hx : x < 18446744073709551616) : (bitsL x).length ≤ 64 := by
  rw [bitsL_eq hx]
  exact Nat.le_trans (List.length_filter_le _ _) (by simp)
theorem bitsL_rising {x : Nat} (hx : x < 18446744073709551616) : (bitsL x).Pairwise (· < ·) := by
  rw [bitsL_eq hx]
  exact List.Pairwise.filter _ List.pairwise_lt_range'

/-! ### has, count -/
theorem has_any (x : Nat) (hx : x < 18446744073709551616) (i : Int) (w : World) :
    Calls Tryd.prog 14 #[.int .u64 (x : Int), .int .i64 i] w fun e w' => e = .returned (.bool (decide (x &&& Op.bitI i ≠ 0))) ∧ w = w' := by
  have hb := Op.bitI_lt i
  have h1 : bits .and .u64 (x : Int) ((Op.bitI i : Nat) : Int) = ((x &&& Op.bitI i : Nat) : Int) := bits_and_u64_nat x (Op.bitI i) hx hb
  have H1 := Lib.hid h1
  have BA := fun w' => bit_any i w'
  clear h1 hx hb
  generalize Op.bitI i = b at *
  by_cases hz : x &&& b = 0
  · have h2 : bits .and .u64 (x : Int) (b : Int) = 0 := by rw [H1.out, hz]; rfl
    rw [decide_eq_false (by simpa using hz)]
    clear H1 hz
    generalize (x : Int) = y at *
    generalize (b : Int) = c at *
    go_enter Tryd.func14, Tryd.ntmps14
    go_wp2_with fail
    refine (BA _).mono ?_
    rintro e w' ⟨rfl, rfl⟩
    go_wp2_with fail
    go_ret
    exact ⟨rfl, rfl⟩
  · have h2 : (bits .and .u64 (x : Int) (b : Int) != 0) = true := by rw [H1.out]; simp; omega
    rw [decide_eq_true (by simpa using hz)]
    clear H1 hz
    generalize (x : Int) = y at *
    generalize (b : Int) = c at *
    go_enter Tryd.func14, Tryd.ntmps14
    go_wp2_with fail
    refine (BA _).mono ?_
    rintro e w' ⟨rfl, rfl⟩
    go_wp2_with fail
    go_ret
    exact ⟨rfl, rfl⟩

end Go.Proofs.YtikjkmomokhanaaDoor.Be
