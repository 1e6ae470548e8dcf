/-
  Plain arithmetic for layer 7: words as whole numbers, bit by bit. Nothing here speaks of a program.
-/
import Derived.WalkKit
import Derived.Laws.Bits64b
set_option linter.unusedSimpArgs false
set_option linter.unusedVariables false
namespace Go.Proofs.YtiipdeionmndcaaDoor.Al
open Go.RowKit

theorem wrap_u32 (n : Int) : IntKind.u32.wrap n = n % 4294967296 := by simp [IntKind.wrap, IntKind.bits, IntKind.signed]

theorem bits_and_u32 (a b : Nat) (ha : a < 4294967296) (hb : b < 4294967296) : bits .and .u32 (a : Int) (b : Int) = ((a &&& b : Nat) : Int) := by
  have hx : a &&& b < 2 ^ 32 := Nat.and_lt_two_pow _ (by omega)
  have h1 : (BitVec.ofInt 32 (a : Int)).toNat = a := by
    rw [BitVec.ofInt_natCast, BitVec.toNat_ofNat]; exact Nat.mod_eq_of_lt (by omega)
  have h2 : (BitVec.ofInt 32 (b : Int)).toNat = b := by
    rw [BitVec.ofInt_natCast, BitVec.toNat_ofNat]; exact Nat.mod_eq_of_lt (by omega)
  show IntKind.u32.wrap ((BitVec.ofInt 32 (a : Int) &&& BitVec.ofInt 32 (b : Int)).toNat : Int) = _
  rw [BitVec.toNat_and, h1, h2, wrap_u32]
  omega

theorem bits_or_u32 (a b : Nat) (ha : a < 4294967296) (hb : b < 4294967296) : bits .or .u32 (a : Int) (b : Int) = ((a ||| b : Nat) : Int) := by
  have hx : a ||| b < 2 ^ 32 := Nat.or_lt_two_pow (by omega) (by omega)
  have h1 : (BitVec.ofInt 32 (a : Int)).toNat = a := by
    rw [BitVec.ofInt_natCast, BitVec.toNat_ofNat]; exact Nat.mod_eq_of_lt (by omega)
  have h2 : (BitVec.ofInt 32 (b : Int)).toNat = b := by
    rw [BitVec.ofInt_natCast, BitVec.toNat_ofNat]; exact Nat.mod_eq_of_lt (by omega)
  show IntKind.u32.wrap ((BitVec.ofInt 32 (a : Int) ||| BitVec.ofInt 32 (b : Int)).toNat : Int) = _
  rw [BitVec.toNat_or, h1, h2, wrap_u32]
  omega

theorem bits_xor_u32 (a b : Nat) (ha : a < 4294967296) (hb : b < 4294967296) : bits .xor .u32 (a : Int) (b : Int) = ((a ^^^ b : Nat) : Int) := by
  have hx : a ^^^ b < 2 ^ 32 := Nat.xor_lt_two_pow (by omega) (by omega)
  have h1 : (BitVec.ofInt 32 (a : Int)).toNat = a := by
    rw [BitVec.ofInt_natCast, BitVec.toNat_ofNat]; exact Nat.mod_eq_of_lt (by omega)
  have h2 : (BitVec.ofInt 32 (b : Int)).toNat = b := by
    rw [BitVec.ofInt_natCast, BitVec.toNat_ofNat]; exact Nat.mod_eq_of_lt (by omega)
  show IntKind.u32.wrap ((BitVec.ofInt 32 (a : Int) ^^^ BitVec.ofInt 32 (b : Int)).toNat : Int) = _
  rw [BitVec.toNat_xor, h1, h2, wrap_u32]
  omega

/-- what 'and', 'or', 'xor' (6, 7, else) make of two words -/
def bw (op : Int) (a b : Nat) : Nat := if op = 6 then a &&& b else if op = 7 then a ||| b else a ^^^ b

/-- does the bit at a place stand, by how many of both stand there? -/
def bt (op : Int) (n : Nat) : Bool := if op = 6 then n == 2 else if op = 7 then decide (0 < n) else n == 1

theorem bw_lt (op : Int) (a b : Nat) (ha : a < 4294967296) (hb : b < 4294967296) : bw op a b < 4294967296 := by
  unfold bw
  split
  · exact Nat.and_lt_two_pow (n := 32) _ hb
  · split
    · exact Nat.or_lt_two_pow (n := 32) ha hb
    · exact Nat.xor_lt_two_pow (n := 32) ha hb

theorem bit_of (op : Int) (a b i : Nat) : bw op a b / 2 ^ i % 2 = if bt op (a / 2 ^ i % 2 + b / 2 ^ i % 2) then 1 else 0 := by
  have ha : a / 2 ^ i % 2 < 2 := Nat.mod_lt _ (by decide)
  have hb : b / 2 ^ i % 2 < 2 := Nat.mod_lt _ (by decide)
  have hr : bw op a b / 2 ^ i % 2 < 2 := Nat.mod_lt _ (by decide)
  have h : (bw op a b).testBit i = bt op (a / 2 ^ i % 2 + b / 2 ^ i % 2) := by
    unfold bw bt
    split
    · rw [Nat.testBit_and, Nat.testBit_eq_decide_div_mod_eq, Nat.testBit_eq_decide_div_mod_eq]
      generalize a / 2 ^ i % 2 = p at *
      generalize b / 2 ^ i % 2 = q at *
      rcases (by omega : p = 0 ∨ p = 1) with rfl | rfl <;> rcases (by omega : q = 0 ∨ q = 1) with rfl | rfl <;> rfl
    · split
      · rw [Nat.testBit_or, Nat.testBit_eq_decide_div_mod_eq, Nat.testBit_eq_decide_div_mod_eq]
        generalize a / 2 ^ i % 2 = p at *
        generalize b / 2 ^ i % 2 = q at *
        rcases (by omega : p = 0 ∨ p = 1) with rfl | rfl <;> rcases (by omega : q = 0 ∨ q = 1) with rfl | rfl <;> rfl
      · rw [Nat.testBit_xor, Nat.testBit_eq_decide_div_mod_eq, Nat.testBit_eq_decide_div_mod_eq]
        generalize a / 2 ^ i % 2 = p at *
        generalize b / 2 ^ i % 2 = q at *
        rcases (by omega : p = 0 ∨ p = 1) with rfl | rfl <;> rcases (by omega : q = 0 ∨ q = 1) with rfl | rfl <;> rfl
  rw [Nat.testBit_eq_decide_div_mod_eq] at h
  rw [← h]
  generalize bw op a b / 2 ^ i % 2 = r at *
  rcases (by omega : r = 0 ∨ r = 1) with rfl | rfl <;> rfl

/-- where the document's loop stands behind k rounds: what is left of both words, the place's weight, and what is made -/
def At (op : Int) (a b k x y p v : Nat) : Prop := x = a / 2 ^ k ∧ y = b / 2 ^ k ∧ p = 2 ^ k ∧ v = bw op a b % 2 ^ k

theorem At.zero (op : Int) (a b : Nat) : At op a b 0 a b 1 0 := ⟨by simp, by simp, rfl, by simp [Nat.mod_one]⟩
theorem At.step {op : Int} {a b k x y p v : Nat} (h : At op a b k x y p v) : At op a b (k + 1) (x / 2) (y / 2) (2 * p) (v + if bt op (x % 2 + y % 2) then p else 0) := by
  obtain ⟨rfl, rfl, rfl, rfl⟩ := h
  refine ⟨?_, ?_, ?_, ?_⟩
  · rw [Nat.div_div_eq_div_mul, Nat.pow_succ]
  · rw [Nat.div_div_eq_div_mul, Nat.pow_succ]
  · rw [Nat.pow_succ, Nat.mul_comm]
  · rw [Nat.mod_pow_succ, bit_of]
    split <;> simp
theorem At.bound {op : Int} {a b k x y p v : Nat} (h : At op a b k x y p v) (ha : a < 4294967296) (hb : b < 4294967296) (hk : k ≤ 32) : x < 4294967296 ∧ y < 4294967296 ∧ p ≤ 4294967296 ∧ 1 ≤ p ∧ v < p := by
  obtain ⟨rfl, rfl, rfl, rfl⟩ := h
  have h1 : (2 : Nat) ^ k ≤ 2 ^ 32 := Nat.pow_le_pow_right (by decide) hk
  have h2 : 0 < (2 : Nat) ^ k := Nat.pow_pos (by decide)
  exact ⟨Nat.lt_of_le_of_lt (Nat.div_le_self _ _) ha, Nat.lt_of_le_of_lt (Nat.div_le_self _ _) hb, h1, h2, Nat.mod_lt _ h2⟩
theorem At.last {op : Int} {a b x y p v : Nat} (h : At op a b 32 x y p v) (ha : a < 4294967296) (hb : b < 4294967296) : v = bw op a b := by
  obtain ⟨rfl, rfl, rfl, rfl⟩ := h
  exact Nat.mod_eq_of_lt (bw_lt op a b ha hb)

/-- what a kind makes of two words; of one that makes none it is 0 -/
def doN (op : Int) (b c : Nat) : Nat :=
  if op = 3 then (b + c) % 4294967296
  else if op = 4 then (b + 4294967296 - c) % 4294967296
  else if op = 5 then b * c % 4294967296
  else if op = 6 ∨ op = 7 ∨ op = 8 then bw op b c
  else if op = 9 then (if b < c then 1 else 0)
  else if op = 10 then (if b = c then 1 else 0)
  else 0
def isV (op : Int) : Bool := decide (3 ≤ op ∧ op ≤ 10)

end Go.Proofs.YtiipdeionmndcaaDoor.Al
