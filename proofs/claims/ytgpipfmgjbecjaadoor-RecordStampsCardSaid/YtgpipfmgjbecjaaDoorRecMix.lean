/-
  What is mixed of two stamps: words of unlike stamps are unlike everywhere, and what begins as one and ends as the other is none.
-/
import Derived.Test.YtgpipfmgjbecjaaDoorRecAwake
namespace Go.Proofs.YtgpipfmgjbecjaaDoor.Rc

theorem odd_coprime {i : Nat} (hi : i < 8) : Nat.Coprime 4294967296 (2 * i + 1) := by
  have : i = 0 ∨ i = 1 ∨ i = 2 ∨ i = 3 ∨ i = 4 ∨ i = 5 ∨ i = 6 ∨ i = 7 := by omega
  rcases this with rfl | rfl | rfl | rfl | rfl | rfl | rfl | rfl <;> decide +kernel
theorem word_inj {a b : Int} (ha : 0 ≤ a ∧ a < 4294967296) (hb : 0 ≤ b ∧ b < 4294967296) {i : Nat} (hi : i < 8) (h : word a i = word b i) : a = b := by
  unfold word at h
  have h1 : (4294967296 : Int) ∣ (((2 * i + 1 : Nat) : Int)) * (a - b) := by
    have e : (((2 * i + 1 : Nat) : Int)) * (a - b) = (a * (2 * (i : Int) + 1) + i) - (b * (2 * (i : Int) + 1) + i) := by
      rw [show ((2 * i + 1 : Nat) : Int) = 2 * (i : Int) + 1 by omega, Int.mul_sub, Int.mul_comm _ a, Int.mul_comm _ b]
      omega
    rw [e]
    generalize a * (2 * (i : Int) + 1) + i = x at h ⊢
    generalize b * (2 * (i : Int) + 1) + i = y at h ⊢
    omega
  have h2 := Int.natAbs_dvd_natAbs.2 h1
  rw [Int.natAbs_mul, Int.natAbs_natCast] at h2
  have h3 : 4294967296 ∣ (a - b).natAbs := (odd_coprime hi).dvd_of_dvd_mul_left h2
  omega

theorem stamp_at (k : Int) (n i : Nat) (hi : i < n) : (stamp k n)[i]? = some (word k i) := by
  unfold stamp
  rw [List.getElem?_map, List.getElem?_range hi]
  rfl

/-- the first i words of a's stamp, then b's -/
def mix (a b : Int) (n i : Nat) : List Int := (stamp a n).take i ++ (stamp b n).drop i
theorem mix_len (a b : Int) (n i : Nat) (hi : i ≤ n) : (mix a b n i).length = n := by
  unfold mix
  rw [List.length_append, List.length_take, List.length_drop, stamp_len, stamp_len]
  omega
theorem mix_zero (a b : Int) (n : Nat) : mix a b n 0 = stamp b n := by simp [mix]
theorem mix_same (a : Int) (n i : Nat) : mix a a n i = stamp a n := by simp [mix]
theorem mix_at (a b : Int) (n i : Nat) (hi : i < n) : (mix a b n i)[i]? = some (word b i) := by
  unfold mix
  rw [List.getElem?_append_right (by rw [List.length_take, stamp_len]; omega), List.length_take, stamp_len, List.getElem?_drop]
  rw [show i + (i - min i n) = i by omega]
  exact stamp_at b n i hi
theorem mix_head (a b : Int) (n i : Nat) (ha : 0 ≤ a ∧ a < 4294967296) (h0 : 0 < i) (hi : i < n) : (mix a b n i).headD 0 = a := by
  have h : (mix a b n i)[0]? = some a := by
    unfold mix
    rw [List.getElem?_append_left (by rw [List.length_take, stamp_len]; omega), List.getElem?_take_of_lt h0, stamp_at a n 0 (by omega), word_zero a ha]
  cases hm : mix a b n i with
  | nil => rw [hm] at h; simp at h
  | cons y l => rw [hm] at h; simpa using h
theorem mix_not (a b : Int) (n i : Nat) (ha : 0 ≤ a ∧ a < 4294967296) (hb : 0 ≤ b ∧ b < 4294967296) (hne : a ≠ b) (h0 : 0 < i) (hi : i < n) (hn : n ≤ 8) : isStamp (mix a b n i) = false := by
  unfold isStamp
  rw [mix_head a b n i ha h0 hi, mix_len a b n i (by omega), show wide (n : Int) = n by unfold wide; omega]
  rw [Bool.and_eq_false_iff]
  left
  rw [decide_eq_false_iff_not]
  intro h
  have h1 := mix_at a b n i hi
  rw [h, stamp_at a n i hi] at h1
  injection h1 with h1
  exact hne (word_inj ha hb (by omega) h1)
theorem mix_bd (a b : Int) (n i : Nat) : ∀ x ∈ mix a b n i, 0 ≤ x ∧ x < 4294967296 := by
  intro x hx
  have hs : ∀ k : Int, ∀ y ∈ stamp k n, 0 ≤ y ∧ y < 4294967296 := by
    intro k y hy
    unfold stamp at hy
    rw [List.mem_map] at hy
    obtain ⟨j, _, rfl⟩ := hy
    exact word_bd k j
  unfold mix at hx
  rcases List.mem_append.1 hx with h | h
  · exact hs a x (List.mem_of_mem_take h)
  · exact hs b x (List.mem_of_mem_drop h)
theorem stamp_is (k : Int) (n : Nat) (hk : 0 ≤ k ∧ k < 4294967296) (h0 : 0 < n) (hn : n ≤ 8) : isStamp (stamp k n) = true ∧ (stamp k n).headD 0 = k := by
  have hh : (stamp k n).headD 0 = k := by
    have h := stamp_at k n 0 h0
    rw [word_zero k hk] at h
    cases hm : stamp k n with
    | nil => rw [hm] at h; simp at h
    | cons y l => rw [hm] at h; simpa using h
  refine ⟨?_, hh⟩
  unfold isStamp
  rw [hh, stamp_len, show wide (n : Int) = n by unfold wide; omega]
  have : stamp k n ≠ [] := by
    intro h
    have h1 := congrArg List.length h
    rw [stamp_len] at h1
    simp at h1
    omega
  simp [this]
end Go.Proofs.YtgpipfmgjbecjaaDoor.Rc
