/-
  How many bits of a word are set, by halves: plain.
-/
import Derived.Lib.Hide
set_option linter.unusedSimpArgs false
set_option linter.unusedVariables false
namespace Go.Proofs.YtikjkmomokhanaaDoor.Bp

/-- digits, the least first -/
def val (b : Nat) : List Nat → Nat
  | [] => 0
  | d :: ds => d + b * val b ds
def pairs : List Nat → List Nat
  | a :: b :: ds => (a + b) :: pairs ds
  | _ => []
/-- so many digits b - 1 at even places -/
def mask (b : Nat) : Nat → Nat
  | 0 => 0
  | n + 1 => (b - 1) + b * b * mask b n

theorem and_split (k a b c d : Nat) (ha : a < 2 ^ k) (hb : b < 2 ^ k) : (a + 2 ^ k * c) &&& (b + 2 ^ k * d) = (a &&& b) + 2 ^ k * (c &&& d) := by
  have hab : a &&& b < 2 ^ k := Nat.lt_of_le_of_lt Nat.and_le_left ha
  apply Nat.eq_of_testBit_eq
  intro j
  rw [Nat.testBit_and, Nat.add_comm a, Nat.add_comm b, Nat.add_comm (a &&& b), Nat.testBit_two_pow_mul_add _ ha, Nat.testBit_two_pow_mul_add _ hb, Nat.testBit_two_pow_mul_add _ hab]
  by_cases h : j < k
  · simp only [if_pos h, Nat.testBit_and]
  · simp only [if_neg h, Nat.testBit_and]
theorem and_low (k a : Nat) : a &&& (2 ^ k - 1) = a % 2 ^ k := Nat.and_two_pow_sub_one_eq_mod a k

theorem sq (k : Nat) : (2 : Nat) ^ k * 2 ^ k = 2 ^ (k + k) := (Nat.pow_add 2 k k).symm
/-- one step of the mask: the digits below b*b, and all behind them -/
theorem mask_step (k n lo up : Nat) (hlo : lo < 2 ^ (k + k)) : (lo + 2 ^ (k + k) * up) &&& mask (2 ^ k) (n + 1) = lo % 2 ^ k + 2 ^ (k + k) * (up &&& mask (2 ^ k) n) := by
  have hp := Nat.two_pow_pos k
  have hb : 2 ^ k - 1 < 2 ^ (k + k) := by
    rw [← sq]
    have : 2 ^ k * 1 ≤ 2 ^ k * 2 ^ k := Nat.mul_le_mul_left _ hp
    omega
  rw [show mask (2 ^ k) (n + 1) = (2 ^ k - 1) + 2 ^ k * 2 ^ k * mask (2 ^ k) n from rfl, sq, and_split _ _ _ _ _ hlo hb, and_low]

theorem two_lt {b x y : Nat} (hx : x < b) (hy : y < b) : x + b * y < b * b := by
  have : b * (y + 1) ≤ b * b := Nat.mul_le_mul_left _ hy
  rw [Nat.mul_add, Nat.mul_one] at this
  omega
theorem two_mod {b x y : Nat} (hx : x < b) : (x + b * y) % b = x := by rw [Nat.add_mul_mod_self_left, Nat.mod_eq_of_lt hx]
theorem two_div {b x y : Nat} (hx : x < b) : (x + b * y) / b = y := by rw [Nat.add_mul_div_left _ _ (by omega), Nat.div_eq_of_lt hx, Nat.zero_add]
theorem dm (b v : Nat) : v = v % b + b * (v / b) := (Nat.mod_add_div v b).symm

/-- halves, apart -/
theorem halves (k : Nat) : ∀ (n : Nat) (ds : List Nat), ds.length = 2 * n → (∀ d ∈ ds, d < 2 ^ k) →
    (val (2 ^ k) ds / 2 ^ k &&& mask (2 ^ k) n) + (val (2 ^ k) ds &&& mask (2 ^ k) n) = val (2 ^ (k + k)) (pairs ds)
  | 0, ds, hl, _ => by
    have : ds = [] := List.eq_nil_of_length_eq_zero (by omega)
    subst this
    simp [val, pairs, mask]
  | n + 1, [], hl, _ => by simp at hl
  | n + 1, [_], hl, _ => by simp at hl; omega
  | n + 1, d0 :: d1 :: ds, hl, hd => by
    have ih := halves k n ds (by simp at hl; omega) (fun d h => hd d (by simp [h]))
    have h0 : d0 < 2 ^ k := hd d0 (by simp)
    have h1 : d1 < 2 ^ k := hd d1 (by simp)
    have hp := Nat.two_pow_pos k
    show ((d0 + 2 ^ k * (d1 + 2 ^ k * val (2 ^ k) ds)) / 2 ^ k &&& _) + (d0 + 2 ^ k * (d1 + 2 ^ k * val (2 ^ k) ds) &&& _) = (d0 + d1) + 2 ^ (k + k) * val (2 ^ (k + k)) (pairs ds)
    rw [two_div h0]
    have e1 : d0 + 2 ^ k * (d1 + 2 ^ k * val (2 ^ k) ds) = (d0 + 2 ^ k * d1) + 2 ^ (k + k) * val (2 ^ k) ds := by
      rw [← sq, Nat.mul_add, Nat.mul_assoc, Nat.add_assoc]
    have e2 : d1 + 2 ^ k * val (2 ^ k) ds = (d1 + 2 ^ k * (val (2 ^ k) ds % 2 ^ k)) + 2 ^ (k + k) * (val (2 ^ k) ds / 2 ^ k) := by
      conv => lhs; rw [dm (2 ^ k) (val (2 ^ k) ds)]
      rw [← sq, Nat.mul_add, Nat.mul_assoc, Nat.add_assoc]
    have hm : val (2 ^ k) ds % 2 ^ k < 2 ^ k := Nat.mod_lt _ hp
    rw [e1, mask_step k n _ _ (by rw [← sq]; exact two_lt h0 h1), two_mod h0, e2, mask_step k n _ _ (by rw [← sq]; exact two_lt h1 hm), two_mod h1, ← ih, Nat.mul_add]
    omega
/-- halves, added first -/
theorem halves2 (k : Nat) : ∀ (n : Nat) (ds : List Nat), ds.length = 2 * n → (∀ d ∈ ds, d + d < 2 ^ k) →
    (val (2 ^ k) ds / 2 ^ k + val (2 ^ k) ds) &&& mask (2 ^ k) n = val (2 ^ (k + k)) (pairs ds)
  | 0, ds, hl, _ => by
    have : ds = [] := List.eq_nil_of_length_eq_zero (by omega)
    subst this
    simp [val, pairs, mask]
  | n + 1, [], hl, _ => by simp at hl
  | n + 1, [_], hl, _ => by simp at hl; omega
  | n + 1, d0 :: d1 :: ds, hl, hd => by
    have ih := halves2 k n ds (by simp at hl; omega) (fun d h => hd d (by simp [h]))
    have h0 : d0 + d0 < 2 ^ k := hd d0 (by simp)
    have h1 : d1 + d1 < 2 ^ k := hd d1 (by simp)
    have hp := Nat.two_pow_pos k
    have hm : d1 + val (2 ^ k) ds % 2 ^ k < 2 ^ k := by
      cases ds with
      | nil => simp [val]; omega
      | cons d2 ds =>
        have h2 : d2 + d2 < 2 ^ k := hd d2 (by simp)
        show d1 + (d2 + 2 ^ k * val (2 ^ k) ds) % 2 ^ k < 2 ^ k
        rw [two_mod (by omega)]
        omega
    show ((d0 + 2 ^ k * (d1 + 2 ^ k * val (2 ^ k) ds)) / 2 ^ k + (d0 + 2 ^ k * (d1 + 2 ^ k * val (2 ^ k) ds))) &&& _ = (d0 + d1) + 2 ^ (k + k) * val (2 ^ (k + k)) (pairs ds)
    rw [two_div (by omega)]
    have e2 : d1 + 2 ^ k * val (2 ^ k) ds + (d0 + 2 ^ k * (d1 + 2 ^ k * val (2 ^ k) ds)) = ((d0 + d1) + 2 ^ k * (d1 + val (2 ^ k) ds % 2 ^ k)) + 2 ^ (k + k) * (val (2 ^ k) ds / 2 ^ k + val (2 ^ k) ds) := by
      have e := dm (2 ^ k) (val (2 ^ k) ds)
      generalize val (2 ^ k) ds % 2 ^ k = r at *
      generalize val (2 ^ k) ds / 2 ^ k = q at *
      rw [e, ← sq]
      generalize 2 ^ k = b
      simp only [Nat.mul_add, Nat.mul_assoc]
      have e3 : b * (b * r) = b * (b * r) := rfl
      omega
    rw [e2, mask_step k n _ _ (by rw [← sq]; exact two_lt (by omega) hm), two_mod (by omega), ih]

theorem pairs_len : ∀ (n : Nat) (ds : List Nat), ds.length = 2 * n → (pairs ds).length = n
  | 0, ds, hl => by
    have : ds = [] := List.eq_nil_of_length_eq_zero (by omega)
    subst this
    rfl
  | n + 1, [], hl => by simp at hl
  | n + 1, [_], hl => by simp at hl; omega
  | n + 1, d0 :: d1 :: ds, hl => by
    have := pairs_len n ds (by simp at hl; omega)
    simp [pairs, this]
theorem pairs_le (c : Nat) : ∀ (n : Nat) (ds : List Nat), ds.length ≤ n → (∀ d ∈ ds, d ≤ c) → ∀ d ∈ pairs ds, d ≤ c + c
  | 0, ds, hl, _ => by
    have : ds = [] := List.eq_nil_of_length_eq_zero (by omega)
    subst this
    simp [pairs]
  | n + 1, [], _, _ => by simp [pairs]
  | n + 1, [_], _, _ => by simp [pairs]
  | n + 1, d0 :: d1 :: ds, hl, hd => by
    intro d h
    simp only [pairs, List.mem_cons] at h
    rcases h with rfl | h
    · have := hd d0 (by simp)
      have := hd d1 (by simp)
      omega
    · exact pairs_le c n ds (by simp at hl; omega) (fun d h => hd d (by simp [h])) d h
def sum (l : List Nat) : Nat := l.foldr (· + ·) 0
theorem pairs_sum : ∀ (n : Nat) (ds : List Nat), ds.length = 2 * n → sum (pairs ds) = sum ds
  | 0, ds, hl => by
    have : ds = [] := List.eq_nil_of_length_eq_zero (by omega)
    subst this
    rfl
  | n + 1, [], hl => by simp at hl
  | n + 1, [_], hl => by simp at hl; omega
  | n + 1, d0 :: d1 :: ds, hl => by
    have := pairs_sum n ds (by simp at hl; omega)
    simp only [pairs, sum, List.foldr_cons] at *
    omega
def digs : Nat → Nat → List Nat
  | 0, _ => []
  | n + 1, x => x % 2 :: digs n (x / 2)
theorem digs_len (n : Nat) : ∀ x, (digs n x).length = n := by
  induction n with
  | zero => intro x; rfl
  | succ n ih => intro x; simp [digs, ih]
theorem digs_le (n : Nat) : ∀ x, ∀ d ∈ digs n x, d ≤ 1 := by
  induction n with
  | zero => intro x d h; simp [digs] at h
  | succ n ih =>
    intro x d h
    simp only [digs, List.mem_cons] at h
    rcases h with rfl | h
    · omega
    · exact ih _ d h
theorem digs_val (n : Nat) : ∀ x, x < 2 ^ n → val 2 (digs n x) = x := by
  induction n with
  | zero => intro x h; simp at h; subst h; rfl
  | succ n ih =>
    intro x h
    rw [Nat.pow_succ] at h
    simp only [digs, val]
    rw [ih (x / 2) (by omega)]
    omega
theorem digs_count (n : Nat) : ∀ (k x : Nat), sum (digs n (x / 2 ^ k)) = ((List.range' k n).filter (fun i => x.testBit i)).length := by
  induction n with
  | zero => intro k x; rfl
  | succ n ih =>
    intro k x
    rw [List.range'_succ, List.filter_cons]
    simp only [digs, sum, List.foldr_cons]
    have h := ih (k + 1) x
    rw [Nat.pow_succ, ← Nat.div_div_eq_div_mul] at h
    unfold sum at h
    rw [h]
    have hb : x.testBit k = decide (x / 2 ^ k % 2 = 1) := Nat.testBit_eq_decide_div_mod_eq
    rw [hb]
    by_cases hk : x / 2 ^ k % 2 = 1
    · rw [decide_eq_true hk, if_pos rfl, hk, List.length_cons]
      omega
    · rw [decide_eq_false hk, if_neg (by simp)]
      omega

theorem last (x0 x1 x2 x3 x4 x5 x6 x7 : Nat) (y0 : x0 ≤ 8) (y1 : x1 ≤ 8) (y2 : x2 ≤ 8) (y3 : x3 ≤ 8) (y4 : x4 ≤ 8) (y5 : x5 ≤ 8) (y6 : x6 ≤ 8) (y7 : x7 ≤ 8) :
    let c := x0 + 256 * (x1 + 256 * (x2 + 256 * (x3 + 256 * (x4 + 256 * (x5 + 256 * (x6 + 256 * (x7 + 256 * 0)))))))
    c < 1157442765409226769 ∧ (c + c / 256 + (c + c / 256) / 65536 + (c + c / 256 + (c + c / 256) / 65536) / 4294967296) % 256 = x0 + (x1 + (x2 + (x3 + (x4 + (x5 + (x6 + (x7 + 0))))))) ∧ x0 + (x1 + (x2 + (x3 + (x4 + (x5 + (x6 + (x7 + 0))))))) ≤ 64 := by
  intro c
  refine ⟨by omega, ?_, by omega⟩
  have q1 : c / 256 = x1 + 256 * (x2 + 256 * (x3 + 256 * (x4 + 256 * (x5 + 256 * (x6 + 256 * (x7 + 256 * 0)))))) := two_div (by omega)
  rw [q1]
  have e1 : c + (x1 + 256 * (x2 + 256 * (x3 + 256 * (x4 + 256 * (x5 + 256 * (x6 + 256 * (x7 + 256 * 0))))))) = ((x0 + x1) + 256 * (x1 + x2)) + 65536 * ((x2 + x3) + 256 * ((x3 + x4) + 256 * ((x4 + x5) + 256 * ((x5 + x6) + 256 * ((x6 + x7) + 256 * x7))))) := by
    show x0 + 256 * (x1 + 256 * (x2 + 256 * (x3 + 256 * (x4 + 256 * (x5 + 256 * (x6 + 256 * (x7 + 256 * 0))))))) + (x1 + 256 * (x2 + 256 * (x3 + 256 * (x4 + 256 * (x5 + 256 * (x6 + 256 * (x7 + 256 * 0))))))) = _
    omega
  rw [e1, two_div (by omega)]
  have e2 : ((x0 + x1) + 256 * (x1 + x2)) + 65536 * ((x2 + x3) + 256 * ((x3 + x4) + 256 * ((x4 + x5) + 256 * ((x5 + x6) + 256 * ((x6 + x7) + 256 * x7))))) + ((x2 + x3) + 256 * ((x3 + x4) + 256 * ((x4 + x5) + 256 * ((x5 + x6) + 256 * ((x6 + x7) + 256 * x7))))) =
      ((x0 + x1 + x2 + x3) + 256 * (x1 + x2 + x3 + x4) + 65536 * (x2 + x3 + x4 + x5) + 16777216 * (x3 + x4 + x5 + x6)) + 4294967296 * ((x4 + x5 + x6 + x7) + 256 * ((x5 + x6 + x7) + 256 * ((x6 + x7) + 256 * x7))) := by omega
  rw [e2, two_div (by omega)]
  have e3 : ((x0 + x1 + x2 + x3) + 256 * (x1 + x2 + x3 + x4) + 65536 * (x2 + x3 + x4 + x5) + 16777216 * (x3 + x4 + x5 + x6)) + 4294967296 * ((x4 + x5 + x6 + x7) + 256 * ((x5 + x6 + x7) + 256 * ((x6 + x7) + 256 * x7))) + ((x4 + x5 + x6 + x7) + 256 * ((x5 + x6 + x7) + 256 * ((x6 + x7) + 256 * x7))) =
      (x0 + (x1 + (x2 + (x3 + (x4 + (x5 + (x6 + (x7 + 0)))))))) + 256 * ((x1 + x2 + x3 + x4) + 256 * (x2 + x3 + x4 + x5) + 65536 * (x3 + x4 + x5 + x6) + 16777216 * ((x4 + x5 + x6 + x7) + 256 * ((x5 + x6 + x7) + 256 * ((x6 + x7) + 256 * x7))) + ((x5 + x6 + x7) + 256 * ((x6 + x7) + 256 * x7))) := by omega
  rw [e3]
  exact two_mod (by omega)
theorem m1 : mask (2 ^ 1) 32 = 6148914691236517205 := by decide
theorem m2 : mask (2 ^ 2) 16 = 3689348814741910323 := by decide
theorem m4 : mask (2 ^ 4) 8 = 1085102592571150095 := by decide
/-- the word's bits, by halves -/
theorem ones (x : Nat) (hx : x < 18446744073709551616) : ∃ a b c : Nat, a = (x / 2 &&& 6148914691236517205) + (x &&& 6148914691236517205) ∧ b = (a / 4 &&& 3689348814741910323) + (a &&& 3689348814741910323) ∧
    c = (b / 16 + b) &&& 1085102592571150095 ∧ a < 18446744073709551616 ∧ b + b < 18446744073709551616 ∧ c < 1157442765409226769 ∧
    (c + c / 256 + (c + c / 256) / 65536 + (c + c / 256 + (c + c / 256) / 65536) / 4294967296) % 256 = ((List.range' 0 64).filter (fun i => x.testBit i)).length ∧ ((List.range' 0 64).filter (fun i => x.testBit i)).length ≤ 64 := by
  have l0 := digs_len 64 x
  have e0 := digs_le 64 x
  have v0 := digs_val 64 x hx
  have c0 := digs_count 64 0 x
  rw [Nat.pow_zero, Nat.div_one] at c0
  generalize digs 64 x = d0 at *
  have h1 := halves 1 32 d0 l0 (fun d h => by have := e0 d h; omega)
  have l1 := pairs_len 32 d0 l0
  have e1 := pairs_le 1 64 d0 (by omega) e0
  have s1 := pairs_sum 32 d0 l0
  generalize pairs d0 = d1 at *
  have h2 := halves 2 16 d1 l1 (fun d h => by have := e1 d h; omega)
  have l2 := pairs_len 16 d1 l1
  have e2 := pairs_le 2 64 d1 (by omega) e1
  have s2 := pairs_sum 16 d1 l1
  generalize pairs d1 = d2 at *
  have h3 := halves2 4 8 d2 l2 (fun d h => by have := e2 d h; omega)
  have l3 := pairs_len 8 d2 l2
  have e3 := pairs_le 4 64 d2 (by omega) e2
  have s3 := pairs_sum 8 d2 l2
  generalize pairs d2 = d3 at *
  rw [m1] at h1
  rw [m2] at h2
  rw [m4] at h3
  simp only [Nat.reduceAdd, Nat.reducePow] at h1 h2 h3
  rw [v0] at h1
  refine ⟨_, _, _, rfl, rfl, rfl, ?_⟩
  rw [h1, h2, h3, ← c0, ← s1, ← s2, ← s3]
  have b1 : val 4 d1 < 18446744073709551616 := by
    rw [← h1]
    have h4 : x / 2 &&& 6148914691236517205 ≤ 6148914691236517205 := Nat.and_le_right
    have h5 : x &&& 6148914691236517205 ≤ 6148914691236517205 := Nat.and_le_right
    omega
  have b2 : val 16 d2 + val 16 d2 < 18446744073709551616 := by
    rw [← h2]
    have h4 : val 4 d1 / 4 &&& 3689348814741910323 ≤ 3689348814741910323 := Nat.and_le_right
    have h5 : val 4 d1 &&& 3689348814741910323 ≤ 3689348814741910323 := Nat.and_le_right
    omega
  refine ⟨b1, b2, ?_⟩
  clear h1 h2 h3 b1 b2 s1 s2 s3 c0 v0
  match d3, l3 with
  | [x0, x1, x2, x3, x4, x5, x6, x7], _ =>
    have y0 := e3 x0 (by simp)
    have y1 := e3 x1 (by simp)
    have y2 := e3 x2 (by simp)
    have y3 := e3 x3 (by simp)
    have y4 := e3 x4 (by simp)
    have y5 := e3 x5 (by simp)
    have y6 := e3 x6 (by simp)
    have y7 := e3 x7 (by simp)
    simp only [val, sum, List.foldr_cons, List.foldr_nil]
    exact last x0 x1 x2 x3 x4 x5 x6 x7 y0 y1 y2 y3 y4 y5 y6 y7

end Go.Proofs.YtikjkmomokhanaaDoor.Bp
