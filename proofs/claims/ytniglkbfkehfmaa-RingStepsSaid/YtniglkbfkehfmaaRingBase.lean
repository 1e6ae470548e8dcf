/-
  Package ring, and the counters of package word: what the steps of a ring reckon.
-/
import Derived.Test.YtniglkbfkehfmaaPartAgain
import Derived.Test.YtniglkbfkehfmaaOpRing
import Derived.Test.YtniglkbfkehfmaaPartEnd
import Derived.BigQuiet
import Derived.Outline
set_option linter.unusedVariables false
namespace Go.Proofs.Ytniglkbfkehfmaa.Rg
open Go.ChangeShapes Go.WideShapes Go.ChangeAt Go.RowKit Ws Mm Pa

theorem u64_in (x : Int) (h : 0 ≤ x ∧ x < 18446744073709551616) : IntKind.u64.wrap x = x := by
  simp only [IntKind.wrap, IntKind.bits, IntKind.signed]
  simp
  omega
theorem u32_in (x : Int) (h : 0 ≤ x ∧ x < 4294967296) : IntKind.u32.wrap x = x := by
  rw [IntKind.wrap_u32']
  omega
theorem wstep_any (c n m : Int) (hc : 0 ≤ c ∧ c < 4294967296) (hn : 0 ≤ n ∧ n < 4294967296) (hm : 0 < m ∧ m < 4294967296) (w : World) :
    Calls Try.prog 128 #[.int .u32 c, .int .u32 n, .int .u32 m] w fun e w' => e = .returned (.int .u32 ((c + n) % m)) ∧ w = w' := by
  have f1 := u64_in c (by omega)
  have f2 := u64_in n (by omega)
  have f3 := u64_in m (by omega)
  have f4 := u64_in (c + n) (by omega)
  have h0 := Int.emod_nonneg (c + n) (show m ≠ 0 by omega)
  have h1 := Int.emod_lt_of_pos (c + n) hm.1
  have f5 := u32_in ((c + n) % m) (by omega)
  have f6 : (m == 0) = false := by simp; omega
  have f7 : (c + n).tmod m = (c + n) % m := Int.tmod_eq_emod_of_nonneg (by omega)
  have f8 := u64_in ((c + n) % m) (by omega)
  clear h0 h1
  obtain ⟨c1, c2⟩ := hc
  obtain ⟨n1, n2⟩ := hn
  obtain ⟨m1, m2⟩ := hm
  go_enter Try.func128, Try.ntmps128
  go_wp2
  go_ret
  exact ⟨rfl, rfl⟩

theorem wnext_any (c m : Int) (hc : 0 ≤ c ∧ c < 4294967296) (hm : 0 < m ∧ m < 4294967296) (w : World) :
    Calls Try.prog 118 #[.int .u32 c, .int .u32 m] w fun e w' => e = .returned (.int .u32 ((c + 1) % m)) ∧ w = w' := by
  have ST := fun w' => wstep_any c 1 m hc (by omega) hm w'
  clear hc hm
  go_enter Try.func118, Try.ntmps118
  go_wp2_with fail
  refine (ST _).mono ?_
  rintro e w' ⟨rfl, rfl⟩
  go_wp2
  go_ret
  exact ⟨rfl, rfl⟩
theorem gap_eq (x y m : Int) (hx : 0 ≤ x) (hy : 0 ≤ y) (hm : 0 < m) : (y + (m - x % m)) % m = Op.rgap m x y := by
  unfold Op.rgap
  have e : y % m + m - x % m = y % m + (m - x % m) := by omega
  rw [e]
  exact (Int.emod_add_emod _ _ _).symm
theorem wgap_any (x y m : Int) (hx : 0 ≤ x ∧ x < 4294967296) (hy : 0 ≤ y ∧ y < 4294967296) (hm : 0 < m ∧ m < 4294967296) (w : World) :
    Calls Try.prog 127 #[.int .u32 x, .int .u32 y, .int .u32 m] w fun e w' => e = .returned (.int .u32 (Op.rgap m x y)) ∧ w = w' := by
  have h0 := Int.emod_nonneg x (show m ≠ 0 by omega)
  have h1 := Int.emod_lt_of_pos x hm.1
  have ST := fun w' => wstep_any y (m - x % m) m hy (by omega) hm w'
  have E := Lib.hid (gap_eq x y m hx.1 hy.1 hm.1)
  have f6 : (m == 0) = false := by simp; omega
  have f6' : ¬ m = 0 := by omega
  have f7 : x.tmod m = x % m := Int.tmod_eq_emod_of_nonneg (by omega)
  have f8 := u32_in (x % m) (by omega)
  have f9 := u32_in (m - x % m) (by omega)
  obtain ⟨m1, m2⟩ := hm
  clear h0 h1 hx hy
  go_enter Try.func127, Try.ntmps127
  go_wp2_with fail
  refine (ST _).mono ?_
  rintro e w' ⟨rfl, rfl⟩
  go_wp2
  go_ret
  exact ⟨ret_int E.out, rfl⟩
theorem modulus_any (n : Nat) (hn : 2 ≤ n ∧ n ≤ 16) (w : World) :
    Calls Try.prog 119 #[.int .i64 n] w fun e w' => e = .returned (.int .u32 ((n : Int) * 1048576)) ∧ w = w' := by
  have f1 := u32_in (n : Int) (by omega)
  have f2 := u32_in ((n : Int) * 1048576) (by omega)
  clear hn
  go_enter Try.func119, Try.ntmps119
  go_wp2
  go_ret
  exact ⟨rfl, rfl⟩
theorem rplace_any (b : Int) (n W : Nat) (hb : 0 ≤ b ∧ b < 4294967296) (hn : 2 ≤ n ∧ n ≤ 16) (hW : W ≤ 8) (w : World) :
    Calls Try.prog 114 #[.int .u32 b, .int .i64 n, .int .i64 W] w fun e w' => e = .returned (.int .i64 ((1 + (b % (n : Int)).toNat * W : Nat) : Int)) ∧ w = w' := by
  have h0 := Int.emod_nonneg b (show (n : Int) ≠ 0 by omega)
  have h1 := Int.emod_lt_of_pos b (show (0 : Int) < n by omega)
  have f1 := u32_in (n : Int) (by omega)
  have f7 : b.tmod (n : Int) = b % (n : Int) := Int.tmod_eq_emod_of_nonneg (by omega)
  obtain ⟨k, hk⟩ := Int.eq_ofNat_of_zero_le h0
  have hkn : k < n := by omega
  have hm : k * W ≤ 16 * 8 := Nat.mul_le_mul (by omega) hW
  have hmi : ((k : Int) * (W : Int)) = ((k * W : Nat) : Int) := by rw [Int.natCast_mul]
  have f2 := u32_in (k : Int) (by omega)
  have f3 : IntKind.i64.wrap (k : Int) = k := Go.IntWalk.i64_in _ (by omega)
  have f8 : ((n : Int) == 0) = false := by simp; omega
  rw [hk] at f7
  rw [hk, Int.toNat_natCast]
  have n1 : (0 : Int) < n := by omega
  have f0 : ¬ (n : Int) = 0 := by omega
  obtain ⟨y, hy⟩ : ∃ y : Int, y = (k : Int) * (W : Int) := ⟨_, rfl⟩
  rw [← hy] at hmi
  have f4 : IntKind.i64.wrap y = y := Go.IntWalk.i64_in _ (by omega)
  have f5 : IntKind.i64.wrap (1 + y) = 1 + y := Go.IntWalk.i64_in _ (by omega)
  have g4 : wrap64 y = y := by unfold wrap64; omega
  have g5 : wrap64 (1 + y) = 1 + y := by unfold wrap64; omega
  have E : Hid ((1 : Int) + y = ((1 + k * W : Nat) : Int)) := Lib.hid (by omega)
  have HYE := Lib.hid hy.symm
  obtain ⟨kk, hkk⟩ : ∃ kk : Int, kk = (k : Int) := ⟨_, rfl⟩
  obtain ⟨ww, hww⟩ : ∃ ww : Int, ww = (W : Int) := ⟨_, rfl⟩
  rw [← hkk] at f7 f2 f3 HYE
  rw [← hww] at HYE ⊢
  have hprod := HYE.out
  obtain ⟨nn, hnn⟩ : ∃ nn : Int, nn = (n : Int) := ⟨_, rfl⟩
  rw [← hnn] at f1 f7 f8 f0 n1 ⊢
  have hb0 := hb.1
  clear h0 h1 hk hb hn hW hkn hm hmi hy hkk hww hnn
  generalize ((1 + k * W : Nat) : Int) = Z at *
  go_enter Try.func114, Try.ntmps114
  go_wp2
  go_ret
  exact ⟨ret_int E.out, rfl⟩

section
variable {R : Nat → Prop} {g gm : Nat} {T : TypeId} {p : Pt} {l : List Int} {st : Int} {b : Int} {n : Nat}
theorem place_any (w : World) (h : PB w g T p [.int .i64 n, .int .u32 b]) (W : Nat) (hpw : p.width = (W : Int)) (hb : 0 ≤ b ∧ b < 4294967296) (hn : 2 ≤ n ∧ n ≤ 16) (hW : W ≤ 8) :
    Calls Try.prog 115 #[.pointer (some ⟨g, 0, none⟩)] w fun e w' => e = .returned (.int .i64 ((1 + (b % (n : Int)).toNat * W : Nat) : Int)) ∧ Same w w' := by
  have c := h.ex_ 0
  have d := h.ex_ 1
  simp at c d
  obtain ⟨_, _, c2, _⟩ := h.head
  rw [hpw] at c2
  have PL := fun w' => rplace_any b n W hb hn hW w'
  clear h hpw hb hn hW
  generalize ((1 + (b % (n : Int)).toNat * W : Nat) : Int) = K at *
  go_enter Try.func115, Try.ntmps115
  go_wp2_with fail
  go_region_held3 (fun w' => w'.cell? ⟨g, 19, none⟩ = some (.int .i64 n) ∧ w'.cell? ⟨g, 20, none⟩ = some (.int .u32 b) ∧ w'.cell? ⟨g, 2, none⟩ = some (.int .i64 W) ∧ Same w w')
    (first | assumption | exact ⟨c, d, c2, (Same.refl _).drew⟩)
    (first | (go_at_call 114; ((with_reducible refine (PL _).mono ?_); rintro e w' ⟨rfl, rfl⟩)))
  rcases ‹_ ∧ _ ∧ _ ∧ Same w _› with ⟨_, _, _, x9⟩
  go_wp2
  go_ret
  exact ⟨rfl, x9⟩
end

end Go.Proofs.Ytniglkbfkehfmaa.Rg
