/-
  Package fifo, and the counters of package word: what the steps of a queue reckon.
-/
import Derived.Test.YtejajmdmfipplabImp
import Derived.Test.YtejajmdmfipplabOpSeq
import Derived.Test.YtejajmdmfipplabOpFifo
import Derived.Test.YtejajmdmfipplabPartEnd
import Derived.BigQuiet
import Derived.Outline
set_option linter.unusedSimpArgs false
set_option linter.unusedVariables false
namespace Go.Proofs.Ytejajmdmfipplab.Ff
open Go.ChangeShapes Go.WideShapes Go.ChangeAt Go.RowKit Ws Mm Pa

theorem u64_in (x : Int) (h : 0 ≤ x ∧ x < 18446744073709551616) : IntKind.u64.wrap x = x := by
  simp only [IntKind.wrap, IntKind.bits, IntKind.signed]
  simp
  omega
theorem u32_in (x : Int) (h : 0 ≤ x ∧ x < 4294967296) : IntKind.u32.wrap x = x := by
  rw [IntKind.wrap_u32']
  omega
theorem wstep_any (c n m : Int) (hc : 0 ≤ c ∧ c < 4294967296) (hn : 0 ≤ n ∧ n < 4294967296) (hm : 0 < m ∧ m < 4294967296) (w : World) :
    Calls Try.prog 72 #[.int .u32 c, .int .u32 n, .int .u32 m] w fun e w' => e = .returned (.int .u32 ((c + n) % m)) ∧ w = w' := by
  have f1 := u64_in c (by omega)
  have f2 := u64_in n (by omega)
  have f3 := u64_in m (by omega)
  have f4 := u64_in (c + n) (by omega)
  have h0 := Int.emod_nonneg (c + n) (show m ≠ 0 by omega)
  have h1 := Int.emod_lt_of_pos (c + n) hm.1
  have f5 := u32_in ((c + n) % m) (by omega)
  have f6 : (m == 0) = false := by simp; omega
  have f7 : (c + n).tmod m = (c + n) % m := Int.tmod_eq_emod_of_nonneg (by omega)
  have f8 := u64_in ((c + n) % m) (by omega)
  clear h0 h1
  obtain ⟨c1, c2⟩ := hc
  obtain ⟨n1, n2⟩ := hn
  obtain ⟨m1, m2⟩ := hm
  go_enter Try.func72, Try.ntmps72
  go_wp2
  go_ret
  exact ⟨rfl, rfl⟩

theorem wnext_any (c m : Int) (hc : 0 ≤ c ∧ c < 4294967296) (hm : 0 < m ∧ m < 4294967296) (w : World) :
    Calls Try.prog 68 #[.int .u32 c, .int .u32 m] w fun e w' => e = .returned (.int .u32 ((c + 1) % m)) ∧ w = w' := by
  have ST := fun w' => wstep_any c 1 m hc (by omega) hm w'
  clear hc hm
  go_enter Try.func68, Try.ntmps68
  go_wp2_with fail
  refine (ST _).mono ?_
  rintro e w' ⟨rfl, rfl⟩
  go_wp2
  go_ret
  exact ⟨rfl, rfl⟩
theorem gap_eq (x y m : Int) (hx : 0 ≤ x) (hy : 0 ≤ y) (hm : 0 < m) : (y + (m - x % m)) % m = Op.fgap m x y := by
  unfold Op.fgap
  have e : y % m + m - x % m = y % m + (m - x % m) := by omega
  rw [e]
  exact (Int.emod_add_emod _ _ _).symm
theorem wgap_any (x y m : Int) (hx : 0 ≤ x ∧ x < 4294967296) (hy : 0 ≤ y ∧ y < 4294967296) (hm : 0 < m ∧ m < 4294967296) (w : World) :
    Calls Try.prog 65 #[.int .u32 x, .int .u32 y, .int .u32 m] w fun e w' => e = .returned (.int .u32 (Op.fgap m x y)) ∧ w = w' := by
  have h0 := Int.emod_nonneg x (show m ≠ 0 by omega)
  have h1 := Int.emod_lt_of_pos x hm.1
  have ST := fun w' => wstep_any y (m - x % m) m hy (by omega) hm w'
  have E := Lib.hid (gap_eq x y m hx.1 hy.1 hm.1)
  have f6 : (m == 0) = false := by simp; omega
  have f6' : ¬ m = 0 := by omega
  have f7 : x.tmod m = x % m := Int.tmod_eq_emod_of_nonneg (by omega)
  have f8 := u32_in (x % m) (by omega)
  have f9 := u32_in (m - x % m) (by omega)
  obtain ⟨m1, m2⟩ := hm
  clear h0 h1 hx hy
  go_enter Try.func65, Try.ntmps65
  go_wp2_with fail
  refine (ST _).mono ?_
  rintro e w' ⟨rfl, rfl⟩
  go_wp2
  go_ret
  exact ⟨ret_int E.out, rfl⟩
theorem modulus_any (n : Nat) (hn : 1 ≤ n ∧ n ≤ 16) (w : World) :
    Calls Try.prog 24 #[.int .i64 n] w fun e w' => e = .returned (.int .u32 (2 * (n : Int))) ∧ w = w' := by
  have f1 := u32_in (n : Int) (by omega)
  have f2 := u32_in (2 * (n : Int)) (by omega)
  clear hn
  go_enter Try.func24, Try.ntmps24
  go_wp2
  go_ret
  exact ⟨rfl, rfl⟩
theorem i64_in (x : Int) (h : -9223372036854775808 ≤ x ∧ x ≤ 9223372036854775807) : IntKind.i64.wrap x = x := Go.IntWalk.i64_in _ (by omega)

section
variable {R : Nat → Prop} {g gm : Nat} {T : TypeId} {p : Pt} {l : List Int} {st : Int} {b : Int} {n : Nat}
theorem place_any (w : World) (h : PB w g T p [.int .i64 n, .int .u32 b]) (W : Nat) (hpw : p.width = (W : Int)) (hb : 0 ≤ b ∧ b < 4294967296) (hn : 1 ≤ n ∧ n ≤ 16) (hW : W ≤ 8) :
    Calls Try.prog 58 #[.pointer (some ⟨g, 0, none⟩)] w fun e w' => e = .returned (.int .i64 ((2 + (b % (n : Int)).toNat * W : Nat) : Int)) ∧ Same w w' := by
  have c := h.ex_ 0
  have d := h.ex_ 1
  simp only [List.getElem?_cons_zero, List.getElem?_cons_succ] at c d
  obtain ⟨_, _, c2, _⟩ := h.head
  rw [hpw] at c2
  have h0 := Int.emod_nonneg b (show (n : Int) ≠ 0 by omega)
  have h1 := Int.emod_lt_of_pos b (show (0 : Int) < n by omega)
  have f1 := u32_in (n : Int) (by omega)
  have f7 : b.tmod (n : Int) = b % (n : Int) := Int.tmod_eq_emod_of_nonneg (by omega)
  obtain ⟨k, hk⟩ := Int.eq_ofNat_of_zero_le h0
  have hkn : k < n := by omega
  have hm : k * W ≤ 16 * 8 := Nat.mul_le_mul (by omega) hW
  have hmi : ((k : Int) * (W : Int)) = ((k * W : Nat) : Int) := by rw [Int.natCast_mul]
  have f2 := u32_in (k : Int) (by omega)
  have f3 : IntKind.i64.wrap (k : Int) = k := Go.IntWalk.i64_in _ (by omega)
  have f8 : ((n : Int) == 0) = false := by simp; omega
  rw [hk] at f7
  rw [hk, Int.toNat_natCast]
  have n1 : (0 : Int) < n := by omega
  have f0 : ¬ (n : Int) = 0 := by omega
  obtain ⟨y, hy⟩ : ∃ y : Int, y = (k : Int) * (W : Int) := ⟨_, rfl⟩
  rw [← hy] at hmi
  have f4 : IntKind.i64.wrap y = y := Go.IntWalk.i64_in _ (by omega)
  have f5 : IntKind.i64.wrap (2 + y) = 2 + y := Go.IntWalk.i64_in _ (by omega)
  have g4 : wrap64 y = y := by unfold wrap64; omega
  have g5 : wrap64 (2 + y) = 2 + y := by unfold wrap64; omega
  have E : Hid ((2 : Int) + y = ((2 + k * W : Nat) : Int)) := Lib.hid (by omega)
  have HYE := Lib.hid hy.symm
  obtain ⟨kk, hkk⟩ : ∃ kk : Int, kk = (k : Int) := ⟨_, rfl⟩
  obtain ⟨ww, hww⟩ : ∃ ww : Int, ww = (W : Int) := ⟨_, rfl⟩
  rw [← hkk] at f7 f2 f3 HYE
  rw [← hww] at HYE c2
  have hprod := HYE.out
  obtain ⟨nn, hnn⟩ : ∃ nn : Int, nn = (n : Int) := ⟨_, rfl⟩
  rw [← hnn] at f1 f7 f8 f0 n1 c
  have hb0 := hb.1
  clear h0 h1 hk hb hn hW hkn hm hmi hy hkk hww hnn h hpw
  generalize ((2 + k * W : Nat) : Int) = Z at *
  go_enter Try.func58, Try.ntmps58
  go_wp2_with fail
  go_quiet (fail)
  go_wp2
  go_ret
  exact ⟨ret_int E.out, (Same.refl _).drewN _⟩
theorem gap_any (w : World) (h : PB w g T p [.int .i64 n, .int .u32 b]) (hn : 1 ≤ n ∧ n ≤ 16) (x y : Int) (hx : 0 ≤ x ∧ x < 4294967296) (hy : 0 ≤ y ∧ y < 4294967296) :
    Calls Try.prog 55 #[.pointer (some ⟨g, 0, none⟩), .int .u32 x, .int .u32 y] w fun e w' => e = .returned (.int .u32 (Op.fgap (2 * (n : Int)) x y)) ∧ w = w' := by
  have c := h.ex_ 0
  simp only [List.getElem?_cons_zero] at c
  have MD := fun w' => modulus_any n hn w'
  have GP := fun w' => wgap_any x y (2 * (n : Int)) hx hy (by omega) w'
  clear h hn hx hy
  generalize Op.fgap (2 * (n : Int)) x y = G at *
  generalize (2 * (n : Int)) = M at *
  go_enter Try.func55, Try.ntmps55
  go_wp2_with fail
  refine (MD _).mono ?_
  rintro e w' ⟨rfl, rfl⟩
  go_wp2_with fail
  refine (GP _).mono ?_
  rintro e w' ⟨rfl, rfl⟩
  go_wp2
  go_ret
  exact ⟨rfl, rfl⟩
theorem next_any (w : World) (h : PB w g T p [.int .i64 n, .int .u32 b]) (hn : 1 ≤ n ∧ n ≤ 16) (hb : 0 ≤ b ∧ b < 4294967296) :
    Calls Try.prog 60 #[.pointer (some ⟨g, 0, none⟩)] w fun e w' => e = .returned (.int .u32 ((b + 1) % (2 * (n : Int)))) ∧ Same w w' := by
  have c := h.ex_ 0
  have d := h.ex_ 1
  simp only [List.getElem?_cons_zero, List.getElem?_cons_succ] at c d
  have MD := fun w' => modulus_any n hn w'
  have NX := fun w' => wnext_any b (2 * (n : Int)) hb (by omega) w'
  clear h hn hb
  generalize (b + 1) % (2 * (n : Int)) = G at *
  generalize (2 * (n : Int)) = M at *
  go_enter Try.func60, Try.ntmps60
  go_wp2_with fail
  go_region_held3 (fun w' => w'.cell? ⟨g, 19, none⟩ = some (.int .i64 n) ∧ w'.cell? ⟨g, 20, none⟩ = some (.int .u32 b) ∧ Same w w')
    (first | assumption | exact ⟨c, d, (Same.refl _).drew⟩)
    (first | (go_at_call 24; ((with_reducible refine (MD _).mono ?_); rintro e w' ⟨rfl, rfl⟩)) | (go_at_call 68; ((with_reducible refine (NX _).mono ?_); rintro e w' ⟨rfl, rfl⟩)))
  rcases ‹_ ∧ _ ∧ Same w _› with ⟨_, _, x9⟩
  go_wp2
  go_ret
  exact ⟨rfl, x9⟩
end

end Go.Proofs.Ytejajmdmfipplab.Ff
