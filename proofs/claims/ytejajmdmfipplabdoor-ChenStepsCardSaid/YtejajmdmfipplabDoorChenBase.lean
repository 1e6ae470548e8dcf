/-

  Package chen, and the sets of package bitmap: what the steps of a buffer with slots enough reckon.
-/
import Derived.Test.YtejajmdmfipplabDoorPartSwap
import Derived.Test.YtejajmdmfipplabDoorImp
import Derived.Test.YtejajmdmfipplabDoorOpChen
import Derived.Test.YtejajmdmfipplabDoorPartEnd
import Derived.BigQuiet
import Derived.Outline
import Derived.Shelf.Spec.TrailingZeros
set_option linter.unusedSimpArgs false
set_option linter.unusedVariables false
namespace Go.Proofs.YtejajmdmfipplabDoor.Ch
open Go.ChangeShapes Go.WideShapes Go.ChangeAt Go.RowKit Ws Mm Pa

/-- the library's table of bits' places, in its variable -/
def TZ (w : World) : Prop := TabAt 2 Lib.deBruijn64tab w
theorem TZ.chg {S : Nat → Prop} {w w' : World} (h : TZ w) (hc : Chg S w w') (hn : ¬ S 2) : TZ w' := fun j hj => hc.cell (h j hj) hn
theorem TZ.same {w w' : World} (h : TZ w) (hc : Same w w') : TZ w' := h.chg hc id
theorem TZ.lt {w : World} (h : TZ w) : 2 < w.heap.size := World.block_lt_of_cell? w _ (h 0 (by decide))

theorem u64_in (x : Int) (h : 0 ≤ x ∧ x < 18446744073709551616) : IntKind.u64.wrap x = x := by
  simp only [IntKind.wrap, IntKind.bits, IntKind.signed]
  simp
  omega
theorem u32_in (x : Int) (h : 0 ≤ x ∧ x < 4294967296) : IntKind.u32.wrap x = x := by
  rw [IntKind.wrap_u32']
  omega
theorem i64_in (x : Int) (h : -9223372036854775808 ≤ x ∧ x ≤ 9223372036854775807) : IntKind.i64.wrap x = x := Go.IntWalk.i64_in _ (by omega)

theorem bit_any (i : Int) (w : World) :
    Calls Tryd.prog 130 #[.int .i64 i] w fun e w' => e = .returned (.int .u64 (Op.bitI i : Nat)) ∧ w = w' := by
  go_enter Tryd.func130, Tryd.ntmps130
  go_wp2_with fail
  · go_ret
    have h : i < 0 ∨ 63 < i := by assumption
    exact ⟨ret_int (by unfold Op.bitI; rw [if_neg (by omega)]; rfl), rfl⟩
  · go_ret
    have h : 0 ≤ i ∧ i ≤ 63 := by assumption
    have hl := Op.bitI_lt i
    have he : Op.bitI i = 2 ^ i.toNat := by unfold Op.bitI; rw [if_pos h]
    have hc : ((2 : Int) ^ i.toNat) = ((Op.bitI i : Nat) : Int) := by rw [he]; simp
    exact ⟨ret_int (by rw [hc, IntKind.wrap_u64]; omega), rfl⟩
  · go_ret
    have h : i < 0 := by assumption
    exact ⟨ret_int (by unfold Op.bitI; rw [if_neg (by omega)]; rfl), rfl⟩
theorem put_any (m : Int) (hm : 0 ≤ m ∧ m < 18446744073709551616) (i : Int) (w : World) :
    Calls Tryd.prog 117 #[.int .u64 m, .int .i64 i] w fun e w' => e = .returned (.int .u64 (Op.putI m i)) ∧ w = w' := by
  obtain ⟨k, rfl⟩ := Int.eq_ofNat_of_zero_le hm.1
  have hb := Op.bitI_lt i
  have h1 := bits_or_u64_nat k (Op.bitI i) (by omega) hb
  have e : Op.putI (k : Int) i = ((k ||| Op.bitI i : Nat) : Int) := by unfold Op.putI; rw [Int.toNat_natCast]
  rw [e]
  have H1 := Lib.hid h1
  clear h1 e hm
  go_enter Tryd.func117, Tryd.ntmps117
  go_wp2_with fail
  refine (bit_any i _).mono ?_
  rintro e w' ⟨rfl, rfl⟩
  go_wp2_with fail
  go_ret
  exact ⟨ret_int H1.out, rfl⟩

theorem tz64_at (x k idx : Nat) (w : World) (hx0 : ((x : Int) == 0) = false)
    (key : IntKind.u64.wrap (bits BinOp.and IntKind.u64 (x : Int) (IntKind.u64.wrap (-(x : Int))) * 285870213051353865) / 288230376151711744 = (idx : Int))
    (hi : idx < 64) (hk : k < 64) (hcell : w.cell? ⟨2, idx, none⟩ = some (.int .u8 k)) :
    Calls Tryd.prog 118 #[.int .u64 x] w fun e w' => e = .returned (.int .i64 k) ∧ w = w' := by
  go_enter Tryd.func118, Tryd.ntmps118
  go_wp2_with (simp only [key])
  go_ret
  exact ⟨rfl, rfl⟩
theorem tz64_any (x : Nat) (hx : x < 18446744073709551616) (hx0 : x ≠ 0) (w : World) (hT : TZ w) :
    Calls Tryd.prog 118 #[.int .u64 x] w fun e w' => e = .returned (.int .i64 (Lib.ctz 64 x)) ∧ w = w' := by
  obtain ⟨hlow, hk⟩ := Lib.lowest_bit 64 x hx0 hx
  obtain ⟨hi, htab⟩ := Lib.deBruijn64_at _ hk
  have hcell := hT _ hi
  rw [htab] at hcell
  exact tz64_at x _ _ w (by simp; omega) (tz64_key x _ hx hx0 hlow) hi hk hcell
theorem first_any (x : Nat) (hx : x < 18446744073709551616) (hx0 : x ≠ 0) (w : World) (hT : TZ w) :
    Calls Tryd.prog 93 #[.int .u64 x] w fun e w' => e = .returned (.tuple #[.int .i64 (Lib.ctz 64 x), .bool true]) ∧ w = w' := by
  have Z := tz64_any x hx hx0 w hT
  have h0 : ((x : Int) == 0) = false := by simp; omega
  have h1 : ¬ (x : Int) = 0 := by omega
  generalize ((Lib.ctz 64 x : Nat) : Int) = k at *
  generalize (x : Int) = y at *
  clear hx hx0 hT
  go_enter Tryd.func93, Tryd.ntmps93
  go_wp2_with fail
  refine Z.mono ?_
  rintro e w' ⟨rfl, rfl⟩
  go_wp2
  go_ret2
  exact ⟨rfl, rfl⟩
/-- the least number that a set has not -/
theorem ctz_free (a : Int) (ha : 0 ≤ a ∧ a < 18446744073709551616) (k : Nat) (hk : Op.freeI a = k) (hk64 : k < 64) : (18446744073709551615 - a.toNat) ≠ 0 ∧ Lib.ctz 64 (18446744073709551615 - a.toNat) = k := by
  obtain ⟨m, rfl⟩ := Int.eq_ofNat_of_zero_le ha.1
  rw [Int.toNat_natCast]
  unfold Op.freeI at hk
  rw [Int.toNat_natCast] at hk
  have hl : k < (List.range 64).length := by rw [List.length_range]; exact hk64
  have key : ∀ j, j < 64 → (18446744073709551615 - m).testBit j = !m.testBit j := by
    intro j hj
    have := Nat.testBit_two_pow_sub_succ (n := 64) (x := m) (by omega) j
    rw [show (2 : Nat) ^ 64 - (m + 1) = 18446744073709551615 - m by omega] at this
    rw [this]
    simp [hj]
  have h1 := (List.findIdx_eq hl).1 hk
  rw [List.getElem_range] at h1
  have hb : (18446744073709551615 - m).testBit k = true := (key k hk64).trans h1.1
  have h0 : 18446744073709551615 - m ≠ 0 := by
    intro h
    rw [h] at hb
    simp at hb
  refine ⟨h0, ?_⟩
  obtain ⟨q, hq, hlt⟩ := Lib.ctzFrom_spec 64 _ (Nat.pos_of_ne_zero h0) (show 18446744073709551615 - m < 2 ^ 64 by omega)
  have e : Lib.ctz 64 (18446744073709551615 - m) = Lib.ctzFrom 64 (18446744073709551615 - m) := by simp only [Lib.ctz, if_neg h0]
  rw [e]
  generalize Lib.ctzFrom 64 (18446744073709551615 - m) = c at *
  have tb : ∀ j, (18446744073709551615 - m).testBit j = (decide (c ≤ j) && (2 * q + 1).testBit (j - c)) := by
    intro j
    rw [hq]
    exact Nat.testBit_two_pow_mul ..
  rcases Nat.lt_trichotomy c k with h | h | h
  · have a1 := h1.2 c h
    rw [List.getElem_range] at a1
    have a2 := tb c
    rw [key c hlt, a1, Nat.sub_self, Nat.testBit_zero] at a2
    simp at a2
  · exact h
  · rw [tb k] at hb
    simp at hb
    omega

theorem not_u64 (a : Int) (ha : 0 ≤ a ∧ a < 18446744073709551616) : bits .xor .u64 IntKind.u64.max a = ((18446744073709551615 - a.toNat : Nat) : Int) := by
  obtain ⟨m, rfl⟩ := Int.eq_ofNat_of_zero_le ha.1
  have h1 := bits_xor_u64_nat 18446744073709551615 m (by decide) (by omega)
  have e : (18446744073709551615 ^^^ m) = 18446744073709551615 - m := by
    apply Nat.eq_of_testBit_eq
    intro j
    have h2 := Nat.testBit_two_pow_sub_succ (n := 64) (x := m) (by omega) j
    rw [show (2 : Nat) ^ 64 - (m + 1) = 18446744073709551615 - m by omega] at h2
    have h3 := Nat.testBit_two_pow_sub_one 64 j
    rw [show (2 : Nat) ^ 64 - 1 = 18446744073709551615 by decide] at h3
    rw [h2, Nat.testBit_xor, h3]
    by_cases hj : j < 64
    · simp [hj]
    · have h4 : m.testBit j = false := Nat.testBit_lt_two_pow (Nat.lt_of_lt_of_le (show m < 2 ^ 64 by omega) (Nat.pow_le_pow_right (by decide) (by omega)))
      simp [hj, h4]
  rw [e] at h1
  rw [Int.toNat_natCast]
  exact h1

def ex4 (n : Nat) (u nw k : Int) : List Value := [.int .i64 n, .int .u64 u, .int .u32 nw, .int .i64 k]
theorem records_any (n : Nat) (hn : n ≤ 4) (w : World) :
    Calls Tryd.prog 67 #[.int .i64 n] w fun e w' => e = .returned (.int .i64 ((1 + n : Nat) : Int)) ∧ w = w' := by
  have f1 := i64_in (1 + (n : Int)) (by omega)
  have E : Hid ((1 : Int) + (n : Int) = ((1 + n : Nat) : Int)) := Lib.hid (by omega)
  clear hn
  go_enter Tryd.func67, Tryd.ntmps67
  go_wp2
  go_ret
  exact ⟨ret_int E.out, rfl⟩

theorem slots_any (n : Nat) (hn : n ≤ 4) (w : World) :
    Calls Tryd.prog 78 #[.int .i64 n] w fun e w' => e = .returned (.int .i64 ((n + 2 : Nat) : Int)) ∧ w = w' := by
  have f1 := i64_in ((n : Int) + 2) (by omega)
  have E : Hid ((n : Int) + 2 = ((n + 2 : Nat) : Int)) := Lib.hid (by omega)
  clear hn
  go_enter Tryd.func78, Tryd.ntmps78
  go_wp2
  go_ret
  exact ⟨ret_int E.out, rfl⟩

section
variable {R : Nat → Prop} {g gm : Nat} {T : TypeId} {p : Pt} {l : List Int} {st : Int} {n : Nat} {u nw k : Int}
theorem use_any (w : World) (h : PB w g T p (ex4 n u nw k)) (m : Mem w R gm l st) (hg : ¬ R g) (hu : 0 ≤ u ∧ u < 18446744073709551616) (v : Int) (hv : 0 ≤ v ∧ v < 4294967296) :
    Calls Tryd.prog 91 #[.pointer (some ⟨g, 0, none⟩), .int .u32 v] w fun e w' => e = .returned (.tuple #[]) ∧ Lft R g gm T p (ex4 n (Op.putI u v) nw k) l st w w' := by
  have c := h.ex_ 1
  simp only [ex4, List.getElem?_cons_zero, List.getElem?_cons_succ] at c
  have f := h.thaw 20
  have L := (Lft.first h m).set hg 20 _ (h.put_ex 1 (.int .u64 (Op.putI u v)))
  have fv := i64_in v (by omega)
  have PT := fun w' => put_any u hu v w'
  generalize Op.putI u v = z at *
  clear h m hu hv
  go_enter Tryd.func91, Tryd.ntmps91
  go_wp2_with fail
  refine (PT _).mono ?_
  rintro e w' ⟨rfl, rfl⟩
  go_wp2
  go_end0
  exact ⟨rfl, L⟩
theorem none_any (w : World) (h : PB w g T p (ex4 n u nw k)) (hn : n ≤ 4) :
    Calls Tryd.prog 84 #[.pointer (some ⟨g, 0, none⟩)] w fun e w' => e = .returned (.int .u32 ((n + 2 : Nat) : Int)) ∧ w = w' := by
  have c := h.ex_ 0
  simp only [ex4, List.getElem?_cons_zero, List.getElem?_cons_succ] at c
  have SL := fun w' => slots_any n hn w'
  have f1 := u32_in ((n + 2 : Nat) : Int) (by omega)
  clear h hn
  generalize ((n + 2 : Nat) : Int) = z at *
  go_enter Tryd.func84, Tryd.ntmps84
  go_wp2_with fail
  refine (SL _).mono ?_
  rintro e w' ⟨rfl, rfl⟩
  go_wp2
  go_ret
  exact ⟨rfl, rfl⟩
theorem place_any (w : World) (h : PB w g T p (ex4 n u nw k)) (W : Nat) (hpw : p.width = (W : Int)) (hn : n ≤ 4) (hk : 0 ≤ k ∧ k ≤ 15) (hW : W ≤ 8) :
    Calls Tryd.prog 89 #[.pointer (some ⟨g, 0, none⟩)] w fun e w' => e = .returned (.int .i64 ((1 + n + k.toNat * W : Nat) : Int)) ∧ Same w w' := by
  have c := h.ex_ 0
  have d := h.ex_ 3
  simp only [ex4, List.getElem?_cons_zero, List.getElem?_cons_succ] at c d
  obtain ⟨_, _, c2, _⟩ := h.head
  rw [hpw] at c2
  obtain ⟨q, rfl⟩ := Int.eq_ofNat_of_zero_le hk.1
  rw [Int.toNat_natCast]
  have RC := fun w' => records_any n hn w'
  have hm : q * W ≤ 15 * 8 := Nat.mul_le_mul (by omega) hW
  have hmi : ((q : Int) * (W : Int)) = ((q * W : Nat) : Int) := by rw [Int.natCast_mul]
  obtain ⟨y, hy⟩ : ∃ y : Int, y = (q : Int) * (W : Int) := ⟨_, rfl⟩
  rw [← hy] at hmi
  have f4 := i64_in y (by omega)
  have f5 := i64_in (((1 + n : Nat) : Int) + y) (by omega)
  have g4 : wrap64 y = y := by unfold wrap64; omega
  have E : Hid (((1 + n : Nat) : Int) + y = ((1 + n + q * W : Nat) : Int)) := Lib.hid (by omega)
  have HYE := Lib.hid hy.symm
  obtain ⟨kk, hkk⟩ : ∃ kk : Int, kk = (q : Int) := ⟨_, rfl⟩
  obtain ⟨ww, hww⟩ : ∃ ww : Int, ww = (W : Int) := ⟨_, rfl⟩
  rw [← hkk] at d HYE
  rw [← hww] at c2 HYE
  have hprod := HYE.out
  clear hm hmi hy hkk hww hk hW hn h hpw
  generalize ((1 + n + q * W : Nat) : Int) = Z at *
  generalize ((1 + n : Nat) : Int) = N1 at *
  go_enter Tryd.func89, Tryd.ntmps89
  go_wp2_with fail
  go_region_held3 (fun w' => w'.cell? ⟨g, 19, none⟩ = some (.int .i64 n) ∧ w'.cell? ⟨g, 22, none⟩ = some (.int .i64 kk) ∧ w'.cell? ⟨g, 2, none⟩ = some (.int .i64 ww) ∧ Same w w')
    (first | assumption | exact ⟨c, d, c2, (Same.refl _).drew⟩)
    (first | (go_at_call 67; ((with_reducible refine (RC _).mono ?_); rintro e w' ⟨rfl, rfl⟩)))
  rcases ‹_ ∧ _ ∧ _ ∧ Same w _› with ⟨_, _, _, x9⟩
  go_wp2
  go_ret
  exact ⟨ret_int E.out, x9⟩
end

end Go.Proofs.YtejajmdmfipplabDoor.Ch
