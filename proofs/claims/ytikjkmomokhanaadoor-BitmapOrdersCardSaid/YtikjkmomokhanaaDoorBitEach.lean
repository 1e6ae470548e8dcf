/-

  Sets of numbers (layer 3): the first one, one less, and the iterator over them.
-/
import Derived.Test.YtikjkmomokhanaaDoorBitOrd
import Derived.Test.YtikjkmomokhanaaDoorOpChen
import Derived.RangeFuncNested
import Derived.RangeFuncBound
import Derived.RangeFuncCalls
import Derived.RangeFuncLeaves
import Derived.Shelf.Abstract
import Derived.Shelf.RegionOpen
import Derived.OwnWalkIn
import Derived.TacticsInMore
import Derived.LoopNIn
import Derived.LoopIn
import Derived.BigQuiet
import Derived.Outline
import Derived.Shelf.Spec.TrailingZeros
set_option linter.unusedVariables false
set_option linter.unusedSimpArgs false
namespace Go.Proofs.YtikjkmomokhanaaDoor.Be
open Go.ChangeShapes Go.WideShapes Go.ChangeAt Go.RowKit Ws
open Go.Shelf

theorem ret_int {k : IntKind} {a b : Int} (h : a = b) : Ending.returned (.int k a) = .returned (.int k b) := by rw [h]
/-- the library's table of bits' places, in its variable -/
def TZ (w : World) : Prop := TabAt 0 Lib.deBruijn64tab w
theorem TZ.chg {S : Nat → Prop} {w w' : World} (h : TZ w) (hc : Chg S w w') (hn : ¬ S 0) : TZ w' := fun j hj => hc.cell (h j hj) hn
theorem TZ.same {w w' : World} (h : TZ w) (hc : Same w w') : TZ w' := h.chg hc id
theorem TZ.lt {w : World} (h : TZ w) : 0 < w.heap.size := World.block_lt_of_cell? w _ (h 0 (by decide))

theorem bit_any (i : Int) (w : World) :
    Calls Tryd.prog 44 #[.int .i64 i] w fun e w' => e = .returned (.int .u64 (Op.bitI i : Nat)) ∧ w = w' := by
  go_enter Tryd.func44, Tryd.ntmps44
  go_wp2_with fail
  · go_ret
    have h : i < 0 ∨ 63 < i := by assumption
    exact ⟨ret_int (by unfold Op.bitI; rw [if_neg (by omega)]; rfl), rfl⟩
  · go_ret
    have h : 0 ≤ i ∧ i ≤ 63 := by assumption
    have hl := Op.bitI_lt i
    have he : Op.bitI i = 2 ^ i.toNat := by unfold Op.bitI; rw [if_pos h]
    have hc : ((2 : Int) ^ i.toNat) = ((Op.bitI i : Nat) : Int) := by rw [he]; simp
    exact ⟨ret_int (by rw [hc, IntKind.wrap_u64]; omega), rfl⟩
  · go_ret
    have h : i < 0 := by assumption
    exact ⟨ret_int (by unfold Op.bitI; rw [if_neg (by omega)]; rfl), rfl⟩
theorem tz64_at (x k idx : Nat) (w : World) (hx0 : ((x : Int) == 0) = false)
    (key : IntKind.u64.wrap (bits BinOp.and IntKind.u64 (x : Int) (IntKind.u64.wrap (-(x : Int))) * 285870213051353865) / 288230376151711744 = (idx : Int))
    (hi : idx < 64) (hk : k < 64) (hcell : w.cell? ⟨0, idx, none⟩ = some (.int .u8 k)) :
    Calls Tryd.prog 41 #[.int .u64 x] w fun e w' => e = .returned (.int .i64 k) ∧ w = w' := by
  go_enter Tryd.func41, Tryd.ntmps41
  go_wp2_with (simp only [key])
  go_ret
  exact ⟨rfl, rfl⟩
theorem tz64_any (x : Nat) (hx : x < 18446744073709551616) (hx0 : x ≠ 0) (w : World) (hT : TZ w) :
    Calls Tryd.prog 41 #[.int .u64 x] w fun e w' => e = .returned (.int .i64 (Lib.ctz 64 x)) ∧ w = w' := by
  obtain ⟨hlow, hk⟩ := Lib.lowest_bit 64 x hx0 hx
  obtain ⟨hi, htab⟩ := Lib.deBruijn64_at _ hk
  have hcell := hT _ hi
  rw [htab] at hcell
  exact tz64_at x _ _ w (by simp; omega) (tz64_key x _ hx hx0 hlow) hi hk hcell
theorem first_any (x : Nat) (hx : x < 18446744073709551616) (hx0 : x ≠ 0) (w : World) (hT : TZ w) :
    Calls Tryd.prog 10 #[.int .u64 x] w fun e w' => e = .returned (.tuple #[.int .i64 (Lib.ctz 64 x), .bool true]) ∧ w = w' := by
  have Z := tz64_any x hx hx0 w hT
  have h0 : ((x : Int) == 0) = false := by simp; omega
  have h1 : ¬ (x : Int) = 0 := by omega
  generalize ((Lib.ctz 64 x : Nat) : Int) = k at *
  generalize (x : Int) = y at *
  clear hx hx0 hT
  go_enter Tryd.func10, Tryd.ntmps10
  go_wp2_with fail
  refine Z.mono ?_
  rintro e w' ⟨rfl, rfl⟩
  go_wp2
  go_ret2
  exact ⟨rfl, rfl⟩


def dropN (m k : Nat) : Nat := m &&& (18446744073709551615 - Op.bitI k)
theorem ctz_bit {x : Nat} (h0 : x ≠ 0) (hx : x < 18446744073709551616) : x.testBit (Lib.ctz 64 x) = true ∧ Lib.ctz 64 x < 64 := by
  obtain ⟨m, h1, h2⟩ := Lib.ctzFrom_spec 64 x (by omega) hx
  have e : Lib.ctz 64 x = Lib.ctzFrom 64 x := by unfold Lib.ctz; rw [if_neg h0]
  rw [e]
  refine ⟨?_, h2⟩
  rw [Nat.testBit_eq_decide_div_mod_eq, decide_eq_true_iff]
  have h3 : x / 2 ^ Lib.ctzFrom 64 x = 2 * m + 1 := by
    conv => lhs; lhs; rw [h1]
    exact Nat.mul_div_cancel_left _ (Nat.two_pow_pos _)
  omega
theorem drop_lt {x : Nat} (h0 : x ≠ 0) (hx : x < 18446744073709551616) : dropN x (Lib.ctz 64 x) < x := by
  obtain ⟨h1, h2⟩ := ctz_bit h0 hx
  have hle : dropN x (Lib.ctz 64 x) ≤ x := Nat.and_le_left
  have hne : dropN x (Lib.ctz 64 x) ≠ x := by
    intro e
    have hb : (dropN x (Lib.ctz 64 x)).testBit (Lib.ctz 64 x) = true := by rw [e]; exact h1
    unfold dropN at hb
    rw [Nat.testBit_and] at hb
    have hbi : Op.bitI (Lib.ctz 64 x) = 2 ^ Lib.ctz 64 x := by unfold Op.bitI; rw [if_pos (by omega), Int.toNat_natCast]
    have hlt : 2 ^ Lib.ctz 64 x < 2 ^ 64 := Nat.pow_lt_pow_right (by omega) h2
    have e2 : 18446744073709551615 - 2 ^ Lib.ctz 64 x = 2 ^ 64 - (2 ^ Lib.ctz 64 x + 1) := by omega
    rw [hbi, e2, Nat.testBit_two_pow_sub_succ hlt, Nat.testBit_two_pow_self] at hb
    simp at hb
  omega
/-- the numbers of a set, rising -/
def bitsL (x : Nat) : List Nat := if h : x ≠ 0 ∧ x < 18446744073709551616 then Lib.ctz 64 x :: bitsL (dropN x (Lib.ctz 64 x)) else []
termination_by x
decreasing_by exact drop_lt h.1 h.2
theorem bitsL_zero : bitsL 0 = [] := by unfold bitsL; rw [dif_neg (fun h => h.1 rfl)]
theorem bitsL_next {x : Nat} (h0 : x ≠ 0) (hx : x < 18446744073709551616) : bitsL x = Lib.ctz 64 x :: bitsL (dropN x (Lib.ctz 64 x)) := by
  conv => lhs; unfold bitsL
  rw [dif_pos ⟨h0, hx⟩]
theorem drop_any (x k : Nat) (hx : x < 18446744073709551616) (w : World) :
    Calls Tryd.prog 15 #[.int .u64 x, .int .i64 k] w fun e w' => e = .returned (.int .u64 (dropN x k : Nat)) ∧ w = w' := by
  have h1 := u64_andNot_nat x (Op.bitI k) hx (Op.bitI_lt k)
  have BA := fun w' => bit_any (k : Int) w'
  have HE : Hid (bits .andNot .u64 (x : Int) (Op.bitI k : Nat) = ((dropN x k : Nat) : Int)) := Lib.hid h1
  clear h1 hx
  generalize ((Op.bitI (k : Int) : Nat) : Int) = b at *
  go_enter Tryd.func15, Tryd.ntmps15
  go_wp2_with fail
  refine (BA _).mono ?_
  rintro e w' ⟨rfl, rfl⟩
  go_wp2_with fail
  go_ret
  exact ⟨ret_int HE.out, rfl⟩
theorem first_none (w : World) : Calls Tryd.prog 10 #[.int .u64 0] w fun e w' => e = .returned (.tuple #[.int .i64 0, .bool false]) ∧ w = w' := by
  go_enter Tryd.func10, Tryd.ntmps10
  go_wp2_with fail
  go_ret2
  exact ⟨rfl, rfl⟩
def tzB : Nat := 0
theorem TZ.below {n₀ : Nat} {w w' : World} (h : TZ w) (hb : Below n₀ w w') (hn : tzB < n₀) : TZ w' := fun j hj => (hb.cell (p := ⟨0, j, none⟩) hn).trans (h j hj)
set_option maxRecDepth 100000 in
set_option maxHeartbeats 2000000 in
theorem each_in (n : Nat) (hn : 1 ≤ n) (l Bm n₀ m : Nat) (hm : m < 18446744073709551616) (hnt : tzB < n₀) (J Jx : List Nat → World → Prop)
    (hY : ∀ (pre : List Nat) (x : Nat) (W : World), J pre W → pre.length < (bitsL m).length → YieldAt Fence.wide (n - 1) Tryd.prog l #[.int .i64 (x : Int)] W fun e W' =>
      (e = .returned (.bool true) ∧ J (pre ++ [x]) W' ∧ Below n₀ W W') ∨ (e = .returned (.bool false) ∧ Jx (pre ++ [x]) W'))
    (W : World) (hB : W.cell? ⟨Bm, 0, none⟩ = some (.int .u64 (m : Int))) (hT : TZ W) (h0 : J [] W) :
    CallsIn Fence.wide n Tryd.prog 63 #[.func (.yield l) #[] #[], .pointer (some ⟨Bm, 0, none⟩)] W fun e W' => (∃ v, e = .returned v) ∧
      ((∃ xs, xs = bitsL m ∧ J xs W') ∨ (∃ pre, pre <+: bitsL m ∧ Jx pre W')) := by
  refine callsIn_of_wp Tryd.func63 rfl trivial ?_ rfl
  simp only [Tryd.ntmps63, List.size_toArray, List.length_cons, List.length_nil, Nat.reduceAdd, Nat.reduceSub, Array.replicate_succ, Array.replicate_zero, List.push_toArray, List.append_toArray, List.nil_append, List.cons_append]
  gi_wp2
  gi_loopw [3] (fun p wr => ∃ (pre : List Nat) (x : Nat), p = .int .u64 (x : Int) ∧ x < 18446744073709551616 ∧ bitsL m = pre ++ bitsL x ∧ J pre wr ∧ TZ wr)
    (fun p wr => (intOf p).toNat)
  case atStart => exact ⟨[], m, rfl, hm, rfl, h0, hT⟩
  case round =>
    obtain ⟨pre, x, rfl, hx, hp, hJs, hTs⟩ := hrel
    by_cases hx0 : x = 0
    · subst hx0
      rw [bitsL_zero, List.append_nil] at hp
      have FN := first_none wr
      gi_wp2_with (refine ⟨trivial, ?_⟩; gi_at_call 10; refine (callsIn_wide.2 FN).mono ?_; rintro e w' ⟨rfl, rfl⟩)
      refine ⟨fun _ h => (by cases h), ?_⟩
      gi_wp2
      refine bodyPost_ret (results_none rfl _ _ _) rfl ?_
      exact ⟨⟨_, rfl⟩, .inl ⟨pre, hp.symm, hJs⟩⟩
    · have FA := first_any x hx hx0 wr hTs
      have hnx := bitsL_next hx0 hx
      have hdl := drop_lt hx0 hx
      obtain ⟨k, hk⟩ : ∃ k, k = Lib.ctz 64 x := ⟨_, rfl⟩
      rw [← hk] at FA hnx hdl
      clear hk
      have DA := fun W' => drop_any x k hx W'
      rw [hnx] at hp
      have hdx : dropN x k < 18446744073709551616 := by omega
      have HP := Lib.hid hp
      have HDL := Lib.hid hdl
      obtain ⟨fn, tmps, assign, body, hy, hR⟩ := hY pre k wr hJs (by rw [hp]; simp)
      clear hp hnx hdl
      gi_wp2_with (refine ⟨trivial, ?_⟩; gi_at_call 10; refine (callsIn_wide.2 FA).mono ?_; rintro e w' ⟨rfl, rfl⟩)
      refine hR.mono ?_
      rintro e W3 (⟨rfl, hJ3, hk3⟩ | ⟨rfl, hJx3⟩)
      · have hT3 := hTs.below hk3 hnt
        gi_wp2_with (refine ⟨trivial, ?_⟩; gi_at_call 15; refine (callsIn_wide.2 (DA _)).mono ?_; rintro e w' ⟨rfl, rfl⟩)
        go_roundw
        case rel => exact ⟨pre ++ [k], dropN x k, rfl, hdx, by rw [HP.out]; simp, hJ3, hT3⟩
        case measure => have := HDL.out; simp only [intOf, Int.toNat_natCast]; omega
      · gi_wp2
        refine bodyPost_ret (results_none rfl _ _ _) rfl ?_
        exact ⟨⟨_, rfl⟩, .inr ⟨pre ++ [k], ⟨bitsL (dropN x k), by rw [HP.out]; simp⟩, hJx3⟩⟩

end Go.Proofs.YtikjkmomokhanaaDoor.Be
