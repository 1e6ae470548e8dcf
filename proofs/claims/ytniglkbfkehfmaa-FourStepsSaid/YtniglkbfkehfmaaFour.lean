/-
  Package four: where a slot and a record stand; a write's steps, and a read's.
-/
import Derived.Test.YtniglkbfkehfmaaPartRec
import Derived.Laws.BitsAllLaws
set_option linter.unusedVariables false
namespace Go.Proofs.Ytniglkbfkehfmaa.Fo
open Go.ChangeShapes Go.WideShapes Go.ChangeAt Go.RowKit Ws Mm Pa

theorem and_one (x : Int) (h : 0 ≤ x ∧ x < 4294967296) : bits .and .u32 x 1 = x % 2 := by
  obtain ⟨n, rfl⟩ := Int.eq_ofNat_of_zero_le h.1
  have := u32_and_nat n 1 (by omega) (by omega)
  rw [show ((1 : Nat) : Int) = 1 from rfl] at this
  rw [this, Nat.and_one_is_mod]
  omega
theorem lowest_any (x : Int) (h : 0 ≤ x ∧ x < 4294967296) (w : World) : Calls Try.prog 89 #[.int .u32 x] w fun e w' => e = .returned (.int .u32 (x % 2)) ∧ w = w' := by
  have h1 := Lib.hid (and_one x h)
  go_enter Try.func89, Try.ntmps89
  go_wp2_with fail
  go_ret
  exact ⟨ret_int h1.out, rfl⟩
theorem other_any (x : Int) (h : 0 ≤ x ∧ x < 4294967296) (w : World) : Calls Try.prog 97 #[.int .u32 x] w fun e w' => e = .returned (.int .u32 ((x + 1) % 2)) ∧ w = w' := by
  have e : 1 - x % 2 = (x + 1) % 2 := by omega
  have E := Lib.hid e
  clear e
  obtain ⟨y, hy⟩ : ∃ y, y = x % 2 := ⟨_, rfl⟩
  have h1 : 0 ≤ y := by omega
  have h2 : y ≤ 1 := by omega
  have hl := lowest_any x h
  rw [← hy] at hl
  have HY := Lib.hid hy
  clear hy
  go_enter Try.func97, Try.ntmps97
  go_wp2_with fail
  refine (hl _).mono ?_
  rintro e w' ⟨rfl, rfl⟩
  go_wp2_with fail
  go_ret
  exact ⟨ret_int (by rw [← E.out, HY.out]), rfl⟩

section
variable {R : Nat → Prop} {g gm : Nat} {T : TypeId} {p : Pt} {l : List Int} {st : Int} {a b : Int}

theorem slot_any (w : World) (h : PB w g T p [.int .u32 a, .int .u32 b]) (ha : 0 ≤ a ∧ a ≤ 1) :
    Calls Try.prog 93 #[.pointer (some ⟨g, 0, none⟩)] w fun e w' => e = .returned (.int .i64 (2 + a)) ∧ w = w' := by
  have c := h.ex_ 0
  simp at c
  obtain ⟨h1, h2⟩ := ha
  go_enter Try.func93, Try.ntmps93
  go_wp2
  go_ret
  exact ⟨rfl, rfl⟩
theorem place_any (w : World) (h : PB w g T p [.int .u32 a, .int .u32 b]) (ha : 0 ≤ a ∧ a ≤ 1) (hb : 0 ≤ b ∧ b ≤ 1) (hw : 0 ≤ p.width ∧ p.width ≤ 8) :
    Calls Try.prog 95 #[.pointer (some ⟨g, 0, none⟩)] w fun e w' => e = .returned (.int .i64 (4 + (2 * a + b) * p.width)) ∧ Same w w' := by
  have c := h.ex_ 0
  have d := h.ex_ 1
  simp at c d
  obtain ⟨_, _, c2, _⟩ := h.head
  obtain ⟨h1, h2⟩ := ha
  obtain ⟨h3, h4⟩ := hb
  obtain ⟨h5, h6⟩ := hw
  have n1 : 0 ≤ (2 * a + b) * p.width := Int.mul_nonneg (by omega) h5
  have n2 : (2 * a + b) * p.width ≤ 24 := by
    have := Int.mul_le_mul (show 2 * a + b ≤ 3 by omega) h6 h5 (by omega)
    omega
  go_enter Try.func95, Try.ntmps95
  go_wp2_with fail
  have f1 : IntKind.u32.wrap (2 * a) = 2 * a := by rw [IntKind.wrap_u32']; omega
  have f2 : IntKind.u32.wrap (2 * a + b) = 2 * a + b := by rw [IntKind.wrap_u32']; omega
  have f3 : IntKind.i64.wrap (2 * a + b) = 2 * a + b := Go.IntWalk.i64_in _ (by omega)
  have f4 : IntKind.i64.wrap ((2 * a + b) * p.width) = (2 * a + b) * p.width := Go.IntWalk.i64_in _ (by omega)
  have f5 : IntKind.i64.wrap (4 + (2 * a + b) * p.width) = 4 + (2 * a + b) * p.width := Go.IntWalk.i64_in _ (by omega)
  go_quiet (fail)
  go_wp2
  go_ret
  exact ⟨rfl, (Same.refl _).drewN _⟩
end

end Go.Proofs.Ytniglkbfkehfmaa.Fo
