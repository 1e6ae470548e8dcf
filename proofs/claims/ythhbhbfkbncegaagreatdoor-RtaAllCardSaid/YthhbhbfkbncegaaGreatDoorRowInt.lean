/-

 package row: At, of a list of numbers.
-/
import Derived.Test.YthhbhbfkbncegaaGreatDoorDmdRow
set_option linter.unusedVariables false
set_option linter.unusedSimpArgs false
namespace Go.Proofs.YthhbhbfkbncegaaGreatDoor.Sz
open Go.ChangeShapes Go.WideShapes Go.ChangeAt Go.RowKit Ws
open Im (PT PO PS TsAt OsAt SysAt tcells ocells)
open Go.Proofs.YthhbhbfkbncegaaGreatDoor.Wd (ret_bool ret_int)
/-- the number at a place; 0 where there is none -/
def gI (l : List Int) (i : Int) : Int := if 0 ≤ i then l.getD i.toNat 0 else 0
theorem gI_no {l : List Int} {i : Int} (h : i < 0 ∨ (l.length : Int) ≤ i) : gI l i = 0 := by
 unfold gI
 split
 ·rw [List.getD_eq_getElem?_getD, List.getElem?_eq_none (by omega)]
  rfl
 ·rfl
theorem gI_at {l : List Int} {k : Nat} {v : Int} (h : l[k]? = some v) : gI l k = v := by
 unfold gI
 rw [if_pos (by omega), Int.toNat_natCast, List.getD_eq_getElem?_getD, h]
 rfl
theorem rowi_any (A : Option Addr) (n c : Nat) (l : List Int) (i : Int) (w : World) (hl : l.length = n) (hr : Row w A (l.map (Value.int .i64))) :
 Calls Tryz.prog 74 #[.slice A n c, .int .i64 i] w fun e w' => (∃ b, e = .returned (.tuple #[.int .i64 (gI l i), .bool b])) ∧ Same w w' := by
 rcases (show i < 0 ∨ (¬ i < 0 ∧ (n : Int) ≤ i) ∨ (¬ i < 0 ∧ ¬ (n : Int) ≤ i) by omega) with h0 | ⟨h1, h2⟩ | ⟨h1, h2⟩
 ·have d0 : decide (i < 0) = true := decide_eq_true h0
  have HG := Lib.hid (gI_no (l := l) (.inl h0))
  clear h0 hr
  go_enter Tryz.func74, Tryz.ntmps74
  go_wp2_with fail
  go_ret2
  exact ⟨⟨false, by rw [HG.out]; rfl⟩, Same.refl _⟩
 ·have d0 : decide (i < 0) = false := decide_eq_false h1
  have d1 : decide ((n : Int) ≤ i) = true := decide_eq_true h2
  have HG := Lib.hid (gI_no (l := l) (.inr (by rw [hl]; exact h2)))
  clear h1 h2 hr
  go_enter Tryz.func74, Tryz.ntmps74
  go_wp2_with fail
  go_ret2
  exact ⟨⟨false, by rw [HG.out]; rfl⟩, Same.refl _⟩
 ·have d0 : decide (i < 0) = false := decide_eq_false h1
  have d1 : decide ((n : Int) ≤ i) = false := decide_eq_false h2
  obtain ⟨k, rfl⟩ : ∃ k : Nat, i = k := ⟨i.toNat, by omega⟩
  obtain ⟨v, hk⟩ : ∃ v, l[k]? = some v := ⟨l[k]'(by omega), List.getElem?_eq_getElem _⟩
  obtain ⟨b, o, rfl, c0⟩ := hr k (.int .i64 v) (by rw [List.getElem?_map, hk]; rfl)
  have HG := Lib.hid (gI_at hk)
  have hlt : (k : Int) < n := by omega
  have hk0 : (0 : Int) ≤ k := by omega
  clear hr hk h1 h2
  go_enter Tryz.func74, Tryz.ntmps74
  go_wp2_with fail
  try go_quiet (fail)
  try go_wp2_with fail
  go_ret2
  exact ⟨⟨true, by rw [HG.out]; rfl⟩, by first | exact Same.refl _ | exact (Same.refl _).drewN _⟩
end Go.Proofs.YthhbhbfkbncegaaGreatDoor.Sz
