/-

  How many slots and attempts would do (layer 39), plainly.
-/
import Derived.Test.YthhbhbfkbncegabGreatDoorDmdRow
import Derived.Test.YthhbhbfkbncegabGreatDoorSplSpec
section
set_option linter.unusedVariables false
set_option linter.unusedSimpArgs false
namespace Go.Proofs.YthhbhbfkbncegabGreatDoor.Sz
open Go.ChangeShapes Go.WideShapes Go.ChangeAt Go.RowKit Ws
open Im (PT PO PS TsAt OsAt SysAt tcells ocells)
open Go.Proofs.YthhbhbfkbncegabGreatDoor.Wd (ret_bool ret_int)
/-- the number at a place; 0 where there is none -/
def gI (l : List Int) (i : Int) : Int := if 0 ≤ i then l.getD i.toNat 0 else 0
theorem gI_no {l : List Int} {i : Int} (h : i < 0 ∨ (l.length : Int) ≤ i) : gI l i = 0 := by
  unfold gI
  split
  · rw [List.getD_eq_getElem?_getD, List.getElem?_eq_none (by omega)]
    rfl
  · rfl
theorem gI_at {l : List Int} {k : Nat} {v : Int} (h : l[k]? = some v) : gI l k = v := by
  unfold gI
  rw [if_pos (by omega), Int.toNat_natCast, List.getD_eq_getElem?_getD, h]
  rfl
theorem gI_bd {l : List Int} (h : ∀ y ∈ l, (Lit.int .i64 y).wf = true) (i : Int) : -9223372036854775808 ≤ gI l i ∧ gI l i ≤ 9223372036854775807 := by
  by_cases g : i < 0 ∨ (l.length : Int) ≤ i
  · rw [gI_no g]; omega
  · obtain ⟨k, rfl⟩ : ∃ k : Nat, i = k := ⟨i.toNat, by omega⟩
    have hk : l[k]? = some l[k] := List.getElem?_eq_getElem (by omega)
    rw [gI_at hk]
    have := h _ (List.mem_of_getElem? hk)
    simp only [Lit.wf, IntKind.min, IntKind.max, IntKind.signed, IntKind.bits, Bool.and_eq_true] at this
    simp at this
    omega
theorem rowi_any (A : Option Addr) (n c : Nat) (l : List Int) (i : Int) (w : World) (hl : l.length = n) (hr : Row w A (l.map (Value.int .i64))) :
    Calls Tryz.prog 42 #[.slice A n c, .int .i64 i] w fun e w' => (∃ b, e = .returned (.tuple #[.int .i64 (gI l i), .bool b])) ∧ Same w w' := by
  rcases (show i < 0 ∨ (¬ i < 0 ∧ (n : Int) ≤ i) ∨ (¬ i < 0 ∧ ¬ (n : Int) ≤ i) by omega) with h0 | ⟨h1, h2⟩ | ⟨h1, h2⟩
  · have d0 : decide (i < 0) = true := decide_eq_true h0
    have HG := Lib.hid (gI_no (l := l) (.inl h0))
    clear h0 hr
    go_enter Tryz.func42, Tryz.ntmps42
    go_wp2_with fail
    go_ret2
    exact ⟨⟨false, by rw [HG.out]; rfl⟩, Same.refl _⟩
  · have d0 : decide (i < 0) = false := decide_eq_false h1
    have d1 : decide ((n : Int) ≤ i) = true := decide_eq_true h2
    have HG := Lib.hid (gI_no (l := l) (.inr (by rw [hl]; exact h2)))
    clear h1 h2 hr
    go_enter Tryz.func42, Tryz.ntmps42
    go_wp2_with fail
    go_ret2
    exact ⟨⟨false, by rw [HG.out]; rfl⟩, Same.refl _⟩
  · have d0 : decide (i < 0) = false := decide_eq_false h1
    have d1 : decide ((n : Int) ≤ i) = false := decide_eq_false h2
    obtain ⟨k, rfl⟩ : ∃ k : Nat, i = k := ⟨i.toNat, by omega⟩
    obtain ⟨v, hk⟩ : ∃ v, l[k]? = some v := ⟨l[k]'(by omega), List.getElem?_eq_getElem _⟩
    obtain ⟨b, o, rfl, c0⟩ := hr k (.int .i64 v) (by rw [List.getElem?_map, hk]; rfl)
    have HG := Lib.hid (gI_at hk)
    have hlt : (k : Int) < n := by omega
    have hk0 : (0 : Int) ≤ k := by omega
    clear hr hk h1 h2
    go_enter Tryz.func42, Tryz.ntmps42
    go_wp2_with fail
    try go_quiet (fail)
    try go_wp2_with fail
    go_ret2
    exact ⟨⟨true, by rw [HG.out]; rfl⟩, by first | exact Same.refl _ | exact (Same.refl _).drewN _⟩
end Go.Proofs.YthhbhbfkbncegabGreatDoor.Sz
end
section
set_option linter.unusedVariables false
set_option linter.unusedSimpArgs false
namespace Go.Proofs.YthhbhbfkbncegabGreatDoor.Sz
open Go.ChangeShapes Go.WideShapes Go.ChangeAt Go.RowKit Ws
open Im (PT PO PS TsAt OsAt SysAt tcells ocells)
open Go.Proofs.YthhbhbfkbncegabGreatDoor.Wd (ret_bool ret_int)
open Sl (ofR wrR flR obj)
def mostL (f : Int → Int) (l : List Int) : Int := l.foldl (fun n i => max n (f i)) 0
theorem mostL_take {f : Int → Int} {l : List Int} {k : Nat} {x : Int} (h : l[k]? = some x) : mostL f (l.take (k + 1)) = max (mostL f (l.take k)) (f x) := by
  unfold mostL
  rw [List.take_add_one, h, List.foldl_append]
  rfl
theorem mostG_bd {f : Int → Int} (hf : ∀ i, 0 ≤ f i ∧ f i ≤ 1099511627776) : ∀ (l : List Int) (x : Int), 0 ≤ x ∧ x ≤ 1099511627776 → 0 ≤ l.foldl (fun n i => max n (f i)) x ∧ l.foldl (fun n i => max n (f i)) x ≤ 1099511627776
  | [], x, h => h
  | y :: l, x, h => mostG_bd hf l _ (by have := hf y; show 0 ≤ max x (f y) ∧ max x (f y) ≤ 1099511627776; omega)
theorem mostL_bd {f : Int → Int} (hf : ∀ i, 0 ≤ f i ∧ f i ≤ 1099511627776) (l : List Int) : 0 ≤ mostL f l ∧ mostL f l ≤ 1099511627776 := mostG_bd hf l 0 (by omega)
theorem mostG_le {f : Int → Int} : ∀ (l : List Int) (x : Int), x ≤ l.foldl (fun n i => max n (f i)) x ∧ ∀ i ∈ l, f i ≤ l.foldl (fun n i => max n (f i)) x
  | [], x => ⟨Int.le_refl _, fun i h => by cases h⟩
  | y :: l, x => by
    obtain ⟨h1, h2⟩ := mostG_le (f := f) l (max x (f y))
    refine ⟨by show x ≤ l.foldl _ (max x (f y)); omega, fun i hi => ?_⟩
    rcases List.mem_cons.1 hi with rfl | hi
    · show f i ≤ l.foldl _ (max x (f i)); omega
    · exact h2 i hi
theorem mostL_le {f : Int → Int} {l : List Int} {i : Int} (h : i ∈ l) : f i ≤ mostL f l := (mostG_le l 0).2 i h
noncomputable def wrM (s : PS) (k : Int) (rs : List Int) : Int := mostL (fun i => wrR (ofR s i k) (gI rs i)) (obj s k).rd
noncomputable def flM (s : PS) (k : Int) (rs : List Int) : Int := mostL (fun i => flR (ofR s i k) (gI rs i)) (obj s k).rd
theorem wrM_bd (s : PS) (k : Int) (rs : List Int) : 0 ≤ wrM s k rs ∧ wrM s k rs ≤ 1099511627776 := mostL_bd (fun _ => Sl.wr_bd _ _) _
theorem flM_bd (s : PS) (k : Int) (rs : List Int) : 0 ≤ flM s k rs ∧ flM s k rs ≤ 1099511627776 := mostL_bd (fun _ => Sl.fl_bd _ _) _
noncomputable def slotsI (s : PS) (k : Int) (rs : List Int) : Int := if (0 ≤ k ∧ k < s.os.length) ∧ (obj s k).k = 4 then 2 + wrM s k rs else 0
noncomputable def capsI (s : PS) (k : Int) (rs : List Int) : Int := if (0 ≤ k ∧ k < s.os.length) ∧ ((obj s k).k = 3 ∨ (obj s k).k = 4 ∨ (obj s k).k = 5) then 1 + flM s k rs else 0
theorem obj_in {s : PS} {k : Nat} {o : PO} (h : s.os[k]? = some o) : obj s (k : Int) = o := by
  unfold obj
  rw [Int.toNat_natCast, List.getD_eq_getElem?_getD, h]
  rfl
end Go.Proofs.YthhbhbfkbncegabGreatDoor.Sz
end
