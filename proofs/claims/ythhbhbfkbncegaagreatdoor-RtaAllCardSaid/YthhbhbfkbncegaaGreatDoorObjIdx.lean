/-

 The place of a number in a list; who reads an object: package object's Reader, and the document's.
-/
import Derived.Test.YthhbhbfkbncegaaGreatDoorRows
import Derived.Test.YthhbhbfkbncegaaGreatDoorWords
import Derived.Test.YthhbhbfkbncegaaGreatDoorRegionOff
import Derived.WalkKit
import Derived.ProofKit
import Derived.WalkLawsBesides
import Derived.Deep.LoopGhost
import Derived.Lib.Hide
import Derived.Laws.Rows
import Derived.Laws.ResultCell
import Derived.BigQuiet
set_option linter.unusedVariables false
set_option linter.unusedSimpArgs false
namespace Go.Proofs.YthhbhbfkbncegaaGreatDoor.Os
open Go.ChangeShapes Go.WideShapes Go.ChangeAt Go.RowKit Ws

theorem ocs8 {w : World} {b : Nat} {T : TypeId} {v0 v1 v2 v3 v4 v5 v6 v7 : Value} (h : Blk w b T #[v0, v1, v2, v3, v4, v5, v6, v7]) : w.cell? ⟨b, 0, none⟩ = some v0 ∧ w.cell? ⟨b, 1, none⟩ = some v1 ∧ w.cell? ⟨b, 2, none⟩ = some v2 ∧ w.cell? ⟨b, 3, none⟩ = some v3 ∧ w.cell? ⟨b, 4, none⟩ = some v4 ∧ w.cell? ⟨b, 5, none⟩ = some v5 ∧ w.cell? ⟨b, 6, none⟩ = some v6 ∧ w.cell? ⟨b, 7, none⟩ = some v7 :=
 ⟨h.cell 0, h.cell 1, h.cell 2, h.cell 3, h.cell 4, h.cell 5, h.cell 6, h.cell 7⟩
/-- the place of a number; -1: none -/
noncomputable def idxF (l : List Int) (x : Int) : Int := match l.findIdx? (fun y => y == x) with
 | none => -1
 | some i => (i : Int)
theorem idx_none {l : List Int} {x : Int} (h : ∀ (k : Nat) (q : Int), l[k]? = some q → q ≠ x) : idxF l x = -1 := by
 unfold idxF
 have : l.findIdx? (fun y => y == x) = none := by
  rw [List.findIdx?_eq_none_iff]
  intro y hy
  obtain ⟨j, hj, hjy⟩ := List.getElem_of_mem hy
  have := h j y (by rw [← hjy]; exact List.getElem?_eq_getElem hj)
  simpa using this
 rw [this]
theorem idx_some {l : List Int} {x : Int} {k : Nat} (hk : l[k]? = some x) (hn : ∀ (j : Nat) (q : Int), j < k → l[j]? = some q → q ≠ x) : idxF l x = k := by
 unfold idxF
 have : l.findIdx? (fun y => y == x) = some k := by
  rw [List.findIdx?_eq_some_iff_getElem]
  obtain ⟨h1, h2⟩ := List.getElem?_eq_some_iff.1 hk
  refine ⟨h1, by simp [h2], fun j hj => ?_⟩
  have := hn j _ hj (List.getElem?_eq_getElem (by omega))
  simpa using this
 rw [this]
theorem ret_int {k : IntKind} {a b : Int} (h : a = b) : Ending.returned (.int k a) = .returned (.int k b) := by rw [h]
set_option maxRecDepth 100000 in
theorem index_any (A : Option Addr) (n c : Nat) (l : List Int) (x : Int) (w : World) (hl : l.length = n) (hn5 : n ≤ 5000) (hr : Row w A (l.map (Value.int .i64))) :
 Calls Tryz.prog 103 #[.slice A n c, .int .i64 x] w fun e w' => e = .returned (.int .i64 (idxF l x)) ∧ Same w w' := by
 have HL := Lib.hid hl
 have HR := Lib.hid hr
 clear hl hr
 go_enter Tryz.func103, Tryz.ntmps103
 go_wp2_with fail
 go_loopg [8] n (fun gk iv wx => ∃ i : Nat, i + gk = n ∧ iv = .int .i64 i ∧ (∀ (j : Nat) (q : Int), j < i → l[j]? = some q → q ≠ x) ∧ Same w wx)
 case atStart => exact ⟨0, by omega, rfl, fun j q hj => by omega, Same.refl _⟩
 case round =>
  obtain ⟨i, hi, rfl, hn, sx⟩ := hrel
  have HN := Lib.hid hn
  have HS := Lib.hid sx
  clear hn sx
  cases gk with
  | zero =>
   obtain rfl : n = i := by omega
   have hge : ¬ (n : Int) < (n : Int) := by omega
   go_wp2_with fail
   go_ret
   exact ⟨ret_int (idx_none (fun k q hk => HN.out k q (by obtain ⟨h1, _⟩ := List.getElem?_eq_some_iff.1 hk; have := HL.out; omega) hk)).symm, HS.out⟩
  | succ GK =>
   have hlt : (i : Int) < n := by omega
   have i0 : (0 : Int) ≤ i := by omega
   obtain ⟨y, hy⟩ : ∃ y, l[i]? = some y := ⟨_, List.getElem?_eq_getElem (by have := HL.out; omega)⟩
   obtain ⟨b, o, rfl, c1⟩ := HR.out i (.int .i64 y) (by rw [List.getElem?_map, hy]; rfl)
   replace c1 := HS.out.cell c1
   have HY := Lib.hid hy
   clear hy
   by_cases hxy : x = y
   ·subst hxy
    go_wp2_with fail
    go_ret
    exact ⟨ret_int (idx_some HY.out HN.out).symm, HS.out⟩
   ·have hb : (x == y) = false := by simpa using hxy
    have HXY := Lib.hid hxy
    clear hxy
    go_wp2_with fail
    go_roundg GK
    case rel => exact ⟨i + 1, by omega, by go_num, fun j q hj hq => by
     by_cases hji : j < i
     ·exact HN.out j q hji hq
     ·obtain rfl : j = i := by omega
      rw [HY.out] at hq
      injection hq with hq
      rw [← hq]
      exact fun h => HXY.out h.symm, HS.out⟩
    case measure => omega
set_option maxRecDepth 100000 in
theorem rreader_any (k wd sl cp sa ow : Int) (ia ra : Option Addr) (il ic rl rc : Nat) (rs : List Int) (x : Int) (w : World) (hl : rs.length = rl) (hrl : rl ≤ 100) (hr : Row w ra (rs.map (Value.int .i64))) :
 Calls Tryz.prog 55 #[.agg #[.int .i64 k, .int .i64 wd, .int .i64 sl, .int .i64 cp, .int .u32 sa, .slice ia il ic, .int .i64 ow, .slice ra rl rc], .int .i64 x] w fun e w' => e = .returned (.int .i64 (idxF rs x)) ∧ Same w w' := by
 have hb := Blk.new w 34 #[.int .i64 k, .int .i64 wd, .int .i64 sl, .int .i64 cp, .int .u32 sa, .slice ia il ic, .int .i64 ow, .slice ra rl rc]
 have HS0 := Lib.hid ((Same.refl w).alloc (.cells #[.int .i64 k, .int .i64 wd, .int .i64 sl, .int .i64 cp, .int .u32 sa, .slice ia il ic, .int .i64 ow, .slice ra rl rc] 34))
 obtain ⟨d0, d1, d2, d3, d4, d5, d6, d7⟩ := ocs8 hb
 have HL := Lib.hid hl
 have HR := Lib.hid hr
 clear hl hr hb
 go_enter Tryz.func55, Tryz.ntmps55
 go_wp2_with fail
 clear d0 d1 d2 d3 d4 d5 d6 d7
 go_loopg [10] rl (fun gk iv wx => ∃ i : Nat, i + gk = rl ∧ iv = .int .i64 i ∧ (∀ (j : Nat) (q : Int), j < i → rs[j]? = some q → q ≠ x) ∧ Same w wx)
 case atStart => exact ⟨0, by omega, rfl, fun j q hj => by omega, HS0.out⟩
 case round =>
  obtain ⟨i, hi, rfl, hn, sx⟩ := hrel
  have HN := Lib.hid hn
  have HS := Lib.hid sx
  clear hn sx
  cases gk with
  | zero =>
   obtain rfl : rl = i := by omega
   have hge : ¬ (rl : Int) < (rl : Int) := by omega
   go_wp2_with fail
   go_ret
   exact ⟨ret_int (idx_none (fun k q hk => HN.out k q (by obtain ⟨h1, _⟩ := List.getElem?_eq_some_iff.1 hk; have := HL.out; omega) hk)).symm, HS.out⟩
  | succ GK =>
   have hlt : (i : Int) < rl := by omega
   have i0 : (0 : Int) ≤ i := by omega
   obtain ⟨y, hy⟩ : ∃ y, rs[i]? = some y := ⟨_, List.getElem?_eq_getElem (by have := HL.out; omega)⟩
   obtain ⟨b, o, rfl, c1⟩ := HR.out i (.int .i64 y) (by rw [List.getElem?_map, hy]; rfl)
   replace c1 := HS.out.cell c1
   have HY := Lib.hid hy
   clear hy
   by_cases hxy : y = x
   ·subst hxy
    go_wp2_with fail
    go_ret
    exact ⟨ret_int (idx_some HY.out HN.out).symm, HS.out⟩
   ·have hb : (y == x) = false := by simpa using hxy
    have HXY := Lib.hid hxy
    clear hxy
    go_wp2_with fail
    go_roundg GK
    case rel => exact ⟨i + 1, by omega, by go_num, fun j q hj hq => by
     by_cases hji : j < i
     ·exact HN.out j q hji hq
     ·obtain rfl : j = i := by omega
      rw [HY.out] at hq
      injection hq with hq
      rw [← hq]
      exact HXY.out, HS.out⟩
    case measure => omega
set_option maxRecDepth 100000 in
theorem reader_any (k wd sl cp sa ow : Int) (ia ra : Option Addr) (il ic rl rc : Nat) (rs : List Int) (x : Int) (w : World) (hl : rs.length = rl) (hrl : rl ≤ 100) (hr : Row w ra (rs.map (Value.int .i64))) :
 Calls Tryz.prog 83 #[.agg #[.int .i64 k, .int .i64 wd, .int .i64 sl, .int .i64 cp, .int .u32 sa, .slice ia il ic, .int .i64 ow, .slice ra rl rc], .int .i64 x] w fun e w' => e = .returned (.tuple #[.int .i64 (if 0 ≤ idxF rs x then idxF rs x else 0), .bool (decide (0 ≤ idxF rs x))]) ∧ Same w w' := by
 have hb := Blk.new w 34 #[.int .i64 k, .int .i64 wd, .int .i64 sl, .int .i64 cp, .int .u32 sa, .slice ia il ic, .int .i64 ow, .slice ra rl rc]
 have hs0 := (Same.refl w).alloc (.cells #[.int .i64 k, .int .i64 wd, .int .i64 sl, .int .i64 cp, .int .u32 sa, .slice ia il ic, .int .i64 ow, .slice ra rl rc] 34)
 have HS0 := Lib.hid hs0
 obtain ⟨d0, d1, d2, d3, d4, d5, d6, d7⟩ := ocs8 hb
 have HI := Lib.hid (index_any ra rl rc rs x _ hl (by omega) (hr.same hs0))
 clear hl hr hb hs0
 generalize idxF rs x = y at *
 by_cases hy : 0 ≤ y
 ·rw [if_pos hy, decide_eq_true hy]
  go_enter Tryz.func83, Tryz.ntmps83
  go_wp2_with fail
  refine HI.out.mono ?_
  rintro e w1 ⟨rfl, s1⟩
  have HS1 := Lib.hid (HS0.out.trans s1)
  clear s1
  go_wp2_with fail
  exact bodyPost_ret (v := .tuple #[.int .i64 y, .bool true]) (by simp [results, Tryz.results83, go_sem]) rfl ⟨rfl, HS1.out⟩
 ·rw [if_neg hy, decide_eq_false hy]
  go_enter Tryz.func83, Tryz.ntmps83
  go_wp2_with fail
  refine HI.out.mono ?_
  rintro e w1 ⟨rfl, s1⟩
  have HS1 := Lib.hid (HS0.out.trans s1)
  clear s1
  go_wp2_with fail
  exact bodyPost_ret (v := .tuple #[.int .i64 0, .bool false]) (by simp [results, Tryz.results83, go_sem]) rfl ⟨rfl, HS1.out⟩


end Go.Proofs.YthhbhbfkbncegaaGreatDoor.Os
