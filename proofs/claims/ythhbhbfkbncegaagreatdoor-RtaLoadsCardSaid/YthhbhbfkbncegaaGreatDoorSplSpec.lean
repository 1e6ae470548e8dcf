/-

 What spoil.Of and spoil.JobOf answer of any system, plainly; and the document's words of it (layer 37).
-/
import Derived.Test.YthhbhbfkbncegaaGreatDoorRows
import Derived.Test.YthhbhbfkbncegaaGreatDoorWords
import Derived.Test.YthhbhbfkbncegaaGreatDoorRegionOff
import Derived.WalkKit
import Derived.ProofKit
import Derived.WalkLawsBesides
import Derived.Deep.LoopGhost
import Derived.Lib.Hide
import Derived.Laws.Rows
import Derived.Laws.ResultCell
import Derived.BigQuiet
import Derived.Test.YthhbhbfkbncegaaGreatDoorSysFew
import Derived.Deep.Cut
import Derived.Deep.CutBlock
import Derived.Test.YthhbhbfkbncegaaGreatDoorWlkLive
import Derived.Test.YthhbhbfkbncegaaGreatDoorDmdMost
import Derived.Test.YthhbhbfkbncegaaGreatDoorSplPure
import Derived.Test.YthhbhbfkbncegaaGreatDoorAhead
section
section
set_option linter.unusedVariables false
set_option linter.unusedSimpArgs false
namespace Go.Proofs.YthhbhbfkbncegaaGreatDoor.Os
open Go.ChangeShapes Go.WideShapes Go.ChangeAt Go.RowKit Ws

theorem ocs8 {w : World} {b : Nat} {T : TypeId} {v0 v1 v2 v3 v4 v5 v6 v7 : Value} (h : Blk w b T #[v0, v1, v2, v3, v4, v5, v6, v7]) : w.cell? ⟨b, 0, none⟩ = some v0 ∧ w.cell? ⟨b, 1, none⟩ = some v1 ∧ w.cell? ⟨b, 2, none⟩ = some v2 ∧ w.cell? ⟨b, 3, none⟩ = some v3 ∧ w.cell? ⟨b, 4, none⟩ = some v4 ∧ w.cell? ⟨b, 5, none⟩ = some v5 ∧ w.cell? ⟨b, 6, none⟩ = some v6 ∧ w.cell? ⟨b, 7, none⟩ = some v7 :=
 ⟨h.cell 0, h.cell 1, h.cell 2, h.cell 3, h.cell 4, h.cell 5, h.cell 6, h.cell 7⟩
/-- the place of a number; -1: none -/
noncomputable def idxF (l : List Int) (x : Int) : Int := match l.findIdx? (fun y => y == x) with
 | none => -1
 | some i => (i : Int)
theorem idx_none {l : List Int} {x : Int} (h : ∀ (k : Nat) (q : Int), l[k]? = some q → q ≠ x) : idxF l x = -1 := by
 unfold idxF
 have : l.findIdx? (fun y => y == x) = none := by
  rw [List.findIdx?_eq_none_iff]
  intro y hy
  obtain ⟨j, hj, hjy⟩ := List.getElem_of_mem hy
  have := h j y (by rw [← hjy]; exact List.getElem?_eq_getElem hj)
  simpa using this
 rw [this]
theorem idx_some {l : List Int} {x : Int} {k : Nat} (hk : l[k]? = some x) (hn : ∀ (j : Nat) (q : Int), j < k → l[j]? = some q → q ≠ x) : idxF l x = k := by
 unfold idxF
 have : l.findIdx? (fun y => y == x) = some k := by
  rw [List.findIdx?_eq_some_iff_getElem]
  obtain ⟨h1, h2⟩ := List.getElem?_eq_some_iff.1 hk
  refine ⟨h1, by simp [h2], fun j hj => ?_⟩
  have := hn j _ hj (List.getElem?_eq_getElem (by omega))
  simpa using this
 rw [this]
theorem ret_int {k : IntKind} {a b : Int} (h : a = b) : Ending.returned (.int k a) = .returned (.int k b) := by rw [h]
set_option maxRecDepth 100000 in
theorem index_any (A : Option Addr) (n c : Nat) (l : List Int) (x : Int) (w : World) (hl : l.length = n) (hn5 : n ≤ 5000) (hr : Row w A (l.map (Value.int .i64))) :
  Calls Tryz.prog 103 #[.slice A n c, .int .i64 x] w fun e w' => e = .returned (.int .i64 (idxF l x)) ∧ Same w w' := by
 have HL := Lib.hid hl
 have HR := Lib.hid hr
 clear hl hr
 go_enter Tryz.func103, Tryz.ntmps103
 go_wp2_with fail
 go_loopg [8] n (fun gk iv wx => ∃ i : Nat, i + gk = n ∧ iv = .int .i64 i ∧ (∀ (j : Nat) (q : Int), j < i → l[j]? = some q → q ≠ x) ∧ Same w wx)
 case atStart => exact ⟨0, by omega, rfl, fun j q hj => by omega, Same.refl _⟩
 case round =>
  obtain ⟨i, hi, rfl, hn, sx⟩ := hrel
  have HN := Lib.hid hn
  have HS := Lib.hid sx
  clear hn sx
  cases gk with
  | zero =>
   obtain rfl : n = i := by omega
   have hge : ¬ (n : Int) < (n : Int) := by omega
   go_wp2_with fail
   go_ret
   exact ⟨ret_int (idx_none (fun k q hk => HN.out k q (by obtain ⟨h1, _⟩ := List.getElem?_eq_some_iff.1 hk; have := HL.out; omega) hk)).symm, HS.out⟩
  | succ GK =>
   have hlt : (i : Int) < n := by omega
   have i0 : (0 : Int) ≤ i := by omega
   obtain ⟨y, hy⟩ : ∃ y, l[i]? = some y := ⟨_, List.getElem?_eq_getElem (by have := HL.out; omega)⟩
   obtain ⟨b, o, rfl, c1⟩ := HR.out i (.int .i64 y) (by rw [List.getElem?_map, hy]; rfl)
   replace c1 := HS.out.cell c1
   have HY := Lib.hid hy
   clear hy
   by_cases hxy : x = y
   ·subst hxy
    go_wp2_with fail
    go_ret
    exact ⟨ret_int (idx_some HY.out HN.out).symm, HS.out⟩
   ·have hb : (x == y) = false := by simpa using hxy
    have HXY := Lib.hid hxy
    clear hxy
    go_wp2_with fail
    go_roundg GK
    case rel => exact ⟨i + 1, by omega, by go_num, fun j q hj hq => by
     by_cases hji : j < i
     ·exact HN.out j q hji hq
     ·obtain rfl : j = i := by omega
      rw [HY.out] at hq
      injection hq with hq
      rw [← hq]
      exact fun h => HXY.out h.symm, HS.out⟩
    case measure => omega
set_option maxRecDepth 100000 in
theorem rreader_any (k wd sl cp sa ow : Int) (ia ra : Option Addr) (il ic rl rc : Nat) (rs : List Int) (x : Int) (w : World) (hl : rs.length = rl) (hrl : rl ≤ 100) (hr : Row w ra (rs.map (Value.int .i64))) :
  Calls Tryz.prog 55 #[.agg #[.int .i64 k, .int .i64 wd, .int .i64 sl, .int .i64 cp, .int .u32 sa, .slice ia il ic, .int .i64 ow, .slice ra rl rc], .int .i64 x] w fun e w' => e = .returned (.int .i64 (idxF rs x)) ∧ Same w w' := by
 have hb := Blk.new w 34 #[.int .i64 k, .int .i64 wd, .int .i64 sl, .int .i64 cp, .int .u32 sa, .slice ia il ic, .int .i64 ow, .slice ra rl rc]
 have HS0 := Lib.hid ((Same.refl w).alloc (.cells #[.int .i64 k, .int .i64 wd, .int .i64 sl, .int .i64 cp, .int .u32 sa, .slice ia il ic, .int .i64 ow, .slice ra rl rc] 34))
 obtain ⟨d0, d1, d2, d3, d4, d5, d6, d7⟩ := ocs8 hb
 have HL := Lib.hid hl
 have HR := Lib.hid hr
 clear hl hr hb
 go_enter Tryz.func55, Tryz.ntmps55
 go_wp2_with fail
 clear d0 d1 d2 d3 d4 d5 d6 d7
 go_loopg [10] rl (fun gk iv wx => ∃ i : Nat, i + gk = rl ∧ iv = .int .i64 i ∧ (∀ (j : Nat) (q : Int), j < i → rs[j]? = some q → q ≠ x) ∧ Same w wx)
 case atStart => exact ⟨0, by omega, rfl, fun j q hj => by omega, HS0.out⟩
 case round =>
  obtain ⟨i, hi, rfl, hn, sx⟩ := hrel
  have HN := Lib.hid hn
  have HS := Lib.hid sx
  clear hn sx
  cases gk with
  | zero =>
   obtain rfl : rl = i := by omega
   have hge : ¬ (rl : Int) < (rl : Int) := by omega
   go_wp2_with fail
   go_ret
   exact ⟨ret_int (idx_none (fun k q hk => HN.out k q (by obtain ⟨h1, _⟩ := List.getElem?_eq_some_iff.1 hk; have := HL.out; omega) hk)).symm, HS.out⟩
  | succ GK =>
   have hlt : (i : Int) < rl := by omega
   have i0 : (0 : Int) ≤ i := by omega
   obtain ⟨y, hy⟩ : ∃ y, rs[i]? = some y := ⟨_, List.getElem?_eq_getElem (by have := HL.out; omega)⟩
   obtain ⟨b, o, rfl, c1⟩ := HR.out i (.int .i64 y) (by rw [List.getElem?_map, hy]; rfl)
   replace c1 := HS.out.cell c1
   have HY := Lib.hid hy
   clear hy
   by_cases hxy : y = x
   ·subst hxy
    go_wp2_with fail
    go_ret
    exact ⟨ret_int (idx_some HY.out HN.out).symm, HS.out⟩
   ·have hb : (y == x) = false := by simpa using hxy
    have HXY := Lib.hid hxy
    clear hxy
    go_wp2_with fail
    go_roundg GK
    case rel => exact ⟨i + 1, by omega, by go_num, fun j q hj hq => by
     by_cases hji : j < i
     ·exact HN.out j q hji hq
     ·obtain rfl : j = i := by omega
      rw [HY.out] at hq
      injection hq with hq
      rw [← hq]
      exact HXY.out, HS.out⟩
    case measure => omega
set_option maxRecDepth 100000 in
theorem reader_any (k wd sl cp sa ow : Int) (ia ra : Option Addr) (il ic rl rc : Nat) (rs : List Int) (x : Int) (w : World) (hl : rs.length = rl) (hrl : rl ≤ 100) (hr : Row w ra (rs.map (Value.int .i64))) :
  Calls Tryz.prog 83 #[.agg #[.int .i64 k, .int .i64 wd, .int .i64 sl, .int .i64 cp, .int .u32 sa, .slice ia il ic, .int .i64 ow, .slice ra rl rc], .int .i64 x] w fun e w' => e = .returned (.tuple #[.int .i64 (if 0 ≤ idxF rs x then idxF rs x else 0), .bool (decide (0 ≤ idxF rs x))]) ∧ Same w w' := by
 have hb := Blk.new w 34 #[.int .i64 k, .int .i64 wd, .int .i64 sl, .int .i64 cp, .int .u32 sa, .slice ia il ic, .int .i64 ow, .slice ra rl rc]
 have hs0 := (Same.refl w).alloc (.cells #[.int .i64 k, .int .i64 wd, .int .i64 sl, .int .i64 cp, .int .u32 sa, .slice ia il ic, .int .i64 ow, .slice ra rl rc] 34)
 have HS0 := Lib.hid hs0
 obtain ⟨d0, d1, d2, d3, d4, d5, d6, d7⟩ := ocs8 hb
 have HI := Lib.hid (index_any ra rl rc rs x _ hl (by omega) (hr.same hs0))
 clear hl hr hb hs0
 generalize idxF rs x = y at *
 by_cases hy : 0 ≤ y
 ·rw [if_pos hy, decide_eq_true hy]
  go_enter Tryz.func83, Tryz.ntmps83
  go_wp2_with fail
  refine HI.out.mono ?_
  rintro e w1 ⟨rfl, s1⟩
  have HS1 := Lib.hid (HS0.out.trans s1)
  clear s1
  go_wp2_with fail
  exact bodyPost_ret (v := .tuple #[.int .i64 y, .bool true]) (by simp [results, Tryz.results83, go_sem]) rfl ⟨rfl, HS1.out⟩
 ·rw [if_neg hy, decide_eq_false hy]
  go_enter Tryz.func83, Tryz.ntmps83
  go_wp2_with fail
  refine HI.out.mono ?_
  rintro e w1 ⟨rfl, s1⟩
  have HS1 := Lib.hid (HS0.out.trans s1)
  clear s1
  go_wp2_with fail
  exact bodyPost_ret (v := .tuple #[.int .i64 0, .bool false]) (by simp [results, Tryz.results83, go_sem]) rfl ⟨rfl, HS1.out⟩


end Go.Proofs.YthhbhbfkbncegaaGreatDoor.Os
end
section
set_option linter.unusedVariables false
set_option linter.unusedSimpArgs false
namespace Go.Proofs.YthhbhbfkbncegaaGreatDoor.Sy
open Go.ChangeShapes Go.WideShapes Go.ChangeAt Go.RowKit Ws
open Go.Proofs.YthhbhbfkbncegaaGreatDoor.Im (PT PO PS TsAt OsAt SysAt Code tcells ocells)
open Go.Proofs.YthhbhbfkbncegaaGreatDoor.Os (idxF)

theorem opsk_6 (w : World) : Calls Tryz.prog 102 #[.int .i64 6] w fun e w' => e = .returned (.tuple #[.int .i64 3, .int .i64 4, .bool true]) ∧ w = w' := by
 go_enter Tryz.func102, Tryz.ntmps102
 go_wp2_with fail
 exact bodyPost_ret (v := .tuple #[.int .i64 3, .int .i64 4, .bool true]) (by simp [results, Tryz.results102, go_sem]) rfl ⟨rfl, rfl⟩
theorem opsk_none (k : Int) (h : k < 1 ∨ 6 < k) (w : World) : Calls Tryz.prog 102 #[.int .i64 k] w fun e w' => e = .returned (.tuple #[.int .i64 0, .int .i64 0, .bool false]) ∧ w = w' := by
 have b1 : (k == 1) = false := by rw [beq_eq_false_iff_ne]; omega
 have b2 : (k == 2) = false := by rw [beq_eq_false_iff_ne]; omega
 have b3 : (k == 3) = false := by rw [beq_eq_false_iff_ne]; omega
 have b4 : (k == 4) = false := by rw [beq_eq_false_iff_ne]; omega
 have b5 : (k == 5) = false := by rw [beq_eq_false_iff_ne]; omega
 have b6 : (k == 6) = false := by rw [beq_eq_false_iff_ne]; omega
 clear h
 go_enter Tryz.func102, Tryz.ntmps102
 go_wp2_with fail
 exact bodyPost_ret (v := .tuple #[.int .i64 0, .int .i64 0, .bool false]) (by simp [results, Tryz.results102, go_sem]) rfl ⟨rfl, rfl⟩
theorem opsk_1 (w : World) : Calls Tryz.prog 102 #[.int .i64 1] w fun e w' => e = .returned (.tuple #[.int .i64 2, .int .i64 1, .bool true]) ∧ w = w' := by
 go_enter Tryz.func102, Tryz.ntmps102
 go_wp2_with fail
 exact bodyPost_ret (v := .tuple #[.int .i64 2, .int .i64 1, .bool true]) (by simp [results, Tryz.results102, go_sem]) rfl ⟨rfl, rfl⟩
theorem opsk_2 (w : World) : Calls Tryz.prog 102 #[.int .i64 2] w fun e w' => e = .returned (.tuple #[.int .i64 2, .int .i64 1, .bool true]) ∧ w = w' := by
 go_enter Tryz.func102, Tryz.ntmps102
 go_wp2_with fail
 exact bodyPost_ret (v := .tuple #[.int .i64 2, .int .i64 1, .bool true]) (by simp [results, Tryz.results102, go_sem]) rfl ⟨rfl, rfl⟩
theorem opsk_3 (w : World) : Calls Tryz.prog 102 #[.int .i64 3] w fun e w' => e = .returned (.tuple #[.int .i64 2, .int .i64 1, .bool true]) ∧ w = w' := by
 go_enter Tryz.func102, Tryz.ntmps102
 go_wp2_with fail
 exact bodyPost_ret (v := .tuple #[.int .i64 2, .int .i64 1, .bool true]) (by simp [results, Tryz.results102, go_sem]) rfl ⟨rfl, rfl⟩
theorem opsk_4 (w : World) : Calls Tryz.prog 102 #[.int .i64 4] w fun e w' => e = .returned (.tuple #[.int .i64 2, .int .i64 1, .bool true]) ∧ w = w' := by
 go_enter Tryz.func102, Tryz.ntmps102
 go_wp2_with fail
 exact bodyPost_ret (v := .tuple #[.int .i64 2, .int .i64 1, .bool true]) (by simp [results, Tryz.results102, go_sem]) rfl ⟨rfl, rfl⟩
theorem opsk_5 (w : World) : Calls Tryz.prog 102 #[.int .i64 5] w fun e w' => e = .returned (.tuple #[.int .i64 2, .int .i64 1, .bool true]) ∧ w = w' := by
 go_enter Tryz.func102, Tryz.ntmps102
 go_wp2_with fail
 exact bodyPost_ret (v := .tuple #[.int .i64 2, .int .i64 1, .bool true]) (by simp [results, Tryz.results102, go_sem]) rfl ⟨rfl, rfl⟩
def wrF (k : Int) : Int := if k = 6 then 3 else 2
def rdF (k : Int) : Int := if k = 6 then 4 else 1
def kindF (k : Int) : Bool := decide (1 ≤ k ∧ k ≤ 6)
theorem ops_any (k : Int) (w : World) : Calls Tryz.prog 82 #[.int .i64 k] w fun e w' => e = .returned (.tuple #[.int .i64 (if kindF k = true then wrF k else 0), .int .i64 (if kindF k = true then rdF k else 0), .bool (kindF k)]) ∧ w = w' := by
 have HO : Hid (∀ w', Calls Tryz.prog 102 #[.int .i64 k] w' fun e w2 => e = .returned (.tuple #[.int .i64 (if kindF k = true then wrF k else 0), .int .i64 (if kindF k = true then rdF k else 0), .bool (kindF k)]) ∧ w' = w2) := Lib.hid (by
  intro w'
  by_cases h : 1 ≤ k ∧ k ≤ 6
  ·have hk : kindF k = true := decide_eq_true h
   rw [hk]
   rcases (show k = 1 ∨ k = 2 ∨ k = 3 ∨ k = 4 ∨ k = 5 ∨ k = 6 by omega) with rfl | rfl | rfl | rfl | rfl | rfl
   ·exact opsk_1 w'
   ·exact opsk_2 w'
   ·exact opsk_3 w'
   ·exact opsk_4 w'
   ·exact opsk_5 w'
   ·exact opsk_6 w'
  ·have hk : kindF k = false := decide_eq_false h
   rw [hk]
   exact opsk_none k (by omega) w')
 generalize (if kindF k = true then wrF k else 0) = z1 at *
 generalize (if kindF k = true then rdF k else 0) = z2 at *
 generalize kindF k = z3 at *
 go_enter Tryz.func82, Tryz.ntmps82
 go_wp2_with fail
 refine (HO.out _).mono ?_
 rintro e w' ⟨rfl, rfl⟩
 go_wp2_with fail
 exact bodyPost_ret (v := .tuple #[.int .i64 z1, .int .i64 z2, .bool z3]) (by simp [results, Tryz.results82, go_sem]) rfl ⟨rfl, rfl⟩
theorem istask_any (A B : Option Addr) (n c m d : Nat) (i : Int) (w : World) : Calls Tryz.prog 80 #[.agg #[.slice A n c, .slice B m d], .int .i64 i] w fun e w' => e = .returned (.bool (decide (0 ≤ i ∧ i < n))) ∧ Same w w' := by
 have hb0 := Blk.new w 25 #[.slice A n c, .slice B m d]
 have a0 := hb0.cell 0
 have a1 := hb0.cell 1
 simp only [Ws.q_] at a0 a1
 clear hb0
 by_cases h0 : 0 ≤ i
 ·by_cases h1 : i < n
  ·have e1 : decide (0 ≤ i ∧ i < (n : Int)) = true := decide_eq_true ⟨h0, h1⟩
   rw [e1]
   clear e1
   go_enter Tryz.func80, Tryz.ntmps80
   go_wp2_with fail
   go_ret
   exact ⟨rfl, (Same.refl _).alloc _⟩
  ·have e1 : decide (0 ≤ i ∧ i < (n : Int)) = false := decide_eq_false (fun h => h1 h.2)
   rw [e1]
   clear e1
   go_enter Tryz.func80, Tryz.ntmps80
   go_wp2_with fail
   go_ret
   exact ⟨rfl, (Same.refl _).alloc _⟩
 ·have e1 : decide (0 ≤ i ∧ i < (n : Int)) = false := decide_eq_false (fun h => h0 h.1)
  rw [e1]
  clear e1
  go_enter Tryz.func80, Tryz.ntmps80
  go_wp2_with fail
  go_ret
  exact ⟨rfl, (Same.refl _).alloc _⟩
theorem isobj_any (A B : Option Addr) (n c m d : Nat) (i : Int) (w : World) : Calls Tryz.prog 81 #[.agg #[.slice A n c, .slice B m d], .int .i64 i] w fun e w' => e = .returned (.bool (decide (0 ≤ i ∧ i < m))) ∧ Same w w' := by
 have hb0 := Blk.new w 25 #[.slice A n c, .slice B m d]
 have a0 := hb0.cell 0
 have a1 := hb0.cell 1
 simp only [Ws.q_] at a0 a1
 clear hb0
 by_cases h0 : 0 ≤ i
 ·by_cases h1 : i < m
  ·have e1 : decide (0 ≤ i ∧ i < (m : Int)) = true := decide_eq_true ⟨h0, h1⟩
   rw [e1]
   clear e1
   go_enter Tryz.func81, Tryz.ntmps81
   go_wp2_with fail
   go_ret
   exact ⟨rfl, (Same.refl _).alloc _⟩
  ·have e1 : decide (0 ≤ i ∧ i < (m : Int)) = false := decide_eq_false (fun h => h1 h.2)
   rw [e1]
   clear e1
   go_enter Tryz.func81, Tryz.ntmps81
   go_wp2_with fail
   go_ret
   exact ⟨rfl, (Same.refl _).alloc _⟩
 ·have e1 : decide (0 ≤ i ∧ i < (m : Int)) = false := decide_eq_false (fun h => h0 h.1)
  rw [e1]
  clear e1
  go_enter Tryz.func81, Tryz.ntmps81
  go_wp2_with fail
  go_ret
  exact ⟨rfl, (Same.refl _).alloc _⟩
/-- what a task does with an object: 0: nothing -/
noncomputable def roleO (o : PO) (i : Int) : Int := if kindF o.k = false then 0 else if o.ow = i then wrF o.k else if 0 ≤ idxF o.rd i then rdF o.k else 0
noncomputable def roleF (s : PS) (i k : Int) : Int := if (0 ≤ i ∧ i < s.ts.length) ∧ 0 ≤ k ∧ k < s.os.length then roleO (s.os[k.toNat]?.getD default) i else 0
theorem role_at {s : PS} {i : Int} {k : Nat} {o : PO} (hi : 0 ≤ i ∧ i < s.ts.length) (hk : s.os[k]? = some o) : roleF s i k = roleO o i := by
 unfold roleF
 have hl : k < s.os.length := by
  rcases Nat.lt_or_ge k s.os.length with h | h
  ·exact h
  ·rw [List.getElem?_eq_none h] at hk; cases hk
 rw [if_pos ⟨hi, by omega, by omega⟩, Int.toNat_natCast, hk]
 rfl
theorem role_notask {s : PS} {i k : Int} (h : ¬ (0 ≤ i ∧ i < s.ts.length)) : roleF s i k = 0 := if_neg (fun g => h g.1)
theorem role_noobj {s : PS} {i k : Int} (h : ¬ (0 ≤ k ∧ k < s.os.length)) : roleF s i k = 0 := if_neg (fun g => h g.2)
def RoleP (w : World) (r : Int) (e : Ending) (w' : World) : Prop := e = .returned (.tuple #[.int .i64 r, .bool (decide (0 < r))]) ∧ Same w w'
theorem rolep_no {w w' : World} {r : Int} (hr : r = 0) (h : Same w w') : RoleP w r (.returned (.tuple #[.int .i64 0, .bool false])) w' := by subst hr; exact ⟨rfl, h⟩
theorem rolep_yes {w w' : World} {r z : Int} (hr : r = z) (hz : 0 < z) (h : Same w w') : RoleP w r (.returned (.tuple #[.int .i64 z, .bool true])) w' := by subst hr; exact ⟨by rw [decide_eq_true hz], h⟩
theorem wr_pos (k : Int) : 0 < wrF k := by unfold wrF; split <;> omega
theorem rd_pos (k : Int) : 0 < rdF k := by unfold rdF; split <;> omega
set_option maxRecDepth 100000 in
set_option maxHeartbeats 1000000 in
theorem role_any (A B : Option Addr) (n c m d : Nat) (s : PS) (i k : Int) (w : World) (hs : SysAt w A n B m s) (hf : OFew s.os 5000) :
  Calls Tryz.prog 59 #[.agg #[.slice A n c, .slice B m d], .int .i64 i, .int .i64 k] w (RoleP w (roleF s i k)) := by
 obtain ⟨hn, hm, _, ho⟩ := hs
 have HF := Lib.hid hf
 have HN := Lib.hid hn
 have HM := Lib.hid hm
 have HO := Lib.hid ho
 have hmb : m ≤ 5000 := by have := hf.1; omega
 have HS0 := Lib.hid ((Same.refl w).alloc (.cells #[.slice A n c, .slice B m d] 25))
 have HB0 := Lib.hid (Blk.new w 25 #[.slice A n c, .slice B m d])
 have IT := Lib.hid (fun w' => istask_any A B n c m d i w')
 have IO := Lib.hid (fun w' => isobj_any A B n c m d k w')
 clear hf hn hm ho
 obtain ⟨a0, a1⟩ := (⟨HB0.out.cell 0, HB0.out.cell 1⟩ : _ ∧ _)
 simp only [Ws.q_] at a0 a1
 by_cases hi : 0 ≤ i ∧ i < (n : Int)
 ·rw [decide_eq_true hi] at IT
  have HI := Lib.hid hi
  clear hi
  by_cases hk : 0 ≤ k ∧ k < (m : Int)
  ·rw [decide_eq_true hk] at IO
   have HK := Lib.hid hk
   obtain ⟨hk1, hk2⟩ := hk
   go_enter Tryz.func59, Tryz.ntmps59
   go_wp2_with fail
   refine (IT.out _).mono ?_
   rintro e w1 ⟨rfl, s1⟩
   have HS1 := Lib.hid (HS0.out.trans s1)
   have HB1 := Lib.hid (HB0.out.same s1)
   clear s1 a0 a1
   obtain ⟨a0, a1⟩ := (⟨HB1.out.cell 0, HB1.out.cell 1⟩ : _ ∧ _)
   simp only [Ws.q_] at a0 a1
   go_wp2_with fail
   refine (IO.out _).mono ?_
   rintro e w2 ⟨rfl, s2⟩
   have HS2 := Lib.hid (HS1.out.trans s2)
   have HB2 := Lib.hid (HB1.out.same s2)
   clear s2 a0 a1 HB1 HS1
   obtain ⟨a0, a1⟩ := (⟨HB2.out.cell 0, HB2.out.cell 1⟩ : _ ∧ _)
   simp only [Ws.q_] at a0 a1
   obtain ⟨k', rfl⟩ : ∃ k' : Nat, k = k' := ⟨k.toNat, by omega⟩
   obtain ⟨x, hx⟩ : ∃ x, s.os[k']? = some x := ⟨_, List.getElem?_eq_getElem (by have := HM.out; omega)⟩
   have HR := Lib.hid (role_at (i := i) (s := s) (by rw [HN.out]; exact HI.out) hx)
   have hrd := (HF.out.2 x (List.mem_of_getElem? hx)).2
   obtain ⟨b, o, rfl, X, cX, Y, cY, d0, d1, d2, d3, d4, d5, d6, d7, _, _, _, hry, _⟩ := (HO.out.same HS2.out).at_ hx
   clear hx
   obtain ⟨k_, wd, sl, cp, sa, ow, rd, ini⟩ := x
   simp only at d0 d1 d2 d3 d4 d5 d6 d7 hry hrd
   have k0 : (0 : Int) ≤ k' := by omega
   have hs3 := (Same.refl w2).alloc (.cells #[.int .i64 k_, .int .i64 wd, .int .i64 sl, .int .i64 cp, .int .u32 sa, .slice X ini.length cX, .int .i64 ow, .slice Y rd.length cY] 34)
   have hb3 := Blk.new w2 34 #[.int .i64 k_, .int .i64 wd, .int .i64 sl, .int .i64 cp, .int .u32 sa, .slice X ini.length cX, .int .i64 ow, .slice Y rd.length cY]
   have HB3 := Lib.hid hb3
   have HS3 := Lib.hid (HS2.out.trans hs3)
   have HRY := Lib.hid (hry.same hs3)
   obtain ⟨x0, x1, x2, x3, x4, x5, x6, x7⟩ := ocs hb3
   have OPS := Lib.hid (fun w' => ops_any k_ w')
   clear hb3 hs3 hry
   by_cases hk : kindF k_ = true
   ·rw [if_pos hk, if_pos hk, hk] at OPS
    have HWZ := Lib.hid (wr_pos k_)
    have HRZ := Lib.hid (rd_pos k_)
    have HRO := Lib.hid (show roleF s i k' = if ow = i then wrF k_ else if 0 ≤ idxF rd i then rdF k_ else 0 by rw [HR.out]; unfold roleO; simp only []; rw [if_neg (by rw [hk]; decide)])
    clear hk HR
    generalize wrF k_ = z1 at *
    generalize rdF k_ = z2 at *
    by_cases hw : ow = i
    ·rw [if_pos hw] at HRO
     have hw' : (ow == i) = true := by simpa using hw
     clear hw
     go_wp2_with fail
     refine (OPS.out _).mono ?_
     rintro e w4 ⟨rfl, rfl⟩
     go_wp2_with fail
     exact bodyPost_ret (v := .tuple #[.int .i64 z1, .bool true]) (by simp [results, Tryz.results59, go_sem]) rfl (rolep_yes HRO.out HWZ.out HS3.out)
    ·rw [if_neg hw] at HRO
     have hw' : (ow == i) = false := by simpa using hw
     clear hw
     have RD := Lib.hid (Os.reader_any k_ wd sl cp sa ow X Y ini.length cX rd.length cY rd i _ rfl hrd HRY.out)
     generalize idxF rd i = y at *
     by_cases hy : 0 ≤ y
     ·rw [if_pos hy] at HRO
      rw [if_pos hy, decide_eq_true hy] at RD
      clear hy
      go_wp2_with fail
      refine (OPS.out _).mono ?_
      rintro e w4 ⟨rfl, rfl⟩
      go_wp2_with fail
      refine RD.out.mono ?_
      rintro e w5 ⟨rfl, s5⟩
      have HS5 := Lib.hid (HS3.out.trans s5)
      clear s5
      go_wp2_with fail
      exact bodyPost_ret (v := .tuple #[.int .i64 z2, .bool true]) (by simp [results, Tryz.results59, go_sem]) rfl (rolep_yes HRO.out HRZ.out HS5.out)
     ·rw [if_neg hy] at HRO
      rw [if_neg hy, decide_eq_false hy] at RD
      clear hy
      go_wp2_with fail
      refine (OPS.out _).mono ?_
      rintro e w4 ⟨rfl, rfl⟩
      go_wp2_with fail
      refine RD.out.mono ?_
      rintro e w5 ⟨rfl, s5⟩
      have HS5 := Lib.hid (HS3.out.trans s5)
      clear s5
      go_wp2_with fail
      exact bodyPost_ret (v := .tuple #[.int .i64 0, .bool false]) (by simp [results, Tryz.results59, go_sem]) rfl (rolep_no HRO.out HS5.out)
   ·have hkf : kindF k_ = false := by simpa using hk
    have HR0 := Lib.hid (show roleF s i k' = 0 by rw [HR.out]; unfold roleO; simp only []; rw [if_pos hkf])
    rw [if_neg hk, if_neg hk, hkf] at OPS
    clear hk hkf HR
    go_wp2_with fail
    refine (OPS.out _).mono ?_
    rintro e w4 ⟨rfl, rfl⟩
    go_wp2_with fail
    exact bodyPost_ret (v := .tuple #[.int .i64 0, .bool false]) (by simp [results, Tryz.results59, go_sem]) rfl (rolep_no HR0.out HS3.out)
  ·rw [decide_eq_false hk] at IO
   have HR := Lib.hid (role_noobj (s := s) (i := i) (k := k) (by rw [HM.out]; exact hk))
   clear hk
   go_enter Tryz.func59, Tryz.ntmps59
   go_wp2_with fail
   refine (IT.out _).mono ?_
   rintro e w1 ⟨rfl, s1⟩
   have HS1 := Lib.hid (HS0.out.trans s1)
   have HB1 := Lib.hid (HB0.out.same s1)
   clear s1 a0 a1
   obtain ⟨a0, a1⟩ := (⟨HB1.out.cell 0, HB1.out.cell 1⟩ : _ ∧ _)
   simp only [Ws.q_] at a0 a1
   go_wp2_with fail
   refine (IO.out _).mono ?_
   rintro e w2 ⟨rfl, s2⟩
   have HS2 := Lib.hid (HS1.out.trans s2)
   clear s2
   go_wp2_with fail
   exact bodyPost_ret (v := .tuple #[.int .i64 0, .bool false]) (by simp [results, Tryz.results59, go_sem]) rfl (rolep_no HR.out HS2.out)
 ·rw [decide_eq_false hi] at IT
  have HR := Lib.hid (role_notask (s := s) (i := i) (k := k) (by rw [HN.out]; exact hi))
  clear hi
  go_enter Tryz.func59, Tryz.ntmps59
  go_wp2_with fail
  refine (IT.out _).mono ?_
  rintro e w1 ⟨rfl, s1⟩
  have HS1 := Lib.hid (HS0.out.trans s1)
  clear s1
  go_wp2_with fail
  exact bodyPost_ret (v := .tuple #[.int .i64 0, .bool false]) (by simp [results, Tryz.results59, go_sem]) rfl (rolep_no HR.out HS1.out)
set_option maxRecDepth 100000 in
theorem writes_any (k : Int) (w : World) : Calls Tryz.prog 54 #[.int .i64 k] w fun e w' => e = .returned (.int .i64 (wrF k)) ∧ w = w' := by
 unfold wrF
 by_cases h : k = 6
 ·subst h
  go_enter Tryz.func54, Tryz.ntmps54
  go_wp2_with fail
  go_ret
  exact ⟨rfl, rfl⟩
 ·have b : (k == 6) = false := by simpa using h
  rw [if_neg h]
  clear h
  go_enter Tryz.func54, Tryz.ntmps54
  go_wp2_with fail
  go_ret
  exact ⟨rfl, rfl⟩
theorem reads_any (k : Int) (w : World) : Calls Tryz.prog 56 #[.int .i64 k] w fun e w' => e = .returned (.int .i64 (rdF k)) ∧ w = w' := by
 unfold rdF
 by_cases h : k = 6
 ·subst h
  go_enter Tryz.func56, Tryz.ntmps56
  go_wp2_with fail
  go_ret
  exact ⟨rfl, rfl⟩
 ·have b : (k == 6) = false := by simpa using h
  rw [if_neg h]
  clear h
  go_enter Tryz.func56, Tryz.ntmps56
  go_wp2_with fail
  go_ret
  exact ⟨rfl, rfl⟩
theorem ret_is {a b : Int} {w w' : World} (h : a = b) (hs : Same w w') : Ending.returned (.int .i64 a) = .returned (.int .i64 b) ∧ Same w w' := ⟨by rw [h], hs⟩
set_option maxRecDepth 100000 in
set_option maxHeartbeats 1000000 in
theorem rrole_any (A B : Option Addr) (n c m d : Nat) (s : PS) (i k : Int) (w : World) (hs : SysAt w A n B m s) (hf : OFew s.os 5000) :
  Calls Tryz.prog 33 #[.agg #[.slice A n c, .slice B m d], .int .i64 i, .int .i64 k] w fun e w' => e = .returned (.int .i64 (roleF s i k)) ∧ Same w w' := by
 obtain ⟨hn, hm, _, ho⟩ := hs
 have HF := Lib.hid hf
 have HN := Lib.hid hn
 have HM := Lib.hid hm
 have HO := Lib.hid ho
 have hmb : m ≤ 5000 := by have := hf.1; omega
 have HS0 := Lib.hid ((Same.refl w).alloc (.cells #[.slice A n c, .slice B m d] 25))
 have HB0 := Lib.hid (Blk.new w 25 #[.slice A n c, .slice B m d])
 clear hf hn hm ho
 obtain ⟨a0, a1⟩ := (⟨HB0.out.cell 0, HB0.out.cell 1⟩ : _ ∧ _)
 simp only [Ws.q_] at a0 a1
 by_cases hi : 0 ≤ i ∧ i < (n : Int)
 ·have HI := Lib.hid hi
  obtain ⟨hi1, hi2⟩ := hi
  have hi3 : ¬ i < 0 := by omega
  have hi4 : ¬ i ≥ (n : Int) := by omega
  by_cases hk : 0 ≤ k ∧ k < (m : Int)
  ·obtain ⟨hk1, hk2⟩ := hk
   have hk3 : ¬ k < 0 := by omega
   have hk4 : ¬ k ≥ (m : Int) := by omega
   obtain ⟨w2, hw2⟩ : ∃ w2, w2 = w.alloc (.cells #[.slice A n c, .slice B m d] 25) := ⟨_, rfl⟩
   rw [← hw2] at HS0 HB0 a0 a1
   have E2 := Lib.hid hw2.symm
   clear hw2
   obtain ⟨k', rfl⟩ : ∃ k' : Nat, k = k' := ⟨k.toNat, by omega⟩
   obtain ⟨x, hx⟩ : ∃ x, s.os[k']? = some x := ⟨_, List.getElem?_eq_getElem (by have := HM.out; omega)⟩
   have HR := Lib.hid (role_at (i := i) (s := s) (by rw [HN.out]; exact HI.out) hx)
   have hrd := (HF.out.2 x (List.mem_of_getElem? hx)).2
   obtain ⟨b, o, rfl, X, cX, Y, cY, d0, d1, d2, d3, d4, d5, d6, d7, _, _, _, hry, _⟩ := (HO.out.same HS0.out).at_ hx
   clear hx
   obtain ⟨k_, wd, sl, cp, sa, ow, rd, ini⟩ := x
   simp only at d0 d1 d2 d3 d4 d5 d6 d7 hry hrd
   have k0 : (0 : Int) ≤ k' := by omega
   have hs3 := (Same.refl w2).alloc (.cells #[.int .i64 k_, .int .i64 wd, .int .i64 sl, .int .i64 cp, .int .u32 sa, .slice X ini.length cX, .int .i64 ow, .slice Y rd.length cY] 34)
   have hb3 := Blk.new w2 34 #[.int .i64 k_, .int .i64 wd, .int .i64 sl, .int .i64 cp, .int .u32 sa, .slice X ini.length cX, .int .i64 ow, .slice Y rd.length cY]
   have HB3 := Lib.hid hb3
   have HS3 := Lib.hid (HS0.out.trans hs3)
   have HRY := Lib.hid (hry.same hs3)
   obtain ⟨x0, x1, x2, x3, x4, x5, x6, x7⟩ := ocs hb3
   clear hb3 hs3 hry
   by_cases hk : kindF k_ = true
   ·obtain ⟨hka, hkb⟩ := (decide_eq_true_iff).1 hk
    have HRO := Lib.hid (show roleF s i k' = if ow = i then wrF k_ else if 0 ≤ idxF rd i then rdF k_ else 0 by rw [HR.out]; unfold roleO; simp only []; rw [if_neg (by rw [hk]; decide)])
    have WR := Lib.hid (fun w' => writes_any k_ w')
    have RR := Lib.hid (fun w' => reads_any k_ w')
    clear hk HR
    have hkc : ¬ k_ < 1 := by omega
    have hkd : ¬ k_ > 6 := by omega
    generalize wrF k_ = z1 at *
    generalize rdF k_ = z2 at *
    by_cases hw : ow = i
    ·rw [if_pos hw] at HRO
     have hw' : (ow == i) = true := by simpa using hw
     clear hw
     go_enter Tryz.func33, Tryz.ntmps33
     go_upto_region 1 with fail
     rw [E2.out]
     go_wp2_with fail
     refine (WR.out _).mono ?_
     rintro e w4 ⟨rfl, rfl⟩
     go_wp2_with fail
     go_ret
     exact ret_is HRO.out.symm HS3.out
    ·rw [if_neg hw] at HRO
     have hw' : (ow == i) = false := by simpa using hw
     clear hw
     have RD := Lib.hid (Os.rreader_any k_ wd sl cp sa ow X Y ini.length cX rd.length cY rd i _ rfl hrd HRY.out)
     generalize idxF rd i = y at *
     by_cases hy : 0 ≤ y
     ·rw [if_pos hy] at HRO
      go_enter Tryz.func33, Tryz.ntmps33
      go_upto_region 1 with fail
      rw [E2.out]
      go_wp2_with fail
      refine RD.out.mono ?_
      rintro e w5 ⟨rfl, s5⟩
      have HB5 := Lib.hid (HB3.out.same s5)
      have HS5 := Lib.hid (HS3.out.trans s5)
      clear s5 x0 x1 x2 x3 x4 x5 x6 x7
      obtain ⟨x0, x1, x2, x3, x4, x5, x6, x7⟩ := ocs HB5.out
      go_wp2_with fail
      refine (RR.out _).mono ?_
      rintro e w6 ⟨rfl, rfl⟩
      go_wp2_with fail
      go_ret
      exact ret_is HRO.out.symm HS5.out
     ·rw [if_neg hy] at HRO
      go_enter Tryz.func33, Tryz.ntmps33
      go_upto_region 1 with fail
      rw [E2.out]
      go_wp2_with fail
      refine RD.out.mono ?_
      rintro e w5 ⟨rfl, s5⟩
      have HS5 := Lib.hid (HS3.out.trans s5)
      clear s5
      go_wp2_with fail
      go_ret
      exact ret_is HRO.out.symm HS5.out
   ·have hkf : kindF k_ = false := by simpa using hk
    have HR0 := Lib.hid (show roleF s i k' = 0 by rw [HR.out]; unfold roleO; simp only []; rw [if_pos hkf])
    have hkn : ¬ (1 ≤ k_ ∧ k_ ≤ 6) := fun h => hk (decide_eq_true h)
    clear hk hkf HR
    by_cases hka : k_ < 1
    ·clear hkn
     go_enter Tryz.func33, Tryz.ntmps33
     go_upto_region 1 with fail
     rw [E2.out]
     go_wp2_with fail
     go_ret
     exact ret_is HR0.out.symm HS3.out
    ·have hkb : k_ > 6 := by omega
     clear hkn
     go_enter Tryz.func33, Tryz.ntmps33
     go_upto_region 1 with fail
     rw [E2.out]
     go_wp2_with fail
     go_ret
     exact ret_is HR0.out.symm HS3.out
  ·have HR := Lib.hid (role_noobj (s := s) (i := i) (k := k) (by rw [HM.out]; exact hk))
   by_cases h0 : k < 0
   ·clear hk
    (go_enter Tryz.func33, Tryz.ntmps33; go_wp2_with fail; go_ret; exact ret_is HR.out.symm HS0.out)
   ·have h1 : k ≥ (m : Int) := by omega
    clear hk
    (go_enter Tryz.func33, Tryz.ntmps33; go_wp2_with fail; go_ret; exact ret_is HR.out.symm HS0.out)
 ·have HR := Lib.hid (role_notask (s := s) (i := i) (k := k) (by rw [HN.out]; exact hi))
  by_cases h0 : i < 0
  ·clear hi
   (go_enter Tryz.func33, Tryz.ntmps33; go_wp2_with fail; go_ret; exact ret_is HR.out.symm HS0.out)
  ·have h1 : i ≥ (n : Int) := by omega
   clear hi
   (go_enter Tryz.func33, Tryz.ntmps33; go_wp2_with fail; go_ret; exact ret_is HR.out.symm HS0.out)
end Go.Proofs.YthhbhbfkbncegaaGreatDoor.Sy
end
end
section
section
set_option linter.unusedSimpArgs false
set_option linter.unusedVariables false
set_option linter.unusedSectionVars false
namespace Go.Proofs.YthhbhbfkbncegaaGreatDoor.Wk
open Fp (Ins at_ Fine check loopsL hasB nextL lp has_iff)
open Cs (spn spn_lt spn_top spn_in lp_in lp_back lp_spn back_last last_back Ok ok_none ok_zero ok_both ok_cl clI adI bestI bothI leadI Wy Known lastIn hereI St onceS onceT onceW repW knownT weighW come0 last_known getD_set btG)

abbrev Vl : Type := { v : Int // Ok v }
/-- what is asked of 'better' -/
structure Bt (bt : Int → Int → Bool) : Prop where
 ok : ∀ a b, Ok a → Ok b → Ok (bestI bt a b)
 comm : ∀ a b, Ok a → Ok b → bestI bt a b = bestI bt b a
 assoc : ∀ a b c, Ok a → Ok b → Ok c → bestI bt (bestI bt a b) c = bestI bt a (bestI bt b c)
 dist : ∀ a b c, Ok a → Ok b → Ok c → bothI a (bestI bt b c) = bestI bt (bothI a b) (bothI a c)
theorem bt_max (a b : Int) (ha : Ok a) (hb : Ok b) : bestI btG a b = max a b := by
 unfold Ok at *; unfold bestI btG; simp only [decide_eq_true_eq]; split <;> omega
theorem bt_gt : Bt btG := by
 refine ⟨fun a b ha hb => ?_, fun a b ha hb => ?_, fun a b c ha hb hc => ?_, fun a b c ha hb hc => ?_⟩
 ·rw [bt_max a b ha hb]; unfold Ok at *; omega
 ·rw [bt_max a b ha hb, bt_max b a hb ha]; omega
 ·have h1 : Ok (max a b) := by unfold Ok at *; omega
  have h2 : Ok (max b c) := by unfold Ok at *; omega
  rw [bt_max a b ha hb, bt_max b c hb hc, bt_max _ _ h1 hc, bt_max _ _ ha h2]; omega
 ·rw [bt_max b c hb hc, bt_max _ _ (ok_both ha hb) (ok_both ha hc)]
  unfold Ok at *
  unfold bothI adI
  repeat' split
  all_goals omega
theorem both_assoc (a b c : Int) (ha : Ok a) (hb : Ok b) (hc : Ok c) : bothI (bothI a b) c = bothI a (bothI b c) := by
 unfold Ok at *; unfold bothI adI; repeat' split
 all_goals omega
theorem both_comm (a b : Int) : bothI a b = bothI b a := by
 unfold bothI adI; repeat' split
 all_goals omega
theorem both_zero (a : Int) (ha : Ok a) : bothI 0 a = a := by unfold Ok at *; unfold bothI adI; split <;> omega
theorem best_none (bt : Int → Int → Bool) (a : Int) : bestI bt a (-1) = a := by
 unfold bestI
 split
 ·rfl
 ·rename_i h
  rcases Classical.em (a = -1) with h1 | h1
  ·exact h1.symm
  ·exact absurd (.inl rfl) h
def srB (bt : Int → Int → Bool) (hb : Bt bt) : Sr Vl where
 add a b := ⟨bestI bt a.1 b.1, hb.ok _ _ a.2 b.2⟩
 mul a b := ⟨bothI a.1 b.1, ok_both a.2 b.2⟩
 zero := ⟨-1, ok_none⟩
 one := ⟨0, ok_zero⟩
 add_comm a b := Subtype.ext (hb.comm _ _ a.2 b.2)
 add_assoc a b c := Subtype.ext (hb.assoc _ _ _ a.2 b.2 c.2)
 add_zero a := Subtype.ext (best_none bt a.1)
 mul_assoc a b c := Subtype.ext (both_assoc _ _ _ a.2 b.2 c.2)
 one_mul a := Subtype.ext (both_zero _ a.2)
 mul_one a := Subtype.ext ((both_comm a.1 0).trans (both_zero _ a.2))
 zero_mul a := Subtype.ext (Cs.both_none_l a.1)
 mul_zero a := Subtype.ext (Cs.both_none_r a.1)
 dl a b c := Subtype.ext (hb.dist _ _ _ a.2 b.2 c.2)
 dr a b c := Subtype.ext (by
  show bothI (bestI bt a.1 b.1) c.1 = _
  rw [both_comm, hb.dist _ _ _ c.2 a.2 b.2, both_comm c.1, both_comm c.1])
def hW (w : List Int) (k : Nat) : Vl := ⟨clI (w.getD k 0), ok_cl _⟩
instance (v : Int) : Decidable (Ok v) := by unfold Ok; infer_instance
def ofI (v : Int) : Vl := if h : Ok v then ⟨v, h⟩ else ⟨-1, ok_none⟩
theorem ofI_val (v : Vl) : ofI v.1 = v := by unfold ofI; rw [dif_pos v.2]
def toW (x : Wy) : Wg Vl := ⟨ofI x.thru, ofI x.fin⟩
def oW (bt : Int → Int → Bool) (p : List Ins) (w : List Int) (j : Nat) : Wg Vl := toW (onceW bt p w (knownT bt p w j) (lp (loopsL p) j))
/-- the same, told in either way -/
structure Mt (x : Wy) (y : Wg Vl) : Prop where
 t : x.thru = y.thru.1
 f : x.fin = y.fin.1
theorem mt_toW {x : Wy} {y : Wg Vl} (h : Mt x y) : toW x = y := Wg.ext' (by show ofI x.thru = _; rw [h.t, ofI_val]) (by show ofI x.fin = _; rw [h.f, ofI_val])
theorem mt_pw {bt : Int → Int → Bool} (hb : Bt bt) {x : Wy} {y : Wg Vl} (h : Mt x y) (n : Nat) : Mt (repW bt x n) (pw (srB bt hb) y n) := by
 induction n with
 | zero => exact ⟨rfl, rfl⟩
 | succ n ih =>
  refine ⟨?_, ?_⟩
  ·show bothI _ _ = bothI _ _
   rw [ih.t, h.t]
  ·show bestI bt _ (bothI _ _) = bestI bt _ (bothI _ _)
   rw [ih.f, ih.t, h.f]
structure MS (n : Nat) (st : St) (fs : Fs Vl) : Prop where
 len : st.come.length = n + 1
 come : ∀ u, u ≤ n → st.come.getD u 0 = (fs.come u).1
 all : Mt st.all fs.all
section
variable {p : List Ins} {right : Ins → Bool} {bt : Int → Int → Bool} (hb : Bt bt)
theorem ms_lead {c : List Int} {f : Nat → Vl} {n : Nat} (hl : c.length = n + 1) (hc : ∀ u, u ≤ n → c.getD u 0 = (f u).1) {t v : Int} {V : Vl} (ht : t.toNat ≤ n) (hv : v = V.1) :
  (leadI bt c t v).length = n + 1 ∧ ∀ u, u ≤ n → (leadI bt c t v).getD u 0 = (leadF (srB bt hb) f t.toNat V u).1 := by
 unfold leadI leadF
 refine ⟨by rw [List.length_set]; exact hl, fun u hu => ?_⟩
 rw [getD_set]
 by_cases h : u = t.toNat
 ·rw [if_pos ⟨h.symm, by omega⟩, if_pos h, ← h, hc u hu, hv]
  rfl
 ·rw [if_neg (fun h' => h h'.1.symm), if_neg h]
  exact hc u hu
theorem ms_leads {n : Nat} {v : Int} {V : Vl} (hv : v = V.1) : ∀ (ts : List Int) (c : List Int) (f : Nat → Vl), c.length = n + 1 → (∀ u, u ≤ n → c.getD u 0 = (f u).1) → (∀ t ∈ ts, t.toNat ≤ n) →
  (ts.foldl (fun c t => leadI bt c t v) c).length = n + 1 ∧ ∀ u, u ≤ n → (ts.foldl (fun c t => leadI bt c t v) c).getD u 0 = (ts.foldl (fun c t => leadF (srB bt hb) c t.toNat V) f u).1
 | [], c, f, hl, hc, _ => ⟨hl, hc⟩
 | t :: ts, c, f, hl, hc, ht => by
  obtain ⟨h1, h2⟩ := ms_lead hb hl hc (ht t (List.mem_cons_self ..)) hv
  exact ms_leads hv ts _ _ h1 h2 fun t' h' => ht t' (List.mem_cons_of_mem _ h')
theorem last_same (w : List Int) (k : Int) (n : Nat) : (lastJ p n k = none ∧ lastIn (knownT bt p w n) k = none ∧ ∀ j, j < n → hasB (lp (loopsL p) j) k = false) ∨
  ∃ j, lastJ p n k = some j ∧ j < n ∧ hasB (lp (loopsL p) j) k = true ∧ lastIn (knownT bt p w n) k = some (lp (loopsL p) j, repW bt (onceW bt p w (knownT bt p w j) (lp (loopsL p) j)) ((at_ p (lp (loopsL p) j).2.toNat).c + 1).toNat) := by
 rcases last_known (p := p) w bt k n with ⟨hno, hl⟩ | ⟨j, hj, hbj, hlast, hl⟩
 ·exact .inl ⟨lastJ_none p hno, hl, hno⟩
 ·rcases lastJ_cases p n k with ⟨_, hno⟩ | ⟨i, e, hi, hbi, hli⟩
  ·rw [hno j hj] at hbj; cases hbj
  ·have : i = j := by
    rcases Nat.lt_trichotomy i j with h3 | h3 | h3
    ·rw [hli j h3 hj] at hbj; cases hbj
    ·exact h3
    ·rw [hlast i h3 hi] at hbi; cases hbi
   subst this
   exact .inr ⟨i, e, hi, hbi, hl⟩
variable (hF : Fine right p) (hn : ∀ j, j < p.length → 0 ≤ (at_ p j).n)
include hF hn
theorem ms_step (w : List Int) {n : Nat} (hN : n ≤ (loopsL p).length) (hone : ∀ j, j < n → Mt (onceW bt p w (knownT bt p w j) (lp (loopsL p) j)) (oW bt p w j)) {st : St} {fs : Fs Vl} (hm : MS p.length st fs) {k : Nat} (h1 : (spn p n).1 ≤ k) (h2 : (k : Int) ≤ (spn p n).2) :
  MS p.length (onceS bt p w (knownT bt p w n) (spn p n).2 st k) (fStep (srB bt hb) p (hW w) (oW bt p w) n fs k) := by
 have hs := spn_in hF hn n hN
 have hkl : k < p.length := by omega
 have hh : hereI w st.come k = ((srB bt hb).mul (fs.come k) (hW w k)).1 := by
  show bothI _ _ = bothI _ _
  rw [hm.come k (by omega)]
  rfl
 unfold onceS fStep
 rcases last_same (bt := bt) (p := p) w k n with ⟨e1, e2, hno⟩ | ⟨j, e1, hj, hbj, e2⟩
 ·rw [e1, e2]
  simp only
  split
  ·refine ⟨hm.len, hm.come, ⟨hm.all.t, ?_⟩⟩
   show bestI bt _ _ = bestI bt _ _
   rw [hm.all.f, hh]
  ·split
   ·exact ⟨hm.len, hm.come, ⟨hh, hm.all.f⟩⟩
   ·obtain ⟨h3, h4⟩ := ms_leads hb hh (nextL p k) st.come fs.come hm.len hm.come (fun t ht => by have := (hF.edge hn hkl ht).1; omega)
    exact ⟨h3, h4, hm.all⟩
 ·rw [e1, e2]
  simp only
  have hr := mt_pw hb (hone j hj) ((at_ p (lp (loopsL p) j).2.toNat).c + 1).toNat
  have hal := after_loop hF hn hj hN
  split
  ·obtain ⟨h3, h4⟩ := ms_lead hb (t := (lp (loopsL p) j).2 + 1) (v := bothI (st.come.getD k 0) (repW bt (onceW bt p w (knownT bt p w j) (lp (loopsL p) j)) ((at_ p (lp (loopsL p) j).2.toNat).c + 1).toNat).thru) (V := (srB bt hb).mul (fs.come k) (rp (srB bt hb) p (oW bt p w) j).thru) hm.len hm.come (by omega) (by
    show bothI _ _ = bothI _ _
    rw [hm.come k (by omega), hr.t]
    rfl)
   refine ⟨h3, h4, ⟨hm.all.t, ?_⟩⟩
   show bestI bt _ (bothI _ _) = bestI bt _ (bothI _ _)
   rw [hm.all.f, hm.come k (by omega), hr.f]
   rfl
  ·exact hm
theorem ms_once (w : List Int) (n : Nat) : n ≤ (loopsL p).length → Mt (onceW bt p w (knownT bt p w n) (spn p n)) (G (srB bt hb) p (hW w) (oW bt p w) n (spn p n).1.toNat) := by
 induction n using Nat.strongRecOn with
 | ind n ih =>
  intro hN
  have hs := spn_in hF hn n hN
  have hone : ∀ j, j < n → Mt (onceW bt p w (knownT bt p w j) (lp (loopsL p) j)) (oW bt p w j) := fun j hj => by
   have h1 := ih j hj (by omega)
   rw [spn_lt (by omega : j < (loopsL p).length)] at h1
   have h2 := mt_toW h1
   unfold oW
   rw [h2]
   exact h1
  rw [← once_G hF hn hN]
  have key : ∀ i : Nat, (spn p n).1 + i ≤ (spn p n).2 + 1 → MS p.length (onceT bt p w (knownT bt p w n) (spn p n).1.toNat (spn p n).2 i) (fT (srB bt hb) p (hW w) (oW bt p w) n (spn p n).1.toNat i) := by
   intro i
   induction i with
   | zero =>
    intro _
    refine ⟨by simp [onceT, come0], fun u hu => ?_, ⟨rfl, rfl⟩⟩
    show (come0 p.length (spn p n).1.toNat).getD u 0 = _
    unfold come0 fT
    rw [getD_set]
    simp only
    by_cases h : u = (spn p n).1.toNat
    ·rw [if_pos ⟨h.symm, by simp; omega⟩, if_pos h]; rfl
    ·rw [if_neg (fun h' => h h'.1.symm), if_neg h, List.getD_eq_getElem?_getD, List.getElem?_replicate, if_pos (by omega)]; rfl
   | succ i ihi =>
    intro hi
    have := ihi (by omega)
    exact ms_step hb hF hn w hN hone this (by omega) (by omega)
  exact (key ((spn p n).2 + 1 - (spn p n).1).toNat (by omega)).all
theorem oW_G (w : List Int) : ∀ j, j < (loopsL p).length → oW bt p w j = G (srB bt hb) p (hW w) (oW bt p w) j (lp (loopsL p) j).1.toNat := fun j hj => by
 have h1 := ms_once hb hF hn w j (by omega)
 rw [spn_lt hj] at h1
 exact mt_toW h1
theorem weigh_V (hC : ∀ j, j < (loopsL p).length → 0 ≤ (at_ p (lp (loopsL p) j).2.toNat).c) (w : List Int) : weighW bt p w = (V (srB bt hb) p (hW w) (oW bt p w) Sp0).1 := by
 have h1 := (ms_once hb hF hn w (loopsL p).length (Nat.le_refl _)).f
 rw [spn_top] at h1
 rw [V_start hF hn (oW_G hb hF hn w) hC]
 exact h1
omit hF hn in
theorem nzB : Nz (srB bt hb) (fun v => v.1 ≠ -1) where
 one := by show (0 : Int) ≠ -1; omega
 mul a b ha hb' := by
  show bothI a.1 b.1 ≠ -1
  have h1 := a.2
  have h2 := b.2
  unfold Ok at h1 h2
  unfold bothI adI
  split <;> omega
 left a b ha := by
  show bestI bt a.1 b.1 ≠ -1
  unfold bestI
  split
  ·exact ha
  ·omega
/-- from each state something comes, and it weighs no more than there may be -/
theorem V_pos (w : List Int) {s : Sp} (hg : Good p s) : 0 ≤ (V (srB bt hb) p (hW w) (oW bt p w) s).1 ∧ (V (srB bt hb) p (hW w) (oW bt p w) s).1 ≤ 1099511627776 := by
 have h1 := live_V hF hn (nzB hb) (h := hW w) (fun k _ => by
  have := ok_cl (w.getD k 0)
  show clI (w.getD k 0) ≠ -1
  unfold clI; omega) (oW_G hb hF hn w) (fun h => h rfl) hg
 have h2 := (V (srB bt hb) p (hW w) (oW bt p w) s).2
 unfold Ok at h2
 omega
end
end Go.Proofs.YthhbhbfkbncegaaGreatDoor.Wk
end
section
section
section
set_option linter.unusedSimpArgs false
set_option linter.unusedVariables false
set_option linter.unusedSectionVars false
namespace Go.Proofs.YthhbhbfkbncegaaGreatDoor.Wk
open Fp (Ins at_ Fine check loopsL hasB nextL lp has_iff)

/-- the next state, and how many choices were made -/
def wkN (p : List Ins) (ch : List Bool) (x : Sp × Nat) : Sp × Nat := if (at_ p x.1.pc).op = 15 then (nx p x.1 (ch.getD x.2 false), x.2 + 1) else (nx p x.1 false, x.2)
def wk (p : List Ins) (ch : List Bool) : Nat → Sp × Nat
 | 0 => (Sp0, 0)
 | i + 1 => wkN p ch (wk p ch i)
def pcs (p : List Ins) (ch : List Bool) (n : Nat) : List Int := (List.range n).map fun i => ((wk p ch i).1.pc : Int)
theorem pcs_succ (p : List Ins) (ch : List Bool) (n : Nat) : pcs p ch (n + 1) = pcs p ch n ++ [((wk p ch n).1.pc : Int)] := by
 unfold pcs
 rw [List.range_succ, List.map_append]
 rfl
/-- nobody of the first ones is a Done -/
def NoD (p : List Ins) (ch : List Bool) (n : Nat) : Prop := ∀ i, i < n → ¬ (at_ p (wk p ch i).1.pc).op = 21
section
variable {p : List Ins} {right : Ins → Bool} (hF : Fine right p) (hn : ∀ j, j < p.length → 0 ≤ (at_ p j).n)
include hF hn
theorem good_nx (hC : ∀ j, j < (loopsL p).length → 0 ≤ (at_ p (lp (loopsL p) j).2.toNat).c) {s : Sp} (hg : Good p s) (h21 : ¬ (at_ p s.pc).op = 21) (j : Bool) : Good p (nx p s j) :=
 (V_step hF hn (S := srB _ bt_gt) (h := hW []) (oW_G bt_gt hF hn []) hC hg h21).2 j
theorem good_wk (hC : ∀ j, j < (loopsL p).length → 0 ≤ (at_ p (lp (loopsL p) j).2.toNat).c) (ch : List Bool) {n : Nat} (h : NoD p ch n) : Good p (wk p ch n).1 := by
 induction n with
 | zero => exact good_start hF hn hC
 | succ n ih =>
  have hg := ih fun i hi => h i (by omega)
  rw [wk, wkN]
  split
  ·exact good_nx hF hn hC hg (h n (by omega)) _
  ·exact good_nx hF hn hC hg (h n (by omega)) _
omit hn in
end
end Go.Proofs.YthhbhbfkbncegaaGreatDoor.Wk
end
section
set_option linter.unusedSimpArgs false
set_option linter.unusedVariables false
set_option linter.unusedSectionVars false
namespace Go.Proofs.YthhbhbfkbncegaaGreatDoor.Wk
open Fp (Ins at_ Fine check loopsL hasB nextL lp has_iff)
open Cs (Ok clI adI bestI bothI weighW btG ok_cl)

/-- what places weigh, one behind the other -/
def sumL (w : List Int) (l : List Int) : Int := l.foldl (fun s k => adI s (w.getD k.toNat 0)) 0
theorem sumL_snoc (w l : List Int) (k : Int) : sumL w (l ++ [k]) = adI (sumL w l) (w.getD k.toNat 0) := by unfold sumL; rw [List.foldl_append]; rfl
theorem sumL_in (w l : List Int) : 0 ≤ sumL w l ∧ sumL w l ≤ 1099511627776 := by
 unfold sumL
 have : ∀ (l : List Int) (s : Int), 0 ≤ s ∧ s ≤ 1099511627776 → 0 ≤ l.foldl (fun s k => adI s (w.getD k.toNat 0)) s ∧ l.foldl (fun s k => adI s (w.getD k.toNat 0)) s ≤ 1099511627776 := by
  intro l
  induction l with
  | nil => intro s h; exact h
  | cons k l ih => intro s h; exact ih _ (by show 0 ≤ adI s _ ∧ adI s _ ≤ _; unfold adI; omega)
 exact this l 0 (by omega)
theorem sum_next (p : List Ins) (w : List Int) (ch : List Bool) (n : Nat) : sumL w (pcs p ch (n + 1)) = adI (sumL w (pcs p ch n)) (w.getD (wk p ch n).1.pc 0) := by
 rw [pcs_succ, sumL_snoc]
 rfl
section
variable {p : List Ins} {right : Ins → Bool} (hF : Fine right p) (hn : ∀ j, j < p.length → 0 ≤ (at_ p j).n) (hC : ∀ j, j < (loopsL p).length → 0 ≤ (at_ p (lp (loopsL p) j).2.toNat).c)
include hF hn hC
/-- one step: what is to come is what lies here and the best of what comes behind -/
theorem VB_step {bt : Int → Int → Bool} (hb : Bt bt) (w : List Int) {s : Sp} (hg : Good p s) (h21 : ¬ (at_ p s.pc).op = 21) :
  (V (srB bt hb) p (hW w) (oW bt p w) s).1 = bothI (clI (w.getD s.pc 0)) (if Jmp p s.pc then bestI bt (V (srB bt hb) p (hW w) (oW bt p w) (nx p s false)).1 (V (srB bt hb) p (hW w) (oW bt p w) (nx p s true)).1 else (V (srB bt hb) p (hW w) (oW bt p w) (nx p s false)).1) := by
 rw [(V_step hF hn (oW_G hb hF hn w) hC hg h21).1]
 show bothI _ _ = bothI _ _
 congr 1
 split <;> rfl
theorem VB_done {bt : Int → Int → Bool} (hb : Bt bt) (w : List Int) {s : Sp} (hg : Good p s) (h21 : (at_ p s.pc).op = 21) : (V (srB bt hb) p (hW w) (oW bt p w) s).1 = clI (w.getD s.pc 0) := by
 rw [V_done hF hn (oW_G hb hF hn w) hC hg h21]
 rfl
theorem VG_next (w : List Int) {s : Sp} (hg : Good p s) (h21 : ¬ (at_ p s.pc).op = 21) (j : Bool) :
  min (clI (w.getD s.pc 0) + (V (srB btG bt_gt) p (hW w) (oW btG p w) (nx p s j)).1) 1099511627776 ≤ (V (srB btG bt_gt) p (hW w) (oW btG p w) s).1 := by
 rw [VB_step hF hn hC bt_gt w hg h21]
 have h0 := V_pos bt_gt hF hn w (good_nx hF hn hC hg h21 false)
 have h1 := V_pos bt_gt hF hn w (good_nx hF hn hC hg h21 true)
 by_cases hj : Jmp p s.pc
 ·rw [if_pos hj, bt_max _ _ (.inr h0) (.inr h1)]
  cases j <;> (unfold bothI adI clI; split <;> omega)
 ·rw [if_neg hj]
  rw [nx_one hF hn hg.pc hj j]
  unfold bothI adI clI
  split <;> omega
theorem V_here {bt : Int → Int → Bool} (hb : Bt bt) (w : List Int) {s : Sp} (hg : Good p s) : clI (w.getD s.pc 0) ≤ (V (srB bt hb) p (hW w) (oW bt p w) s).1 := by
 by_cases h21 : (at_ p s.pc).op = 21
 ·rw [VB_done hF hn hC hb w hg h21]; exact Int.le_refl _
 ·have h0 := V_pos hb hF hn w hg
  rw [VB_step hF hn hC hb w hg h21] at h0 ⊢
  generalize (if Jmp p s.pc then _ else _) = x at *
  unfold bothI adI clI at *
  split <;> rename_i h
  ·rw [if_pos h] at h0; omega
  ·rw [if_neg h] at h0; omega
theorem max_pre (w : List Int) (ch : List Bool) {n : Nat} (h : NoD p ch n) : min (sumL w (pcs p ch n) + (V (srB btG bt_gt) p (hW w) (oW btG p w) (wk p ch n).1).1) 1099511627776 ≤ weighW btG p w := by
 rw [weigh_V bt_gt hF hn hC w]
 induction n with
 | zero =>
  have h0 := V_pos bt_gt hF hn w (good_start hF hn hC)
  show min (sumL w [] + _) _ ≤ _
  show min (0 + (V (srB btG bt_gt) p (hW w) (oW btG p w) Sp0).1) _ ≤ _
  omega
 | succ n ih =>
  have hN : NoD p ch n := fun i hi => h i (by omega)
  have h1 := ih hN
  have hg := good_wk hF hn hC ch hN
  have h2 : ∃ j, (wk p ch (n + 1)).1 = nx p (wk p ch n).1 j := by
   rw [wk, wkN]
   split
   ·exact ⟨_, rfl⟩
   ·exact ⟨_, rfl⟩
  obtain ⟨j, h2⟩ := h2
  have h3 := VG_next hF hn hC w hg (h n (by omega)) j
  rw [← h2] at h3
  rw [sum_next]
  have h4 := sumL_in w (pcs p ch n)
  have h5 := V_pos bt_gt hF hn w (good_wk hF hn hC ch h)
  unfold adI
  unfold clI at h3
  omega
/-- no walk, nor any beginning of one, weighs more than the dearest -/
theorem max_walk (w : List Int) (ch : List Bool) {n : Nat} (h : NoD p ch (n - 1)) : sumL w (pcs p ch n) ≤ weighW btG p w := by
 cases n with
 | zero =>
  have h1 := max_pre hF hn hC w ch (n := 0) (fun i hi => by omega)
  have h0 := V_pos bt_gt hF hn w (good_wk hF hn hC ch (n := 0) (fun i hi => by omega))
  have h2 := sumL_in w (pcs p ch 0)
  omega
 | succ n =>
  have hN : NoD p ch n := h
  have h1 := max_pre hF hn hC w ch hN
  have h3 := V_here hF hn hC bt_gt w (good_wk hF hn hC ch hN)
  rw [sum_next]
  have h4 := sumL_in w (pcs p ch n)
  unfold adI
  unfold clI at h3
  omega
end
end Go.Proofs.YthhbhbfkbncegaaGreatDoor.Wk
end
end
section
section
set_option linter.unusedSimpArgs false
set_option linter.unusedVariables false
namespace Go.Proofs.YthhbhbfkbncegaaGreatDoor.Sl
open Go.ChangeShapes Go.WideShapes Go.ChangeAt Go.RowKit Ws
open Im (PT PO PS TsAt OsAt SysAt)
open Dm

theorem weigh_in {P : List Fp.Ins} (hok : Fw.okB P = true) (hnn : ∀ j, j < P.length → 0 ≤ (Fp.at_ P j).n) (ws : List Int) : 0 ≤ Cs.weighW Cs.btG P ws ∧ Cs.weighW Cs.btG P ws ≤ 1099511627776 := by
 have hF := Fw.okB_fine hok
 have hbc : ∀ k, k < P.length → (Fp.at_ P k).op = 16 → 0 ≤ (Fp.at_ P k).c ∧ (Fp.at_ P k).c < 1099511627776 := fun k hk h16 => by
  have := Cs.back_c (hF.right k hk) h16
  omega
 have hCl : ∀ j, j < (Fp.loopsL P).length → 0 ≤ (Fp.at_ P (Fp.lp (Fp.loopsL P) j).2.toNat).c := fun j hj => by
  have h1 := Cs.lp_in hF hnn hj
  exact (hbc _ (by omega) (Cs.lp_back hF hnn hj)).1
 have h0 := Wk.max_walk hF hnn hCl ws [] (n := 0) (fun i hi => by omega)
 have h2 : Wk.sumL ws (Wk.pcs P [] 0) = 0 := rfl
 have h1 := Cs.weigh_ok hF hnn hbc ws
 unfold Cs.Ok at h1
 omega
theorem wei_bd {P : List Fp.Ins} (hnn : ∀ j, j < P.length → 0 ≤ (Fp.at_ P j).n) (ws : List Int) : 0 ≤ Cs.weI true P ws ∧ Cs.weI true P ws ≤ 1099511627776 := by
 by_cases he : Cs.weE P ws.length = 0
 ·have hok : Fw.okB P = true := by
   unfold Fw.okB
   rw [decide_eq_true_eq]
   unfold Cs.weE at he
   split at he
   ·assumption
   ·exact he
  have := weigh_in hok hnn ws
  unfold Cs.weI
  rw [if_pos he]
  exact this
 ·rw [Cs.wei_bad he]
  omega
theorem pI_nn {w : World} {A : Option Addr} {p : PT} (h : Im.Code w A p.code) : ∀ j, j < (pI p).length → 0 ≤ (Fp.at_ (pI p) j).n := (prgI h).nn
theorem dear_bd {A : Option Addr} {s : PS} {w : World} (ht : TsAt w A s.ts) (i fails : Int) : 0 ≤ dearI s i fails ∧ dearI s i fails ≤ 1099511627776 := by
 by_cases h : i < 0 ∨ (s.ts.length : Int) ≤ i
 ·rw [(dear_out (fails := fails) h).1]
  omega
 ·obtain ⟨k, rfl⟩ : ∃ k : Nat, i = k := ⟨i.toNat, by omega⟩
  have hk : k < s.ts.length := by omega
  obtain ⟨p, hp⟩ : ∃ p, s.ts[k]? = some p := ⟨s.ts[k], List.getElem?_eq_getElem hk⟩
  rw [(dear_in (fails := fails) hp).1]
  obtain ⟨_, _, _, _, _, _, _, _, _, _, _, _, hc, _⟩ := ht.at_ hp
  exact wei_bd (pI_nn hc) _
theorem dem_bd {A : Option Addr} {s : PS} {w : World} (ht : TsAt w A s.ts) (i k x y : Int) : 0 ≤ demI s i k x y ∧ demI s i k x y ≤ 1099511627776 := by
 by_cases h : (i < 0 ∨ (s.ts.length : Int) ≤ i) ∨ (k < 0 ∨ (s.os.length : Int) ≤ k)
 ·rw [dem_out h]
  omega
 ·obtain ⟨a, rfl⟩ : ∃ a : Nat, i = a := ⟨i.toNat, by omega⟩
  obtain ⟨b, rfl⟩ : ∃ b : Nat, k = b := ⟨k.toNat, by omega⟩
  have ha : a < s.ts.length := by omega
  obtain ⟨p, hp⟩ : ∃ p, s.ts[a]? = some p := ⟨s.ts[a], List.getElem?_eq_getElem ha⟩
  rw [dem_in hp (by omega)]
  obtain ⟨_, _, _, _, _, _, _, _, _, _, _, _, hc, _⟩ := ht.at_ hp
  exact wei_bd (pI_nn hc) _
end Go.Proofs.YthhbhbfkbncegaaGreatDoor.Sl
end
section
set_option linter.unusedSimpArgs false
set_option linter.unusedVariables false
namespace Go.Proofs.YthhbhbfkbncegaaGreatDoor.Sl
open Im (PT PO PS TsAt OsAt SysAt)
open Dm (demI dearI dearE)
open Go.Proofs.YthhbhbfkbncegaaGreatDoor.Wd (addv mulv ceilv)

noncomputable def readsP (s : PS) (i k : Int) : Bool := decide (Sy.roleF s i k = 1 ∧ demI s i k 17 20 ≠ 0)
def obj (s : PS) (k : Int) : PO := s.os.getD k.toNat default
def aheadP (s : PS) (i k : Int) : Bool := Ah.aheadI s.ts (obj s k).ow i
def failO (o : PO) : Int := Bd.failI o.k o.wd o.sl o.cp o.sa o.ini.length o.rd.length 1
noncomputable def ofR (s : PS) (i k : Int) : SR :=
 if readsP s i k = true then
  if aheadP s i k = true then ⟨(obj s k).k, (obj s k).sl, failO (obj s k), true, demI s (obj s k).ow k 18 19, (Ah.pt s.ts (obj s k).ow.toNat).per⟩
  else ⟨(obj s k).k, (obj s k).sl, failO (obj s k), false, 0, 0⟩
 else zeroR
noncomputable def jobL (s : PS) (i : Int) (n : Nat) : List SR := (List.range n).map (fun (k : Nat) => ofR s i k)
noncomputable def jobI (s : PS) (i r : Int) : Int := if dearE s i 0 = 0 then stepsR (dearI s i 0) (jobL s i s.os.length) r else 0
theorem jobL_len (s : PS) (i : Int) (n : Nat) : (jobL s i n).length = n := by simp [jobL]
theorem jobL_succ (s : PS) (i : Int) (n : Nat) : jobL s i (n + 1) = jobL s i n ++ [ofR s i n] := by
 unfold jobL
 rw [List.range_succ, List.map_append]
 rfl
theorem of_no {s : PS} {i k : Int} (h : readsP s i k = false) : ofR s i k = zeroR := if_neg (by rw [h]; exact Bool.noConfusion)
theorem of_behind {s : PS} {i k : Int} (h : readsP s i k = true) (g : aheadP s i k = false) : ofR s i k = ⟨(obj s k).k, (obj s k).sl, failO (obj s k), false, 0, 0⟩ := by
 unfold ofR
 rw [if_pos h, if_neg (by rw [g]; exact Bool.noConfusion)]
theorem of_ahead {s : PS} {i k : Int} (h : readsP s i k = true) (g : aheadP s i k = true) : ofR s i k = ⟨(obj s k).k, (obj s k).sl, failO (obj s k), true, demI s (obj s k).ow k 18 19, (Ah.pt s.ts (obj s k).ow.toNat).per⟩ := by
 unfold ofR
 rw [if_pos h, if_pos g]
theorem wr_zero (r : Int) : wrR zeroR r = 0 := wr_none rfl r
theorem fl_zero (r : Int) : flR zeroR r = 0 := fl_none rfl r
/-- the document's Writes -/
theorem wr_doc (s : PS) (i k r : Int) : wrR (ofR s i k) r = if readsP s i k = true ∧ aheadP s i k = true then mulv (ceilv r (Ah.pt s.ts (obj s k).ow.toNat).per) (demI s (obj s k).ow k 18 19) else 0 := by
 cases h : readsP s i k with
 | false =>
  rw [of_no h, wr_zero, if_neg (fun g => by cases g.1)]
 | true =>
  cases g : aheadP s i k with
  | false => rw [of_behind h g, wr_none rfl, if_neg (fun g => by cases g.2)]
  | true =>
   rw [of_ahead h g, if_pos ⟨rfl, rfl⟩, mulv_comm]
   rfl
theorem of_k {s : PS} {i k : Int} (h : readsP s i k = true) : (ofR s i k).k = (obj s k).k ∧ (ofR s i k).sl = (obj s k).sl ∧ (ofR s i k).fl = failO (obj s k) := by
 cases g : aheadP s i k with
 | false => rw [of_behind h g]; exact ⟨rfl, rfl, rfl⟩
 | true => rw [of_ahead h g]; exact ⟨rfl, rfl, rfl⟩
/-- the document's Fails -/
theorem fl_doc (s : PS) (i k r : Int) : flR (ofR s i k) r = if wrR (ofR s i k) r = 0 ∨ (¬ (obj s k).k = 3 ∧ ¬ (obj s k).k = 5 ∧ ¬ (obj s k).k = 4) then 0 else if (obj s k).k = 4 ∧ 2 < (obj s k).sl then wrR (ofR s i k) r / ((obj s k).sl - 1) else wrR (ofR s i k) r := by
 cases h : readsP s i k with
 | false =>
  have e : wrR (ofR s i k) r = 0 := by rw [of_no h, wr_zero]
  rw [if_pos (.inl e), of_no h, fl_zero]
 | true =>
  obtain ⟨e1, e2, _⟩ := of_k h
  unfold flR
  rw [e1, e2]
  generalize wrR (ofR s i k) r = n
  by_cases h0 : n = 0
  ·subst h0
   have hl : (if (obj s k).k = 3 ∨ (obj s k).k = 5 then (0 : Int) else if (obj s k).k = 4 then 0 / (max (obj s k).sl 2 - 1) else 0) = 0 := by
    split
    ·rfl
    ·split
     ·exact Int.zero_ediv _
     ·rfl
   rw [hl, if_pos (.inl rfl)]
  ·by_cases h1 : (obj s k).k = 3 ∨ (obj s k).k = 5
   ·rw [if_pos h1, if_neg (by omega), if_neg (by omega)]
   ·by_cases h2 : (obj s k).k = 4
    ·rw [if_neg h1, if_pos h2, if_neg (by omega)]
     by_cases h3 : 2 < (obj s k).sl
     ·rw [if_pos ⟨h2, h3⟩, show max (obj s k).sl 2 = (obj s k).sl from by omega]
     ·rw [if_neg (fun h => h3 h.2), show max (obj s k).sl 2 - 1 = 1 from by omega, Int.ediv_one]
    ·rw [if_neg h1, if_neg h2, if_pos (by omega)]
theorem steps_bd (n : Int) (hn : 0 ≤ n ∧ n ≤ 1099511627776) (l : List SR) (r : Int) : 0 ≤ stepsR n l r ∧ stepsR n l r ≤ 1099511627776 := by
 induction l generalizing n with
 | nil => exact hn
 | cons x l ih => exact ih _ (addv_bd _ _)
/-- a round of the document's Job -/
theorem job_no {s : PS} {i : Int} {k : Nat} {r n : Int} (hn : 0 ≤ n ∧ n ≤ 1099511627776) (h : readsP s i k = false) : stepsR n (jobL s i (k + 1)) r = stepsR n (jobL s i k) r := by
 rw [jobL_succ, steps_snoc, of_no h, fl_zero, mulv_zero, addv_zero (steps_bd n hn _ _)]
theorem job_yes {s : PS} {i : Int} {k : Nat} {r n : Int} (h : readsP s i k = true) : stepsR n (jobL s i (k + 1)) r = addv (stepsR n (jobL s i k) r) (mulv (flR (ofR s i k) r) (failO (obj s k))) := by
 rw [jobL_succ, steps_snoc, (of_k h).2.2]
end Go.Proofs.YthhbhbfkbncegaaGreatDoor.Sl
end
end
end
end
