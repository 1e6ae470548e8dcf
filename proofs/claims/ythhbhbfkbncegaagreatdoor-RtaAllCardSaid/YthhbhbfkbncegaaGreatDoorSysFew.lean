/-

 A system that came in: chapter 31's Few, and what it says when it says yes.
-/
import Derived.Test.YthhbhbfkbncegaaGreatDoorImgIn
import Derived.WalkLawsBesides
import Derived.Deep.LoopGhost
import Derived.Lib.Hide
import Derived.ProofKit
import Derived.WalkKit
import Derived.BigQuiet
set_option linter.unusedVariables false
set_option linter.unusedSimpArgs false
namespace Go.Proofs.YthhbhbfkbncegaaGreatDoor.Sy
open Go.ChangeShapes Go.WideShapes Go.ChangeAt Go.RowKit Ws
open Go.Proofs.YthhbhbfkbncegaaGreatDoor.Im (PT PO PS TsAt OsAt SysAt Code tcells ocells)

theorem tcs {w : World} {b : Nat} {T : TypeId} {v0 v1 v2 v3 v4 v5 v6 : Value} (h : Blk w b T #[v0, v1, v2, v3, v4, v5, v6]) : w.cell? ⟨b, 0, none⟩ = some v0 ∧ w.cell? ⟨b, 1, none⟩ = some v1 ∧ w.cell? ⟨b, 2, none⟩ = some v2 ∧ w.cell? ⟨b, 3, none⟩ = some v3 ∧ w.cell? ⟨b, 4, none⟩ = some v4 ∧ w.cell? ⟨b, 5, none⟩ = some v5 ∧ w.cell? ⟨b, 6, none⟩ = some v6 :=
 ⟨h.cell 0, h.cell 1, h.cell 2, h.cell 3, h.cell 4, h.cell 5, h.cell 6⟩
theorem ocs {w : World} {b : Nat} {T : TypeId} {v0 v1 v2 v3 v4 v5 v6 v7 : Value} (h : Blk w b T #[v0, v1, v2, v3, v4, v5, v6, v7]) : w.cell? ⟨b, 0, none⟩ = some v0 ∧ w.cell? ⟨b, 1, none⟩ = some v1 ∧ w.cell? ⟨b, 2, none⟩ = some v2 ∧ w.cell? ⟨b, 3, none⟩ = some v3 ∧ w.cell? ⟨b, 4, none⟩ = some v4 ∧ w.cell? ⟨b, 5, none⟩ = some v5 ∧ w.cell? ⟨b, 6, none⟩ = some v6 ∧ w.cell? ⟨b, 7, none⟩ = some v7 :=
 ⟨h.cell 0, h.cell 1, h.cell 2, h.cell 3, h.cell 4, h.cell 5, h.cell 6, h.cell 7⟩
def TFew (ts : List PT) (N : Int) : Prop := (ts.length : Int) ≤ N ∧ ∀ p ∈ ts, p.code.length ≤ 200
def OFew (os : List PO) (N : Int) : Prop := (os.length : Int) ≤ N ∧ ∀ p ∈ os, p.ini.length ≤ 100 ∧ p.rd.length ≤ 100
/-- some truth value: if it is yes, then so is P -/
def Says (P : Prop) (w : World) (e : Ending) (w' : World) : Prop := (∃ b : Bool, e = .returned (.bool b) ∧ (b = true → P)) ∧ Same w w'
theorem says_no {P : Prop} {w w' : World} (h : Same w w') : Says P w (.returned (.bool false)) w' := ⟨⟨false, rfl, fun h => by cases h⟩, h⟩
theorem says_yes {P : Prop} {w w' : World} (hp : P) (h : Same w w') : Says P w (.returned (.bool true)) w' := ⟨⟨true, rfl, fun _ => hp⟩, h⟩
theorem all_next {α : Type} {l : List α} {P : α → Prop} {k : Nat} {x : α} (h : ∀ y ∈ l.take k, P y) (hx : l[k]? = some x) (hp : P x) : ∀ y ∈ l.take (k + 1), P y := by
 intro y hy
 rw [List.take_add_one, hx] at hy
 rcases List.mem_append.1 hy with hy | hy
 ·exact h y hy
 ·simp at hy
  subst hy
  exact hp
theorem all_of {α : Type} {l : List α} {P : α → Prop} {k : Nat} (hk : l.length = k) (h : ∀ y ∈ l.take k, P y) : ∀ y ∈ l, P y := by
 rw [List.take_of_length_le (by omega)] at h
 exact h
set_option maxRecDepth 100000 in
theorem few26 (A : Option Addr) (m c : Nat) (ts : List PT) (n : Int) (w : World) (hl : ts.length = m) (hm : m ≤ 9223372036854775807) (ht : TsAt w A ts) :
 Calls Tryz.prog 30 #[.slice A m c, .int .i64 n] w (Says (TFew ts n) w) := by
 have HT := Lib.hid ht
 have HL := Lib.hid hl
 clear ht hl
 by_cases h1 : (m : Int) > n
 ·go_enter Tryz.func30, Tryz.ntmps30
  go_wp2_with fail
  go_ret
  exact says_no (Same.refl _)
 ·go_enter Tryz.func30, Tryz.ntmps30
  go_wp2_with fail
  go_loopg [13] m (fun gk iv wx => ∃ k : Nat, k + gk = m ∧ iv = .int .i64 k ∧ Hid (∀ p ∈ ts.take k, p.code.length ≤ 200) ∧ Same w wx)
  case atStart => exact ⟨0, by omega, rfl, Lib.hid (fun p hp => by simp at hp), Same.refl _⟩
  case round =>
   obtain ⟨k, hk, rfl, HQ, sx⟩ := hrel
   have HS := Lib.hid sx
   clear sx
   cases gk with
   | zero =>
    obtain rfl : k = m := by omega
    have hge : ¬ (k : Int) < (k : Int) := by omega
    go_wp2_with fail
    go_ret
    exact says_yes ⟨by rw [HL.out]; omega, all_of HL.out HQ.out⟩ HS.out
   | succ GK =>
    have hlt : (k : Int) < m := by omega
    have k0 : (0 : Int) ≤ k := by omega
    obtain ⟨x, hx⟩ : ∃ x, ts[k]? = some x := ⟨_, List.getElem?_eq_getElem (by have := HL.out; omega)⟩
    obtain ⟨b, o, rfl, X, cX, c0, c1, c2, c3, c4, c5, c6, _, _⟩ := (HT.out.same HS.out).at_ hx
    have HN := Lib.hid (fun h => all_next HQ.out hx h)
    clear hx
    obtain ⟨kind, prio, per, off, dl, own, code⟩ := x
    simp only at c0 c1 c2 c3 c4 c5 c6
    have HS2 := Lib.hid (HS.out.alloc (.cells #[.int .i64 kind, .int .i64 prio, .int .i64 per, .int .i64 off, .int .i64 dl, .int .i64 own, .slice X code.length cX] 47))
    obtain ⟨q0, q1, q2, q3, q4, q5, q6⟩ := tcs (Blk.new wr 47 #[.int .i64 kind, .int .i64 prio, .int .i64 per, .int .i64 off, .int .i64 dl, .int .i64 own, .slice X code.length cX])
    by_cases h2 : (code.length : Int) > 200
    ·go_wp2_with fail
     go_ret
     exact says_no HS2.out
    ·have HN2 := Lib.hid (HN.out (by simp only; omega))
     clear HN
     go_wp2_with fail
     go_roundg GK
     case rel => exact ⟨k + 1, by omega, by go_num, HN2, HS2.out⟩
     case measure => omega
set_option maxRecDepth 100000 in
theorem small14 (k wd sl cp sa ow : Int) (ia ra : Option Addr) (il ic rl rc : Nat) (w : World) : Calls Tryz.prog 31 #[.agg #[.int .i64 k, .int .i64 wd, .int .i64 sl, .int .i64 cp, .int .u32 sa, .slice ia il ic, .int .i64 ow, .slice ra rl rc]] w (Says (il ≤ 100 ∧ rl ≤ 100) w) := by
 by_cases h : (il : Int) ≤ 100
 ·by_cases h2 : (rl : Int) ≤ 100
  ·have HP := Lib.hid (show il ≤ 100 ∧ rl ≤ 100 by omega)
   go_enter Tryz.func31, Tryz.ntmps31
   go_wp2_with fail
   go_ret
   exact says_yes HP.out ((Same.refl _).alloc _)
  ·go_enter Tryz.func31, Tryz.ntmps31
   go_wp2_with fail
   go_ret
   exact says_no ((Same.refl _).alloc _)
 ·go_enter Tryz.func31, Tryz.ntmps31
  go_wp2_with fail
  go_ret
  exact says_no ((Same.refl _).alloc _)
set_option maxRecDepth 100000 in
set_option maxHeartbeats 1000000 in
theorem few31 (A B : Option Addr) (n c m d : Nat) (s : PS) (N : Int) (w : World) (hs : SysAt w A n B m s) (hnm : n ≤ maxLen ∧ m ≤ maxLen) :
 Calls Tryz.prog 9 #[.agg #[.slice A n c, .slice B m d], .int .i64 N] w (Says (TFew s.ts N ∧ OFew s.os N) w) := by
 obtain ⟨hnb, hmb⟩ := hnm
 unfold maxLen at hnb hmb
 obtain ⟨hn, hm, ht, ho⟩ := hs
 have hs0 := (Same.refl w).alloc (.cells #[.slice A n c, .slice B m d] 25)
 have HB0 := Lib.hid (Blk.new w 25 #[.slice A n c, .slice B m d])
 have HS0 := Lib.hid hs0
 have FT := Lib.hid (few26 A n c s.ts N _ hn hnb (ht.same hs0))
 have HM := Lib.hid hm
 have HO := Lib.hid ho
 clear hs0 hn hm ht ho
 have a0 : (w.alloc (.cells #[.slice A n c, .slice B m d] 25)).cell? ⟨w.heap.size, 0, none⟩ = some (.slice A n c) := HB0.out.cell 0
 go_enter Tryz.func9, Tryz.ntmps9
 go_wp2_with fail
 refine FT.out.mono ?_
 rintro e w1 ⟨⟨b, rfl, hb⟩, s1⟩
 have HS1 := Lib.hid (HS0.out.trans s1)
 have a1 : w1.cell? ⟨w.heap.size, 1, none⟩ = some (.slice B m d) := (HB0.out.same s1).cell 1
 have HTF := Lib.hid hb
 clear s1 a0 FT hb
 cases b with
 | false =>
  go_wp2_with fail
  go_ret
  exact says_no HS1.out
 | true =>
  by_cases hm60 : (m : Int) > N
  ·go_wp2_with fail
   go_ret
   exact says_no HS1.out
  ·go_wp2_with fail
   clear a1
   go_loopg [22] m (fun gk iv wx => ∃ k : Nat, k + gk = m ∧ iv = .int .i64 k ∧ Hid (∀ p ∈ s.os.take k, p.ini.length ≤ 100 ∧ p.rd.length ≤ 100) ∧ Same w wx)
   case atStart => exact ⟨0, by omega, rfl, Lib.hid (fun p hp => by simp at hp), HS1.out⟩
   case round =>
    obtain ⟨k, hk, rfl, HQ, sx⟩ := hrel
    have HS := Lib.hid sx
    clear sx
    cases gk with
    | zero =>
     obtain rfl : k = m := by omega
     have hge : ¬ (k : Int) < (k : Int) := by omega
     go_wp2_with fail
     go_ret
     exact says_yes ⟨HTF.out (by first | rfl | trivial), by rw [HM.out]; omega, all_of HM.out HQ.out⟩ HS.out
    | succ GK =>
     have hlt : (k : Int) < m := by omega
     have k0 : (0 : Int) ≤ k := by omega
     obtain ⟨x, hx⟩ : ∃ x, s.os[k]? = some x := ⟨_, List.getElem?_eq_getElem (by have := HM.out; omega)⟩
     obtain ⟨b, o, rfl, X, cX, Y, cY, d0, d1, d2, d3, d4, d5, d6, d7, _⟩ := (HO.out.same HS.out).at_ hx
     have HN := Lib.hid (fun h => all_next HQ.out hx h)
     clear hx
     obtain ⟨k_, wd, sl, cp, sa, ow, rd, ini⟩ := x
     simp only at d0 d1 d2 d3 d4 d5 d6 d7
     have HX := Lib.hid (HS.out.alloc (.cells #[.int .i64 k_, .int .i64 wd, .int .i64 sl, .int .i64 cp, .int .u32 sa, .slice X ini.length cX, .int .i64 ow, .slice Y rd.length cY] 34))
     obtain ⟨x0, x1, x2, x3, x4, x5, x6, x7⟩ := ocs (Blk.new wr 34 #[.int .i64 k_, .int .i64 wd, .int .i64 sl, .int .i64 cp, .int .u32 sa, .slice X ini.length cX, .int .i64 ow, .slice Y rd.length cY])
     have SM := Lib.hid (fun w' => small14 k_ wd sl cp sa ow X Y ini.length cX rd.length cY w')
     go_wp2_with fail
     refine (SM.out _).mono ?_
     rintro e w3 ⟨⟨b, rfl, hb⟩, s3⟩
     have HS3 := Lib.hid (HX.out.trans s3)
     have HBB := Lib.hid hb
     clear s3 hb
     cases b with
     | false =>
      go_wp2_with fail
      go_ret
      exact says_no HS3.out
     | true =>
      have HN2 := Lib.hid (HN.out (HBB.out (by first | rfl | trivial)))
      clear HN
      go_wp2_with fail
      go_roundg GK
      case rel => exact ⟨k + 1, by omega, by go_num, HN2, HS3.out⟩
      case measure => omega
end Go.Proofs.YthhbhbfkbncegaaGreatDoor.Sy
