/-

 Contracts of package flow (layer 10): what is wrong of a program first, and where.
-/
import Derived.Test.YthhbhbfkbncegabGreatDoorIsaTab
import Derived.Test.YthhbhbfkbncegabGreatDoorFlowMore
import Derived.Test.YthhbhbfkbncegabGreatDoorWordsK
import Derived.Deep.LoopGhost
import Derived.Deep.RegionHeld3
import Derived.BigQuiet
section
set_option linter.unusedSimpArgs false
set_option linter.unusedVariables false
namespace Go.Proofs.YthhbhbfkbncegabGreatDoor.Is
open Go.ChangeShapes Go.WideShapes Go.ChangeAt Go.RowKit Ws

theorem ret_bool {a b : Bool} (h : a = b) : Ending.returned (.bool a) = .returned (.bool b) := by rw [h]

def ins (op a b c n : Int) : Value := .agg #[.int .i64 op, .int .i64 a, .int .i64 b, .int .i64 c, .int .u32 n]

theorem iskind_any (op : Int) (w : World) :
 Calls Tryz.prog 110 #[.int .i64 op] w fun e w' => e = .returned (.bool (decide (0 ≤ op ∧ op < 22))) ∧ w = w' := by
 go_enter Tryz.func110, Tryz.ntmps110
 go_wp2
 all_goals
  go_ret
  exact ⟨ret_bool (by simp; omega), rfl⟩

theorem values_any (op a b c n : Int) (hn : 0 ≤ n ∧ n < 4294967296) (w : World) :
 Calls Tryz.prog 111 #[ins op a b c n] w fun e w' => e = .returned (.agg #[.int .i64 a, .int .i64 b, .int .i64 c, .int .i64 n]) ∧ Same w w' := by
 unfold ins
 go_enter Tryz.func111, Tryz.ntmps111
 go_wp2
 exact bodyPost_ret (v := .agg #[.int .i64 a, .int .i64 b, .int .i64 c, .int .i64 n]) (by simp [results, Tryz.results111, go_sem]) rfl ⟨rfl, ((Same.refl _).alloc _).alloc _⟩

def val4 (a b c n : Int) (k : Nat) : Int := if k = 0 then a else if k = 1 then b else if k = 2 then c else n

theorem right_of {o : Nat} (ho : o < 22) (a b c n : Int) : rightB (o : Int) a b c n = (fitB (hasC o 0) a && (fitB (hasC o 1) b && (fitB (hasC o 2) c && fitB (hasC o 3) n))) := by
 unfold rightB
 rw [show decide (0 ≤ (o : Int) ∧ (o : Int) < 22) = true by simp; omega]
 rfl
theorem right_yes {o : Nat} (ho : o < 22) {a b c n : Int} (h : ∀ j, j < 4 → fitB (hasC o j) (val4 a b c n j) = true) : rightB (o : Int) a b c n = true := by
 rw [right_of ho]
 have h0 : fitB (hasC o 0) a = true := h 0 (by decide)
 have h1 : fitB (hasC o 1) b = true := h 1 (by decide)
 have h2 : fitB (hasC o 2) c = true := h 2 (by decide)
 have h3 : fitB (hasC o 3) n = true := h 3 (by decide)
 rw [h0, h1, h2, h3]
 rfl
theorem right_no {o : Nat} (ho : o < 22) {a b c n : Int} {k : Nat} (hk : k < 4) (h : fitB (hasC o k) (val4 a b c n k) = false) : rightB (o : Int) a b c n = false := by
 rw [right_of ho]
 rcases (by omega : k = 0 ∨ k = 1 ∨ k = 2 ∨ k = 3) with rfl | rfl | rfl | rfl
 ·have h : fitB (hasC o 0) a = false := h
  rw [h]; rfl
 ·have h : fitB (hasC o 1) b = false := h
  rw [h]; simp
 ·have h : fitB (hasC o 2) c = false := h
  rw [h]; simp
 ·have h : fitB (hasC o 3) n = false := h
  rw [h]; simp

set_option maxHeartbeats 1000000 in
theorem right_any (op a b c n : Int) (hn : 0 ≤ n ∧ n < 4294967296) (w : World) (ht : Tabs w) :
 Calls Tryz.prog 98 #[ins op a b c n] w fun e w' => e = .returned (.bool (rightB op a b c n)) ∧ Same w w' := by
 unfold ins
 by_cases ho : 0 ≤ op ∧ op < 22
 ·obtain ⟨o, rfl⟩ : ∃ o : Nat, op = (o : Int) := ⟨op.toNat, by omega⟩
  have ho2 : o < 22 := by omega
  have hd : decide (0 ≤ (o : Int) ∧ (o : Int) < 22) = true := by simp; omega
  have HD := Lib.hid hd
  have HT := Lib.hid ht
  clear hd ht ho
  go_enter Tryz.func98, Tryz.ntmps98
  go_wp2_with fail
  refine (iskind_any _ _).mono ?_
  rintro e w1 ⟨rfl, rfl⟩
  rw [HD.out]
  go_wp2_with fail
  refine (values_any _ _ _ _ _ hn _).mono ?_
  rintro e w2 ⟨rfl, s2⟩
  have b0 := s2.new (i := 0) rfl
  have t2 := HT.out.same (((Same.refl _).alloc _).trans s2)
  have s02 := Same.trans ((Same.refl w).alloc _) s2
  clear s2
  have b0' : w2.cell? ⟨w.heap.size, 0, none⟩ = some (.int .i64 (o : Int)) := b0
  clear b0
  have i0 : ∀ w, (Instr.index 131 (.agg #[.int .i64 a, .int .i64 b, .int .i64 c, .int .i64 n]) (.int .i64 0)).run Tryz.prog w = .ok (.int .i64 a) w := fun _ => by kernel_rfl
  have i1 : ∀ w, (Instr.index 131 (.agg #[.int .i64 a, .int .i64 b, .int .i64 c, .int .i64 n]) (.int .i64 1)).run Tryz.prog w = .ok (.int .i64 b) w := fun _ => by kernel_rfl
  have i2 : ∀ w, (Instr.index 131 (.agg #[.int .i64 a, .int .i64 b, .int .i64 c, .int .i64 n]) (.int .i64 2)).run Tryz.prog w = .ok (.int .i64 c) w := fun _ => by kernel_rfl
  have i3 : ∀ w, (Instr.index 131 (.agg #[.int .i64 a, .int .i64 b, .int .i64 c, .int .i64 n]) (.int .i64 3)).run Tryz.prog w = .ok (.int .i64 n) w := fun _ => by kernel_rfl
  have T2 := Lib.hid t2
  have S02 := Lib.hid s02
  have B0 := Lib.hid b0'
  clear t2 s02 b0'
  generalize w.heap.size = g at *
  go_wp2_with fail
  go_loopg [12] 4 (fun gk i wx => ∃ k : Nat, k + gk = 4 ∧ i = .int .i64 k ∧ (∀ j, j < k → fitB (hasC o j) (val4 a b c n j) = true) ∧ Same w2 wx)
  case atStart => exact ⟨0, by omega, rfl, fun j hj => absurd hj (by omega), Same.refl _⟩
  case round =>
   obtain ⟨k, hkg, rfl, hall, sx⟩ := hrel
   have HA := Lib.hid hall
   clear hall
   have bx := sx.cell B0.out
   have tx := T2.out.same sx
   cases gk with
   | zero =>
    obtain rfl : k = 4 := by omega
    go_wp2_with fail
    go_ret
    exact ⟨ret_bool (right_yes ho2 HA.out).symm, S02.out.trans sx⟩
   | succ gk =>
    rcases (by omega : k = 0 ∨ k = 1 ∨ k = 2 ∨ k = 3) with rfl | rfl | rfl | rfl
    ·have hk : wr.cell? ⟨1, o * 7 + 1, none⟩ = some (.int .i64 ((hasC o 0 : Nat) : Int)) := tx.kinds _ _ (kind_at ho2 (show 0 < 4 by decide))
     have hlt := has_lt o 0
     have HB := Lib.hid (bound_at hlt)
     obtain ⟨q, hq⟩ : ∃ q, q = hasC o 0 := ⟨_, rfl⟩
     rw [← hq] at hk hlt HB
     have bl := tx.bounds _ _ HB.out.1
     have bh := tx.bounds _ _ HB.out.2
     obtain ⟨x, hx⟩ : ∃ x, x = loL.getD q 0 := ⟨_, rfl⟩
     obtain ⟨y, hy⟩ : ∃ y, y = hiL.getD q 0 := ⟨_, rfl⟩
     rw [← hx] at bl
     rw [← hy] at bh
     have hf : fitB (hasC o 0) (val4 a b c n 0) = decide ((x : Int) ≤ a ∧ a ≤ (y : Int)) := by rw [← hq, hx, hy]; rfl
     have HF := Lib.hid hf
     have TX := Lib.hid tx
     clear hq hx hy hf tx HB
     by_cases h1 : a < (x : Int)
     ·have d1 : decide (a < (x : Int)) = true := decide_eq_true h1
      go_wp2_with fail
      go_ret
      exact ⟨ret_bool (by rw [right_no ho2 (show 0 < 4 by decide) (HF.out.trans (by simp; omega))]), S02.out.trans (sx.alloc _)⟩
     ·by_cases h2 : (y : Int) < a
      ·have d1 : decide (a < (x : Int)) = false := decide_eq_false h1
       have d2 : decide ((y : Int) < a) = true := decide_eq_true h2
       go_wp2_with fail
       go_ret
       exact ⟨ret_bool (by rw [right_no ho2 (show 0 < 4 by decide) (HF.out.trans (by simp; omega))]), S02.out.trans (sx.alloc _)⟩
      ·have d1 : decide (a < (x : Int)) = false := decide_eq_false h1
       have d2 : decide ((y : Int) < a) = false := decide_eq_false h2
       go_wp2_with fail
       go_roundg gk
       case measure => omega
       case rel => exact ⟨0 + 1, by omega, by go_num, fun j hj => by
        rcases (by omega : j < 0 ∨ j = 0) with hj | rfl
        ·exact HA.out j hj
        ·exact HF.out.trans (by simp; omega), sx.alloc _⟩
    ·have hk : wr.cell? ⟨1, o * 7 + 1 + 1, none⟩ = some (.int .i64 ((hasC o 1 : Nat) : Int)) := tx.kinds _ _ (kind_at ho2 (show 1 < 4 by decide))
     have hlt := has_lt o 1
     have HB := Lib.hid (bound_at hlt)
     obtain ⟨q, hq⟩ : ∃ q, q = hasC o 1 := ⟨_, rfl⟩
     rw [← hq] at hk hlt HB
     have bl := tx.bounds _ _ HB.out.1
     have bh := tx.bounds _ _ HB.out.2
     obtain ⟨x, hx⟩ : ∃ x, x = loL.getD q 0 := ⟨_, rfl⟩
     obtain ⟨y, hy⟩ : ∃ y, y = hiL.getD q 0 := ⟨_, rfl⟩
     rw [← hx] at bl
     rw [← hy] at bh
     have hf : fitB (hasC o 1) (val4 a b c n 1) = decide ((x : Int) ≤ b ∧ b ≤ (y : Int)) := by rw [← hq, hx, hy]; rfl
     have HF := Lib.hid hf
     have TX := Lib.hid tx
     clear hq hx hy hf tx HB
     by_cases h1 : b < (x : Int)
     ·have d1 : decide (b < (x : Int)) = true := decide_eq_true h1
      go_wp2_with fail
      go_ret
      exact ⟨ret_bool (by rw [right_no ho2 (show 1 < 4 by decide) (HF.out.trans (by simp; omega))]), S02.out.trans (sx.alloc _)⟩
     ·by_cases h2 : (y : Int) < b
      ·have d1 : decide (b < (x : Int)) = false := decide_eq_false h1
       have d2 : decide ((y : Int) < b) = true := decide_eq_true h2
       go_wp2_with fail
       go_ret
       exact ⟨ret_bool (by rw [right_no ho2 (show 1 < 4 by decide) (HF.out.trans (by simp; omega))]), S02.out.trans (sx.alloc _)⟩
      ·have d1 : decide (b < (x : Int)) = false := decide_eq_false h1
       have d2 : decide ((y : Int) < b) = false := decide_eq_false h2
       go_wp2_with fail
       go_roundg gk
       case measure => omega
       case rel => exact ⟨1 + 1, by omega, by go_num, fun j hj => by
        rcases (by omega : j < 1 ∨ j = 1) with hj | rfl
        ·exact HA.out j hj
        ·exact HF.out.trans (by simp; omega), sx.alloc _⟩
    ·have hk : wr.cell? ⟨1, o * 7 + 1 + 2, none⟩ = some (.int .i64 ((hasC o 2 : Nat) : Int)) := tx.kinds _ _ (kind_at ho2 (show 2 < 4 by decide))
     have hlt := has_lt o 2
     have HB := Lib.hid (bound_at hlt)
     obtain ⟨q, hq⟩ : ∃ q, q = hasC o 2 := ⟨_, rfl⟩
     rw [← hq] at hk hlt HB
     have bl := tx.bounds _ _ HB.out.1
     have bh := tx.bounds _ _ HB.out.2
     obtain ⟨x, hx⟩ : ∃ x, x = loL.getD q 0 := ⟨_, rfl⟩
     obtain ⟨y, hy⟩ : ∃ y, y = hiL.getD q 0 := ⟨_, rfl⟩
     rw [← hx] at bl
     rw [← hy] at bh
     have hf : fitB (hasC o 2) (val4 a b c n 2) = decide ((x : Int) ≤ c ∧ c ≤ (y : Int)) := by rw [← hq, hx, hy]; rfl
     have HF := Lib.hid hf
     have TX := Lib.hid tx
     clear hq hx hy hf tx HB
     by_cases h1 : c < (x : Int)
     ·have d1 : decide (c < (x : Int)) = true := decide_eq_true h1
      go_wp2_with fail
      go_ret
      exact ⟨ret_bool (by rw [right_no ho2 (show 2 < 4 by decide) (HF.out.trans (by simp; omega))]), S02.out.trans (sx.alloc _)⟩
     ·by_cases h2 : (y : Int) < c
      ·have d1 : decide (c < (x : Int)) = false := decide_eq_false h1
       have d2 : decide ((y : Int) < c) = true := decide_eq_true h2
       go_wp2_with fail
       go_ret
       exact ⟨ret_bool (by rw [right_no ho2 (show 2 < 4 by decide) (HF.out.trans (by simp; omega))]), S02.out.trans (sx.alloc _)⟩
      ·have d1 : decide (c < (x : Int)) = false := decide_eq_false h1
       have d2 : decide ((y : Int) < c) = false := decide_eq_false h2
       go_wp2_with fail
       go_roundg gk
       case measure => omega
       case rel => exact ⟨2 + 1, by omega, by go_num, fun j hj => by
        rcases (by omega : j < 2 ∨ j = 2) with hj | rfl
        ·exact HA.out j hj
        ·exact HF.out.trans (by simp; omega), sx.alloc _⟩
    ·have hk : wr.cell? ⟨1, o * 7 + 1 + 3, none⟩ = some (.int .i64 ((hasC o 3 : Nat) : Int)) := tx.kinds _ _ (kind_at ho2 (show 3 < 4 by decide))
     have hlt := has_lt o 3
     have HB := Lib.hid (bound_at hlt)
     obtain ⟨q, hq⟩ : ∃ q, q = hasC o 3 := ⟨_, rfl⟩
     rw [← hq] at hk hlt HB
     have bl := tx.bounds _ _ HB.out.1
     have bh := tx.bounds _ _ HB.out.2
     obtain ⟨x, hx⟩ : ∃ x, x = loL.getD q 0 := ⟨_, rfl⟩
     obtain ⟨y, hy⟩ : ∃ y, y = hiL.getD q 0 := ⟨_, rfl⟩
     rw [← hx] at bl
     rw [← hy] at bh
     have hf : fitB (hasC o 3) (val4 a b c n 3) = decide ((x : Int) ≤ n ∧ n ≤ (y : Int)) := by rw [← hq, hx, hy]; rfl
     have HF := Lib.hid hf
     have TX := Lib.hid tx
     clear hq hx hy hf tx HB
     by_cases h1 : n < (x : Int)
     ·have d1 : decide (n < (x : Int)) = true := decide_eq_true h1
      go_wp2_with fail
      go_ret
      exact ⟨ret_bool (by rw [right_no ho2 (show 3 < 4 by decide) (HF.out.trans (by simp; omega))]), S02.out.trans (sx.alloc _)⟩
     ·by_cases h2 : (y : Int) < n
      ·have d1 : decide (n < (x : Int)) = false := decide_eq_false h1
       have d2 : decide ((y : Int) < n) = true := decide_eq_true h2
       go_wp2_with fail
       go_ret
       exact ⟨ret_bool (by rw [right_no ho2 (show 3 < 4 by decide) (HF.out.trans (by simp; omega))]), S02.out.trans (sx.alloc _)⟩
      ·have d1 : decide (n < (x : Int)) = false := decide_eq_false h1
       have d2 : decide ((y : Int) < n) = false := decide_eq_false h2
       go_wp2_with fail
       go_roundg gk
       case measure => omega
       case rel => exact ⟨3 + 1, by omega, by go_num, fun j hj => by
        rcases (by omega : j < 3 ∨ j = 3) with hj | rfl
        ·exact HA.out j hj
        ·exact HF.out.trans (by simp; omega), sx.alloc _⟩
 ·have hd : decide (0 ≤ op ∧ op < 22) = false := by simp; omega
  have hr : rightB op a b c n = false := by unfold rightB; rw [hd]; rfl
  have HD := Lib.hid hd
  have HR := Lib.hid hr
  clear hd hr ho
  go_enter Tryz.func98, Tryz.ntmps98
  go_wp2_with fail
  refine (iskind_any _ _).mono ?_
  rintro e w1 ⟨rfl, rfl⟩
  rw [HD.out]
  go_wp2_with fail
  go_ret
  exact ⟨ret_bool HR.out.symm, (Same.refl _).alloc _⟩

end Go.Proofs.YthhbhbfkbncegabGreatDoor.Is
end
section
section
section
set_option linter.unusedSimpArgs false
set_option linter.unusedVariables false
namespace Go.Proofs.YthhbhbfkbncegabGreatDoor.Is
open Go.ChangeShapes Go.WideShapes Go.ChangeAt Go.RowKit Ws

theorem right_1 (a b c n : Int) : rightB 1 a b c n = (decide (0 ≤ a ∧ a ≤ 7) && (decide (0 ≤ b ∧ b ≤ 0) && (decide (0 ≤ c ∧ c ≤ 0) && decide (0 ≤ n ∧ n ≤ 4294967295)))) := rfl
theorem right_2 (a b c n : Int) : rightB 2 a b c n = (decide (0 ≤ a ∧ a ≤ 7) && (decide (0 ≤ b ∧ b ≤ 7) && (decide (0 ≤ c ∧ c ≤ 0) && decide (0 ≤ n ∧ n ≤ 0)))) := rfl
theorem right_3 (a b c n : Int) : rightB 3 a b c n = (decide (0 ≤ a ∧ a ≤ 7) && (decide (0 ≤ b ∧ b ≤ 7) && (decide (0 ≤ c ∧ c ≤ 7) && decide (0 ≤ n ∧ n ≤ 0)))) := rfl
theorem right_4 (a b c n : Int) : rightB 4 a b c n = (decide (0 ≤ a ∧ a ≤ 7) && (decide (0 ≤ b ∧ b ≤ 7) && (decide (0 ≤ c ∧ c ≤ 7) && decide (0 ≤ n ∧ n ≤ 0)))) := rfl
theorem right_5 (a b c n : Int) : rightB 5 a b c n = (decide (0 ≤ a ∧ a ≤ 7) && (decide (0 ≤ b ∧ b ≤ 7) && (decide (0 ≤ c ∧ c ≤ 7) && decide (0 ≤ n ∧ n ≤ 0)))) := rfl
theorem right_6 (a b c n : Int) : rightB 6 a b c n = (decide (0 ≤ a ∧ a ≤ 7) && (decide (0 ≤ b ∧ b ≤ 7) && (decide (0 ≤ c ∧ c ≤ 7) && decide (0 ≤ n ∧ n ≤ 0)))) := rfl
end Go.Proofs.YthhbhbfkbncegabGreatDoor.Is
end
section
set_option linter.unusedSimpArgs false
set_option linter.unusedVariables false
namespace Go.Proofs.YthhbhbfkbncegabGreatDoor.Is
open Go.ChangeShapes Go.WideShapes Go.ChangeAt Go.RowKit Ws

def leadB (op : Int) : Bool := decide (14 ≤ op ∧ op ≤ 16)
def callB (op : Int) : Bool := decide (17 ≤ op ∧ op ≤ 20)
def callV (op : Int) : Int := if 17 ≤ op ∧ op ≤ 20 then op - 16 else 0

theorem rleads_any (op : Int) (w : World) :
 Calls Tryz.prog 152 #[.int .i64 op] w fun e w' => e = .returned (.bool (leadB op)) ∧ w = w' := by
 go_enter Tryz.func152, Tryz.ntmps152
 go_wp2
 all_goals
  go_ret
  exact ⟨ret_bool (by unfold leadB; simp; omega), rfl⟩

def ret2i (a : Int) (p : Bool) : Ending := .returned (.tuple #[.int .i64 a, .bool p])
set_option maxRecDepth 100000 in
set_option maxHeartbeats 1000000 in
theorem target_any (op a b c n : Int) (hn : 0 ≤ n ∧ n < 4294967296) (w : World) (ht : Tabs w) :
 Calls Tryz.prog 173 #[ins op a b c n] w fun e w' => e = ret2i (if rightB op a b c n && leadB op then n else 0) (rightB op a b c n && leadB op) ∧ Same w w' := by
 have HT := Lib.hid ht
 clear ht
 obtain ⟨r, hr⟩ : ∃ r, r = rightB op a b c n := ⟨_, rfl⟩
 rw [← hr]
 have HR := Lib.hid hr
 clear hr
 unfold ins
 cases r
 ·go_enter Tryz.func173, Tryz.ntmps173
  go_wp2_with fail
  refine (right_any op a b c n hn _ (HT.out.same ((Same.refl _).alloc _))).mono ?_
  rintro e w1 ⟨rfl, s1⟩
  rw [← HR.out]
  go_wp2_with fail
  go_ret2
  exact ⟨rfl, Same.trans ((Same.refl _).alloc _) s1⟩
 ·cases hl : leadB op
  ·have hop : op < 14 ∨ 16 < op := by unfold leadB at hl; simp at hl; omega
   have HL := Lib.hid hl
   clear hl
   rcases hop with hop | hop
   all_goals
    go_enter Tryz.func173, Tryz.ntmps173
    go_wp2_with fail
    refine (right_any op a b c n hn _ (HT.out.same ((Same.refl _).alloc _))).mono ?_
    rintro e w1 ⟨rfl, s1⟩
    rw [← HR.out]
    have b0 := s1.new (i := 0) rfl
    have s01 := Same.trans ((Same.refl w).alloc (.cells #[.int .i64 op, .int .i64 a, .int .i64 b, .int .i64 c, .int .u32 n] 49)) s1
    clear s1
    go_wp2_with fail
    go_ret2
    exact ⟨rfl, s01⟩
  ·have hop : 14 ≤ op ∧ op ≤ 16 := by unfold leadB at hl; simpa using hl
   have h1 : ¬ op < 14 := by omega
   have h2 : ¬ 16 < op := by omega
   have HL := Lib.hid hl
   clear hl hop
   go_enter Tryz.func173, Tryz.ntmps173
   go_wp2_with fail
   refine (right_any op a b c n hn _ (HT.out.same ((Same.refl _).alloc _))).mono ?_
   rintro e w1 ⟨rfl, s1⟩
   rw [← HR.out]
   have b0 := s1.new (i := 0) rfl
   have b4 := s1.new (i := 4) rfl
   have s01 := Same.trans ((Same.refl w).alloc (.cells #[.int .i64 op, .int .i64 a, .int .i64 b, .int .i64 c, .int .u32 n] 49)) s1
   clear s1
   go_wp2_with fail
   go_ret2
   exact ⟨rfl, s01⟩

def ret3b (a p : Int) (t : Bool) : Ending := .returned (.tuple #[.int .i64 a, .int .i64 p, .bool t])
set_option maxRecDepth 100000 in
set_option maxHeartbeats 1000000 in
theorem calls_any (op a b c n : Int) (hn : 0 ≤ n ∧ n < 4294967296) (w : World) (ht : Tabs w) :
 Calls Tryz.prog 85 #[ins op a b c n] w fun e w' => e = (if rightB op a b c n && callB op then ret3b b (callV op) true else ret3b 0 0 false) ∧ Same w w' := by
 have HT := Lib.hid ht
 clear ht
 obtain ⟨r, hr⟩ : ∃ r, r = rightB op a b c n := ⟨_, rfl⟩
 rw [← hr]
 have HR := Lib.hid hr
 clear hr
 unfold ins
 cases r
 ·go_enter Tryz.func85, Tryz.ntmps85
  go_wp2_with fail
  refine (right_any op a b c n hn _ (HT.out.same ((Same.refl _).alloc _))).mono ?_
  rintro e w1 ⟨rfl, s1⟩
  rw [← HR.out]
  go_wp2_with fail
  go_ret3
  exact ⟨rfl, Same.trans ((Same.refl _).alloc _) s1⟩
 ·by_cases hc : op = 17 ∨ op = 18 ∨ op = 19 ∨ op = 20
  ·rcases hc with rfl | rfl | rfl | rfl
   all_goals
    go_enter Tryz.func85, Tryz.ntmps85
    go_wp2_with fail
    refine (right_any _ a b c n hn _ (HT.out.same ((Same.refl _).alloc _))).mono ?_
    rintro e w1 ⟨rfl, s1⟩
    rw [← HR.out]
    have b0 := s1.new (i := 0) rfl
    have b2 := s1.new (i := 2) rfl
    have s01 := Same.trans ((Same.refl w).alloc (.cells #[.int .i64 _, .int .i64 a, .int .i64 b, .int .i64 c, .int .u32 n] 49)) s1
    clear s1
    go_wp2_with fail
    go_ret3
    exact ⟨rfl, s01⟩
  ·have hcb : callB op = false := by unfold callB; simp; omega
   rw [hcb]
   have HC := Lib.hid hcb
   have hop : op < 17 ∨ 20 < op := by omega
   clear hcb hc
   rcases hop with hop | hop
   all_goals
    go_enter Tryz.func85, Tryz.ntmps85
    go_wp2_with fail
    refine (right_any op a b c n hn _ (HT.out.same ((Same.refl _).alloc _))).mono ?_
    rintro e w1 ⟨rfl, s1⟩
    rw [← HR.out]
    have b0 := s1.new (i := 0) rfl
    have s01 := Same.trans ((Same.refl w).alloc (.cells #[.int .i64 op, .int .i64 a, .int .i64 b, .int .i64 c, .int .u32 n] 49)) s1
    clear s1
    go_wp2_with fail
    go_ret3
    exact ⟨rfl, s01⟩

end Go.Proofs.YthhbhbfkbncegabGreatDoor.Is
end
end
section
set_option linter.unusedVariables false
set_option linter.unusedSimpArgs false
namespace Go.Proofs.YthhbhbfkbncegabGreatDoor.Fw
open Go.ChangeShapes Go.WideShapes Go.ChangeAt Go.RowKit Ws Fp
open Go.Proofs.YthhbhbfkbncegabGreatDoor.Is (Tabs ins rightB leadB target_any right_any ret2i)

def cells (x : Ins) : List Value := [.int .i64 x.op, .int .i64 x.a, .int .i64 x.b, .int .i64 x.c, .int .u32 x.n]
def rightI (x : Ins) : Bool := rightB x.op x.a x.b x.c x.n
/-- the slice at A holds these instructions, one behind the other -/
def Prg (w : World) (A : Option Addr) (p : List Ins) : Prop :=
 ∀ i x, p[i]? = some x → x.ok ∧ ∃ b o, A = some ⟨b, o, none⟩ ∧ ∀ j v, (cells x)[j]? = some v → w.cell? ⟨b, o + i * 5 + j, none⟩ = some v
theorem Prg.same {w w' : World} {A : Option Addr} {p : List Ins} (h : Prg w A p) (hs : Same w w') : Prg w' A p := by
 intro i x hx
 obtain ⟨h1, b, o, h2, h3⟩ := h i x hx
 exact ⟨h1, b, o, h2, fun j v hv => hs.cell (h3 j v hv)⟩
theorem Prg.at_ {w : World} {A : Option Addr} {p : List Ins} (h : Prg w A p) {k : Nat} (hk : k < p.length) :
 (Fp.at_ p k).ok ∧ ∃ b o, A = some ⟨b, o, none⟩ ∧ w.cell? ⟨b, o + k * 5, none⟩ = some (.int .i64 (Fp.at_ p k).op) ∧ w.cell? ⟨b, o + k * 5 + 1, none⟩ = some (.int .i64 (Fp.at_ p k).a) ∧ w.cell? ⟨b, o + k * 5 + 2, none⟩ = some (.int .i64 (Fp.at_ p k).b) ∧ w.cell? ⟨b, o + k * 5 + 3, none⟩ = some (.int .i64 (Fp.at_ p k).c) ∧ w.cell? ⟨b, o + k * 5 + 4, none⟩ = some (.int .u32 (Fp.at_ p k).n) := by
 obtain ⟨h1, b, o, h2, h3⟩ := h k _ (at_some hk)
 exact ⟨h1, b, o, h2, h3 0 _ rfl, h3 1 _ rfl, h3 2 _ rfl, h3 3 _ rfl, h3 4 _ rfl⟩
/-- all words of the instructions are words -/
theorem Prg.ok {w : World} {A : Option Addr} {p : List Ins} (h : Prg w A p) {k : Nat} (hk : k < p.length) : (Fp.at_ p k).ok := (h.at_ hk).1
theorem Prg.nn {w : World} {A : Option Addr} {p : List Ins} (h : Prg w A p) : ∀ j, j < p.length → 0 ≤ (Fp.at_ p j).n := fun j hj => (h.ok hj).1

/-- the slice at A holds these loops -/
def Spn (w : World) (A : Option Addr) (l : List (Int × Int)) : Prop :=
 ∀ k s, l[k]? = some s → ∃ b o, A = some ⟨b, o, none⟩ ∧ w.cell? ⟨b, o + k * 2, none⟩ = some (.int .i64 s.1) ∧ w.cell? ⟨b, o + k * 2 + 1, none⟩ = some (.int .i64 s.2)
theorem Spn.same {w w' : World} {A : Option Addr} {l : List (Int × Int)} (h : Spn w A l) (hs : Same w w') : Spn w' A l := by
 intro k s hk
 obtain ⟨b, o, h1, h2, h3⟩ := h k s hk
 exact ⟨b, o, h1, hs.cell h2, hs.cell h3⟩
theorem Spn.at_ {w : World} {A : Option Addr} {l : List (Int × Int)} (h : Spn w A l) {k : Nat} (hk : k < l.length) : ∃ b o, A = some ⟨b, o, none⟩ ∧ w.cell? ⟨b, o + k * 2, none⟩ = some (.int .i64 (lp l k).1) ∧ w.cell? ⟨b, o + k * 2 + 1, none⟩ = some (.int .i64 (lp l k).2) := h k _ (lp_get hk)
def spanCells (l : List (Int × Int)) : List Value := l.flatMap fun s => [.int .i64 s.1, .int .i64 s.2]
theorem spanCells_app (a b : List (Int × Int)) : spanCells (a ++ b) = spanCells a ++ spanCells b := by unfold spanCells; rw [List.flatMap_append]
theorem spanCells_get : ∀ (l : List (Int × Int)) (k : Nat) (s : Int × Int), l[k]? = some s → (spanCells l)[k * 2]? = some (.int .i64 s.1) ∧ (spanCells l)[k * 2 + 1]? = some (.int .i64 s.2)
 | [], k, s, h => by simp at h
 | x :: l, 0, s, h => by
  simp at h
  subst h
  exact ⟨rfl, rfl⟩
 | x :: l, k + 1, s, h => by
  have := spanCells_get l k s (by simpa using h)
  have e : spanCells (x :: l) = .int .i64 x.1 :: .int .i64 x.2 :: spanCells l := rfl
  rw [e, show (k + 1) * 2 = k * 2 + 1 + 1 by omega]
  exact this
theorem spn_of {w : World} {A : Option Addr} {l : List (Int × Int)} (h : Row w A (spanCells l)) : Spn w A l := by
 intro k s hk
 obtain ⟨h1, h2⟩ := spanCells_get l k s hk
 obtain ⟨b, o, hA, hc⟩ := h _ _ h1
 obtain ⟨b', o', hA', hc'⟩ := h _ _ h2
 rw [hA] at hA'
 injection hA' with hA'
 injection hA' with e1 e2
 subst e1
 subst e2
 exact ⟨b, o, hA, hc, by rw [Nat.add_assoc]; exact hc'⟩

theorem ret_bool {a b : Bool} (h : a = b) : Ending.returned (.bool a) = .returned (.bool b) := by rw [h]
theorem ret_ib {a a' : Int} {b b' : Bool} (h1 : a = a') (h2 : b = b') : Ending.returned (.tuple #[.int .i64 a, .bool b]) = .returned (.tuple #[.int .i64 a', .bool b']) := by rw [h1, h2]
theorem ret_ii {a a' b b' : Int} (h1 : a = a') (h2 : b = b') : Ending.returned (.tuple #[.int .i64 a, .int .i64 b]) = .returned (.tuple #[.int .i64 a', .int .i64 b']) := by rw [h1, h2]
theorem i64_of (x : Int) (h : -9223372036854775808 ≤ x ∧ x ≤ 9223372036854775807) : IntKind.i64.wrap x = x := Go.IntWalk.i64_in _ (by omega)

theorem tgt_lead (x : Ins) (hok : x.ok) (hr : rightI x = true) (hl : leadB x.op = true) (w : World) (ht : Tabs w) : Calls Tryz.prog 173 #[ins x.op x.a x.b x.c x.n] w fun e w' => e = .returned (.tuple #[.int .i64 x.n, .bool true]) ∧ Same w w' := by
 refine (target_any x.op x.a x.b x.c x.n hok w ht).mono fun e w' ⟨he, hs⟩ => ⟨?_, hs⟩
 have hr' : rightB x.op x.a x.b x.c x.n = true := hr
 rw [he, hr', hl]
 rfl
theorem tgt_not (x : Ins) (hok : x.ok) (hl : leadB x.op = false) (w : World) (ht : Tabs w) : Calls Tryz.prog 173 #[ins x.op x.a x.b x.c x.n] w fun e w' => e = .returned (.tuple #[.int .i64 0, .bool false]) ∧ Same w w' := by
 refine (target_any x.op x.a x.b x.c x.n hok w ht).mono fun e w' ⟨he, hs⟩ => ⟨?_, hs⟩
 rw [he, hl, Bool.and_false]
 rfl

theorem stray_any (A : Option Addr) (m c : Nat) (p : List Ins) (k : Nat) (w : World) (hl : p.length = m) (hm : m ≤ 5000) (hp : Prg w A p) (ht : Tabs w) (hk : k < m) (hr : rightI (Fp.at_ p k) = true) :
 Calls Tryz.prog 140 #[.slice A m c, .int .i64 k] w fun e w' => e = .returned (.bool (strayB p k)) ∧ Same w w' := by
 obtain ⟨hok, b, o, rfl, c0, c1, c2, c3, c4⟩ := hp.at_ (k := k) (by omega)
 have hki : (k : Int) < m := by omega
 have hk0 : (0 : Int) ≤ k := by omega
 have hs : strayB p k = if (Fp.at_ p k).op = 16 then decide ((k : Int) ≤ (Fp.at_ p k).n) else if (Fp.at_ p k).op = 14 ∨ (Fp.at_ p k).op = 15 then decide ((Fp.at_ p k).n ≤ (k : Int) ∨ (m : Int) ≤ (Fp.at_ p k).n) else false := by rw [← hl]; rfl
 rw [hs]
 clear hs hp hl
 generalize Fp.at_ p k = x at *
 have hn := hok
 unfold Ins.ok at hn
 cases hle : leadB x.op
 ·have hop : ¬ x.op = 16 ∧ ¬ (x.op = 14 ∨ x.op = 15) := by unfold leadB at hle; simp at hle; omega
  rw [if_neg hop.1, if_neg hop.2]
  have TG := Lib.hid (tgt_not x hok hle w ht)
  clear ht hr hle hop hok
  unfold ins at TG
  go_enter Tryz.func140, Tryz.ntmps140
  go_wp2_with fail
  refine TG.out.mono ?_
  rintro e w1 ⟨rfl, s1⟩
  go_wp2
  go_ret
  exact ⟨rfl, s1⟩
 ·have TG := Lib.hid (tgt_lead x hok hr hle w ht)
  have hop : x.op = 14 ∨ x.op = 15 ∨ x.op = 16 := by unfold leadB at hle; simp at hle; omega
  clear ht hr hle hok
  unfold ins at TG
  by_cases h16 : x.op = 16
  ·rw [if_pos h16]
   have b16 : (x.op == 16) = true := by simpa using h16
   clear hop h16
   go_enter Tryz.func140, Tryz.ntmps140
   go_wp2_with fail
   refine TG.out.mono ?_
   rintro e w1 ⟨rfl, s1⟩
   have c0' := s1.cell c0
   go_wp2
   go_ret
   exact ⟨rfl, s1⟩
  ·rw [if_neg h16, if_pos (by omega)]
   have b16 : (x.op == 16) = false := by simpa using h16
   clear hop h16
   by_cases h1 : x.n ≤ (k : Int)
   ·have b1 : decide (x.n ≤ (k : Int)) = true := decide_eq_true h1
    rw [decide_eq_true (.inl h1 : x.n ≤ (k : Int) ∨ (m : Int) ≤ x.n)]
    go_enter Tryz.func140, Tryz.ntmps140
    go_wp2_with fail
    refine TG.out.mono ?_
    rintro e w1 ⟨rfl, s1⟩
    have c0' := s1.cell c0
    go_wp2
    go_ret
    exact ⟨rfl, s1⟩
   ·have b1 : decide (x.n ≤ (k : Int)) = false := decide_eq_false h1
    have e1 : decide (x.n ≤ (k : Int) ∨ (m : Int) ≤ x.n) = decide ((m : Int) ≤ x.n) := by rw [decide_eq_decide]; omega
    rw [e1]
    clear e1
    go_enter Tryz.func140, Tryz.ntmps140
    go_wp2_with fail
    refine TG.out.mono ?_
    rintro e w1 ⟨rfl, s1⟩
    have c0' := s1.cell c0
    go_wp2
    go_ret
    exact ⟨rfl, s1⟩

theorem has_any (a b x : Int) (w : World) :
 Calls Tryz.prog 175 #[.agg #[.int .i64 a, .int .i64 b], .int .i64 x] w fun e w' => e = .returned (.bool (hasB (a, b) x)) ∧ Same w w' := by
 unfold hasB
 by_cases h1 : a ≤ x
 ·have e1 : decide ((a, b).1 ≤ x ∧ x ≤ (a, b).2) = decide (x ≤ b) := by rw [decide_eq_decide]; exact ⟨fun h => h.2, fun h => ⟨h1, h⟩⟩
  rw [e1]
  have b1 : decide (a ≤ x) = true := decide_eq_true h1
  clear e1
  go_enter Tryz.func175, Tryz.ntmps175
  go_wp2
  go_ret
  exact ⟨rfl, (Same.refl _).alloc _⟩
 ·have e1 : decide ((a, b).1 ≤ x ∧ x ≤ (a, b).2) = false := decide_eq_false fun h => h1 h.1
  rw [e1]
  have b1 : decide (a ≤ x) = false := decide_eq_false h1
  clear e1
  go_enter Tryz.func175, Tryz.ntmps175
  go_wp2
  go_ret
  exact ⟨rfl, (Same.refl _).alloc _⟩

theorem over_any (a b c d : Int) (w : World) :
 Calls Tryz.prog 174 #[.agg #[.int .i64 a, .int .i64 b], .agg #[.int .i64 c, .int .i64 d]] w fun e w' => e = .returned (.bool (overB (a, b) (c, d))) ∧ Same w w' := by
 have HA := fun w' => has_any a b c w'
 have hs0 := ((Same.refl w).alloc (.cells #[.int .i64 a, .int .i64 b] 103)).alloc (.cells #[.int .i64 c, .int .i64 d] 103)
 have b1 := (Blk.new w 103 #[.int .i64 a, .int .i64 b]).same ((Same.refl _).alloc (.cells #[.int .i64 c, .int .i64 d] 103))
 have b2 := Blk.new (w.alloc (.cells #[.int .i64 a, .int .i64 b] 103)) 103 #[.int .i64 c, .int .i64 d]
 rw [show (w.alloc (.cells #[.int .i64 a, .int .i64 b] 103)).heap.size = w.heap.size + 1 by simp] at b2
 have HS0 := Lib.hid hs0
 have B1 := Lib.hid b1
 have B2 := Lib.hid b2
 clear hs0 b1 b2
 have e0 : overB (a, b) (c, d) = (hasB (a, b) c && decide (a < c)) := by
  unfold overB hasB
  rw [Bool.eq_iff_iff]
  simp
 rw [e0]
 cases hh : hasB (a, b) c
 ·rw [hh] at HA
  rw [Bool.false_and]
  clear e0 hh
  go_enter Tryz.func174, Tryz.ntmps174
  go_wp2_with fail
  refine (HA _).mono ?_
  rintro e w1 ⟨rfl, s1⟩
  go_wp2
  go_ret
  exact ⟨rfl, HS0.out.trans s1⟩
 ·rw [hh] at HA
  rw [Bool.true_and]
  clear e0 hh
  go_enter Tryz.func174, Tryz.ntmps174
  go_wp2_with fail
  refine (HA _).mono ?_
  rintro e w1 ⟨rfl, s1⟩
  have k1 := (B1.out.same s1).cell 0
  have k2 := (B2.out.same s1).cell 0
  go_wp2
  go_ret
  exact ⟨rfl, HS0.out.trans s1⟩

end Go.Proofs.YthhbhbfkbncegabGreatDoor.Fw
end
end
