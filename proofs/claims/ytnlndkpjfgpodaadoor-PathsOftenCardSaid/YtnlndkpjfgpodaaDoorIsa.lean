/-

  Contracts of package isa, and of the document's own answers on layer 8: what is right.
-/
import Derived.Test.YtnlndkpjfgpodaaDoorIsaTab
set_option linter.unusedSimpArgs false
set_option linter.unusedVariables false
namespace Go.Proofs.YtnlndkpjfgpodaaDoor.Is
open Go.ChangeShapes Go.WideShapes Go.ChangeAt Go.RowKit Ws

theorem ret_bool {a b : Bool} (h : a = b) : Ending.returned (.bool a) = .returned (.bool b) := by rw [h]

def ins (op a b c n : Int) : Value := .agg #[.int .i64 op, .int .i64 a, .int .i64 b, .int .i64 c, .int .u32 n]

theorem iskind_any (op : Int) (w : World) :
    Calls Tryd.prog 105 #[.int .i64 op] w fun e w' => e = .returned (.bool (decide (0 ≤ op ∧ op < 22))) ∧ w = w' := by
  go_enter Tryd.func105, Tryd.ntmps105
  go_wp2
  all_goals
    go_ret
    exact ⟨ret_bool (by simp; omega), rfl⟩

theorem values_any (op a b c n : Int) (hn : 0 ≤ n ∧ n < 4294967296) (w : World) :
    Calls Tryd.prog 106 #[ins op a b c n] w fun e w' => e = .returned (.agg #[.int .i64 a, .int .i64 b, .int .i64 c, .int .i64 n]) ∧ Same w w' := by
  unfold ins
  go_enter Tryd.func106, Tryd.ntmps106
  go_wp2
  exact bodyPost_ret (v := .agg #[.int .i64 a, .int .i64 b, .int .i64 c, .int .i64 n]) (by simp [results, Tryd.results106, go_sem]) rfl ⟨rfl, ((Same.refl _).alloc _).alloc _⟩

theorem reg_any (x : Int) (w : World) :
    Calls Tryd.prog 68 #[.int .i64 x] w fun e w' => e = .returned (.bool (decide (0 ≤ x ∧ x ≤ 7))) ∧ w = w' := by
  go_enter Tryd.func68, Tryd.ntmps68
  go_wp2
  all_goals
    go_ret
    exact ⟨ret_bool (by simp; omega), rfl⟩

def val4 (a b c n : Int) (k : Nat) : Int := if k = 0 then a else if k = 1 then b else if k = 2 then c else n

theorem right_of {o : Nat} (ho : o < 22) (a b c n : Int) : rightB (o : Int) a b c n = (fitB (hasC o 0) a && (fitB (hasC o 1) b && (fitB (hasC o 2) c && fitB (hasC o 3) n))) := by
  unfold rightB
  rw [show decide (0 ≤ (o : Int) ∧ (o : Int) < 22) = true by simp; omega]
  rfl
theorem right_yes {o : Nat} (ho : o < 22) {a b c n : Int} (h : ∀ j, j < 4 → fitB (hasC o j) (val4 a b c n j) = true) : rightB (o : Int) a b c n = true := by
  rw [right_of ho]
  have h0 : fitB (hasC o 0) a = true := h 0 (by decide)
  have h1 : fitB (hasC o 1) b = true := h 1 (by decide)
  have h2 : fitB (hasC o 2) c = true := h 2 (by decide)
  have h3 : fitB (hasC o 3) n = true := h 3 (by decide)
  rw [h0, h1, h2, h3]
  rfl
theorem right_no {o : Nat} (ho : o < 22) {a b c n : Int} {k : Nat} (hk : k < 4) (h : fitB (hasC o k) (val4 a b c n k) = false) : rightB (o : Int) a b c n = false := by
  rw [right_of ho]
  rcases (by omega : k = 0 ∨ k = 1 ∨ k = 2 ∨ k = 3) with rfl | rfl | rfl | rfl
  · have h : fitB (hasC o 0) a = false := h
    rw [h]; rfl
  · have h : fitB (hasC o 1) b = false := h
    rw [h]; simp
  · have h : fitB (hasC o 2) c = false := h
    rw [h]; simp
  · have h : fitB (hasC o 3) n = false := h
    rw [h]; simp

set_option maxHeartbeats 1000000 in
theorem right_any (op a b c n : Int) (hn : 0 ≤ n ∧ n < 4294967296) (w : World) (ht : Tabs w) :
    Calls Tryd.prog 81 #[ins op a b c n] w fun e w' => e = .returned (.bool (rightB op a b c n)) ∧ Same w w' := by
  unfold ins
  by_cases ho : 0 ≤ op ∧ op < 22
  · obtain ⟨o, rfl⟩ : ∃ o : Nat, op = (o : Int) := ⟨op.toNat, by omega⟩
    have ho2 : o < 22 := by omega
    have hd : decide (0 ≤ (o : Int) ∧ (o : Int) < 22) = true := by simp; omega
    have HD := Lib.hid hd
    have HT := Lib.hid ht
    clear hd ht ho
    go_enter Tryd.func81, Tryd.ntmps81
    go_wp2_with fail
    refine (iskind_any _ _).mono ?_
    rintro e w1 ⟨rfl, rfl⟩
    rw [HD.out]
    go_wp2_with fail
    refine (values_any _ _ _ _ _ hn _).mono ?_
    rintro e w2 ⟨rfl, s2⟩
    have b0 := s2.new (i := 0) rfl
    have t2 := HT.out.same (((Same.refl _).alloc _).trans s2)
    have s02 := Same.trans ((Same.refl w).alloc _) s2
    clear s2
    have b0' : w2.cell? ⟨w.heap.size, 0, none⟩ = some (.int .i64 (o : Int)) := b0
    clear b0
    have i0 : ∀ w, (Instr.index 148 (.agg #[.int .i64 a, .int .i64 b, .int .i64 c, .int .i64 n]) (.int .i64 0)).run Tryd.prog w = .ok (.int .i64 a) w := fun _ => by kernel_rfl
    have i1 : ∀ w, (Instr.index 148 (.agg #[.int .i64 a, .int .i64 b, .int .i64 c, .int .i64 n]) (.int .i64 1)).run Tryd.prog w = .ok (.int .i64 b) w := fun _ => by kernel_rfl
    have i2 : ∀ w, (Instr.index 148 (.agg #[.int .i64 a, .int .i64 b, .int .i64 c, .int .i64 n]) (.int .i64 2)).run Tryd.prog w = .ok (.int .i64 c) w := fun _ => by kernel_rfl
    have i3 : ∀ w, (Instr.index 148 (.agg #[.int .i64 a, .int .i64 b, .int .i64 c, .int .i64 n]) (.int .i64 3)).run Tryd.prog w = .ok (.int .i64 n) w := fun _ => by kernel_rfl
    have T2 := Lib.hid t2
    have S02 := Lib.hid s02
    have B0 := Lib.hid b0'
    clear t2 s02 b0'
    generalize w.heap.size = g at *
    go_wp2_with fail
    go_loopg [12] 4 (fun gk i wx => ∃ k : Nat, k + gk = 4 ∧ i = .int .i64 k ∧ (∀ j, j < k → fitB (hasC o j) (val4 a b c n j) = true) ∧ Same w2 wx)
    case atStart => exact ⟨0, by omega, rfl, fun j hj => absurd hj (by omega), Same.refl _⟩
    case round =>
      obtain ⟨k, hkg, rfl, hall, sx⟩ := hrel
      have HA := Lib.hid hall
      clear hall
      have bx := sx.cell B0.out
      have tx := T2.out.same sx
      cases gk with
      | zero =>
        obtain rfl : k = 4 := by omega
        go_wp2_with fail
        go_ret
        exact ⟨ret_bool (right_yes ho2 HA.out).symm, S02.out.trans sx⟩
      | succ gk =>
        rcases (by omega : k = 0 ∨ k = 1 ∨ k = 2 ∨ k = 3) with rfl | rfl | rfl | rfl
        · have hk : wr.cell? ⟨1, o * 7 + 1, none⟩ = some (.int .i64 ((hasC o 0 : Nat) : Int)) := tx.kinds _ _ (kind_at ho2 (show 0 < 4 by decide))
          have hlt := has_lt o 0
          have HB := Lib.hid (bound_at hlt)
          obtain ⟨q, hq⟩ : ∃ q, q = hasC o 0 := ⟨_, rfl⟩
          rw [← hq] at hk hlt HB
          have bl := tx.bounds _ _ HB.out.1
          have bh := tx.bounds _ _ HB.out.2
          obtain ⟨x, hx⟩ : ∃ x, x = loL.getD q 0 := ⟨_, rfl⟩
          obtain ⟨y, hy⟩ : ∃ y, y = hiL.getD q 0 := ⟨_, rfl⟩
          rw [← hx] at bl
          rw [← hy] at bh
          have hf : fitB (hasC o 0) (val4 a b c n 0) = decide ((x : Int) ≤ a ∧ a ≤ (y : Int)) := by rw [← hq, hx, hy]; rfl
          have HF := Lib.hid hf
          have TX := Lib.hid tx
          clear hq hx hy hf tx HB
          by_cases h1 : a < (x : Int)
          · have d1 : decide (a < (x : Int)) = true := decide_eq_true h1
            go_wp2_with fail
            go_ret
            exact ⟨ret_bool (by rw [right_no ho2 (show 0 < 4 by decide) (HF.out.trans (by simp; omega))]), S02.out.trans (sx.alloc _)⟩
          · by_cases h2 : (y : Int) < a
            · have d1 : decide (a < (x : Int)) = false := decide_eq_false h1
              have d2 : decide ((y : Int) < a) = true := decide_eq_true h2
              go_wp2_with fail
              go_ret
              exact ⟨ret_bool (by rw [right_no ho2 (show 0 < 4 by decide) (HF.out.trans (by simp; omega))]), S02.out.trans (sx.alloc _)⟩
            · have d1 : decide (a < (x : Int)) = false := decide_eq_false h1
              have d2 : decide ((y : Int) < a) = false := decide_eq_false h2
              go_wp2_with fail
              go_roundg gk
              case measure => omega
              case rel => exact ⟨0 + 1, by omega, by go_num, fun j hj => by
                rcases (by omega : j < 0 ∨ j = 0) with hj | rfl
                · exact HA.out j hj
                · exact HF.out.trans (by simp; omega), sx.alloc _⟩
        · have hk : wr.cell? ⟨1, o * 7 + 1 + 1, none⟩ = some (.int .i64 ((hasC o 1 : Nat) : Int)) := tx.kinds _ _ (kind_at ho2 (show 1 < 4 by decide))
          have hlt := has_lt o 1
          have HB := Lib.hid (bound_at hlt)
          obtain ⟨q, hq⟩ : ∃ q, q = hasC o 1 := ⟨_, rfl⟩
          rw [← hq] at hk hlt HB
          have bl := tx.bounds _ _ HB.out.1
          have bh := tx.bounds _ _ HB.out.2
          obtain ⟨x, hx⟩ : ∃ x, x = loL.getD q 0 := ⟨_, rfl⟩
          obtain ⟨y, hy⟩ : ∃ y, y = hiL.getD q 0 := ⟨_, rfl⟩
          rw [← hx] at bl
          rw [← hy] at bh
          have hf : fitB (hasC o 1) (val4 a b c n 1) = decide ((x : Int) ≤ b ∧ b ≤ (y : Int)) := by rw [← hq, hx, hy]; rfl
          have HF := Lib.hid hf
          have TX := Lib.hid tx
          clear hq hx hy hf tx HB
          by_cases h1 : b < (x : Int)
          · have d1 : decide (b < (x : Int)) = true := decide_eq_true h1
            go_wp2_with fail
            go_ret
            exact ⟨ret_bool (by rw [right_no ho2 (show 1 < 4 by decide) (HF.out.trans (by simp; omega))]), S02.out.trans (sx.alloc _)⟩
          · by_cases h2 : (y : Int) < b
            · have d1 : decide (b < (x : Int)) = false := decide_eq_false h1
              have d2 : decide ((y : Int) < b) = true := decide_eq_true h2
              go_wp2_with fail
              go_ret
              exact ⟨ret_bool (by rw [right_no ho2 (show 1 < 4 by decide) (HF.out.trans (by simp; omega))]), S02.out.trans (sx.alloc _)⟩
            · have d1 : decide (b < (x : Int)) = false := decide_eq_false h1
              have d2 : decide ((y : Int) < b) = false := decide_eq_false h2
              go_wp2_with fail
              go_roundg gk
              case measure => omega
              case rel => exact ⟨1 + 1, by omega, by go_num, fun j hj => by
                rcases (by omega : j < 1 ∨ j = 1) with hj | rfl
                · exact HA.out j hj
                · exact HF.out.trans (by simp; omega), sx.alloc _⟩
        · have hk : wr.cell? ⟨1, o * 7 + 1 + 2, none⟩ = some (.int .i64 ((hasC o 2 : Nat) : Int)) := tx.kinds _ _ (kind_at ho2 (show 2 < 4 by decide))
          have hlt := has_lt o 2
          have HB := Lib.hid (bound_at hlt)
          obtain ⟨q, hq⟩ : ∃ q, q = hasC o 2 := ⟨_, rfl⟩
          rw [← hq] at hk hlt HB
          have bl := tx.bounds _ _ HB.out.1
          have bh := tx.bounds _ _ HB.out.2
          obtain ⟨x, hx⟩ : ∃ x, x = loL.getD q 0 := ⟨_, rfl⟩
          obtain ⟨y, hy⟩ : ∃ y, y = hiL.getD q 0 := ⟨_, rfl⟩
          rw [← hx] at bl
          rw [← hy] at bh
          have hf : fitB (hasC o 2) (val4 a b c n 2) = decide ((x : Int) ≤ c ∧ c ≤ (y : Int)) := by rw [← hq, hx, hy]; rfl
          have HF := Lib.hid hf
          have TX := Lib.hid tx
          clear hq hx hy hf tx HB
          by_cases h1 : c < (x : Int)
          · have d1 : decide (c < (x : Int)) = true := decide_eq_true h1
            go_wp2_with fail
            go_ret
            exact ⟨ret_bool (by rw [right_no ho2 (show 2 < 4 by decide) (HF.out.trans (by simp; omega))]), S02.out.trans (sx.alloc _)⟩
          · by_cases h2 : (y : Int) < c
            · have d1 : decide (c < (x : Int)) = false := decide_eq_false h1
              have d2 : decide ((y : Int) < c) = true := decide_eq_true h2
              go_wp2_with fail
              go_ret
              exact ⟨ret_bool (by rw [right_no ho2 (show 2 < 4 by decide) (HF.out.trans (by simp; omega))]), S02.out.trans (sx.alloc _)⟩
            · have d1 : decide (c < (x : Int)) = false := decide_eq_false h1
              have d2 : decide ((y : Int) < c) = false := decide_eq_false h2
              go_wp2_with fail
              go_roundg gk
              case measure => omega
              case rel => exact ⟨2 + 1, by omega, by go_num, fun j hj => by
                rcases (by omega : j < 2 ∨ j = 2) with hj | rfl
                · exact HA.out j hj
                · exact HF.out.trans (by simp; omega), sx.alloc _⟩
        · have hk : wr.cell? ⟨1, o * 7 + 1 + 3, none⟩ = some (.int .i64 ((hasC o 3 : Nat) : Int)) := tx.kinds _ _ (kind_at ho2 (show 3 < 4 by decide))
          have hlt := has_lt o 3
          have HB := Lib.hid (bound_at hlt)
          obtain ⟨q, hq⟩ : ∃ q, q = hasC o 3 := ⟨_, rfl⟩
          rw [← hq] at hk hlt HB
          have bl := tx.bounds _ _ HB.out.1
          have bh := tx.bounds _ _ HB.out.2
          obtain ⟨x, hx⟩ : ∃ x, x = loL.getD q 0 := ⟨_, rfl⟩
          obtain ⟨y, hy⟩ : ∃ y, y = hiL.getD q 0 := ⟨_, rfl⟩
          rw [← hx] at bl
          rw [← hy] at bh
          have hf : fitB (hasC o 3) (val4 a b c n 3) = decide ((x : Int) ≤ n ∧ n ≤ (y : Int)) := by rw [← hq, hx, hy]; rfl
          have HF := Lib.hid hf
          have TX := Lib.hid tx
          clear hq hx hy hf tx HB
          by_cases h1 : n < (x : Int)
          · have d1 : decide (n < (x : Int)) = true := decide_eq_true h1
            go_wp2_with fail
            go_ret
            exact ⟨ret_bool (by rw [right_no ho2 (show 3 < 4 by decide) (HF.out.trans (by simp; omega))]), S02.out.trans (sx.alloc _)⟩
          · by_cases h2 : (y : Int) < n
            · have d1 : decide (n < (x : Int)) = false := decide_eq_false h1
              have d2 : decide ((y : Int) < n) = true := decide_eq_true h2
              go_wp2_with fail
              go_ret
              exact ⟨ret_bool (by rw [right_no ho2 (show 3 < 4 by decide) (HF.out.trans (by simp; omega))]), S02.out.trans (sx.alloc _)⟩
            · have d1 : decide (n < (x : Int)) = false := decide_eq_false h1
              have d2 : decide ((y : Int) < n) = false := decide_eq_false h2
              go_wp2_with fail
              go_roundg gk
              case measure => omega
              case rel => exact ⟨3 + 1, by omega, by go_num, fun j hj => by
                rcases (by omega : j < 3 ∨ j = 3) with hj | rfl
                · exact HA.out j hj
                · exact HF.out.trans (by simp; omega), sx.alloc _⟩
  · have hd : decide (0 ≤ op ∧ op < 22) = false := by simp; omega
    have hr : rightB op a b c n = false := by unfold rightB; rw [hd]; rfl
    have HD := Lib.hid hd
    have HR := Lib.hid hr
    clear hd hr ho
    go_enter Tryd.func81, Tryd.ntmps81
    go_wp2_with fail
    refine (iskind_any _ _).mono ?_
    rintro e w1 ⟨rfl, rfl⟩
    rw [HD.out]
    go_wp2_with fail
    go_ret
    exact ⟨ret_bool HR.out.symm, (Same.refl _).alloc _⟩

end Go.Proofs.YtnlndkpjfgpodaaDoor.Is
