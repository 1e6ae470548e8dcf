/-

  Contracts of package isa, and of the document's own answers on layer 8: where one leads, and what is called.
-/
import Derived.Test.YtknmfopnbognpaaGreatDoorIsa
import Derived.Test.YtknmfopnbognpaaGreatDoorIsaRef
set_option linter.unusedSimpArgs false
set_option linter.unusedVariables false
namespace Go.Proofs.YtknmfopnbognpaaGreatDoor.Is
open Go.ChangeShapes Go.WideShapes Go.ChangeAt Go.RowKit Ws

theorem ret_int' {a b : Int} (h : a = b) : Ending.returned (.int .i64 a) = .returned (.int .i64 b) := by rw [h]
def leadB (op : Int) : Bool := decide (14 ≤ op ∧ op ≤ 16)
def callB (op : Int) : Bool := decide (17 ≤ op ∧ op ≤ 20)
def callV (op : Int) : Int := if 17 ≤ op ∧ op ≤ 20 then op - 16 else 0

theorem rcalls_any (op : Int) (w : World) :
    Calls Tryz.prog 17 #[.int .i64 op] w fun e w' => e = .returned (.int .i64 (callV op)) ∧ w = w' := by
  by_cases h : 17 ≤ op ∧ op ≤ 20
  · have e : callV op = op - 16 := by unfold callV; rw [if_pos h]
    have e2 : op - 17 + 1 = op - 16 := by omega
    have E := Lib.hid e
    have E2 := Lib.hid e2
    clear e e2
    have h1 : 17 ≤ op := h.1
    have h2 : op ≤ 20 := h.2
    go_enter Tryz.func17, Tryz.ntmps17
    go_wp2
    all_goals
      go_ret
      exact ⟨ret_int' (by rw [E.out, ← E2.out]), rfl⟩
  · have e : callV op = 0 := by unfold callV; rw [if_neg h]
    have E := Lib.hid e
    clear e
    go_enter Tryz.func17, Tryz.ntmps17
    go_wp2
    all_goals
      first
      | (exfalso; omega)
      | (go_ret; exact ⟨ret_int' E.out.symm, rfl⟩)

def ret2i (a : Int) (p : Bool) : Ending := .returned (.tuple #[.int .i64 a, .bool p])
set_option maxRecDepth 100000 in
set_option maxHeartbeats 1000000 in
theorem target_any (op a b c n : Int) (hn : 0 ≤ n ∧ n < 4294967296) (w : World) (ht : Tabs w) :
    Calls Tryz.prog 65 #[ins op a b c n] w fun e w' => e = ret2i (if rightB op a b c n && leadB op then n else 0) (rightB op a b c n && leadB op) ∧ Same w w' := by
  have HT := Lib.hid ht
  clear ht
  obtain ⟨r, hr⟩ : ∃ r, r = rightB op a b c n := ⟨_, rfl⟩
  rw [← hr]
  have HR := Lib.hid hr
  clear hr
  unfold ins
  cases r
  · go_enter Tryz.func65, Tryz.ntmps65
    go_wp2_with fail
    refine (right_any op a b c n hn _ (HT.out.same ((Same.refl _).alloc _))).mono ?_
    rintro e w1 ⟨rfl, s1⟩
    rw [← HR.out]
    go_wp2_with fail
    go_ret2
    exact ⟨rfl, Same.trans ((Same.refl _).alloc _) s1⟩
  · cases hl : leadB op
    · have hop : op < 14 ∨ 16 < op := by unfold leadB at hl; simp at hl; omega
      have HL := Lib.hid hl
      clear hl
      rcases hop with hop | hop
      all_goals
        go_enter Tryz.func65, Tryz.ntmps65
        go_wp2_with fail
        refine (right_any op a b c n hn _ (HT.out.same ((Same.refl _).alloc _))).mono ?_
        rintro e w1 ⟨rfl, s1⟩
        rw [← HR.out]
        have b0 := s1.new (i := 0) rfl
        have s01 := Same.trans ((Same.refl w).alloc (.cells #[.int .i64 op, .int .i64 a, .int .i64 b, .int .i64 c, .int .u32 n] 39)) s1
        clear s1
        go_wp2_with fail
        go_ret2
        exact ⟨rfl, s01⟩
    · have hop : 14 ≤ op ∧ op ≤ 16 := by unfold leadB at hl; simpa using hl
      have h1 : ¬ op < 14 := by omega
      have h2 : ¬ 16 < op := by omega
      have HL := Lib.hid hl
      clear hl hop
      go_enter Tryz.func65, Tryz.ntmps65
      go_wp2_with fail
      refine (right_any op a b c n hn _ (HT.out.same ((Same.refl _).alloc _))).mono ?_
      rintro e w1 ⟨rfl, s1⟩
      rw [← HR.out]
      have b0 := s1.new (i := 0) rfl
      have b4 := s1.new (i := 4) rfl
      have s01 := Same.trans ((Same.refl w).alloc (.cells #[.int .i64 op, .int .i64 a, .int .i64 b, .int .i64 c, .int .u32 n] 39)) s1
      clear s1
      go_wp2_with fail
      go_ret2
      exact ⟨rfl, s01⟩

def ret3b (a p : Int) (t : Bool) : Ending := .returned (.tuple #[.int .i64 a, .int .i64 p, .bool t])
set_option maxRecDepth 100000 in
set_option maxHeartbeats 1000000 in
theorem calls_any (op a b c n : Int) (hn : 0 ≤ n ∧ n < 4294967296) (w : World) (ht : Tabs w) :
    Calls Tryz.prog 36 #[ins op a b c n] w fun e w' => e = (if rightB op a b c n && callB op then ret3b b (callV op) true else ret3b 0 0 false) ∧ Same w w' := by
  have HT := Lib.hid ht
  clear ht
  obtain ⟨r, hr⟩ : ∃ r, r = rightB op a b c n := ⟨_, rfl⟩
  rw [← hr]
  have HR := Lib.hid hr
  clear hr
  unfold ins
  cases r
  · go_enter Tryz.func36, Tryz.ntmps36
    go_wp2_with fail
    refine (right_any op a b c n hn _ (HT.out.same ((Same.refl _).alloc _))).mono ?_
    rintro e w1 ⟨rfl, s1⟩
    rw [← HR.out]
    go_wp2_with fail
    go_ret3
    exact ⟨rfl, Same.trans ((Same.refl _).alloc _) s1⟩
  · by_cases hc : op = 17 ∨ op = 18 ∨ op = 19 ∨ op = 20
    · rcases hc with rfl | rfl | rfl | rfl
      all_goals
        go_enter Tryz.func36, Tryz.ntmps36
        go_wp2_with fail
        refine (right_any _ a b c n hn _ (HT.out.same ((Same.refl _).alloc _))).mono ?_
        rintro e w1 ⟨rfl, s1⟩
        rw [← HR.out]
        have b0 := s1.new (i := 0) rfl
        have b2 := s1.new (i := 2) rfl
        have s01 := Same.trans ((Same.refl w).alloc (.cells #[.int .i64 _, .int .i64 a, .int .i64 b, .int .i64 c, .int .u32 n] 39)) s1
        clear s1
        go_wp2_with fail
        go_ret3
        exact ⟨rfl, s01⟩
    · have hcb : callB op = false := by unfold callB; simp; omega
      rw [hcb]
      have HC := Lib.hid hcb
      have hop : op < 17 ∨ 20 < op := by omega
      clear hcb hc
      rcases hop with hop | hop
      all_goals
        go_enter Tryz.func36, Tryz.ntmps36
        go_wp2_with fail
        refine (right_any op a b c n hn _ (HT.out.same ((Same.refl _).alloc _))).mono ?_
        rintro e w1 ⟨rfl, s1⟩
        rw [← HR.out]
        have b0 := s1.new (i := 0) rfl
        have s01 := Same.trans ((Same.refl w).alloc (.cells #[.int .i64 op, .int .i64 a, .int .i64 b, .int .i64 c, .int .u32 n] 39)) s1
        clear s1
        go_wp2_with fail
        go_ret3
        exact ⟨rfl, s01⟩

end Go.Proofs.YtknmfopnbognpaaGreatDoor.Is
