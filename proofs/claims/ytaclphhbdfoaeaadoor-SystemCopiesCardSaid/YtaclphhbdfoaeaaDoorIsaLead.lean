/-

  Contracts of package isa, and of the document's own answers on layer 8: where one leads, and what is called.
-/
import Derived.Test.YtaclphhbdfoaeaaDoorIsa
section
set_option linter.unusedSimpArgs false
set_option linter.unusedVariables false
namespace Go.Proofs.YtaclphhbdfoaeaaDoor.Is
open Go.ChangeShapes Go.WideShapes Go.ChangeAt Go.RowKit Ws

theorem right_0 (a b c n : Int) : rightB 0 a b c n = (decide (0 ≤ a ∧ a ≤ 0) && (decide (0 ≤ b ∧ b ≤ 0) && (decide (0 ≤ c ∧ c ≤ 0) && decide (0 ≤ n ∧ n ≤ 0)))) := rfl
theorem right_1 (a b c n : Int) : rightB 1 a b c n = (decide (0 ≤ a ∧ a ≤ 7) && (decide (0 ≤ b ∧ b ≤ 0) && (decide (0 ≤ c ∧ c ≤ 0) && decide (0 ≤ n ∧ n ≤ 4294967295)))) := rfl
theorem right_2 (a b c n : Int) : rightB 2 a b c n = (decide (0 ≤ a ∧ a ≤ 7) && (decide (0 ≤ b ∧ b ≤ 7) && (decide (0 ≤ c ∧ c ≤ 0) && decide (0 ≤ n ∧ n ≤ 0)))) := rfl
theorem right_3 (a b c n : Int) : rightB 3 a b c n = (decide (0 ≤ a ∧ a ≤ 7) && (decide (0 ≤ b ∧ b ≤ 7) && (decide (0 ≤ c ∧ c ≤ 7) && decide (0 ≤ n ∧ n ≤ 0)))) := rfl
theorem right_4 (a b c n : Int) : rightB 4 a b c n = (decide (0 ≤ a ∧ a ≤ 7) && (decide (0 ≤ b ∧ b ≤ 7) && (decide (0 ≤ c ∧ c ≤ 7) && decide (0 ≤ n ∧ n ≤ 0)))) := rfl
theorem right_5 (a b c n : Int) : rightB 5 a b c n = (decide (0 ≤ a ∧ a ≤ 7) && (decide (0 ≤ b ∧ b ≤ 7) && (decide (0 ≤ c ∧ c ≤ 7) && decide (0 ≤ n ∧ n ≤ 0)))) := rfl
theorem right_6 (a b c n : Int) : rightB 6 a b c n = (decide (0 ≤ a ∧ a ≤ 7) && (decide (0 ≤ b ∧ b ≤ 7) && (decide (0 ≤ c ∧ c ≤ 7) && decide (0 ≤ n ∧ n ≤ 0)))) := rfl
theorem right_7 (a b c n : Int) : rightB 7 a b c n = (decide (0 ≤ a ∧ a ≤ 7) && (decide (0 ≤ b ∧ b ≤ 7) && (decide (0 ≤ c ∧ c ≤ 7) && decide (0 ≤ n ∧ n ≤ 0)))) := rfl
theorem right_8 (a b c n : Int) : rightB 8 a b c n = (decide (0 ≤ a ∧ a ≤ 7) && (decide (0 ≤ b ∧ b ≤ 7) && (decide (0 ≤ c ∧ c ≤ 7) && decide (0 ≤ n ∧ n ≤ 0)))) := rfl
theorem right_9 (a b c n : Int) : rightB 9 a b c n = (decide (0 ≤ a ∧ a ≤ 7) && (decide (0 ≤ b ∧ b ≤ 7) && (decide (0 ≤ c ∧ c ≤ 7) && decide (0 ≤ n ∧ n ≤ 0)))) := rfl
theorem right_10 (a b c n : Int) : rightB 10 a b c n = (decide (0 ≤ a ∧ a ≤ 7) && (decide (0 ≤ b ∧ b ≤ 7) && (decide (0 ≤ c ∧ c ≤ 7) && decide (0 ≤ n ∧ n ≤ 0)))) := rfl
theorem right_11 (a b c n : Int) : rightB 11 a b c n = (decide (0 ≤ a ∧ a ≤ 7) && (decide (0 ≤ b ∧ b ≤ 7) && (decide (0 ≤ c ∧ c ≤ 0) && decide (0 ≤ n ∧ n ≤ 4294967295)))) := rfl
theorem right_12 (a b c n : Int) : rightB 12 a b c n = (decide (0 ≤ a ∧ a ≤ 7) && (decide (0 ≤ b ∧ b ≤ 7) && (decide (0 ≤ c ∧ c ≤ 0) && decide (0 ≤ n ∧ n ≤ 4294967295)))) := rfl
theorem right_13 (a b c n : Int) : rightB 13 a b c n = (decide (0 ≤ a ∧ a ≤ 7) && (decide (0 ≤ b ∧ b ≤ 7) && (decide (0 ≤ c ∧ c ≤ 7) && decide (0 ≤ n ∧ n ≤ 4294967295)))) := rfl
theorem right_14 (a b c n : Int) : rightB 14 a b c n = (decide (0 ≤ a ∧ a ≤ 0) && (decide (0 ≤ b ∧ b ≤ 0) && (decide (0 ≤ c ∧ c ≤ 0) && decide (0 ≤ n ∧ n ≤ 63)))) := rfl
theorem right_15 (a b c n : Int) : rightB 15 a b c n = (decide (0 ≤ a ∧ a ≤ 7) && (decide (0 ≤ b ∧ b ≤ 0) && (decide (0 ≤ c ∧ c ≤ 0) && decide (0 ≤ n ∧ n ≤ 63)))) := rfl
theorem right_16 (a b c n : Int) : rightB 16 a b c n = (decide (0 ≤ a ∧ a ≤ 0) && (decide (0 ≤ b ∧ b ≤ 0) && (decide (1 ≤ c ∧ c ≤ 255) && decide (0 ≤ n ∧ n ≤ 63)))) := rfl
theorem right_17 (a b c n : Int) : rightB 17 a b c n = (decide (0 ≤ a ∧ a ≤ 7) && (decide (0 ≤ b ∧ b ≤ 7) && (decide (0 ≤ c ∧ c ≤ 0) && decide (0 ≤ n ∧ n ≤ 63)))) := rfl
theorem right_18 (a b c n : Int) : rightB 18 a b c n = (decide (0 ≤ a ∧ a ≤ 7) && (decide (0 ≤ b ∧ b ≤ 7) && (decide (0 ≤ c ∧ c ≤ 0) && decide (0 ≤ n ∧ n ≤ 63)))) := rfl
theorem right_19 (a b c n : Int) : rightB 19 a b c n = (decide (0 ≤ a ∧ a ≤ 7) && (decide (0 ≤ b ∧ b ≤ 7) && (decide (0 ≤ c ∧ c ≤ 0) && decide (0 ≤ n ∧ n ≤ 63)))) := rfl
theorem right_20 (a b c n : Int) : rightB 20 a b c n = (decide (0 ≤ a ∧ a ≤ 7) && (decide (0 ≤ b ∧ b ≤ 7) && (decide (0 ≤ c ∧ c ≤ 0) && decide (0 ≤ n ∧ n ≤ 63)))) := rfl
theorem right_21 (a b c n : Int) : rightB 21 a b c n = (decide (0 ≤ a ∧ a ≤ 0) && (decide (0 ≤ b ∧ b ≤ 0) && (decide (0 ≤ c ∧ c ≤ 0) && decide (0 ≤ n ∧ n ≤ 0)))) := rfl
end Go.Proofs.YtaclphhbdfoaeaaDoor.Is
end
section
set_option linter.unusedSimpArgs false
set_option linter.unusedVariables false
namespace Go.Proofs.YtaclphhbdfoaeaaDoor.Is
open Go.ChangeShapes Go.WideShapes Go.ChangeAt Go.RowKit Ws

theorem ret_int' {a b : Int} (h : a = b) : Ending.returned (.int .i64 a) = .returned (.int .i64 b) := by rw [h]
def leadB (op : Int) : Bool := decide (14 ≤ op ∧ op ≤ 16)
def callB (op : Int) : Bool := decide (17 ≤ op ∧ op ≤ 20)
def callV (op : Int) : Int := if 17 ≤ op ∧ op ≤ 20 then op - 16 else 0

def ret2i (a : Int) (p : Bool) : Ending := .returned (.tuple #[.int .i64 a, .bool p])
set_option maxRecDepth 100000 in
set_option maxHeartbeats 1000000 in
theorem target_any (op a b c n : Int) (hn : 0 ≤ n ∧ n < 4294967296) (w : World) (ht : Tabs w) :
    Calls Tryd.prog 67 #[ins op a b c n] w fun e w' => e = ret2i (if rightB op a b c n && leadB op then n else 0) (rightB op a b c n && leadB op) ∧ Same w w' := by
  have HT := Lib.hid ht
  clear ht
  obtain ⟨r, hr⟩ : ∃ r, r = rightB op a b c n := ⟨_, rfl⟩
  rw [← hr]
  have HR := Lib.hid hr
  clear hr
  unfold ins
  cases r
  · go_enter Tryd.func67, Tryd.ntmps67
    go_wp2_with fail
    refine (right_any op a b c n hn _ (HT.out.same ((Same.refl _).alloc _))).mono ?_
    rintro e w1 ⟨rfl, s1⟩
    rw [← HR.out]
    go_wp2_with fail
    go_ret2
    exact ⟨rfl, Same.trans ((Same.refl _).alloc _) s1⟩
  · cases hl : leadB op
    · have hop : op < 14 ∨ 16 < op := by unfold leadB at hl; simp at hl; omega
      have HL := Lib.hid hl
      clear hl
      rcases hop with hop | hop
      all_goals
        go_enter Tryd.func67, Tryd.ntmps67
        go_wp2_with fail
        refine (right_any op a b c n hn _ (HT.out.same ((Same.refl _).alloc _))).mono ?_
        rintro e w1 ⟨rfl, s1⟩
        rw [← HR.out]
        have b0 := s1.new (i := 0) rfl
        have s01 := Same.trans ((Same.refl w).alloc (.cells #[.int .i64 op, .int .i64 a, .int .i64 b, .int .i64 c, .int .u32 n] 35)) s1
        clear s1
        go_wp2_with fail
        go_ret2
        exact ⟨rfl, s01⟩
    · have hop : 14 ≤ op ∧ op ≤ 16 := by unfold leadB at hl; simpa using hl
      have h1 : ¬ op < 14 := by omega
      have h2 : ¬ 16 < op := by omega
      have HL := Lib.hid hl
      clear hl hop
      go_enter Tryd.func67, Tryd.ntmps67
      go_wp2_with fail
      refine (right_any op a b c n hn _ (HT.out.same ((Same.refl _).alloc _))).mono ?_
      rintro e w1 ⟨rfl, s1⟩
      rw [← HR.out]
      have b0 := s1.new (i := 0) rfl
      have b4 := s1.new (i := 4) rfl
      have s01 := Same.trans ((Same.refl w).alloc (.cells #[.int .i64 op, .int .i64 a, .int .i64 b, .int .i64 c, .int .u32 n] 35)) s1
      clear s1
      go_wp2_with fail
      go_ret2
      exact ⟨rfl, s01⟩

def ret3b (a p : Int) (t : Bool) : Ending := .returned (.tuple #[.int .i64 a, .int .i64 p, .bool t])
set_option maxRecDepth 100000 in
set_option maxHeartbeats 1000000 in
theorem calls_any (op a b c n : Int) (hn : 0 ≤ n ∧ n < 4294967296) (w : World) (ht : Tabs w) :
    Calls Tryd.prog 46 #[ins op a b c n] w fun e w' => e = (if rightB op a b c n && callB op then ret3b b (callV op) true else ret3b 0 0 false) ∧ Same w w' := by
  have HT := Lib.hid ht
  clear ht
  obtain ⟨r, hr⟩ : ∃ r, r = rightB op a b c n := ⟨_, rfl⟩
  rw [← hr]
  have HR := Lib.hid hr
  clear hr
  unfold ins
  cases r
  · go_enter Tryd.func46, Tryd.ntmps46
    go_wp2_with fail
    refine (right_any op a b c n hn _ (HT.out.same ((Same.refl _).alloc _))).mono ?_
    rintro e w1 ⟨rfl, s1⟩
    rw [← HR.out]
    go_wp2_with fail
    go_ret3
    exact ⟨rfl, Same.trans ((Same.refl _).alloc _) s1⟩
  · by_cases hc : op = 17 ∨ op = 18 ∨ op = 19 ∨ op = 20
    · rcases hc with rfl | rfl | rfl | rfl
      all_goals
        go_enter Tryd.func46, Tryd.ntmps46
        go_wp2_with fail
        refine (right_any _ a b c n hn _ (HT.out.same ((Same.refl _).alloc _))).mono ?_
        rintro e w1 ⟨rfl, s1⟩
        rw [← HR.out]
        have b0 := s1.new (i := 0) rfl
        have b2 := s1.new (i := 2) rfl
        have s01 := Same.trans ((Same.refl w).alloc (.cells #[.int .i64 _, .int .i64 a, .int .i64 b, .int .i64 c, .int .u32 n] 35)) s1
        clear s1
        go_wp2_with fail
        go_ret3
        exact ⟨rfl, s01⟩
    · have hcb : callB op = false := by unfold callB; simp; omega
      rw [hcb]
      have HC := Lib.hid hcb
      have hop : op < 17 ∨ 20 < op := by omega
      clear hcb hc
      rcases hop with hop | hop
      all_goals
        go_enter Tryd.func46, Tryd.ntmps46
        go_wp2_with fail
        refine (right_any op a b c n hn _ (HT.out.same ((Same.refl _).alloc _))).mono ?_
        rintro e w1 ⟨rfl, s1⟩
        rw [← HR.out]
        have b0 := s1.new (i := 0) rfl
        have s01 := Same.trans ((Same.refl w).alloc (.cells #[.int .i64 op, .int .i64 a, .int .i64 b, .int .i64 c, .int .u32 n] 35)) s1
        clear s1
        go_wp2_with fail
        go_ret3
        exact ⟨rfl, s01⟩

end Go.Proofs.YtaclphhbdfoaeaaDoor.Is
end
