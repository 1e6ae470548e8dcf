/-
  Contracts of package isa, and of the document's own answers on layer 8: where one leads, what is called, and which registers the document names.
-/
import Derived.Test.YtgpipfmgjbecjacDoorIsaRegs
set_option linter.unusedVariables false
namespace Go.Proofs.YtgpipfmgjbecjacDoor.Is
open Go.ChangeShapes Go.WideShapes Go.ChangeAt Go.RowKit Ws Cd Bt

def leadB (op : Int) : Bool := decide (14 ≤ op ∧ op ≤ 16)
def callB (op : Int) : Bool := decide (17 ≤ op ∧ op ≤ 20)
def callV (op : Int) : Int := if 17 ≤ op ∧ op ≤ 20 then op - 16 else 0

theorem rleads_any (op : Int) (w : World) :
    Calls Tryd.prog 16 #[.int .i64 op] w fun e w' => e = .returned (.bool (leadB op)) ∧ w = w' := by
  go_enter Tryd.func16, Tryd.ntmps16
  go_wp2
  all_goals
    go_ret
    exact ⟨ret_bool (by unfold leadB; simp; omega), rfl⟩

theorem rcalls_any (op : Int) (w : World) :
    Calls Tryd.prog 17 #[.int .i64 op] w fun e w' => e = .returned (.int .i64 (callV op)) ∧ w = w' := by
  by_cases h : 17 ≤ op ∧ op ≤ 20
  · have e : callV op = op - 16 := by unfold callV; rw [if_pos h]
    have e2 : op - 17 + 1 = op - 16 := by omega
    have E := Lib.hid e
    have E2 := Lib.hid e2
    clear e e2
    have h1 : 17 ≤ op := h.1
    have h2 : op ≤ 20 := h.2
    go_enter Tryd.func17, Tryd.ntmps17
    go_wp2
    all_goals
      go_ret
      exact ⟨Bt.ret_int (by rw [E.out, ← E2.out]), rfl⟩
  · have e : callV op = 0 := by unfold callV; rw [if_neg h]
    have E := Lib.hid e
    clear e
    go_enter Tryd.func17, Tryd.ntmps17
    go_wp2
    all_goals
      first
      | (exfalso; omega)
      | (go_ret; exact ⟨Bt.ret_int E.out.symm, rfl⟩)

def ret2i (a : Int) (p : Bool) : Ending := .returned (.tuple #[.int .i64 a, .bool p])
set_option maxRecDepth 100000 in
set_option maxHeartbeats 1000000 in
theorem target_any (op a b c n : Int) (hn : 0 ≤ n ∧ n < 4294967296) (w : World) (ht : Tabs w) :
    Calls Tryd.prog 9 #[ins op a b c n] w fun e w' => e = ret2i (if rightB op a b c n && leadB op then n else 0) (rightB op a b c n && leadB op) ∧ Same w w' := by
  have HT := Lib.hid ht
  clear ht
  obtain ⟨r, hr⟩ : ∃ r, r = rightB op a b c n := ⟨_, rfl⟩
  rw [← hr]
  have HR := Lib.hid hr
  clear hr
  unfold ins
  cases r
  · go_enter Tryd.func9, Tryd.ntmps9
    go_wp2_with fail
    refine (right_any op a b c n hn _ (HT.out.same ((Same.refl _).alloc _))).mono ?_
    rintro e w1 ⟨rfl, s1⟩
    rw [← HR.out]
    go_wp2_with fail
    go_ret2
    exact ⟨rfl, Same.trans ((Same.refl _).alloc _) s1⟩
  · cases hl : leadB op
    · have hop : op < 14 ∨ 16 < op := by unfold leadB at hl; simp at hl; omega
      have HL := Lib.hid hl
      clear hl
      rcases hop with hop | hop
      all_goals
        go_enter Tryd.func9, Tryd.ntmps9
        go_wp2_with fail
        refine (right_any op a b c n hn _ (HT.out.same ((Same.refl _).alloc _))).mono ?_
        rintro e w1 ⟨rfl, s1⟩
        rw [← HR.out]
        have b0 := s1.new (i := 0) rfl
        have s01 := Same.trans ((Same.refl w).alloc (.cells #[.int .i64 op, .int .i64 a, .int .i64 b, .int .i64 c, .int .u32 n] 24)) s1
        clear s1
        go_wp2_with fail
        go_ret2
        exact ⟨rfl, s01⟩
    · have hop : 14 ≤ op ∧ op ≤ 16 := by unfold leadB at hl; simpa using hl
      have h1 : ¬ op < 14 := by omega
      have h2 : ¬ 16 < op := by omega
      have HL := Lib.hid hl
      clear hl hop
      go_enter Tryd.func9, Tryd.ntmps9
      go_wp2_with fail
      refine (right_any op a b c n hn _ (HT.out.same ((Same.refl _).alloc _))).mono ?_
      rintro e w1 ⟨rfl, s1⟩
      rw [← HR.out]
      have b0 := s1.new (i := 0) rfl
      have b4 := s1.new (i := 4) rfl
      have s01 := Same.trans ((Same.refl w).alloc (.cells #[.int .i64 op, .int .i64 a, .int .i64 b, .int .i64 c, .int .u32 n] 24)) s1
      clear s1
      go_wp2_with fail
      go_ret2
      exact ⟨rfl, s01⟩

def ret3b (a p : Int) (t : Bool) : Ending := .returned (.tuple #[.int .i64 a, .int .i64 p, .bool t])
set_option maxRecDepth 100000 in
set_option maxHeartbeats 1000000 in
theorem calls_any (op a b c n : Int) (hn : 0 ≤ n ∧ n < 4294967296) (w : World) (ht : Tabs w) :
    Calls Tryd.prog 10 #[ins op a b c n] w fun e w' => e = (if rightB op a b c n && callB op then ret3b b (callV op) true else ret3b 0 0 false) ∧ Same w w' := by
  have HT := Lib.hid ht
  clear ht
  obtain ⟨r, hr⟩ : ∃ r, r = rightB op a b c n := ⟨_, rfl⟩
  rw [← hr]
  have HR := Lib.hid hr
  clear hr
  unfold ins
  cases r
  · go_enter Tryd.func10, Tryd.ntmps10
    go_wp2_with fail
    refine (right_any op a b c n hn _ (HT.out.same ((Same.refl _).alloc _))).mono ?_
    rintro e w1 ⟨rfl, s1⟩
    rw [← HR.out]
    go_wp2_with fail
    go_ret3
    exact ⟨rfl, Same.trans ((Same.refl _).alloc _) s1⟩
  · by_cases hc : op = 17 ∨ op = 18 ∨ op = 19 ∨ op = 20
    · rcases hc with rfl | rfl | rfl | rfl
      all_goals
        go_enter Tryd.func10, Tryd.ntmps10
        go_wp2_with fail
        refine (right_any _ a b c n hn _ (HT.out.same ((Same.refl _).alloc _))).mono ?_
        rintro e w1 ⟨rfl, s1⟩
        rw [← HR.out]
        have b0 := s1.new (i := 0) rfl
        have b2 := s1.new (i := 2) rfl
        have s01 := Same.trans ((Same.refl w).alloc (.cells #[.int .i64 _, .int .i64 a, .int .i64 b, .int .i64 c, .int .u32 n] 24)) s1
        clear s1
        go_wp2_with fail
        go_ret3
        exact ⟨rfl, s01⟩
    · have hcb : callB op = false := by unfold callB; simp; omega
      rw [hcb]
      have HC := Lib.hid hcb
      have hop : op < 17 ∨ 20 < op := by omega
      clear hcb hc
      rcases hop with hop | hop
      all_goals
        go_enter Tryd.func10, Tryd.ntmps10
        go_wp2_with fail
        refine (right_any op a b c n hn _ (HT.out.same ((Same.refl _).alloc _))).mono ?_
        rintro e w1 ⟨rfl, s1⟩
        rw [← HR.out]
        have b0 := s1.new (i := 0) rfl
        have s01 := Same.trans ((Same.refl w).alloc (.cells #[.int .i64 op, .int .i64 a, .int .i64 b, .int .i64 c, .int .u32 n] 24)) s1
        clear s1
        go_wp2_with fail
        go_ret3
        exact ⟨rfl, s01⟩

def RegPost (w : World) (l : List Int) (e : Ending) (w' : World) : Prop :=
  ∃ A c, e = .returned (.slice A l.length c) ∧ Row w' A (i64s l) ∧ Same w w'

theorem ruses_0 (a b c n : Int) (w : World) : Calls Tryd.prog 19 #[ins 0 a b c n] w (RegPost w []) := by
  unfold ins
  go_enter Tryd.func19, Tryd.ntmps19
  go_wp2_with fail
  go_ret
  exact ⟨none, 0, rfl, Row.nil _ _, (Same.refl _).alloc _⟩

theorem ruses_1 (a b c n : Int) (w : World) : Calls Tryd.prog 19 #[ins 1 a b c n] w (RegPost w []) := by
  unfold ins
  go_enter Tryd.func19, Tryd.ntmps19
  go_wp2_with fail
  go_ret
  exact ⟨none, 0, rfl, Row.nil _ _, (Same.refl _).alloc _⟩

theorem ruses_2 (a b c n : Int) (w : World) : Calls Tryd.prog 19 #[ins 2 a b c n] w (RegPost w [b]) := by
  unfold ins
  go_enter Tryd.func19, Tryd.ntmps19
  go_wp2_with fail
  go_ret
  exact ⟨_, _, rfl, row_new2 _ _ _ _, ((Same.refl _).alloc _).alloc _⟩

theorem ruses_3 (a b c n : Int) (w : World) : Calls Tryd.prog 19 #[ins 3 a b c n] w (RegPost w [b, c]) := by
  unfold ins
  go_enter Tryd.func19, Tryd.ntmps19
  go_wp2_with fail
  go_ret
  exact ⟨_, _, rfl, row_new2 _ _ _ _, ((Same.refl _).alloc _).alloc _⟩

theorem ruses_4 (a b c n : Int) (w : World) : Calls Tryd.prog 19 #[ins 4 a b c n] w (RegPost w [b, c]) := by
  unfold ins
  go_enter Tryd.func19, Tryd.ntmps19
  go_wp2_with fail
  go_ret
  exact ⟨_, _, rfl, row_new2 _ _ _ _, ((Same.refl _).alloc _).alloc _⟩

theorem ruses_5 (a b c n : Int) (w : World) : Calls Tryd.prog 19 #[ins 5 a b c n] w (RegPost w [b, c]) := by
  unfold ins
  go_enter Tryd.func19, Tryd.ntmps19
  go_wp2_with fail
  go_ret
  exact ⟨_, _, rfl, row_new2 _ _ _ _, ((Same.refl _).alloc _).alloc _⟩

theorem ruses_6 (a b c n : Int) (w : World) : Calls Tryd.prog 19 #[ins 6 a b c n] w (RegPost w [b, c]) := by
  unfold ins
  go_enter Tryd.func19, Tryd.ntmps19
  go_wp2_with fail
  go_ret
  exact ⟨_, _, rfl, row_new2 _ _ _ _, ((Same.refl _).alloc _).alloc _⟩

theorem ruses_7 (a b c n : Int) (w : World) : Calls Tryd.prog 19 #[ins 7 a b c n] w (RegPost w [b, c]) := by
  unfold ins
  go_enter Tryd.func19, Tryd.ntmps19
  go_wp2_with fail
  go_ret
  exact ⟨_, _, rfl, row_new2 _ _ _ _, ((Same.refl _).alloc _).alloc _⟩

theorem ruses_8 (a b c n : Int) (w : World) : Calls Tryd.prog 19 #[ins 8 a b c n] w (RegPost w [b, c]) := by
  unfold ins
  go_enter Tryd.func19, Tryd.ntmps19
  go_wp2_with fail
  go_ret
  exact ⟨_, _, rfl, row_new2 _ _ _ _, ((Same.refl _).alloc _).alloc _⟩

theorem ruses_9 (a b c n : Int) (w : World) : Calls Tryd.prog 19 #[ins 9 a b c n] w (RegPost w [b, c]) := by
  unfold ins
  go_enter Tryd.func19, Tryd.ntmps19
  go_wp2_with fail
  go_ret
  exact ⟨_, _, rfl, row_new2 _ _ _ _, ((Same.refl _).alloc _).alloc _⟩

theorem ruses_10 (a b c n : Int) (w : World) : Calls Tryd.prog 19 #[ins 10 a b c n] w (RegPost w [b, c]) := by
  unfold ins
  go_enter Tryd.func19, Tryd.ntmps19
  go_wp2_with fail
  go_ret
  exact ⟨_, _, rfl, row_new2 _ _ _ _, ((Same.refl _).alloc _).alloc _⟩

theorem ruses_11 (a b c n : Int) (w : World) : Calls Tryd.prog 19 #[ins 11 a b c n] w (RegPost w [b]) := by
  unfold ins
  go_enter Tryd.func19, Tryd.ntmps19
  go_wp2_with fail
  go_ret
  exact ⟨_, _, rfl, row_new2 _ _ _ _, ((Same.refl _).alloc _).alloc _⟩

theorem ruses_12 (a b c n : Int) (w : World) : Calls Tryd.prog 19 #[ins 12 a b c n] w (RegPost w [a, b]) := by
  unfold ins
  go_enter Tryd.func19, Tryd.ntmps19
  go_wp2_with fail
  go_ret
  exact ⟨_, _, rfl, row_new2 _ _ _ _, ((Same.refl _).alloc _).alloc _⟩

theorem ruses_13 (a b c n : Int) (w : World) : Calls Tryd.prog 19 #[ins 13 a b c n] w (RegPost w [a, b, c]) := by
  unfold ins
  go_enter Tryd.func19, Tryd.ntmps19
  go_wp2_with fail
  go_ret
  exact ⟨_, _, rfl, row_new2 _ _ _ _, ((Same.refl _).alloc _).alloc _⟩

theorem ruses_14 (a b c n : Int) (w : World) : Calls Tryd.prog 19 #[ins 14 a b c n] w (RegPost w []) := by
  unfold ins
  go_enter Tryd.func19, Tryd.ntmps19
  go_wp2_with fail
  go_ret
  exact ⟨none, 0, rfl, Row.nil _ _, (Same.refl _).alloc _⟩

theorem ruses_15 (a b c n : Int) (w : World) : Calls Tryd.prog 19 #[ins 15 a b c n] w (RegPost w [a]) := by
  unfold ins
  go_enter Tryd.func19, Tryd.ntmps19
  go_wp2_with fail
  go_ret
  exact ⟨_, _, rfl, row_new2 _ _ _ _, ((Same.refl _).alloc _).alloc _⟩

theorem ruses_16 (a b c n : Int) (w : World) : Calls Tryd.prog 19 #[ins 16 a b c n] w (RegPost w []) := by
  unfold ins
  go_enter Tryd.func19, Tryd.ntmps19
  go_wp2_with fail
  go_ret
  exact ⟨none, 0, rfl, Row.nil _ _, (Same.refl _).alloc _⟩

theorem ruses_17 (a b c n : Int) (w : World) : Calls Tryd.prog 19 #[ins 17 a b c n] w (RegPost w []) := by
  unfold ins
  go_enter Tryd.func19, Tryd.ntmps19
  go_wp2_with fail
  go_ret
  exact ⟨none, 0, rfl, Row.nil _ _, (Same.refl _).alloc _⟩

theorem ruses_18 (a b c n : Int) (w : World) : Calls Tryd.prog 19 #[ins 18 a b c n] w (RegPost w []) := by
  unfold ins
  go_enter Tryd.func19, Tryd.ntmps19
  go_wp2_with fail
  go_ret
  exact ⟨none, 0, rfl, Row.nil _ _, (Same.refl _).alloc _⟩

theorem ruses_19 (a b c n : Int) (w : World) : Calls Tryd.prog 19 #[ins 19 a b c n] w (RegPost w []) := by
  unfold ins
  go_enter Tryd.func19, Tryd.ntmps19
  go_wp2_with fail
  go_ret
  exact ⟨none, 0, rfl, Row.nil _ _, (Same.refl _).alloc _⟩

theorem ruses_20 (a b c n : Int) (w : World) : Calls Tryd.prog 19 #[ins 20 a b c n] w (RegPost w []) := by
  unfold ins
  go_enter Tryd.func19, Tryd.ntmps19
  go_wp2_with fail
  go_ret
  exact ⟨none, 0, rfl, Row.nil _ _, (Same.refl _).alloc _⟩

theorem ruses_21 (a b c n : Int) (w : World) : Calls Tryd.prog 19 #[ins 21 a b c n] w (RegPost w []) := by
  unfold ins
  go_enter Tryd.func19, Tryd.ntmps19
  go_wp2_with fail
  go_ret
  exact ⟨none, 0, rfl, Row.nil _ _, (Same.refl _).alloc _⟩

theorem ruses_any (o : Nat) (ho : o < 22) (a b c n : Int) (w : World) : Calls Tryd.prog 19 #[ins (o : Int) a b c n] w (RegPost w ((useL.getD o []).map (letV a b c))) := by
  rcases (by omega : o = 0 ∨ o = 1 ∨ o = 2 ∨ o = 3 ∨ o = 4 ∨ o = 5 ∨ o = 6 ∨ o = 7 ∨ o = 8 ∨ o = 9 ∨ o = 10 ∨ o = 11 ∨ o = 12 ∨ o = 13 ∨ o = 14 ∨ o = 15 ∨ o = 16 ∨ o = 17 ∨ o = 18 ∨ o = 19 ∨ o = 20 ∨ o = 21) with rfl | rfl | rfl | rfl | rfl | rfl | rfl | rfl | rfl | rfl | rfl | rfl | rfl | rfl | rfl | rfl | rfl | rfl | rfl | rfl | rfl | rfl
  · exact ruses_0 a b c n w
  · exact ruses_1 a b c n w
  · exact ruses_2 a b c n w
  · exact ruses_3 a b c n w
  · exact ruses_4 a b c n w
  · exact ruses_5 a b c n w
  · exact ruses_6 a b c n w
  · exact ruses_7 a b c n w
  · exact ruses_8 a b c n w
  · exact ruses_9 a b c n w
  · exact ruses_10 a b c n w
  · exact ruses_11 a b c n w
  · exact ruses_12 a b c n w
  · exact ruses_13 a b c n w
  · exact ruses_14 a b c n w
  · exact ruses_15 a b c n w
  · exact ruses_16 a b c n w
  · exact ruses_17 a b c n w
  · exact ruses_18 a b c n w
  · exact ruses_19 a b c n w
  · exact ruses_20 a b c n w
  · exact ruses_21 a b c n w

theorem rsets_0 (a b c n : Int) (w : World) : Calls Tryd.prog 20 #[ins 0 a b c n] w (RegPost w []) := by
  unfold ins
  go_enter Tryd.func20, Tryd.ntmps20
  go_wp2_with (go_at_call 17; refine (rcalls_any _ _).mono ?_; rintro e w' ⟨rfl, rfl⟩; rw [show callV 0 = 0 by decide])
  go_ret
  exact ⟨none, 0, rfl, Row.nil _ _, (Same.refl _).alloc _⟩

theorem rsets_1 (a b c n : Int) (w : World) : Calls Tryd.prog 20 #[ins 1 a b c n] w (RegPost w [a]) := by
  unfold ins
  go_enter Tryd.func20, Tryd.ntmps20
  go_wp2_with (go_at_call 17; refine (rcalls_any _ _).mono ?_; rintro e w' ⟨rfl, rfl⟩; rw [show callV 1 = 0 by decide])
  go_ret
  exact ⟨_, _, rfl, row_new2 _ _ _ _, ((Same.refl _).alloc _).alloc _⟩

theorem rsets_2 (a b c n : Int) (w : World) : Calls Tryd.prog 20 #[ins 2 a b c n] w (RegPost w [a]) := by
  unfold ins
  go_enter Tryd.func20, Tryd.ntmps20
  go_wp2_with (go_at_call 17; refine (rcalls_any _ _).mono ?_; rintro e w' ⟨rfl, rfl⟩; rw [show callV 2 = 0 by decide])
  go_ret
  exact ⟨_, _, rfl, row_new2 _ _ _ _, ((Same.refl _).alloc _).alloc _⟩

theorem rsets_3 (a b c n : Int) (w : World) : Calls Tryd.prog 20 #[ins 3 a b c n] w (RegPost w [a]) := by
  unfold ins
  go_enter Tryd.func20, Tryd.ntmps20
  go_wp2_with (go_at_call 17; refine (rcalls_any _ _).mono ?_; rintro e w' ⟨rfl, rfl⟩; rw [show callV 3 = 0 by decide])
  go_ret
  exact ⟨_, _, rfl, row_new2 _ _ _ _, ((Same.refl _).alloc _).alloc _⟩

theorem rsets_4 (a b c n : Int) (w : World) : Calls Tryd.prog 20 #[ins 4 a b c n] w (RegPost w [a]) := by
  unfold ins
  go_enter Tryd.func20, Tryd.ntmps20
  go_wp2_with (go_at_call 17; refine (rcalls_any _ _).mono ?_; rintro e w' ⟨rfl, rfl⟩; rw [show callV 4 = 0 by decide])
  go_ret
  exact ⟨_, _, rfl, row_new2 _ _ _ _, ((Same.refl _).alloc _).alloc _⟩

theorem rsets_5 (a b c n : Int) (w : World) : Calls Tryd.prog 20 #[ins 5 a b c n] w (RegPost w [a]) := by
  unfold ins
  go_enter Tryd.func20, Tryd.ntmps20
  go_wp2_with (go_at_call 17; refine (rcalls_any _ _).mono ?_; rintro e w' ⟨rfl, rfl⟩; rw [show callV 5 = 0 by decide])
  go_ret
  exact ⟨_, _, rfl, row_new2 _ _ _ _, ((Same.refl _).alloc _).alloc _⟩

theorem rsets_6 (a b c n : Int) (w : World) : Calls Tryd.prog 20 #[ins 6 a b c n] w (RegPost w [a]) := by
  unfold ins
  go_enter Tryd.func20, Tryd.ntmps20
  go_wp2_with (go_at_call 17; refine (rcalls_any _ _).mono ?_; rintro e w' ⟨rfl, rfl⟩; rw [show callV 6 = 0 by decide])
  go_ret
  exact ⟨_, _, rfl, row_new2 _ _ _ _, ((Same.refl _).alloc _).alloc _⟩

theorem rsets_7 (a b c n : Int) (w : World) : Calls Tryd.prog 20 #[ins 7 a b c n] w (RegPost w [a]) := by
  unfold ins
  go_enter Tryd.func20, Tryd.ntmps20
  go_wp2_with (go_at_call 17; refine (rcalls_any _ _).mono ?_; rintro e w' ⟨rfl, rfl⟩; rw [show callV 7 = 0 by decide])
  go_ret
  exact ⟨_, _, rfl, row_new2 _ _ _ _, ((Same.refl _).alloc _).alloc _⟩

theorem rsets_8 (a b c n : Int) (w : World) : Calls Tryd.prog 20 #[ins 8 a b c n] w (RegPost w [a]) := by
  unfold ins
  go_enter Tryd.func20, Tryd.ntmps20
  go_wp2_with (go_at_call 17; refine (rcalls_any _ _).mono ?_; rintro e w' ⟨rfl, rfl⟩; rw [show callV 8 = 0 by decide])
  go_ret
  exact ⟨_, _, rfl, row_new2 _ _ _ _, ((Same.refl _).alloc _).alloc _⟩

theorem rsets_9 (a b c n : Int) (w : World) : Calls Tryd.prog 20 #[ins 9 a b c n] w (RegPost w [a]) := by
  unfold ins
  go_enter Tryd.func20, Tryd.ntmps20
  go_wp2_with (go_at_call 17; refine (rcalls_any _ _).mono ?_; rintro e w' ⟨rfl, rfl⟩; rw [show callV 9 = 0 by decide])
  go_ret
  exact ⟨_, _, rfl, row_new2 _ _ _ _, ((Same.refl _).alloc _).alloc _⟩

theorem rsets_10 (a b c n : Int) (w : World) : Calls Tryd.prog 20 #[ins 10 a b c n] w (RegPost w [a]) := by
  unfold ins
  go_enter Tryd.func20, Tryd.ntmps20
  go_wp2_with (go_at_call 17; refine (rcalls_any _ _).mono ?_; rintro e w' ⟨rfl, rfl⟩; rw [show callV 10 = 0 by decide])
  go_ret
  exact ⟨_, _, rfl, row_new2 _ _ _ _, ((Same.refl _).alloc _).alloc _⟩

theorem rsets_11 (a b c n : Int) (w : World) : Calls Tryd.prog 20 #[ins 11 a b c n] w (RegPost w [a]) := by
  unfold ins
  go_enter Tryd.func20, Tryd.ntmps20
  go_wp2_with (go_at_call 17; refine (rcalls_any _ _).mono ?_; rintro e w' ⟨rfl, rfl⟩; rw [show callV 11 = 0 by decide])
  go_ret
  exact ⟨_, _, rfl, row_new2 _ _ _ _, ((Same.refl _).alloc _).alloc _⟩

theorem rsets_12 (a b c n : Int) (w : World) : Calls Tryd.prog 20 #[ins 12 a b c n] w (RegPost w []) := by
  unfold ins
  go_enter Tryd.func20, Tryd.ntmps20
  go_wp2_with (go_at_call 17; refine (rcalls_any _ _).mono ?_; rintro e w' ⟨rfl, rfl⟩; rw [show callV 12 = 0 by decide])
  go_ret
  exact ⟨none, 0, rfl, Row.nil _ _, (Same.refl _).alloc _⟩

theorem rsets_13 (a b c n : Int) (w : World) : Calls Tryd.prog 20 #[ins 13 a b c n] w (RegPost w [a]) := by
  unfold ins
  go_enter Tryd.func20, Tryd.ntmps20
  go_wp2_with (go_at_call 17; refine (rcalls_any _ _).mono ?_; rintro e w' ⟨rfl, rfl⟩; rw [show callV 13 = 0 by decide])
  go_ret
  exact ⟨_, _, rfl, row_new2 _ _ _ _, ((Same.refl _).alloc _).alloc _⟩

theorem rsets_14 (a b c n : Int) (w : World) : Calls Tryd.prog 20 #[ins 14 a b c n] w (RegPost w []) := by
  unfold ins
  go_enter Tryd.func20, Tryd.ntmps20
  go_wp2_with (go_at_call 17; refine (rcalls_any _ _).mono ?_; rintro e w' ⟨rfl, rfl⟩; rw [show callV 14 = 0 by decide])
  go_ret
  exact ⟨none, 0, rfl, Row.nil _ _, (Same.refl _).alloc _⟩

theorem rsets_15 (a b c n : Int) (w : World) : Calls Tryd.prog 20 #[ins 15 a b c n] w (RegPost w []) := by
  unfold ins
  go_enter Tryd.func20, Tryd.ntmps20
  go_wp2_with (go_at_call 17; refine (rcalls_any _ _).mono ?_; rintro e w' ⟨rfl, rfl⟩; rw [show callV 15 = 0 by decide])
  go_ret
  exact ⟨none, 0, rfl, Row.nil _ _, (Same.refl _).alloc _⟩

theorem rsets_16 (a b c n : Int) (w : World) : Calls Tryd.prog 20 #[ins 16 a b c n] w (RegPost w []) := by
  unfold ins
  go_enter Tryd.func20, Tryd.ntmps20
  go_wp2_with (go_at_call 17; refine (rcalls_any _ _).mono ?_; rintro e w' ⟨rfl, rfl⟩; rw [show callV 16 = 0 by decide])
  go_ret
  exact ⟨none, 0, rfl, Row.nil _ _, (Same.refl _).alloc _⟩

theorem rsets_17 (a b c n : Int) (w : World) : Calls Tryd.prog 20 #[ins 17 a b c n] w (RegPost w [a]) := by
  unfold ins
  go_enter Tryd.func20, Tryd.ntmps20
  go_wp2_with (go_at_call 17; refine (rcalls_any _ _).mono ?_; rintro e w' ⟨rfl, rfl⟩; rw [show callV 17 = 1 by decide])
  go_ret
  exact ⟨_, _, rfl, row_new2 _ _ _ _, ((Same.refl _).alloc _).alloc _⟩

theorem rsets_18 (a b c n : Int) (w : World) : Calls Tryd.prog 20 #[ins 18 a b c n] w (RegPost w [a]) := by
  unfold ins
  go_enter Tryd.func20, Tryd.ntmps20
  go_wp2_with (go_at_call 17; refine (rcalls_any _ _).mono ?_; rintro e w' ⟨rfl, rfl⟩; rw [show callV 18 = 2 by decide])
  go_ret
  exact ⟨_, _, rfl, row_new2 _ _ _ _, ((Same.refl _).alloc _).alloc _⟩

theorem rsets_19 (a b c n : Int) (w : World) : Calls Tryd.prog 20 #[ins 19 a b c n] w (RegPost w [a]) := by
  unfold ins
  go_enter Tryd.func20, Tryd.ntmps20
  go_wp2_with (go_at_call 17; refine (rcalls_any _ _).mono ?_; rintro e w' ⟨rfl, rfl⟩; rw [show callV 19 = 3 by decide])
  go_ret
  exact ⟨_, _, rfl, row_new2 _ _ _ _, ((Same.refl _).alloc _).alloc _⟩

theorem rsets_20 (a b c n : Int) (w : World) : Calls Tryd.prog 20 #[ins 20 a b c n] w (RegPost w [a]) := by
  unfold ins
  go_enter Tryd.func20, Tryd.ntmps20
  go_wp2_with (go_at_call 17; refine (rcalls_any _ _).mono ?_; rintro e w' ⟨rfl, rfl⟩; rw [show callV 20 = 4 by decide])
  go_ret
  exact ⟨_, _, rfl, row_new2 _ _ _ _, ((Same.refl _).alloc _).alloc _⟩

theorem rsets_21 (a b c n : Int) (w : World) : Calls Tryd.prog 20 #[ins 21 a b c n] w (RegPost w []) := by
  unfold ins
  go_enter Tryd.func20, Tryd.ntmps20
  go_wp2_with (go_at_call 17; refine (rcalls_any _ _).mono ?_; rintro e w' ⟨rfl, rfl⟩; rw [show callV 21 = 0 by decide])
  go_ret
  exact ⟨none, 0, rfl, Row.nil _ _, (Same.refl _).alloc _⟩

theorem rsets_any (o : Nat) (ho : o < 22) (a b c n : Int) (w : World) : Calls Tryd.prog 20 #[ins (o : Int) a b c n] w (RegPost w ((setL.getD o []).map (letV a b c))) := by
  rcases (by omega : o = 0 ∨ o = 1 ∨ o = 2 ∨ o = 3 ∨ o = 4 ∨ o = 5 ∨ o = 6 ∨ o = 7 ∨ o = 8 ∨ o = 9 ∨ o = 10 ∨ o = 11 ∨ o = 12 ∨ o = 13 ∨ o = 14 ∨ o = 15 ∨ o = 16 ∨ o = 17 ∨ o = 18 ∨ o = 19 ∨ o = 20 ∨ o = 21) with rfl | rfl | rfl | rfl | rfl | rfl | rfl | rfl | rfl | rfl | rfl | rfl | rfl | rfl | rfl | rfl | rfl | rfl | rfl | rfl | rfl | rfl
  · exact rsets_0 a b c n w
  · exact rsets_1 a b c n w
  · exact rsets_2 a b c n w
  · exact rsets_3 a b c n w
  · exact rsets_4 a b c n w
  · exact rsets_5 a b c n w
  · exact rsets_6 a b c n w
  · exact rsets_7 a b c n w
  · exact rsets_8 a b c n w
  · exact rsets_9 a b c n w
  · exact rsets_10 a b c n w
  · exact rsets_11 a b c n w
  · exact rsets_12 a b c n w
  · exact rsets_13 a b c n w
  · exact rsets_14 a b c n w
  · exact rsets_15 a b c n w
  · exact rsets_16 a b c n w
  · exact rsets_17 a b c n w
  · exact rsets_18 a b c n w
  · exact rsets_19 a b c n w
  · exact rsets_20 a b c n w
  · exact rsets_21 a b c n w

end Go.Proofs.YtgpipfmgjbecjacDoor.Is
