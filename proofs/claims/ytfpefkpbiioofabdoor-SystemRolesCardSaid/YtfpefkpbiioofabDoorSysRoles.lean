/-

  SystemRoles: what any task does with any object.
-/
import Derived.Test.YtfpefkpbiioofabDoorSysEx
set_option linter.unusedVariables false
set_option linter.unusedSimpArgs false
namespace Go.Proofs.YtfpefkpbiioofabDoor.Sy
open Go.ChangeShapes Go.WideShapes Go.ChangeAt Go.RowKit Ws
open Go.Proofs.YtfpefkpbiioofabDoor.Im (PT PO PS TsAt OsAt SysAt tcells ocells)
open Go.Proofs.YtfpefkpbiioofabDoor.Is (Tabs)
open Go.Proofs.YtfpefkpbiioofabDoor.Ly (three_same)

theorem sy_wid {os : List PO} (h : OFew os 60) : OFew os 5000 := ⟨by have := h.1; omega, h.2⟩
set_option maxRecDepth 100000 in
set_option maxHeartbeats 1000000 in
theorem roles_walk (A B : Option Addr) (n c m d : Nat) (s : PS) (i k : Int) (w : World) (hs : SysAt w A n B m s) (hnm : n ≤ maxLen ∧ m ≤ maxLen) (hT : Tabs w) :
    Calls Tryd.prog 4 #[.agg #[.slice A n c, .slice B m d], .int .i64 i, .int .i64 k] w fun e w' => e = .returned (.bool true) ∧ Same w w' := by
  have hs0 := (Same.refl w).alloc (.cells #[.slice A n c, .slice B m d] 25)
  have HS0 := Lib.hid hs0
  have hb0 := Blk.new w 25 #[.slice A n c, .slice B m d]
  have HB0 := Lib.hid hb0
  have FW := Lib.hid (few31 A B n c m d s 60 _ (hs.same hs0) hnm)
  have AW := Lib.hid (fun w' (h : Same w w') => awake32 w' (hT.same h))
  have HSY := Lib.hid hs
  obtain ⟨a0, a1⟩ := (⟨hb0.cell 0, hb0.cell 1⟩ : _ ∧ _)
  simp only [List.getElem?_toArray, List.getElem?_cons_zero, List.getElem?_cons_succ] at a0 a1
  clear hs0 hb0 hs hnm hT
  go_enter Tryd.func4, Tryd.ntmps4
  go_wp2_with fail
  refine FW.out.mono ?_
  rintro e w1 ⟨⟨b, rfl, hb⟩, s1⟩
  have HS1 := Lib.hid (HS0.out.trans s1)
  have HB1 := Lib.hid (HB0.out.same s1)
  have HBB := Lib.hid hb
  clear s1 hb FW HS0 HB0 a0 a1
  cases b with
  | false =>
    go_wp2_with fail
    refine (AW.out _ HS1.out).mono ?_
    rintro e w2 ⟨rfl, s2⟩
    have HS2 := Lib.hid (HS1.out.trans s2)
    clear s2
    go_wp2_with fail
    go_ret
    exact ⟨rfl, HS2.out⟩
  | true =>
    have HO := Lib.hid (sy_wid (HBB.out (by first | rfl | trivial)).2)
    obtain ⟨a0, a1⟩ := (⟨HB1.out.cell 0, HB1.out.cell 1⟩ : _ ∧ _)
    simp only [List.getElem?_toArray, List.getElem?_cons_zero, List.getElem?_cons_succ] at a0 a1
    have RA := Lib.hid (role_any A B n c m d s i k _ (HSY.out.same HS1.out) HO.out)
    have RB := Lib.hid (fun w' (h : Same w w') => rrole_any A B n c m d s i k w' (HSY.out.same h) HO.out)
    generalize roleF s i k = r at *
    go_wp2_with fail
    refine RA.out.mono ?_
    rintro e w2 ⟨rfl, s2⟩
    have HS2 := Lib.hid (HS1.out.trans s2)
    have HB2 := Lib.hid (HB1.out.same s2)
    clear s2 RA HS1 HB1 a0 a1
    obtain ⟨a0, a1⟩ := (⟨HB2.out.cell 0, HB2.out.cell 1⟩ : _ ∧ _)
    simp only [List.getElem?_toArray, List.getElem?_cons_zero, List.getElem?_cons_succ] at a0 a1
    by_cases hr : 0 < r
    · have hr1 : r > 0 := hr
      have hr2 : decide (0 < r) = true := decide_eq_true hr
      go_wp2_with fail
      refine (RB.out _ HS2.out).mono ?_
      rintro e w3 ⟨rfl, s3⟩
      have HS3 := Lib.hid (HS2.out.trans s3)
      clear s3
      go_wp2_with fail
      refine (AW.out _ HS3.out).mono ?_
      rintro e w4 ⟨rfl, s4⟩
      have HS4 := Lib.hid (HS3.out.trans s4)
      clear s4
      go_wp2_with fail
      go_ret
      exact ⟨rfl, HS4.out⟩
    · have hr1 : ¬ r > 0 := hr
      have hr2 : decide (0 < r) = false := decide_eq_false hr
      go_wp2_with fail
      refine (RB.out _ HS2.out).mono ?_
      rintro e w3 ⟨rfl, s3⟩
      have HS3 := Lib.hid (HS2.out.trans s3)
      clear s3
      go_wp2_with fail
      refine (AW.out _ HS3.out).mono ?_
      rintro e w4 ⟨rfl, s4⟩
      have HS4 := Lib.hid (HS3.out.trans s4)
      clear s4
      go_wp2_with fail
      go_ret
      exact ⟨rfl, HS4.out⟩
end Go.Proofs.YtfpefkpbiioofabDoor.Sy
