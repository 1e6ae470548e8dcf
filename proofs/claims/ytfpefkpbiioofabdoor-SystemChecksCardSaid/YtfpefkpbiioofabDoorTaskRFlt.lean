/-

  TaskFaults returns true for every task.
-/
import Derived.Test.YtfpefkpbiioofabDoorTaskPlain
import Derived.Test.YtfpefkpbiioofabDoorFlowCk
import Derived.Test.YtfpefkpbiioofabDoorOperApp
import Derived.Test.YtfpefkpbiioofabDoorRefFlowCk
section
set_option linter.unusedVariables false
set_option linter.unusedSimpArgs false
namespace Go.Proofs.YtfpefkpbiioofabDoor.Tp
open Go.ChangeShapes Go.WideShapes Go.ChangeAt Go.RowKit Ws
open Go.Proofs.YtfpefkpbiioofabDoor.Fw (Prg ckI ckE check_any)
open Go.Proofs.YtfpefkpbiioofabDoor.Fp (Ins)
open Go.Proofs.YtfpefkpbiioofabDoor.Is (Tabs)

def fI (k p r o d ow : Int) (P : List Ins) : Int := if plainB k p r o d ow = true then (if ckE P = 0 then -1 else ckI P) else -1
def fE (k p r o d ow : Int) (P : List Ins) : Int := if plainB k p r o d ow = true then ckE P else 1
set_option maxRecDepth 100000 in
theorem fault_any (k p r o d ow : Int) (A : Option Addr) (n c : Nat) (P : List Ins) (w : World) (hl : P.length = n) (hm : n ≤ 200) (hp : Prg w A P) (ht : Tabs w) :
    Calls Tryd.prog 31 #[.agg #[.int .i64 k, .int .i64 p, .int .i64 r, .int .i64 o, .int .i64 d, .int .i64 ow, .slice A n c]] w fun e w' => e = .returned (.tuple #[.int .i64 (fI k p r o d ow P), .int .i64 (fE k p r o d ow P)]) ∧ Same w w' := by
  have hs0 := (Same.refl w).alloc (.cells #[.int .i64 k, .int .i64 p, .int .i64 r, .int .i64 o, .int .i64 d, .int .i64 ow, .slice A n c] 49)
  have PL := plain_any k p r o d ow A n c (w.alloc (.cells #[.int .i64 k, .int .i64 p, .int .i64 r, .int .i64 o, .int .i64 d, .int .i64 ow, .slice A n c] 49))
  have CK := fun w' (s : Same w w') => check_any A n c P w' hl (by omega) (hp.same s) (ht.same s)
  unfold fI fE
  have HS0 := Lib.hid hs0
  clear hl hp ht hs0
  generalize ckI P = ii at *
  generalize ckE P = ee at *
  cases hpl : plainB k p r o d ow
  · rw [hpl] at PL
    rw [if_neg Bool.false_ne_true, if_neg Bool.false_ne_true]
    have HPL := Lib.hid PL
    clear PL hpl CK
    go_enter Tryd.func31, Tryd.ntmps31
    go_wp2_with fail
    refine HPL.out.mono ?_
    rintro e w1 ⟨rfl, s1⟩
    go_wp2_with fail
    go_ret2
    exact ⟨rfl, HS0.out.trans s1⟩
  · rw [hpl] at PL
    rw [if_pos rfl, if_pos rfl]
    have HPL := Lib.hid PL
    have HCK := Lib.hid CK
    clear PL hpl CK
    by_cases he : ee = 0
    · subst he
      rw [if_pos rfl]
      go_enter Tryd.func31, Tryd.ntmps31
      go_wp2_with fail
      refine HPL.out.mono ?_
      rintro e w1 ⟨rfl, s1⟩
      have y6 : w1.cell? ⟨w.heap.size, 6, none⟩ = some (.slice A n c) := s1.new (i := 6) rfl
      have HS1 := Lib.hid (HS0.out.trans s1)
      clear s1
      go_wp2_with fail
      refine (HCK.out _ HS1.out).mono ?_
      rintro e w2 ⟨rfl, s2⟩
      go_wp2_with fail
      go_ret2
      exact ⟨rfl, HS1.out.trans s2⟩
    · have b0 : (ee == 0) = false := by simpa using he
      have b1 : (ee != 0) = true := by simpa using he
      rw [if_neg he]
      clear he
      go_enter Tryd.func31, Tryd.ntmps31
      go_wp2_with fail
      refine HPL.out.mono ?_
      rintro e w1 ⟨rfl, s1⟩
      have y6 : w1.cell? ⟨w.heap.size, 6, none⟩ = some (.slice A n c) := s1.new (i := 6) rfl
      have HS1 := Lib.hid (HS0.out.trans s1)
      clear s1
      go_wp2_with fail
      refine (HCK.out _ HS1.out).mono ?_
      rintro e w2 ⟨rfl, s2⟩
      go_wp2_with fail
      go_ret2
      exact ⟨rfl, HS1.out.trans s2⟩
end Go.Proofs.YtfpefkpbiioofabDoor.Tp
end
section
set_option linter.unusedVariables false
set_option linter.unusedSimpArgs false
namespace Go.Proofs.YtfpefkpbiioofabDoor.Tp
open Go.ChangeShapes Go.WideShapes Go.ChangeAt Go.RowKit Ws
open Go.Proofs.YtfpefkpbiioofabDoor.Fw (Prg ckI ckE check_any rcheck_any)
open Go.Proofs.YtfpefkpbiioofabDoor.Fp (Ins)
open Go.Proofs.YtfpefkpbiioofabDoor.Is (Tabs)

set_option maxRecDepth 100000 in
theorem rfault_any (k p r o d ow : Int) (A : Option Addr) (n c : Nat) (P : List Ins) (w : World) (hl : P.length = n) (hm : n ≤ 200) (hp : Prg w A P) (ht : Tabs w) :
    Calls Tryd.prog 20 #[.agg #[.int .i64 k, .int .i64 p, .int .i64 r, .int .i64 o, .int .i64 d, .int .i64 ow, .slice A n c]] w fun e w' => e = .returned (.tuple #[.int .i64 (fI k p r o d ow P), .int .i64 (fE k p r o d ow P)]) ∧ Same w w' := by
  have hs0 := (Same.refl w).alloc (.cells #[.int .i64 k, .int .i64 p, .int .i64 r, .int .i64 o, .int .i64 d, .int .i64 ow, .slice A n c] 49)
  have PL := rplain_any k p r o d ow A n c (w.alloc (.cells #[.int .i64 k, .int .i64 p, .int .i64 r, .int .i64 o, .int .i64 d, .int .i64 ow, .slice A n c] 49))
  have CK := fun w' (s : Same w w') => rcheck_any A n c P w' hl (by omega) (hp.same s)
  unfold fI fE
  have HS0 := Lib.hid hs0
  clear hl hp ht hs0
  generalize ckI P = ii at *
  generalize ckE P = ee at *
  cases hpl : plainB k p r o d ow
  · rw [hpl] at PL
    rw [if_neg Bool.false_ne_true, if_neg Bool.false_ne_true]
    have HPL := Lib.hid PL
    clear PL hpl CK
    go_enter Tryd.func20, Tryd.ntmps20
    go_wp2_with fail
    refine HPL.out.mono ?_
    rintro e w1 ⟨rfl, s1⟩
    go_wp2_with fail
    go_ret2
    exact ⟨rfl, HS0.out.trans s1⟩
  · rw [hpl] at PL
    rw [if_pos rfl, if_pos rfl]
    have HPL := Lib.hid PL
    have HCK := Lib.hid CK
    clear PL hpl CK
    by_cases he : ee = 0
    · subst he
      rw [if_pos rfl]
      go_enter Tryd.func20, Tryd.ntmps20
      go_wp2_with fail
      refine HPL.out.mono ?_
      rintro e w1 ⟨rfl, s1⟩
      have y6 : w1.cell? ⟨w.heap.size, 6, none⟩ = some (.slice A n c) := s1.new (i := 6) rfl
      have HS1 := Lib.hid (HS0.out.trans s1)
      clear s1
      go_wp2_with fail
      refine (HCK.out _ HS1.out).mono ?_
      rintro e w2 ⟨rfl, s2⟩
      go_wp2_with fail
      go_ret2
      exact ⟨rfl, HS1.out.trans s2⟩
    · have b0 : (ee == 0) = false := by simpa using he
      have b1 : (ee != 0) = true := by simpa using he
      rw [if_neg he]
      clear he
      go_enter Tryd.func20, Tryd.ntmps20
      go_wp2_with fail
      refine HPL.out.mono ?_
      rintro e w1 ⟨rfl, s1⟩
      have y6 : w1.cell? ⟨w.heap.size, 6, none⟩ = some (.slice A n c) := s1.new (i := 6) rfl
      have HS1 := Lib.hid (HS0.out.trans s1)
      clear s1
      go_wp2_with fail
      refine (HCK.out _ HS1.out).mono ?_
      rintro e w2 ⟨rfl, s2⟩
      go_wp2_with fail
      go_ret2
      exact ⟨rfl, HS1.out.trans s2⟩
end Go.Proofs.YtfpefkpbiioofabDoor.Tp
end
