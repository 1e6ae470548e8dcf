/-
 What stands of each way of a program that may be (chapter 10): plain.
-/
import Derived.Test.YthhbhbfkbncegaaGreatDoorFlowMore
set_option linter.unusedSimpArgs false
set_option linter.unusedVariables false
namespace Go.Proofs.YthhbhbfkbncegaaGreatDoor.Fp

section
variable {right : Ins → Bool} {p : List Ins}
theorem next_some {k : Nat} (h : ¬ (at_ p k).op = 21) : 0 < (nextL p k).length := by
 unfold nextL
 rw [if_neg h]
 repeat' split
 all_goals simp
theorem next_len (p : List Ins) (k : Nat) : (nextL p k).length ≤ 2 := by
 unfold nextL
 repeat' split
 all_goals simp
end

end Go.Proofs.YthhbhbfkbncegaaGreatDoor.Fp
