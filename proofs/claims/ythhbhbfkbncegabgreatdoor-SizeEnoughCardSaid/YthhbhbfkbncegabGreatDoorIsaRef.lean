/-

 The document's own answer on which instructions are right, as the tables say it.
-/
import Derived.Test.YthhbhbfkbncegabGreatDoorIsa
set_option linter.unusedSimpArgs false
set_option linter.unusedVariables false
namespace Go.Proofs.YthhbhbfkbncegabGreatDoor.Is
open Go.ChangeShapes Go.WideShapes Go.ChangeAt Go.RowKit Ws

theorem right_1 (a b c n : Int) : rightB 1 a b c n = (decide (0 ≤ a ∧ a ≤ 7) && (decide (0 ≤ b ∧ b ≤ 0) && (decide (0 ≤ c ∧ c ≤ 0) && decide (0 ≤ n ∧ n ≤ 4294967295)))) := rfl
theorem right_2 (a b c n : Int) : rightB 2 a b c n = (decide (0 ≤ a ∧ a ≤ 7) && (decide (0 ≤ b ∧ b ≤ 7) && (decide (0 ≤ c ∧ c ≤ 0) && decide (0 ≤ n ∧ n ≤ 0)))) := rfl
theorem right_3 (a b c n : Int) : rightB 3 a b c n = (decide (0 ≤ a ∧ a ≤ 7) && (decide (0 ≤ b ∧ b ≤ 7) && (decide (0 ≤ c ∧ c ≤ 7) && decide (0 ≤ n ∧ n ≤ 0)))) := rfl
theorem right_4 (a b c n : Int) : rightB 4 a b c n = (decide (0 ≤ a ∧ a ≤ 7) && (decide (0 ≤ b ∧ b ≤ 7) && (decide (0 ≤ c ∧ c ≤ 7) && decide (0 ≤ n ∧ n ≤ 0)))) := rfl
theorem right_5 (a b c n : Int) : rightB 5 a b c n = (decide (0 ≤ a ∧ a ≤ 7) && (decide (0 ≤ b ∧ b ≤ 7) && (decide (0 ≤ c ∧ c ≤ 7) && decide (0 ≤ n ∧ n ≤ 0)))) := rfl
theorem right_6 (a b c n : Int) : rightB 6 a b c n = (decide (0 ≤ a ∧ a ≤ 7) && (decide (0 ≤ b ∧ b ≤ 7) && (decide (0 ≤ c ∧ c ≤ 7) && decide (0 ≤ n ∧ n ≤ 0)))) := rfl
end Go.Proofs.YthhbhbfkbncegabGreatDoor.Is
