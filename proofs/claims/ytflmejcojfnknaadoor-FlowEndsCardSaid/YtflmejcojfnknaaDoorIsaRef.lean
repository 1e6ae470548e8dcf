/-

  The document's own answer on which instructions are right, as the tables say it.
-/
import Derived.Test.YtflmejcojfnknaaDoorIsa
set_option linter.unusedSimpArgs false
set_option linter.unusedVariables false
namespace Go.Proofs.YtflmejcojfnknaaDoor.Is
open Go.ChangeShapes Go.WideShapes Go.ChangeAt Go.RowKit Ws

theorem right_0 (a b c n : Int) : rightB 0 a b c n = (decide (0 ≤ a ∧ a ≤ 0) && (decide (0 ≤ b ∧ b ≤ 0) && (decide (0 ≤ c ∧ c ≤ 0) && decide (0 ≤ n ∧ n ≤ 0)))) := rfl
theorem right_1 (a b c n : Int) : rightB 1 a b c n = (decide (0 ≤ a ∧ a ≤ 7) && (decide (0 ≤ b ∧ b ≤ 0) && (decide (0 ≤ c ∧ c ≤ 0) && decide (0 ≤ n ∧ n ≤ 4294967295)))) := rfl
theorem right_2 (a b c n : Int) : rightB 2 a b c n = (decide (0 ≤ a ∧ a ≤ 7) && (decide (0 ≤ b ∧ b ≤ 7) && (decide (0 ≤ c ∧ c ≤ 0) && decide (0 ≤ n ∧ n ≤ 0)))) := rfl
theorem right_3 (a b c n : Int) : rightB 3 a b c n = (decide (0 ≤ a ∧ a ≤ 7) && (decide (0 ≤ b ∧ b ≤ 7) && (decide (0 ≤ c ∧ c ≤ 7) && decide (0 ≤ n ∧ n ≤ 0)))) := rfl
theorem right_4 (a b c n : Int) : rightB 4 a b c n = (decide (0 ≤ a ∧ a ≤ 7) && (decide (0 ≤ b ∧ b ≤ 7) && (decide (0 ≤ c ∧ c ≤ 7) && decide (0 ≤ n ∧ n ≤ 0)))) := rfl
theorem right_5 (a b c n : Int) : rightB 5 a b c n = (decide (0 ≤ a ∧ a ≤ 7) && (decide (0 ≤ b ∧ b ≤ 7) && (decide (0 ≤ c ∧ c ≤ 7) && decide (0 ≤ n ∧ n ≤ 0)))) := rfl
theorem right_6 (a b c n : Int) : rightB 6 a b c n = (decide (0 ≤ a ∧ a ≤ 7) && (decide (0 ≤ b ∧ b ≤ 7) && (decide (0 ≤ c ∧ c ≤ 7) && decide (0 ≤ n ∧ n ≤ 0)))) := rfl
theorem right_7 (a b c n : Int) : rightB 7 a b c n = (decide (0 ≤ a ∧ a ≤ 7) && (decide (0 ≤ b ∧ b ≤ 7) && (decide (0 ≤ c ∧ c ≤ 7) && decide (0 ≤ n ∧ n ≤ 0)))) := rfl
theorem right_8 (a b c n : Int) : rightB 8 a b c n = (decide (0 ≤ a ∧ a ≤ 7) && (decide (0 ≤ b ∧ b ≤ 7) && (decide (0 ≤ c ∧ c ≤ 7) && decide (0 ≤ n ∧ n ≤ 0)))) := rfl
theorem right_9 (a b c n : Int) : rightB 9 a b c n = (decide (0 ≤ a ∧ a ≤ 7) && (decide (0 ≤ b ∧ b ≤ 7) && (decide (0 ≤ c ∧ c ≤ 7) && decide (0 ≤ n ∧ n ≤ 0)))) := rfl
theorem right_10 (a b c n : Int) : rightB 10 a b c n = (decide (0 ≤ a ∧ a ≤ 7) && (decide (0 ≤ b ∧ b ≤ 7) && (decide (0 ≤ c ∧ c ≤ 7) && decide (0 ≤ n ∧ n ≤ 0)))) := rfl
theorem right_11 (a b c n : Int) : rightB 11 a b c n = (decide (0 ≤ a ∧ a ≤ 7) && (decide (0 ≤ b ∧ b ≤ 7) && (decide (0 ≤ c ∧ c ≤ 0) && decide (0 ≤ n ∧ n ≤ 4294967295)))) := rfl
theorem right_12 (a b c n : Int) : rightB 12 a b c n = (decide (0 ≤ a ∧ a ≤ 7) && (decide (0 ≤ b ∧ b ≤ 7) && (decide (0 ≤ c ∧ c ≤ 0) && decide (0 ≤ n ∧ n ≤ 4294967295)))) := rfl
theorem right_13 (a b c n : Int) : rightB 13 a b c n = (decide (0 ≤ a ∧ a ≤ 7) && (decide (0 ≤ b ∧ b ≤ 7) && (decide (0 ≤ c ∧ c ≤ 7) && decide (0 ≤ n ∧ n ≤ 4294967295)))) := rfl
theorem right_14 (a b c n : Int) : rightB 14 a b c n = (decide (0 ≤ a ∧ a ≤ 0) && (decide (0 ≤ b ∧ b ≤ 0) && (decide (0 ≤ c ∧ c ≤ 0) && decide (0 ≤ n ∧ n ≤ 63)))) := rfl
theorem right_15 (a b c n : Int) : rightB 15 a b c n = (decide (0 ≤ a ∧ a ≤ 7) && (decide (0 ≤ b ∧ b ≤ 0) && (decide (0 ≤ c ∧ c ≤ 0) && decide (0 ≤ n ∧ n ≤ 63)))) := rfl
theorem right_16 (a b c n : Int) : rightB 16 a b c n = (decide (0 ≤ a ∧ a ≤ 0) && (decide (0 ≤ b ∧ b ≤ 0) && (decide (1 ≤ c ∧ c ≤ 255) && decide (0 ≤ n ∧ n ≤ 63)))) := rfl
theorem right_17 (a b c n : Int) : rightB 17 a b c n = (decide (0 ≤ a ∧ a ≤ 7) && (decide (0 ≤ b ∧ b ≤ 7) && (decide (0 ≤ c ∧ c ≤ 0) && decide (0 ≤ n ∧ n ≤ 63)))) := rfl
theorem right_18 (a b c n : Int) : rightB 18 a b c n = (decide (0 ≤ a ∧ a ≤ 7) && (decide (0 ≤ b ∧ b ≤ 7) && (decide (0 ≤ c ∧ c ≤ 0) && decide (0 ≤ n ∧ n ≤ 63)))) := rfl
theorem right_19 (a b c n : Int) : rightB 19 a b c n = (decide (0 ≤ a ∧ a ≤ 7) && (decide (0 ≤ b ∧ b ≤ 7) && (decide (0 ≤ c ∧ c ≤ 0) && decide (0 ≤ n ∧ n ≤ 63)))) := rfl
theorem right_20 (a b c n : Int) : rightB 20 a b c n = (decide (0 ≤ a ∧ a ≤ 7) && (decide (0 ≤ b ∧ b ≤ 7) && (decide (0 ≤ c ∧ c ≤ 0) && decide (0 ≤ n ∧ n ≤ 63)))) := rfl
theorem right_21 (a b c n : Int) : rightB 21 a b c n = (decide (0 ≤ a ∧ a ≤ 0) && (decide (0 ≤ b ∧ b ≤ 0) && (decide (0 ≤ c ∧ c ≤ 0) && decide (0 ≤ n ∧ n ≤ 0)))) := rfl
end Go.Proofs.YtflmejcojfnknaaDoor.Is
