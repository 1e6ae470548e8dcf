/-

  The contracts of the methods of an operation's part (package operation): May where there is none, Over, Steps, Answer.
-/
import Derived.Test.YtoejokjbamijnaaPartRec
set_option linter.unusedVariables false
namespace Go.Proofs.Ytoejokjbamijnaa.Pa
open Go.ChangeShapes Go.WideShapes Go.ChangeAt Go.RowKit Ws Mm

section
variable {R : Nat → Prop} {g gm : Nat} {T : TypeId} {p : Pt} {ex : List Value} {l : List Int} {st : Int}

theorem pmay_no (w : World) (h : PB w g T p ex) (m : Option Addr) (hun : p.un = false) :
    Calls Try.prog 51 #[.pointer (some ⟨g, 0, none⟩), .pointer m] w fun e w' => e = .returned (.bool false) ∧ Same w w' := by
  obtain ⟨_, _, c17, _⟩ := h.last
  rw [hun] at c17
  clear hun
  go_enter Try.func51, Try.ntmps51
  go_wp2_with fail
  go_quiet (fail)
  go_wp2
  go_ret
  exact ⟨rfl, (Same.refl _).drewN _⟩

theorem psteps (w : World) (h : PB w g T p ex) : Calls Try.prog 55 #[.pointer (some ⟨g, 0, none⟩)] w fun e w' => e = .returned (.int .i64 p.steps) ∧ w = w' := by
  obtain ⟨_, c16, _, _⟩ := h.last
  go_enter Try.func55, Try.ntmps55
  go_wp2
  go_ret
  exact ⟨rfl, rfl⟩
theorem psteps_nil (w : World) : Calls Try.prog 55 #[.pointer none] w fun e w' => e = .returned (.int .i64 0) ∧ w = w' := by
  go_enter Try.func55, Try.ntmps55
  go_wp2
  go_ret
  exact ⟨rfl, rfl⟩

/-- what is answered: a record, and how it ended -/
def Says (r : List Int) (k : Int) (w : World) (e : Ending) (w' : World) : Prop :=
  ∃ A n c, e = .returned (.tuple #[.slice A n c, .int .i64 k]) ∧ Row w' A (r.map (Value.int .u32)) ∧ r.length = n ∧ Same w w'

end

end Go.Proofs.Ytoejokjbamijnaa.Pa
