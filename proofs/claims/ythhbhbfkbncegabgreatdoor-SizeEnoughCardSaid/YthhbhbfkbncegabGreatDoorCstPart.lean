/-
 What the document's Part of a program weighs (chapter 12) is what the best walk weighs: plain.
-/
import Derived.Test.YthhbhbfkbncegabGreatDoorCstPure
import Derived.Test.YthhbhbfkbncegabGreatDoorFlowEnd
set_option linter.unusedSimpArgs false
set_option linter.unusedVariables false
set_option linter.unusedSectionVars false
namespace Go.Proofs.YthhbhbfkbncegabGreatDoor.Cs
open Fp (Ins at_ Fine check loopsL hasB nextL lp has_iff)

def Ok (v : Int) : Prop := v = -1 ∨ (0 ≤ v ∧ v ≤ 1099511627776)
/-! ### loops that lie within a part -/
section
variable {right : Ins → Bool} {p : List Ins}
variable (hF : Fine right p) (hn : ∀ j, j < p.length → 0 ≤ (at_ p j).n)
include hF hn
theorem lp_back {j : Nat} (hj : j < (loopsL p).length) : (at_ p (lp (loopsL p) j).2.toNat).op = 16 := by
 obtain ⟨k, h1, h2, h3⟩ := Fp.loopsTo_mem (Fp.lp_mem hj)
 have h4 : (lp (loopsL p) j).2 = (k : Int) := by rw [show lp (loopsL p) j = _ from h3]
 rw [h4]
 simpa using h2
omit hF hn
end
section
variable {right : Ins → Bool} {p : List Ins}
end
end Go.Proofs.YthhbhbfkbncegabGreatDoor.Cs
