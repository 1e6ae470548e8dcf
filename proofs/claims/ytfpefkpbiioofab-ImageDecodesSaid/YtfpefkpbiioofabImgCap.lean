/-
  Layer 33: small facts.
-/
import Derived.Test.YtfpefkpbiioofabImgLaw0
set_option linter.unusedVariables false
set_option linter.unusedSimpArgs false
namespace Go.Proofs.Ytfpefkpbiioofab.Im
open Go.ChangeShapes Go.WideShapes Go.ChangeAt Go.RowKit Ws Cd

theorem u8_bd {z : Int} (h : (Lit.int .u8 z).wf = true) : 0 ≤ z ∧ z < 256 := by
  simp only [Lit.wf, IntKind.min, IntKind.max, IntKind.signed, IntKind.bits, Bool.and_eq_true] at h
  simp at h
  omega
theorem by_of {l : List Int} (h : ∀ x ∈ l, (Lit.int .u8 x).wf = true) : By l := fun x hx => by
  have := u8_bd (h x hx)
  omega
theorem u8_in {x : Int} (h : (Lit.int .u8 x).wf = true) : 0 ≤ x ∧ x ≤ 255 := by
  have := u8_bd h
  omega
theorem own_cap {w : World} {B : Nat} {e : TypeId} {A : Option Addr} {c : Nat} {l : List Value} (h : Own w B e A c l) : l.length ≤ c ∧ c ≤ 9223372036854775807 := by
  rcases h.2 with ⟨h2, h3⟩ | ⟨g', cap, cur, hv, hB, hg, h1, h2, _⟩
  · injection h2 with _ h4 h5
    omega
  · injection hv with _ _ hv
    unfold maxLen at h2
    omega
theorem int_ne {x : Int} (h : x ≠ 0) : (x != 0) = true := by simpa using h
end Go.Proofs.Ytfpefkpbiioofab.Im
