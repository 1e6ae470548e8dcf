/-

  The document's Part and Most on layer 12 of a program that may be.
-/
import Derived.Test.YtknmfopnbognpaaGreatDoorCstRefPart
import Derived.Test.YtknmfopnbognpaaGreatDoorCstMost
set_option linter.unusedVariables false
set_option linter.unusedSimpArgs false
namespace Go.Proofs.YtknmfopnbognpaaGreatDoor.Cs
open Go.ChangeShapes Go.WideShapes Go.ChangeAt Go.RowKit Ws
open Go.Proofs.YtknmfopnbognpaaGreatDoor.Fp (Ins at_ Fine at_some lp loopsL nextL hasB)
open Go.Proofs.YtknmfopnbognpaaGreatDoor.Fw (Prg Spn spanCells spn_of)

theorem lok_loops {p : List Ins} (hF : Fine Fw.rightI p) (hn : ∀ j, j < p.length → 0 ≤ (at_ p j).n) (hC : ∀ k, k < p.length → (at_ p k).op = 16 → 0 ≤ (at_ p k).c ∧ (at_ p k).c < 1099511627776) : ∀ x ∈ loopsL p, Lok p x := by
  intro x hx
  obtain ⟨j, hj, rfl⟩ := mem_lp hx
  have h1 := lp_in hF hn hj
  have h2 := lp_back hF hn hj
  have h3 := hC (lp (loopsL p) j).2.toNat (by omega) h2
  exact ⟨h1.1, by omega, h1.2.2, h3.1, h3.2⟩
end Go.Proofs.YtknmfopnbognpaaGreatDoor.Cs
