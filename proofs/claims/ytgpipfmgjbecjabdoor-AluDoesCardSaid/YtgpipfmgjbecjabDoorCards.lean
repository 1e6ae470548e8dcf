/-
  DERIVED. GIVEN WITH THE SEED: THE CARDS: each row of YtgpipfmgjbecjabDoorRows.lean that lists a variable, with what it lists TIED to the program's text (the seventh form; the later family's looks); each row that meets fmt, with fmt's text TOLD by the authors' own Lean function (tested against real Go, not proved from fmt's source: count such statements apart). THE CARD IS WHAT COUNTS. Prove the row's statement (the work); the ties are given (YtgpipfmgjbecjabDoorTie.lean); close each card by the builder's one call (the guide's Derived/Test/ToyasCard.lean, 'card_holds'). Laid BY PROGRAM, IN A SANDBOX (cutbox-door.mjs). By AI agents, Wed Nov 11 2026. No macro, syntax, notation, axiom, sorry.
-/
import Derived.Test.YtgpipfmgjbecjabDoorRows
import GoSem.ClaimSeven
namespace Go.Proofs.YtgpipfmgjbecjabDoor
namespace Rows

/-- THE TIED CARD OF 'coxswainlaw07.AluDoes'. -/
def aluDoesCard : Claim7 := { stood := { row := aluDoesRow, standIns := [], harness := (true, "1e1a242ec389f69430bb1098221536c43cee34a376536c24de3b9a875da7e8ae"), looks := false }, kinds := [], alts := [], laidByText := true, laidKinds := [.data], laidTests := true, laidLooks := .later }
def AluDoesCardSaid : Prop := Claim7.holds Tryd.pinned (.plain (OpenSpec.ofChange aluDoesSpec)) aluDoesCard

/-- THE TIED CARD OF 'coxswainlaw07.AluSwaps'. -/
def aluSwapsCard : Claim7 := { stood := { row := aluSwapsRow, standIns := [], harness := (true, "1e1a242ec389f69430bb1098221536c43cee34a376536c24de3b9a875da7e8ae"), looks := false }, kinds := [], alts := [], laidByText := true, laidKinds := [.data], laidTests := true, laidLooks := .later }
def AluSwapsCardSaid : Prop := Claim7.holds Tryd.pinned (.plain (OpenSpec.ofChange aluSwapsSpec)) aluSwapsCard

/-- THE TIED CARD OF 'coxswainlaw07.AluRests'. -/
def aluRestsCard : Claim7 := { stood := { row := aluRestsRow, standIns := [], harness := (true, "1e1a242ec389f69430bb1098221536c43cee34a376536c24de3b9a875da7e8ae"), looks := false }, kinds := [], alts := [], laidByText := true, laidKinds := [.data], laidTests := true, laidLooks := .later }
def AluRestsCardSaid : Prop := Claim7.holds Tryd.pinned (.plain (OpenSpec.ofChange aluRestsSpec)) aluRestsCard

/-- THE SECOND FORM's CARD OF 'coxswainlaw07.AluDoes'. -/
def aluDoesUptoCard : Claim7 := { stood := { row := aluDoesUptoRow, standIns := [], harness := (true, "1e1a242ec389f69430bb1098221536c43cee34a376536c24de3b9a875da7e8ae"), looks := false }, kinds := [], alts := [], laidByText := true, laidKinds := [.data], laidTests := true, laidLooks := .later }
def AluDoesUptoCardSaid : Prop := Claim7.holds Tryd.pinned (.plain (OpenSpec.upto aluDoesSpec)) aluDoesUptoCard

/-- THE SECOND FORM's CARD OF 'coxswainlaw07.AluSwaps'. -/
def aluSwapsUptoCard : Claim7 := { stood := { row := aluSwapsUptoRow, standIns := [], harness := (true, "1e1a242ec389f69430bb1098221536c43cee34a376536c24de3b9a875da7e8ae"), looks := false }, kinds := [], alts := [], laidByText := true, laidKinds := [.data], laidTests := true, laidLooks := .later }
def AluSwapsUptoCardSaid : Prop := Claim7.holds Tryd.pinned (.plain (OpenSpec.upto aluSwapsSpec)) aluSwapsUptoCard

/-- THE SECOND FORM's CARD OF 'coxswainlaw07.AluRests'. -/
def aluRestsUptoCard : Claim7 := { stood := { row := aluRestsUptoRow, standIns := [], harness := (true, "1e1a242ec389f69430bb1098221536c43cee34a376536c24de3b9a875da7e8ae"), looks := false }, kinds := [], alts := [], laidByText := true, laidKinds := [.data], laidTests := true, laidLooks := .later }
def AluRestsUptoCardSaid : Prop := Claim7.holds Tryd.pinned (.plain (OpenSpec.upto aluRestsSpec)) aluRestsUptoCard
end Rows
end Go.Proofs.YtgpipfmgjbecjabDoor
