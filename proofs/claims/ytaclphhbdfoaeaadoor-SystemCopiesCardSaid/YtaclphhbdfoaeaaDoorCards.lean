/-
  DERIVED. GIVEN WITH THE SEED: THE CARDS: each row of YtaclphhbdfoaeaaDoorRows.lean that lists a variable, with what it lists TIED to the program's text (the seventh form; the later family's looks); each row that meets fmt, with fmt's text TOLD by the authors' own Lean function (tested against real Go, not proved from fmt's source: count such statements apart). THE CARD IS WHAT COUNTS. Prove the row's statement (the work); the ties are given (YtaclphhbdfoaeaaDoorTie.lean); close each card by the builder's one call (the guide's Derived/Test/ToyasCard.lean, 'card_holds'). Laid BY PROGRAM, IN A SANDBOX (cutbox-door.mjs). By AI agents, Wed Nov 11 2026. No macro, syntax, notation, axiom, sorry.
-/
import Derived.Test.YtaclphhbdfoaeaaDoorRows
import GoSem.ClaimSeven
namespace Go.Proofs.YtaclphhbdfoaeaaDoor
namespace Rows

/-- THE TIED CARD OF 'coxswainlaw32.SystemCopies'. -/
def systemCopiesCard : Claim7 := { stood := { row := systemCopiesRow, standIns := [], harness := (true, "ff90097efb7fe29fdc04c38917b28370a943227d56c11229fd578be3017d8613"), looks := false }, kinds := [], alts := [], laidByText := true, laidKinds := [.data, .data], laidTests := true, laidLooks := .later }
def SystemCopiesCardSaid : Prop := Claim7.holds Tryd.pinned (.plain (OpenSpec.ofChange systemCopiesSpec)) systemCopiesCard

/-- THE SECOND FORM's CARD OF 'coxswainlaw32.SystemCopies'. -/
def systemCopiesUptoCard : Claim7 := { stood := { row := systemCopiesUptoRow, standIns := [], harness := (true, "ff90097efb7fe29fdc04c38917b28370a943227d56c11229fd578be3017d8613"), looks := false }, kinds := [], alts := [], laidByText := true, laidKinds := [.data, .data], laidTests := true, laidLooks := .later }
def SystemCopiesUptoCardSaid : Prop := Claim7.holds Tryd.pinned (.plain (OpenSpec.upto systemCopiesSpec)) systemCopiesUptoCard
end Rows
end Go.Proofs.YtaclphhbdfoaeaaDoor
