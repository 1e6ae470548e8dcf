/-
  DERIVED. GIVEN WITH THE SEED: THE CARDS: each row of YthhbhbfkbncegabGreatDoorRows.lean that lists a variable, with what it lists TIED to the program's text (the seventh form; the later family's looks); each row that meets fmt, with fmt's text TOLD by the authors' own Lean function (tested against real Go, not proved from fmt's source: count such statements apart). THE CARD IS WHAT COUNTS. Prove the row's statement (the work); the ties are given (YthhbhbfkbncegabGreatDoorTie.lean); close each card by the builder's one call (the guide's Derived/Test/ToyasCard.lean, 'card_holds'). Laid BY PROGRAM, IN A SANDBOX (cutbox-door.mjs). By AI agents, Wed Nov 11 2026. No macro, syntax, notation, axiom, sorry.
-/
import Derived.Test.YthhbhbfkbncegabGreatDoorRows
import GoSem.ClaimSeven
namespace Go.Proofs.YthhbhbfkbncegabGreatDoor
namespace Rows

/-- THE TIED CARD OF 'coxswainlaw38.RtaLeast'. -/
def rtaLeastCard : Claim7 := { stood := { row := rtaLeastRow, standIns := [], harness := (true, "b312ed1b4628b47c6a332b9cd197ab043cce6e5a2558ef1ea41ee47e6f8be2f0"), looks := false }, kinds := [], alts := [], laidByText := true, laidKinds := [.data, .data], laidTests := true, laidLooks := .later }
def RtaLeastCardSaid : Prop := Claim7.holds Tryz.pinned (.plain (OpenSpec.ofChange rtaLeastSpec)) rtaLeastCard

/-- THE TIED CARD OF 'coxswainlaw39.SizeTells'. -/
def sizeTellsCard : Claim7 := { stood := { row := sizeTellsRow, standIns := [], harness := (true, "b312ed1b4628b47c6a332b9cd197ab043cce6e5a2558ef1ea41ee47e6f8be2f0"), looks := false }, kinds := [], alts := [], laidByText := true, laidKinds := [.data, .data], laidTests := true, laidLooks := .later }
def SizeTellsCardSaid : Prop := Claim7.holds Tryz.pinned (.plain (OpenSpec.ofChange sizeTellsSpec)) sizeTellsCard

/-- THE TIED CARD OF 'coxswainlaw39.SizeEnough'. -/
def sizeEnoughCard : Claim7 := { stood := { row := sizeEnoughRow, standIns := [], harness := (true, "b312ed1b4628b47c6a332b9cd197ab043cce6e5a2558ef1ea41ee47e6f8be2f0"), looks := false }, kinds := [], alts := [], laidByText := true, laidKinds := [.data, .data], laidTests := true, laidLooks := .later }
def SizeEnoughCardSaid : Prop := Claim7.holds Tryz.pinned (.plain (OpenSpec.ofChange sizeEnoughSpec)) sizeEnoughCard

/-- THE SECOND FORM's CARD OF 'coxswainlaw38.RtaLeast'. -/
def rtaLeastUptoCard : Claim7 := { stood := { row := rtaLeastUptoRow, standIns := [], harness := (true, "b312ed1b4628b47c6a332b9cd197ab043cce6e5a2558ef1ea41ee47e6f8be2f0"), looks := false }, kinds := [], alts := [], laidByText := true, laidKinds := [.data, .data], laidTests := true, laidLooks := .later }
def RtaLeastUptoCardSaid : Prop := Claim7.holds Tryz.pinned (.plain (OpenSpec.upto rtaLeastSpec)) rtaLeastUptoCard

/-- THE SECOND FORM's CARD OF 'coxswainlaw39.SizeTells'. -/
def sizeTellsUptoCard : Claim7 := { stood := { row := sizeTellsUptoRow, standIns := [], harness := (true, "b312ed1b4628b47c6a332b9cd197ab043cce6e5a2558ef1ea41ee47e6f8be2f0"), looks := false }, kinds := [], alts := [], laidByText := true, laidKinds := [.data, .data], laidTests := true, laidLooks := .later }
def SizeTellsUptoCardSaid : Prop := Claim7.holds Tryz.pinned (.plain (OpenSpec.upto sizeTellsSpec)) sizeTellsUptoCard

/-- THE SECOND FORM's CARD OF 'coxswainlaw39.SizeEnough'. -/
def sizeEnoughUptoCard : Claim7 := { stood := { row := sizeEnoughUptoRow, standIns := [], harness := (true, "b312ed1b4628b47c6a332b9cd197ab043cce6e5a2558ef1ea41ee47e6f8be2f0"), looks := false }, kinds := [], alts := [], laidByText := true, laidKinds := [.data, .data], laidTests := true, laidLooks := .later }
def SizeEnoughUptoCardSaid : Prop := Claim7.holds Tryz.pinned (.plain (OpenSpec.upto sizeEnoughSpec)) sizeEnoughUptoCard
end Rows
end Go.Proofs.YthhbhbfkbncegabGreatDoor
