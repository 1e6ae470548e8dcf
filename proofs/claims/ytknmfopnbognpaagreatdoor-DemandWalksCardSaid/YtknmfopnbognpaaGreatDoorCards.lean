/-
  DERIVED. GIVEN WITH THE SEED: THE CARDS: each row of YtknmfopnbognpaaGreatDoorRows.lean that lists a variable, with what it lists TIED to the program's text (the seventh form; the later family's looks); each row that meets fmt, with fmt's text TOLD by the authors' own Lean function (tested against real Go, not proved from fmt's source: count such statements apart). THE CARD IS WHAT COUNTS. Prove the row's statement (the work); the ties are given (YtknmfopnbognpaaGreatDoorTie.lean); close each card by the builder's one call (the guide's Derived/Test/ToyasCard.lean, 'card_holds'). Laid BY PROGRAM, IN A SANDBOX (cutbox-door.mjs). By AI agents, Wed Nov 11 2026. No macro, syntax, notation, axiom, sorry.
-/
import Derived.Test.YtknmfopnbognpaaGreatDoorRows
import GoSem.ClaimSeven
namespace Go.Proofs.YtknmfopnbognpaaGreatDoor
namespace Rows

/-- THE TIED CARD OF 'coxswainlaw36.DemandWalks'. -/
def demandWalksCard : Claim7 := { stood := { row := demandWalksRow, standIns := [], harness := (true, "bacd338850a16c4a90dc526266f75b248609f77da729751837d363e1a595b8bb"), looks := false }, kinds := [], alts := [], laidByText := true, laidKinds := [.data, .data], laidTests := true, laidLooks := .later }
def DemandWalksCardSaid : Prop := Claim7.holds Tryz.pinned (.plain (OpenSpec.ofChange demandWalksSpec)) demandWalksCard

/-- THE SECOND FORM's CARD OF 'coxswainlaw36.DemandWalks'. -/
def demandWalksUptoCard : Claim7 := { stood := { row := demandWalksUptoRow, standIns := [], harness := (true, "bacd338850a16c4a90dc526266f75b248609f77da729751837d363e1a595b8bb"), looks := false }, kinds := [], alts := [], laidByText := true, laidKinds := [.data, .data], laidTests := true, laidLooks := .later }
def DemandWalksUptoCardSaid : Prop := Claim7.holds Tryz.pinned (.plain (OpenSpec.upto demandWalksSpec)) demandWalksUptoCard
end Rows
end Go.Proofs.YtknmfopnbognpaaGreatDoor
