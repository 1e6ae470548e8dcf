/-
  DERIVED. GIVEN WITH THE SEED: THE CARDS: each row of YtiipdeionmndcaaGreatDoorRows.lean that lists a variable, with what it lists TIED to the program's text (the seventh form; the later family's looks); each row that meets fmt, with fmt's text TOLD by the authors' own Lean function (tested against real Go, not proved from fmt's source: count such statements apart). THE CARD IS WHAT COUNTS. Prove the row's statement (the work); the ties are given (YtiipdeionmndcaaGreatDoorTie.lean); close each card by the builder's one call (the guide's Derived/Test/ToyasCard.lean, 'card_holds'). Laid BY PROGRAM, IN A SANDBOX (cutbox-door.mjs). By AI agents, Wed Nov 11 2026. No macro, syntax, notation, axiom, sorry.
-/
import Derived.Test.YtiipdeionmndcaaGreatDoorRows
import GoSem.ClaimSeven
namespace Go.Proofs.YtiipdeionmndcaaGreatDoor
namespace Rows

/-- THE TIED CARD OF 'coxswainlaw36.DemandCalls'. -/
def demandCallsCard : Claim7 := { stood := { row := demandCallsRow, standIns := [], harness := (true, "2e5595c37bc1783d562ea9fa7d32cebfb2be9b99b0cbdb7b695bc54e0bd3295e"), looks := false }, kinds := [], alts := [], laidByText := true, laidKinds := [.data, .data], laidTests := true, laidLooks := .later }
def DemandCallsCardSaid : Prop := Claim7.holds Tryz.pinned (.plain (OpenSpec.ofChange demandCallsSpec)) demandCallsCard

/-- THE TIED CARD OF 'coxswainlaw32.SystemCalls'. -/
def systemCallsCard : Claim7 := { stood := { row := systemCallsRow, standIns := [], harness := (true, "2e5595c37bc1783d562ea9fa7d32cebfb2be9b99b0cbdb7b695bc54e0bd3295e"), looks := false }, kinds := [], alts := [], laidByText := true, laidKinds := [.data, .data], laidTests := true, laidLooks := .later }
def SystemCallsCardSaid : Prop := Claim7.holds Tryz.pinned (.plain (OpenSpec.ofChange systemCallsSpec)) systemCallsCard

/-- THE SECOND FORM's CARD OF 'coxswainlaw36.DemandCalls'. -/
def demandCallsUptoCard : Claim7 := { stood := { row := demandCallsUptoRow, standIns := [], harness := (true, "2e5595c37bc1783d562ea9fa7d32cebfb2be9b99b0cbdb7b695bc54e0bd3295e"), looks := false }, kinds := [], alts := [], laidByText := true, laidKinds := [.data, .data], laidTests := true, laidLooks := .later }
def DemandCallsUptoCardSaid : Prop := Claim7.holds Tryz.pinned (.plain (OpenSpec.upto demandCallsSpec)) demandCallsUptoCard

/-- THE SECOND FORM's CARD OF 'coxswainlaw32.SystemCalls'. -/
def systemCallsUptoCard : Claim7 := { stood := { row := systemCallsUptoRow, standIns := [], harness := (true, "2e5595c37bc1783d562ea9fa7d32cebfb2be9b99b0cbdb7b695bc54e0bd3295e"), looks := false }, kinds := [], alts := [], laidByText := true, laidKinds := [.data, .data], laidTests := true, laidLooks := .later }
def SystemCallsUptoCardSaid : Prop := Claim7.holds Tryz.pinned (.plain (OpenSpec.upto systemCallsSpec)) systemCallsUptoCard
end Rows
end Go.Proofs.YtiipdeionmndcaaGreatDoor
