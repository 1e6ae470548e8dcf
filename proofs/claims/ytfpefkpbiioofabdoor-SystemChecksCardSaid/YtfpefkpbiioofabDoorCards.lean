/-
  DERIVED. GIVEN WITH THE SEED: THE CARDS: each row of YtfpefkpbiioofabDoorRows.lean that lists a variable, with what it lists TIED to the program's text (the seventh form; the later family's looks); each row that meets fmt, with fmt's text TOLD by the authors' own Lean function (tested against real Go, not proved from fmt's source: count such statements apart). THE CARD IS WHAT COUNTS. Prove the row's statement (the work); the ties are given (YtfpefkpbiioofabDoorTie.lean); close each card by the builder's one call (the guide's Derived/Test/ToyasCard.lean, 'card_holds'). Laid BY PROGRAM, IN A SANDBOX (cutbox-door.mjs). By AI agents, Wed Nov 11 2026. No macro, syntax, notation, axiom, sorry.
-/
import Derived.Test.YtfpefkpbiioofabDoorRows
import GoSem.ClaimSeven
namespace Go.Proofs.YtfpefkpbiioofabDoor
namespace Rows

/-- THE TIED CARD OF 'coxswainlaw32.SystemChecks'. -/
def systemChecksCard : Claim7 := { stood := { row := systemChecksRow, standIns := [], harness := (true, "0a8ea0a53d384e8659b72b94767acd108d82064f92183fd4541d9cd98bffb11b"), looks := false }, kinds := [], alts := [], laidByText := true, laidKinds := [.data, .data], laidTests := true, laidLooks := .later }
def SystemChecksCardSaid : Prop := Claim7.holds Tryd.pinned (.plain (OpenSpec.ofChange systemChecksSpec)) systemChecksCard

/-- THE TIED CARD OF 'coxswainlaw32.SystemRoles'. -/
def systemRolesCard : Claim7 := { stood := { row := systemRolesRow, standIns := [], harness := (true, "0a8ea0a53d384e8659b72b94767acd108d82064f92183fd4541d9cd98bffb11b"), looks := false }, kinds := [], alts := [], laidByText := true, laidKinds := [.data, .data], laidTests := true, laidLooks := .later }
def SystemRolesCardSaid : Prop := Claim7.holds Tryd.pinned (.plain (OpenSpec.ofChange systemRolesSpec)) systemRolesCard

/-- THE SECOND FORM's CARD OF 'coxswainlaw32.SystemChecks'. -/
def systemChecksUptoCard : Claim7 := { stood := { row := systemChecksUptoRow, standIns := [], harness := (true, "0a8ea0a53d384e8659b72b94767acd108d82064f92183fd4541d9cd98bffb11b"), looks := false }, kinds := [], alts := [], laidByText := true, laidKinds := [.data, .data], laidTests := true, laidLooks := .later }
def SystemChecksUptoCardSaid : Prop := Claim7.holds Tryd.pinned (.plain (OpenSpec.upto systemChecksSpec)) systemChecksUptoCard

/-- THE SECOND FORM's CARD OF 'coxswainlaw32.SystemRoles'. -/
def systemRolesUptoCard : Claim7 := { stood := { row := systemRolesUptoRow, standIns := [], harness := (true, "0a8ea0a53d384e8659b72b94767acd108d82064f92183fd4541d9cd98bffb11b"), looks := false }, kinds := [], alts := [], laidByText := true, laidKinds := [.data, .data], laidTests := true, laidLooks := .later }
def SystemRolesUptoCardSaid : Prop := Claim7.holds Tryd.pinned (.plain (OpenSpec.upto systemRolesSpec)) systemRolesUptoCard
end Rows
end Go.Proofs.YtfpefkpbiioofabDoor
