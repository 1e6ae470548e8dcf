/-
  DERIVED. GIVEN WITH THE SEED: THE CARDS: each row of YtogaolnnkjkgdabDoorRows.lean that lists a variable, with what it lists TIED to the program's text (the seventh form; the later family's looks); each row that meets fmt, with fmt's text TOLD by the authors' own Lean function (tested against real Go, not proved from fmt's source: count such statements apart). THE CARD IS WHAT COUNTS. Prove the row's statement (the work); the ties are given (YtogaolnnkjkgdabDoorTie.lean); close each card by the builder's one call (the guide's Derived/Test/ToyasCard.lean, 'card_holds'). Laid BY PROGRAM, IN A SANDBOX (cutbox-door.mjs). By AI agents, Wed Nov 11 2026. No macro, syntax, notation, axiom, sorry.
-/
import Derived.Test.YtogaolnnkjkgdabDoorRows
import GoSem.ClaimSeven
namespace Go.Proofs.YtogaolnnkjkgdabDoor
namespace Rows

/-- THE TIED CARD OF 'coxswainlaw04.RecordUnstamps'. -/
def recordUnstampsCard : Claim7 := { stood := { row := recordUnstampsRow, standIns := [], harness := (true, "3bc0355de24be5f0d4d14a14b7a1150acb6064975b2649f0ad4a31ce70a82dd9"), looks := false }, kinds := [], alts := [], laidByText := true, laidKinds := [.data, .data, .data], laidTests := true, laidLooks := .later }
def RecordUnstampsCardSaid : Prop := Claim7.holds Tryd.pinned (.plain (OpenSpec.ofChange recordUnstampsSpec)) recordUnstampsCard

/-- THE SECOND FORM's CARD OF 'coxswainlaw04.RecordUnstamps'. -/
def recordUnstampsUptoCard : Claim7 := { stood := { row := recordUnstampsUptoRow, standIns := [], harness := (true, "3bc0355de24be5f0d4d14a14b7a1150acb6064975b2649f0ad4a31ce70a82dd9"), looks := false }, kinds := [], alts := [], laidByText := true, laidKinds := [.data, .data, .data], laidTests := true, laidLooks := .later }
def RecordUnstampsUptoCardSaid : Prop := Claim7.holds Tryd.pinned (.plain (OpenSpec.upto recordUnstampsSpec)) recordUnstampsUptoCard
end Rows
end Go.Proofs.YtogaolnnkjkgdabDoor
