/-
  DERIVED. GIVEN WITH THE SEED: THE CARDS: each row of YtflmejcojfnknabDoorRows.lean that lists a variable, with what it lists TIED to the program's text (the seventh form; the later family's looks); each row that meets fmt, with fmt's text TOLD by the authors' own Lean function (tested against real Go, not proved from fmt's source: count such statements apart). THE CARD IS WHAT COUNTS. Prove the row's statement (the work); the ties are given (YtflmejcojfnknabDoorTie.lean); close each card by the builder's one call (the guide's Derived/Test/ToyasCard.lean, 'card_holds'). Laid BY PROGRAM, IN A SANDBOX (cutbox-door.mjs). By AI agents, Wed Nov 11 2026. No macro, syntax, notation, axiom, sorry.
-/
import Derived.Test.YtflmejcojfnknabDoorRows
import GoSem.ClaimSeven
namespace Go.Proofs.YtflmejcojfnknabDoor
namespace Rows

/-- THE TIED CARD OF 'coxswainlaw13.FramePasses'. -/
def framePassesCard : Claim7 := { stood := { row := framePassesRow, standIns := [], harness := (true, "d216c293ccf8b3a1246cc4eab71ba25323d4120fad8ed3c4126abf972e26b078"), looks := false }, kinds := [], alts := [], laidByText := true, laidKinds := [.data, .data], laidTests := true, laidLooks := .later }
def FramePassesCardSaid : Prop := Claim7.holds Tryd.pinned (.plain (OpenSpec.ofChange framePassesSpec)) framePassesCard

/-- THE TIED CARD OF 'coxswainlaw21.HistoryTimes'. -/
def historyTimesCard : Claim7 := { stood := { row := historyTimesRow, standIns := [], harness := (true, "d216c293ccf8b3a1246cc4eab71ba25323d4120fad8ed3c4126abf972e26b078"), looks := false }, kinds := [], alts := [], laidByText := true, laidKinds := [.data, .data, .data, .wider, .wider], laidTests := true, laidLooks := .later }
def HistoryTimesCardSaid : Prop := Claim7.holds Tryd.pinned (.plain (OpenSpec.ofChange historyTimesSpec)) historyTimesCard

/-- THE TIED CARD OF 'coxswainlaw26.TaskFaults'. -/
def taskFaultsCard : Claim7 := { stood := { row := taskFaultsRow, standIns := [], harness := (true, "d216c293ccf8b3a1246cc4eab71ba25323d4120fad8ed3c4126abf972e26b078"), looks := false }, kinds := [], alts := [], laidByText := true, laidKinds := [.data, .data], laidTests := true, laidLooks := .later }
def TaskFaultsCardSaid : Prop := Claim7.holds Tryd.pinned (.plain (OpenSpec.ofChange taskFaultsSpec)) taskFaultsCard

/-- THE SECOND FORM's CARD OF 'coxswainlaw13.FramePasses'. -/
def framePassesUptoCard : Claim7 := { stood := { row := framePassesUptoRow, standIns := [], harness := (true, "d216c293ccf8b3a1246cc4eab71ba25323d4120fad8ed3c4126abf972e26b078"), looks := false }, kinds := [], alts := [], laidByText := true, laidKinds := [.data, .data], laidTests := true, laidLooks := .later }
def FramePassesUptoCardSaid : Prop := Claim7.holds Tryd.pinned (.plain (OpenSpec.upto framePassesSpec)) framePassesUptoCard

/-- THE SECOND FORM's CARD OF 'coxswainlaw21.HistoryTimes'. -/
def historyTimesUptoCard : Claim7 := { stood := { row := historyTimesUptoRow, standIns := [], harness := (true, "d216c293ccf8b3a1246cc4eab71ba25323d4120fad8ed3c4126abf972e26b078"), looks := false }, kinds := [], alts := [], laidByText := true, laidKinds := [.data, .data, .data, .wider, .wider], laidTests := true, laidLooks := .later }
def HistoryTimesUptoCardSaid : Prop := Claim7.holds Tryd.pinned (.plain (OpenSpec.upto historyTimesSpec)) historyTimesUptoCard

/-- THE SECOND FORM's CARD OF 'coxswainlaw26.TaskFaults'. -/
def taskFaultsUptoCard : Claim7 := { stood := { row := taskFaultsUptoRow, standIns := [], harness := (true, "d216c293ccf8b3a1246cc4eab71ba25323d4120fad8ed3c4126abf972e26b078"), looks := false }, kinds := [], alts := [], laidByText := true, laidKinds := [.data, .data], laidTests := true, laidLooks := .later }
def TaskFaultsUptoCardSaid : Prop := Claim7.holds Tryd.pinned (.plain (OpenSpec.upto taskFaultsSpec)) taskFaultsUptoCard
end Rows
end Go.Proofs.YtflmejcojfnknabDoor
