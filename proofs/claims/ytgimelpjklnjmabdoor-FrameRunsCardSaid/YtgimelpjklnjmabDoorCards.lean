/-
  DERIVED. GIVEN WITH THE SEED: THE CARDS: each row of YtgimelpjklnjmabDoorRows.lean that lists a variable, with what it lists TIED to the program's text (the seventh form; the later family's looks); each row that meets fmt, with fmt's text TOLD by the authors' own Lean function (tested against real Go, not proved from fmt's source: count such statements apart). THE CARD IS WHAT COUNTS. Prove the row's statement (the work); the ties are given (YtgimelpjklnjmabDoorTie.lean); close each card by the builder's one call (the guide's Derived/Test/ToyasCard.lean, 'card_holds'). Laid BY PROGRAM, IN A SANDBOX (cutbox-door.mjs). By AI agents, Wed Nov 11 2026. No macro, syntax, notation, axiom, sorry.
-/
import Derived.Test.YtgimelpjklnjmabDoorRows
import GoSem.ClaimSeven
namespace Go.Proofs.YtgimelpjklnjmabDoor
namespace Rows

/-- THE TIED CARD OF 'coxswainlaw13.FramePasses'. -/
def framePassesCard : Claim7 := { stood := { row := framePassesRow, standIns := [], harness := (true, "0daa89ce36fc3e15ef88c800aba54cb57b57e7431063309c1fe7a7b568692302"), looks := false }, kinds := [], alts := [], laidByText := true, laidKinds := [.data, .data], laidTests := true, laidLooks := .later }
def FramePassesCardSaid : Prop := Claim7.holds Tryd.pinned (.plain (OpenSpec.ofChange framePassesSpec)) framePassesCard

/-- THE TIED CARD OF 'coxswainlaw13.FrameRuns'. -/
def frameRunsCard : Claim7 := { stood := { row := frameRunsRow, standIns := [], harness := (true, "0daa89ce36fc3e15ef88c800aba54cb57b57e7431063309c1fe7a7b568692302"), looks := false }, kinds := [], alts := [], laidByText := true, laidKinds := [.data, .data], laidTests := true, laidLooks := .later }
def FrameRunsCardSaid : Prop := Claim7.holds Tryd.pinned (.plain (OpenSpec.ofChange frameRunsSpec)) frameRunsCard

/-- THE TIED CARD OF 'coxswainlaw21.HistoryRight'. -/
def historyRightCard : Claim7 := { stood := { row := historyRightRow, standIns := [], harness := (true, "0daa89ce36fc3e15ef88c800aba54cb57b57e7431063309c1fe7a7b568692302"), looks := false }, kinds := [], alts := [], laidByText := true, laidKinds := [.data, .data, .data, .wider, .wider], laidTests := true, laidLooks := .later }
def HistoryRightCardSaid : Prop := Claim7.holds Tryd.pinned (.plain (OpenSpec.ofChange historyRightSpec)) historyRightCard

/-- THE TIED CARD OF 'coxswainlaw21.HistoryTimes'. -/
def historyTimesCard : Claim7 := { stood := { row := historyTimesRow, standIns := [], harness := (true, "0daa89ce36fc3e15ef88c800aba54cb57b57e7431063309c1fe7a7b568692302"), looks := false }, kinds := [], alts := [], laidByText := true, laidKinds := [.data, .data, .data, .wider, .wider], laidTests := true, laidLooks := .later }
def HistoryTimesCardSaid : Prop := Claim7.holds Tryd.pinned (.plain (OpenSpec.ofChange historyTimesSpec)) historyTimesCard

/-- THE SECOND FORM's CARD OF 'coxswainlaw13.FramePasses'. -/
def framePassesUptoCard : Claim7 := { stood := { row := framePassesUptoRow, standIns := [], harness := (true, "0daa89ce36fc3e15ef88c800aba54cb57b57e7431063309c1fe7a7b568692302"), looks := false }, kinds := [], alts := [], laidByText := true, laidKinds := [.data, .data], laidTests := true, laidLooks := .later }
def FramePassesUptoCardSaid : Prop := Claim7.holds Tryd.pinned (.plain (OpenSpec.upto framePassesSpec)) framePassesUptoCard

/-- THE SECOND FORM's CARD OF 'coxswainlaw13.FrameRuns'. -/
def frameRunsUptoCard : Claim7 := { stood := { row := frameRunsUptoRow, standIns := [], harness := (true, "0daa89ce36fc3e15ef88c800aba54cb57b57e7431063309c1fe7a7b568692302"), looks := false }, kinds := [], alts := [], laidByText := true, laidKinds := [.data, .data], laidTests := true, laidLooks := .later }
def FrameRunsUptoCardSaid : Prop := Claim7.holds Tryd.pinned (.plain (OpenSpec.upto frameRunsSpec)) frameRunsUptoCard

/-- THE SECOND FORM's CARD OF 'coxswainlaw21.HistoryRight'. -/
def historyRightUptoCard : Claim7 := { stood := { row := historyRightUptoRow, standIns := [], harness := (true, "0daa89ce36fc3e15ef88c800aba54cb57b57e7431063309c1fe7a7b568692302"), looks := false }, kinds := [], alts := [], laidByText := true, laidKinds := [.data, .data, .data, .wider, .wider], laidTests := true, laidLooks := .later }
def HistoryRightUptoCardSaid : Prop := Claim7.holds Tryd.pinned (.plain (OpenSpec.upto historyRightSpec)) historyRightUptoCard

/-- THE SECOND FORM's CARD OF 'coxswainlaw21.HistoryTimes'. -/
def historyTimesUptoCard : Claim7 := { stood := { row := historyTimesUptoRow, standIns := [], harness := (true, "0daa89ce36fc3e15ef88c800aba54cb57b57e7431063309c1fe7a7b568692302"), looks := false }, kinds := [], alts := [], laidByText := true, laidKinds := [.data, .data, .data, .wider, .wider], laidTests := true, laidLooks := .later }
def HistoryTimesUptoCardSaid : Prop := Claim7.holds Tryd.pinned (.plain (OpenSpec.upto historyTimesSpec)) historyTimesUptoCard
end Rows
end Go.Proofs.YtgimelpjklnjmabDoor
