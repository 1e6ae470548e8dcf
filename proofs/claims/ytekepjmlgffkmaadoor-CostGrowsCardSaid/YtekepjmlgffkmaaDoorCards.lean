/-
  DERIVED. GIVEN WITH THE SEED: THE CARDS: each row of YtekepjmlgffkmaaDoorRows.lean that lists a variable, with what it lists TIED to the program's text (the seventh form; the later family's looks); each row that meets fmt, with fmt's text TOLD by the authors' own Lean function (tested against real Go, not proved from fmt's source: count such statements apart). THE CARD IS WHAT COUNTS. Prove the row's statement (the work); the ties are given (YtekepjmlgffkmaaDoorTie.lean); close each card by the builder's one call (the guide's Derived/Test/ToyasCard.lean, 'card_holds'). Laid BY PROGRAM, IN A SANDBOX (cutbox-door.mjs). By AI agents, Wed Nov 11 2026. No macro, syntax, notation, axiom, sorry.
-/
import Derived.Test.YtekepjmlgffkmaaDoorRows
import GoSem.ClaimSeven
namespace Go.Proofs.YtekepjmlgffkmaaDoor
namespace Rows

/-- THE TIED CARD OF 'coxswainlaw12.CostTells'. -/
def costTellsCard : Claim7 := { stood := { row := costTellsRow, standIns := [], harness := (true, "1f1041efb348d72319a165eae1cead03f582e2c03c34ad001045ff1aa41b7e73"), looks := false }, kinds := [], alts := [], laidByText := true, laidKinds := [.data, .data], laidTests := true, laidLooks := .later }
def CostTellsCardSaid : Prop := Claim7.holds Tryd.pinned (.plain (OpenSpec.ofChange costTellsSpec)) costTellsCard

/-- THE TIED CARD OF 'coxswainlaw12.CostGrows'. -/
def costGrowsCard : Claim7 := { stood := { row := costGrowsRow, standIns := [], harness := (true, "1f1041efb348d72319a165eae1cead03f582e2c03c34ad001045ff1aa41b7e73"), looks := false }, kinds := [], alts := [], laidByText := true, laidKinds := [.data, .data], laidTests := true, laidLooks := .later }
def CostGrowsCardSaid : Prop := Claim7.holds Tryd.pinned (.plain (OpenSpec.ofChange costGrowsSpec)) costGrowsCard

/-- THE TIED CARD OF 'coxswainlaw12.CostWalks'. -/
def costWalksCard : Claim7 := { stood := { row := costWalksRow, standIns := [], harness := (true, "1f1041efb348d72319a165eae1cead03f582e2c03c34ad001045ff1aa41b7e73"), looks := false }, kinds := [], alts := [], laidByText := true, laidKinds := [.data, .data], laidTests := true, laidLooks := .later }
def CostWalksCardSaid : Prop := Claim7.holds Tryd.pinned (.plain (OpenSpec.ofChange costWalksSpec)) costWalksCard

/-- THE TIED CARD OF 'coxswainlaw11.PathsOften'. -/
def pathsOftenCard : Claim7 := { stood := { row := pathsOftenRow, standIns := [], harness := (true, "1f1041efb348d72319a165eae1cead03f582e2c03c34ad001045ff1aa41b7e73"), looks := false }, kinds := [], alts := [], laidByText := true, laidKinds := [.data, .data], laidTests := true, laidLooks := .later }
def PathsOftenCardSaid : Prop := Claim7.holds Tryd.pinned (.plain (OpenSpec.ofChange pathsOftenSpec)) pathsOftenCard

/-- THE TIED CARD OF 'coxswainlaw11.PathsWalks'. -/
def pathsWalksCard : Claim7 := { stood := { row := pathsWalksRow, standIns := [], harness := (true, "1f1041efb348d72319a165eae1cead03f582e2c03c34ad001045ff1aa41b7e73"), looks := false }, kinds := [], alts := [], laidByText := true, laidKinds := [.data, .data], laidTests := true, laidLooks := .later }
def PathsWalksCardSaid : Prop := Claim7.holds Tryd.pinned (.plain (OpenSpec.ofChange pathsWalksSpec)) pathsWalksCard

/-- THE TIED CARD OF 'coxswainlaw13.FrameGoes'. -/
def frameGoesCard : Claim7 := { stood := { row := frameGoesRow, standIns := [], harness := (true, "1f1041efb348d72319a165eae1cead03f582e2c03c34ad001045ff1aa41b7e73"), looks := false }, kinds := [], alts := [], laidByText := true, laidKinds := [.data, .data], laidTests := true, laidLooks := .later }
def FrameGoesCardSaid : Prop := Claim7.holds Tryd.pinned (.plain (OpenSpec.ofChange frameGoesSpec)) frameGoesCard

/-- THE TIED CARD OF 'coxswainlaw21.HistoryTimes'. -/
def historyTimesCard : Claim7 := { stood := { row := historyTimesRow, standIns := [], harness := (true, "1f1041efb348d72319a165eae1cead03f582e2c03c34ad001045ff1aa41b7e73"), looks := false }, kinds := [], alts := [], laidByText := true, laidKinds := [.data, .data, .data, .wider, .wider], laidTests := true, laidLooks := .later }
def HistoryTimesCardSaid : Prop := Claim7.holds Tryd.pinned (.plain (OpenSpec.ofChange historyTimesSpec)) historyTimesCard

/-- THE TIED CARD OF 'coxswainlaw21.HistoryRight'. -/
def historyRightCard : Claim7 := { stood := { row := historyRightRow, standIns := [], harness := (true, "1f1041efb348d72319a165eae1cead03f582e2c03c34ad001045ff1aa41b7e73"), looks := false }, kinds := [], alts := [], laidByText := true, laidKinds := [.data, .data, .data, .wider, .wider], laidTests := true, laidLooks := .later }
def HistoryRightCardSaid : Prop := Claim7.holds Tryd.pinned (.plain (OpenSpec.ofChange historyRightSpec)) historyRightCard

/-- THE TIED CARD OF 'coxswainlaw28.JobOnce'. -/
def jobOnceCard : Claim7 := { stood := { row := jobOnceRow, standIns := [], harness := (true, "1f1041efb348d72319a165eae1cead03f582e2c03c34ad001045ff1aa41b7e73"), looks := false }, kinds := [], alts := [], laidByText := true, laidKinds := [.data], laidTests := true, laidLooks := .later }
def JobOnceCardSaid : Prop := Claim7.holds Tryd.pinned (.plain (OpenSpec.ofChange jobOnceSpec)) jobOnceCard

/-- THE SECOND FORM's CARD OF 'coxswainlaw12.CostTells'. -/
def costTellsUptoCard : Claim7 := { stood := { row := costTellsUptoRow, standIns := [], harness := (true, "1f1041efb348d72319a165eae1cead03f582e2c03c34ad001045ff1aa41b7e73"), looks := false }, kinds := [], alts := [], laidByText := true, laidKinds := [.data, .data], laidTests := true, laidLooks := .later }
def CostTellsUptoCardSaid : Prop := Claim7.holds Tryd.pinned (.plain (OpenSpec.upto costTellsSpec)) costTellsUptoCard

/-- THE SECOND FORM's CARD OF 'coxswainlaw12.CostGrows'. -/
def costGrowsUptoCard : Claim7 := { stood := { row := costGrowsUptoRow, standIns := [], harness := (true, "1f1041efb348d72319a165eae1cead03f582e2c03c34ad001045ff1aa41b7e73"), looks := false }, kinds := [], alts := [], laidByText := true, laidKinds := [.data, .data], laidTests := true, laidLooks := .later }
def CostGrowsUptoCardSaid : Prop := Claim7.holds Tryd.pinned (.plain (OpenSpec.upto costGrowsSpec)) costGrowsUptoCard

/-- THE SECOND FORM's CARD OF 'coxswainlaw12.CostWalks'. -/
def costWalksUptoCard : Claim7 := { stood := { row := costWalksUptoRow, standIns := [], harness := (true, "1f1041efb348d72319a165eae1cead03f582e2c03c34ad001045ff1aa41b7e73"), looks := false }, kinds := [], alts := [], laidByText := true, laidKinds := [.data, .data], laidTests := true, laidLooks := .later }
def CostWalksUptoCardSaid : Prop := Claim7.holds Tryd.pinned (.plain (OpenSpec.upto costWalksSpec)) costWalksUptoCard

/-- THE SECOND FORM's CARD OF 'coxswainlaw11.PathsOften'. -/
def pathsOftenUptoCard : Claim7 := { stood := { row := pathsOftenUptoRow, standIns := [], harness := (true, "1f1041efb348d72319a165eae1cead03f582e2c03c34ad001045ff1aa41b7e73"), looks := false }, kinds := [], alts := [], laidByText := true, laidKinds := [.data, .data], laidTests := true, laidLooks := .later }
def PathsOftenUptoCardSaid : Prop := Claim7.holds Tryd.pinned (.plain (OpenSpec.upto pathsOftenSpec)) pathsOftenUptoCard

/-- THE SECOND FORM's CARD OF 'coxswainlaw11.PathsWalks'. -/
def pathsWalksUptoCard : Claim7 := { stood := { row := pathsWalksUptoRow, standIns := [], harness := (true, "1f1041efb348d72319a165eae1cead03f582e2c03c34ad001045ff1aa41b7e73"), looks := false }, kinds := [], alts := [], laidByText := true, laidKinds := [.data, .data], laidTests := true, laidLooks := .later }
def PathsWalksUptoCardSaid : Prop := Claim7.holds Tryd.pinned (.plain (OpenSpec.upto pathsWalksSpec)) pathsWalksUptoCard

/-- THE SECOND FORM's CARD OF 'coxswainlaw13.FrameGoes'. -/
def frameGoesUptoCard : Claim7 := { stood := { row := frameGoesUptoRow, standIns := [], harness := (true, "1f1041efb348d72319a165eae1cead03f582e2c03c34ad001045ff1aa41b7e73"), looks := false }, kinds := [], alts := [], laidByText := true, laidKinds := [.data, .data], laidTests := true, laidLooks := .later }
def FrameGoesUptoCardSaid : Prop := Claim7.holds Tryd.pinned (.plain (OpenSpec.upto frameGoesSpec)) frameGoesUptoCard

/-- THE SECOND FORM's CARD OF 'coxswainlaw21.HistoryTimes'. -/
def historyTimesUptoCard : Claim7 := { stood := { row := historyTimesUptoRow, standIns := [], harness := (true, "1f1041efb348d72319a165eae1cead03f582e2c03c34ad001045ff1aa41b7e73"), looks := false }, kinds := [], alts := [], laidByText := true, laidKinds := [.data, .data, .data, .wider, .wider], laidTests := true, laidLooks := .later }
def HistoryTimesUptoCardSaid : Prop := Claim7.holds Tryd.pinned (.plain (OpenSpec.upto historyTimesSpec)) historyTimesUptoCard

/-- THE SECOND FORM's CARD OF 'coxswainlaw21.HistoryRight'. -/
def historyRightUptoCard : Claim7 := { stood := { row := historyRightUptoRow, standIns := [], harness := (true, "1f1041efb348d72319a165eae1cead03f582e2c03c34ad001045ff1aa41b7e73"), looks := false }, kinds := [], alts := [], laidByText := true, laidKinds := [.data, .data, .data, .wider, .wider], laidTests := true, laidLooks := .later }
def HistoryRightUptoCardSaid : Prop := Claim7.holds Tryd.pinned (.plain (OpenSpec.upto historyRightSpec)) historyRightUptoCard

/-- THE SECOND FORM's CARD OF 'coxswainlaw28.JobOnce'. -/
def jobOnceUptoCard : Claim7 := { stood := { row := jobOnceUptoRow, standIns := [], harness := (true, "1f1041efb348d72319a165eae1cead03f582e2c03c34ad001045ff1aa41b7e73"), looks := false }, kinds := [], alts := [], laidByText := true, laidKinds := [.data], laidTests := true, laidLooks := .later }
def JobOnceUptoCardSaid : Prop := Claim7.holds Tryd.pinned (.plain (OpenSpec.upto jobOnceSpec)) jobOnceUptoCard
end Rows
end Go.Proofs.YtekepjmlgffkmaaDoor
