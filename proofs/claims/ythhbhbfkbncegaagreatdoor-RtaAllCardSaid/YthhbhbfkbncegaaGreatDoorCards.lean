/-
  DERIVED. GIVEN WITH THE SEED: THE CARDS: each row of YthhbhbfkbncegaaGreatDoorRows.lean that lists a variable, with what it lists TIED to the program's text (the seventh form; the later family's looks); each row that meets fmt, with fmt's text TOLD by the authors' own Lean function (tested against real Go, not proved from fmt's source: count such statements apart). THE CARD IS WHAT COUNTS. Prove the row's statement (the work); the ties are given (YthhbhbfkbncegaaGreatDoorTie.lean); close each card by the builder's one call (the guide's Derived/Test/ToyasCard.lean, 'card_holds'). Laid BY PROGRAM, IN A SANDBOX (cutbox-door.mjs). By AI agents, Wed Nov 11 2026. No macro, syntax, notation, axiom, sorry.
-/
import Derived.Test.YthhbhbfkbncegaaGreatDoorRows
import GoSem.ClaimSeven
namespace Go.Proofs.YthhbhbfkbncegaaGreatDoor
namespace Rows

/-- THE TIED CARD OF 'coxswainlaw37.InterfereTells'. -/
def interfereTellsCard : Claim7 := { stood := { row := interfereTellsRow, standIns := [], harness := (true, "d6044cdaf5dadec8216676a93d48a922d1f020c259cc2d8e75312bf7475faf74"), looks := false }, kinds := [], alts := [], laidByText := true, laidKinds := [.data, .data], laidTests := true, laidLooks := .later }
def InterfereTellsCardSaid : Prop := Claim7.holds Tryz.pinned (.plain (OpenSpec.ofChange interfereTellsSpec)) interfereTellsCard

/-- THE TIED CARD OF 'coxswainlaw37.InterfereGrows'. -/
def interfereGrowsCard : Claim7 := { stood := { row := interfereGrowsRow, standIns := [], harness := (true, "d6044cdaf5dadec8216676a93d48a922d1f020c259cc2d8e75312bf7475faf74"), looks := false }, kinds := [], alts := [], laidByText := true, laidKinds := [.data, .data], laidTests := true, laidLooks := .later }
def InterfereGrowsCardSaid : Prop := Claim7.holds Tryz.pinned (.plain (OpenSpec.ofChange interfereGrowsSpec)) interfereGrowsCard

/-- THE TIED CARD OF 'coxswainlaw37.InterfereNone'. -/
def interfereNoneCard : Claim7 := { stood := { row := interfereNoneRow, standIns := [], harness := (true, "d6044cdaf5dadec8216676a93d48a922d1f020c259cc2d8e75312bf7475faf74"), looks := false }, kinds := [], alts := [], laidByText := true, laidKinds := [.data, .data], laidTests := true, laidLooks := .later }
def InterfereNoneCardSaid : Prop := Claim7.holds Tryz.pinned (.plain (OpenSpec.ofChange interfereNoneSpec)) interfereNoneCard

/-- THE TIED CARD OF 'coxswainlaw38.RtaLoads'. -/
def rtaLoadsCard : Claim7 := { stood := { row := rtaLoadsRow, standIns := [], harness := (true, "d6044cdaf5dadec8216676a93d48a922d1f020c259cc2d8e75312bf7475faf74"), looks := false }, kinds := [], alts := [], laidByText := true, laidKinds := [.data, .data], laidTests := true, laidLooks := .later }
def RtaLoadsCardSaid : Prop := Claim7.holds Tryz.pinned (.plain (OpenSpec.ofChange rtaLoadsSpec)) rtaLoadsCard

/-- THE TIED CARD OF 'coxswainlaw38.RtaResponses'. -/
def rtaResponsesCard : Claim7 := { stood := { row := rtaResponsesRow, standIns := [], harness := (true, "d6044cdaf5dadec8216676a93d48a922d1f020c259cc2d8e75312bf7475faf74"), looks := false }, kinds := [], alts := [], laidByText := true, laidKinds := [.data, .data], laidTests := true, laidLooks := .later }
def RtaResponsesCardSaid : Prop := Claim7.holds Tryz.pinned (.plain (OpenSpec.ofChange rtaResponsesSpec)) rtaResponsesCard

/-- THE TIED CARD OF 'coxswainlaw38.RtaAll'. -/
def rtaAllCard : Claim7 := { stood := { row := rtaAllRow, standIns := [], harness := (true, "d6044cdaf5dadec8216676a93d48a922d1f020c259cc2d8e75312bf7475faf74"), looks := false }, kinds := [], alts := [], laidByText := true, laidKinds := [.data, .data], laidTests := true, laidLooks := .later }
def RtaAllCardSaid : Prop := Claim7.holds Tryz.pinned (.plain (OpenSpec.ofChange rtaAllSpec)) rtaAllCard

/-- THE SECOND FORM's CARD OF 'coxswainlaw37.InterfereTells'. -/
def interfereTellsUptoCard : Claim7 := { stood := { row := interfereTellsUptoRow, standIns := [], harness := (true, "d6044cdaf5dadec8216676a93d48a922d1f020c259cc2d8e75312bf7475faf74"), looks := false }, kinds := [], alts := [], laidByText := true, laidKinds := [.data, .data], laidTests := true, laidLooks := .later }
def InterfereTellsUptoCardSaid : Prop := Claim7.holds Tryz.pinned (.plain (OpenSpec.upto interfereTellsSpec)) interfereTellsUptoCard

/-- THE SECOND FORM's CARD OF 'coxswainlaw37.InterfereGrows'. -/
def interfereGrowsUptoCard : Claim7 := { stood := { row := interfereGrowsUptoRow, standIns := [], harness := (true, "d6044cdaf5dadec8216676a93d48a922d1f020c259cc2d8e75312bf7475faf74"), looks := false }, kinds := [], alts := [], laidByText := true, laidKinds := [.data, .data], laidTests := true, laidLooks := .later }
def InterfereGrowsUptoCardSaid : Prop := Claim7.holds Tryz.pinned (.plain (OpenSpec.upto interfereGrowsSpec)) interfereGrowsUptoCard

/-- THE SECOND FORM's CARD OF 'coxswainlaw37.InterfereNone'. -/
def interfereNoneUptoCard : Claim7 := { stood := { row := interfereNoneUptoRow, standIns := [], harness := (true, "d6044cdaf5dadec8216676a93d48a922d1f020c259cc2d8e75312bf7475faf74"), looks := false }, kinds := [], alts := [], laidByText := true, laidKinds := [.data, .data], laidTests := true, laidLooks := .later }
def InterfereNoneUptoCardSaid : Prop := Claim7.holds Tryz.pinned (.plain (OpenSpec.upto interfereNoneSpec)) interfereNoneUptoCard

/-- THE SECOND FORM's CARD OF 'coxswainlaw38.RtaLoads'. -/
def rtaLoadsUptoCard : Claim7 := { stood := { row := rtaLoadsUptoRow, standIns := [], harness := (true, "d6044cdaf5dadec8216676a93d48a922d1f020c259cc2d8e75312bf7475faf74"), looks := false }, kinds := [], alts := [], laidByText := true, laidKinds := [.data, .data], laidTests := true, laidLooks := .later }
def RtaLoadsUptoCardSaid : Prop := Claim7.holds Tryz.pinned (.plain (OpenSpec.upto rtaLoadsSpec)) rtaLoadsUptoCard

/-- THE SECOND FORM's CARD OF 'coxswainlaw38.RtaResponses'. -/
def rtaResponsesUptoCard : Claim7 := { stood := { row := rtaResponsesUptoRow, standIns := [], harness := (true, "d6044cdaf5dadec8216676a93d48a922d1f020c259cc2d8e75312bf7475faf74"), looks := false }, kinds := [], alts := [], laidByText := true, laidKinds := [.data, .data], laidTests := true, laidLooks := .later }
def RtaResponsesUptoCardSaid : Prop := Claim7.holds Tryz.pinned (.plain (OpenSpec.upto rtaResponsesSpec)) rtaResponsesUptoCard

/-- THE SECOND FORM's CARD OF 'coxswainlaw38.RtaAll'. -/
def rtaAllUptoCard : Claim7 := { stood := { row := rtaAllUptoRow, standIns := [], harness := (true, "d6044cdaf5dadec8216676a93d48a922d1f020c259cc2d8e75312bf7475faf74"), looks := false }, kinds := [], alts := [], laidByText := true, laidKinds := [.data, .data], laidTests := true, laidLooks := .later }
def RtaAllUptoCardSaid : Prop := Claim7.holds Tryz.pinned (.plain (OpenSpec.upto rtaAllSpec)) rtaAllUptoCard
end Rows
end Go.Proofs.YthhbhbfkbncegaaGreatDoor
