/-
  DERIVED. GIVEN WITH THE SEED: THE CARDS: each row of YtejajmdmfipplaaDoorRows.lean that lists a variable, with what it lists TIED to the program's text (the seventh form; the later family's looks); each row that meets fmt, with fmt's text TOLD by the authors' own Lean function (tested against real Go, not proved from fmt's source: count such statements apart). THE CARD IS WHAT COUNTS. Prove the row's statement (the work); the ties are given (YtejajmdmfipplaaDoorTie.lean); close each card by the builder's one call (the guide's Derived/Test/ToyasCard.lean, 'card_holds'). Laid BY PROGRAM, IN A SANDBOX (cutbox-door.mjs). By AI agents, Wed Nov 11 2026. No macro, syntax, notation, axiom, sorry.
-/
import Derived.Test.YtejajmdmfipplaaDoorRows
import GoSem.ClaimSeven
namespace Go.Proofs.YtejajmdmfipplaaDoor
namespace Rows

/-- THE TIED CARD OF 'coxswainlaw03.BitmapSets'. -/
def bitmapSetsCard : Claim7 := { stood := { row := bitmapSetsRow, standIns := [], harness := (true, "57461ed5464a5ae9ad0dc27f5dac4f8fdb38e62cc5b1a66849cd2314ebd55184"), looks := false }, kinds := [], alts := [], laidByText := true, laidKinds := [.data], laidTests := true, laidLooks := .later }
def BitmapSetsCardSaid : Prop := Claim7.holds Tryd.pinned (.plain (OpenSpec.ofChange bitmapSetsSpec)) bitmapSetsCard

/-- THE TIED CARD OF 'coxswainlaw03.BitmapOrders'. -/
def bitmapOrdersCard : Claim7 := { stood := { row := bitmapOrdersRow, standIns := [], harness := (true, "57461ed5464a5ae9ad0dc27f5dac4f8fdb38e62cc5b1a66849cd2314ebd55184"), looks := false }, kinds := [], alts := [], laidByText := true, laidKinds := [.data], laidTests := true, laidLooks := .later }
def BitmapOrdersCardSaid : Prop := Claim7.holds Tryd.pinned (.plain (OpenSpec.ofChange bitmapOrdersSpec)) bitmapOrdersCard

/-- THE TIED CARD OF 'coxswainlaw04.RecordFinds'. -/
def recordFindsCard : Claim7 := { stood := { row := recordFindsRow, standIns := [], harness := (true, "57461ed5464a5ae9ad0dc27f5dac4f8fdb38e62cc5b1a66849cd2314ebd55184"), looks := false }, kinds := [], alts := [], laidByText := true, laidKinds := [.data, .data, .data], laidTests := true, laidLooks := .later }
def RecordFindsCardSaid : Prop := Claim7.holds Tryd.pinned (.plain (OpenSpec.ofChange recordFindsSpec)) recordFindsCard

/-- THE TIED CARD OF 'coxswainlaw10.FlowChecks'. -/
def flowChecksCard : Claim7 := { stood := { row := flowChecksRow, standIns := [], harness := (true, "57461ed5464a5ae9ad0dc27f5dac4f8fdb38e62cc5b1a66849cd2314ebd55184"), looks := false }, kinds := [], alts := [], laidByText := true, laidKinds := [.data, .data], laidTests := true, laidLooks := .later }
def FlowChecksCardSaid : Prop := Claim7.holds Tryd.pinned (.plain (OpenSpec.ofChange flowChecksSpec)) flowChecksCard

/-- THE TIED CARD OF 'coxswainlaw10.FlowTells'. -/
def flowTellsCard : Claim7 := { stood := { row := flowTellsRow, standIns := [], harness := (true, "57461ed5464a5ae9ad0dc27f5dac4f8fdb38e62cc5b1a66849cd2314ebd55184"), looks := false }, kinds := [], alts := [], laidByText := true, laidKinds := [.data, .data], laidTests := true, laidLooks := .later }
def FlowTellsCardSaid : Prop := Claim7.holds Tryd.pinned (.plain (OpenSpec.ofChange flowTellsSpec)) flowTellsCard

/-- THE TIED CARD OF 'coxswainlaw13.FrameSteps'. -/
def frameStepsCard : Claim7 := { stood := { row := frameStepsRow, standIns := [], harness := (true, "57461ed5464a5ae9ad0dc27f5dac4f8fdb38e62cc5b1a66849cd2314ebd55184"), looks := false }, kinds := [], alts := [], laidByText := true, laidKinds := [.data, .data], laidTests := true, laidLooks := .later }
def FrameStepsCardSaid : Prop := Claim7.holds Tryd.pinned (.plain (OpenSpec.ofChange frameStepsSpec)) frameStepsCard

/-- THE SECOND FORM's CARD OF 'coxswainlaw03.BitmapSets'. -/
def bitmapSetsUptoCard : Claim7 := { stood := { row := bitmapSetsUptoRow, standIns := [], harness := (true, "57461ed5464a5ae9ad0dc27f5dac4f8fdb38e62cc5b1a66849cd2314ebd55184"), looks := false }, kinds := [], alts := [], laidByText := true, laidKinds := [.data], laidTests := true, laidLooks := .later }
def BitmapSetsUptoCardSaid : Prop := Claim7.holds Tryd.pinned (.plain (OpenSpec.upto bitmapSetsSpec)) bitmapSetsUptoCard

/-- THE SECOND FORM's CARD OF 'coxswainlaw03.BitmapOrders'. -/
def bitmapOrdersUptoCard : Claim7 := { stood := { row := bitmapOrdersUptoRow, standIns := [], harness := (true, "57461ed5464a5ae9ad0dc27f5dac4f8fdb38e62cc5b1a66849cd2314ebd55184"), looks := false }, kinds := [], alts := [], laidByText := true, laidKinds := [.data], laidTests := true, laidLooks := .later }
def BitmapOrdersUptoCardSaid : Prop := Claim7.holds Tryd.pinned (.plain (OpenSpec.upto bitmapOrdersSpec)) bitmapOrdersUptoCard

/-- THE SECOND FORM's CARD OF 'coxswainlaw04.RecordFinds'. -/
def recordFindsUptoCard : Claim7 := { stood := { row := recordFindsUptoRow, standIns := [], harness := (true, "57461ed5464a5ae9ad0dc27f5dac4f8fdb38e62cc5b1a66849cd2314ebd55184"), looks := false }, kinds := [], alts := [], laidByText := true, laidKinds := [.data, .data, .data], laidTests := true, laidLooks := .later }
def RecordFindsUptoCardSaid : Prop := Claim7.holds Tryd.pinned (.plain (OpenSpec.upto recordFindsSpec)) recordFindsUptoCard

/-- THE SECOND FORM's CARD OF 'coxswainlaw10.FlowChecks'. -/
def flowChecksUptoCard : Claim7 := { stood := { row := flowChecksUptoRow, standIns := [], harness := (true, "57461ed5464a5ae9ad0dc27f5dac4f8fdb38e62cc5b1a66849cd2314ebd55184"), looks := false }, kinds := [], alts := [], laidByText := true, laidKinds := [.data, .data], laidTests := true, laidLooks := .later }
def FlowChecksUptoCardSaid : Prop := Claim7.holds Tryd.pinned (.plain (OpenSpec.upto flowChecksSpec)) flowChecksUptoCard

/-- THE SECOND FORM's CARD OF 'coxswainlaw10.FlowTells'. -/
def flowTellsUptoCard : Claim7 := { stood := { row := flowTellsUptoRow, standIns := [], harness := (true, "57461ed5464a5ae9ad0dc27f5dac4f8fdb38e62cc5b1a66849cd2314ebd55184"), looks := false }, kinds := [], alts := [], laidByText := true, laidKinds := [.data, .data], laidTests := true, laidLooks := .later }
def FlowTellsUptoCardSaid : Prop := Claim7.holds Tryd.pinned (.plain (OpenSpec.upto flowTellsSpec)) flowTellsUptoCard

/-- THE SECOND FORM's CARD OF 'coxswainlaw13.FrameSteps'. -/
def frameStepsUptoCard : Claim7 := { stood := { row := frameStepsUptoRow, standIns := [], harness := (true, "57461ed5464a5ae9ad0dc27f5dac4f8fdb38e62cc5b1a66849cd2314ebd55184"), looks := false }, kinds := [], alts := [], laidByText := true, laidKinds := [.data, .data], laidTests := true, laidLooks := .later }
def FrameStepsUptoCardSaid : Prop := Claim7.holds Tryd.pinned (.plain (OpenSpec.upto frameStepsSpec)) frameStepsUptoCard
end Rows
end Go.Proofs.YtejajmdmfipplaaDoor
