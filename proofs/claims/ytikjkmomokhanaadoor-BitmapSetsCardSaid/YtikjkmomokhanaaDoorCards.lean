/-
  DERIVED. GIVEN WITH THE SEED: THE CARDS: each row of YtikjkmomokhanaaDoorRows.lean that lists a variable, with what it lists TIED to the program's text (the seventh form; the later family's looks); each row that meets fmt, with fmt's text TOLD by the authors' own Lean function (tested against real Go, not proved from fmt's source: count such statements apart). THE CARD IS WHAT COUNTS. Prove the row's statement (the work); the ties are given (YtikjkmomokhanaaDoorTie.lean); close each card by the builder's one call (the guide's Derived/Test/ToyasCard.lean, 'card_holds'). Laid BY PROGRAM, IN A SANDBOX (cutbox-door.mjs). By AI agents, Wed Nov 11 2026. No macro, syntax, notation, axiom, sorry.
-/
import Derived.Test.YtikjkmomokhanaaDoorRows
import GoSem.ClaimSeven
namespace Go.Proofs.YtikjkmomokhanaaDoor
namespace Rows

/-- THE TIED CARD OF 'coxswainlaw03.BitmapSets'. -/
def bitmapSetsCard : Claim7 := { stood := { row := bitmapSetsRow, standIns := [], harness := (true, "05902647b4ad89cd826e3e8a992858dc256f5e971c62911787434b82918a88a7"), looks := false }, kinds := [], alts := [], laidByText := true, laidKinds := [.data], laidTests := true, laidLooks := .later }
def BitmapSetsCardSaid : Prop := Claim7.holds Tryd.pinned (.plain (OpenSpec.ofChange bitmapSetsSpec)) bitmapSetsCard

/-- THE TIED CARD OF 'coxswainlaw03.BitmapOrders'. -/
def bitmapOrdersCard : Claim7 := { stood := { row := bitmapOrdersRow, standIns := [], harness := (true, "05902647b4ad89cd826e3e8a992858dc256f5e971c62911787434b82918a88a7"), looks := false }, kinds := [], alts := [], laidByText := true, laidKinds := [.data], laidTests := true, laidLooks := .later }
def BitmapOrdersCardSaid : Prop := Claim7.holds Tryd.pinned (.plain (OpenSpec.ofChange bitmapOrdersSpec)) bitmapOrdersCard

/-- THE TIED CARD OF 'coxswainlaw03.BitmapPicks'. -/
def bitmapPicksCard : Claim7 := { stood := { row := bitmapPicksRow, standIns := [], harness := (true, "05902647b4ad89cd826e3e8a992858dc256f5e971c62911787434b82918a88a7"), looks := false }, kinds := [], alts := [], laidByText := true, laidKinds := [.data], laidTests := true, laidLooks := .later }
def BitmapPicksCardSaid : Prop := Claim7.holds Tryd.pinned (.plain (OpenSpec.ofChange bitmapPicksSpec)) bitmapPicksCard

/-- THE TIED CARD OF 'coxswainlaw13.FrameSteps'. -/
def frameStepsCard : Claim7 := { stood := { row := frameStepsRow, standIns := [], harness := (true, "05902647b4ad89cd826e3e8a992858dc256f5e971c62911787434b82918a88a7"), looks := false }, kinds := [], alts := [], laidByText := true, laidKinds := [.data, .data], laidTests := true, laidLooks := .later }
def FrameStepsCardSaid : Prop := Claim7.holds Tryd.pinned (.plain (OpenSpec.ofChange frameStepsSpec)) frameStepsCard

/-- THE TIED CARD OF 'coxswainlaw13.FramePasses'. -/
def framePassesCard : Claim7 := { stood := { row := framePassesRow, standIns := [], harness := (true, "05902647b4ad89cd826e3e8a992858dc256f5e971c62911787434b82918a88a7"), looks := false }, kinds := [], alts := [], laidByText := true, laidKinds := [.data, .data], laidTests := true, laidLooks := .later }
def FramePassesCardSaid : Prop := Claim7.holds Tryd.pinned (.plain (OpenSpec.ofChange framePassesSpec)) framePassesCard

/-- THE TIED CARD OF 'coxswainlaw13.FrameRuns'. -/
def frameRunsCard : Claim7 := { stood := { row := frameRunsRow, standIns := [], harness := (true, "05902647b4ad89cd826e3e8a992858dc256f5e971c62911787434b82918a88a7"), looks := false }, kinds := [], alts := [], laidByText := true, laidKinds := [.data, .data], laidTests := true, laidLooks := .later }
def FrameRunsCardSaid : Prop := Claim7.holds Tryd.pinned (.plain (OpenSpec.ofChange frameRunsSpec)) frameRunsCard

/-- THE SECOND FORM's CARD OF 'coxswainlaw03.BitmapSets'. -/
def bitmapSetsUptoCard : Claim7 := { stood := { row := bitmapSetsUptoRow, standIns := [], harness := (true, "05902647b4ad89cd826e3e8a992858dc256f5e971c62911787434b82918a88a7"), looks := false }, kinds := [], alts := [], laidByText := true, laidKinds := [.data], laidTests := true, laidLooks := .later }
def BitmapSetsUptoCardSaid : Prop := Claim7.holds Tryd.pinned (.plain (OpenSpec.upto bitmapSetsSpec)) bitmapSetsUptoCard

/-- THE SECOND FORM's CARD OF 'coxswainlaw03.BitmapOrders'. -/
def bitmapOrdersUptoCard : Claim7 := { stood := { row := bitmapOrdersUptoRow, standIns := [], harness := (true, "05902647b4ad89cd826e3e8a992858dc256f5e971c62911787434b82918a88a7"), looks := false }, kinds := [], alts := [], laidByText := true, laidKinds := [.data], laidTests := true, laidLooks := .later }
def BitmapOrdersUptoCardSaid : Prop := Claim7.holds Tryd.pinned (.plain (OpenSpec.upto bitmapOrdersSpec)) bitmapOrdersUptoCard

/-- THE SECOND FORM's CARD OF 'coxswainlaw03.BitmapPicks'. -/
def bitmapPicksUptoCard : Claim7 := { stood := { row := bitmapPicksUptoRow, standIns := [], harness := (true, "05902647b4ad89cd826e3e8a992858dc256f5e971c62911787434b82918a88a7"), looks := false }, kinds := [], alts := [], laidByText := true, laidKinds := [.data], laidTests := true, laidLooks := .later }
def BitmapPicksUptoCardSaid : Prop := Claim7.holds Tryd.pinned (.plain (OpenSpec.upto bitmapPicksSpec)) bitmapPicksUptoCard

/-- THE SECOND FORM's CARD OF 'coxswainlaw13.FrameSteps'. -/
def frameStepsUptoCard : Claim7 := { stood := { row := frameStepsUptoRow, standIns := [], harness := (true, "05902647b4ad89cd826e3e8a992858dc256f5e971c62911787434b82918a88a7"), looks := false }, kinds := [], alts := [], laidByText := true, laidKinds := [.data, .data], laidTests := true, laidLooks := .later }
def FrameStepsUptoCardSaid : Prop := Claim7.holds Tryd.pinned (.plain (OpenSpec.upto frameStepsSpec)) frameStepsUptoCard

/-- THE SECOND FORM's CARD OF 'coxswainlaw13.FramePasses'. -/
def framePassesUptoCard : Claim7 := { stood := { row := framePassesUptoRow, standIns := [], harness := (true, "05902647b4ad89cd826e3e8a992858dc256f5e971c62911787434b82918a88a7"), looks := false }, kinds := [], alts := [], laidByText := true, laidKinds := [.data, .data], laidTests := true, laidLooks := .later }
def FramePassesUptoCardSaid : Prop := Claim7.holds Tryd.pinned (.plain (OpenSpec.upto framePassesSpec)) framePassesUptoCard

/-- THE SECOND FORM's CARD OF 'coxswainlaw13.FrameRuns'. -/
def frameRunsUptoCard : Claim7 := { stood := { row := frameRunsUptoRow, standIns := [], harness := (true, "05902647b4ad89cd826e3e8a992858dc256f5e971c62911787434b82918a88a7"), looks := false }, kinds := [], alts := [], laidByText := true, laidKinds := [.data, .data], laidTests := true, laidLooks := .later }
def FrameRunsUptoCardSaid : Prop := Claim7.holds Tryd.pinned (.plain (OpenSpec.upto frameRunsSpec)) frameRunsUptoCard
end Rows
end Go.Proofs.YtikjkmomokhanaaDoor
