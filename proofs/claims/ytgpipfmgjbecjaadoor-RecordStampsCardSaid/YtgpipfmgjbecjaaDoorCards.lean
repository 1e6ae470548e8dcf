/-
  DERIVED. GIVEN WITH THE SEED: THE CARDS: each row of YtgpipfmgjbecjaaDoorRows.lean that lists a variable, with what it lists TIED to the program's text (the seventh form; the later family's looks); each row that meets fmt, with fmt's text TOLD by the authors' own Lean function (tested against real Go, not proved from fmt's source: count such statements apart). THE CARD IS WHAT COUNTS. Prove the row's statement (the work); the ties are given (YtgpipfmgjbecjaaDoorTie.lean); close each card by the builder's one call (the guide's Derived/Test/ToyasCard.lean, 'card_holds'). Laid BY PROGRAM, IN A SANDBOX (cutbox-door.mjs). By AI agents, Wed Nov 11 2026. No macro, syntax, notation, axiom, sorry.
-/
import Derived.Test.YtgpipfmgjbecjaaDoorRows
import GoSem.ClaimSeven
namespace Go.Proofs.YtgpipfmgjbecjaaDoor
namespace Rows

/-- THE TIED CARD OF 'coxswainlaw03.BitmapSets'. -/
def bitmapSetsCard : Claim7 := { stood := { row := bitmapSetsRow, standIns := [], harness := (true, "d5a0f0d5ec1408945b6f8225077eee1575570065966f1fcace24a9db68c3a11b"), looks := true }, kinds := [], alts := [], laidByText := true, laidKinds := [.data], laidTests := true, laidLooks := .later }
def BitmapSetsCardSaid : Prop := Claim7.holds Tryd.pinned (.plain (OpenSpec.ofChange bitmapSetsSpec)) bitmapSetsCard

/-- THE TIED CARD OF 'coxswainlaw03.BitmapOrders'. -/
def bitmapOrdersCard : Claim7 := { stood := { row := bitmapOrdersRow, standIns := [], harness := (true, "d5a0f0d5ec1408945b6f8225077eee1575570065966f1fcace24a9db68c3a11b"), looks := true }, kinds := [], alts := [], laidByText := true, laidKinds := [.data], laidTests := true, laidLooks := .later }
def BitmapOrdersCardSaid : Prop := Claim7.holds Tryd.pinned (.plain (OpenSpec.ofChange bitmapOrdersSpec)) bitmapOrdersCard

/-- THE TIED CARD OF 'coxswainlaw03.BitmapPicks'. -/
def bitmapPicksCard : Claim7 := { stood := { row := bitmapPicksRow, standIns := [], harness := (true, "d5a0f0d5ec1408945b6f8225077eee1575570065966f1fcace24a9db68c3a11b"), looks := true }, kinds := [], alts := [], laidByText := true, laidKinds := [.data], laidTests := true, laidLooks := .later }
def BitmapPicksCardSaid : Prop := Claim7.holds Tryd.pinned (.plain (OpenSpec.ofChange bitmapPicksSpec)) bitmapPicksCard

/-- THE TIED CARD OF 'coxswainlaw04.RecordFinds'. -/
def recordFindsCard : Claim7 := { stood := { row := recordFindsRow, standIns := [], harness := (true, "d5a0f0d5ec1408945b6f8225077eee1575570065966f1fcace24a9db68c3a11b"), looks := true }, kinds := [], alts := [], laidByText := true, laidKinds := [.data, .data, .data], laidTests := true, laidLooks := .later }
def RecordFindsCardSaid : Prop := Claim7.holds Tryd.pinned (.plain (OpenSpec.ofChange recordFindsSpec)) recordFindsCard

/-- THE TIED CARD OF 'coxswainlaw04.RecordTexts'. -/
def recordTextsCard : Claim7 := { stood := { row := recordTextsRow, standIns := [], harness := (true, "d5a0f0d5ec1408945b6f8225077eee1575570065966f1fcace24a9db68c3a11b"), looks := true }, kinds := [], alts := [], laidByText := true, laidKinds := [.data, .data, .data, .data, .sentinel, .sentinel, .pinned], laidTests := true, laidLooks := .later }
def RecordTextsCardSaid : Prop := Claim7.holds Tryd.pinned (.plain (OpenSpec.ofChange recordTextsSpec)) recordTextsCard

/-- THE TIED CARD OF 'coxswainlaw04.RecordStamps'. -/
def recordStampsCard : Claim7 := { stood := { row := recordStampsRow, standIns := [], harness := (true, "d5a0f0d5ec1408945b6f8225077eee1575570065966f1fcace24a9db68c3a11b"), looks := true }, kinds := [], alts := [], laidByText := true, laidKinds := [.data, .data, .data], laidTests := true, laidLooks := .later }
def RecordStampsCardSaid : Prop := Claim7.holds Tryd.pinned (.plain (OpenSpec.ofChange recordStampsSpec)) recordStampsCard

/-- THE SECOND FORM's CARD OF 'coxswainlaw03.BitmapSets'. -/
def bitmapSetsUptoCard : Claim7 := { stood := { row := bitmapSetsUptoRow, standIns := [], harness := (true, "d5a0f0d5ec1408945b6f8225077eee1575570065966f1fcace24a9db68c3a11b"), looks := true }, kinds := [], alts := [], laidByText := true, laidKinds := [.data], laidTests := true, laidLooks := .later }
def BitmapSetsUptoCardSaid : Prop := Claim7.holds Tryd.pinned (.plain (OpenSpec.upto bitmapSetsSpec)) bitmapSetsUptoCard

/-- THE SECOND FORM's CARD OF 'coxswainlaw03.BitmapOrders'. -/
def bitmapOrdersUptoCard : Claim7 := { stood := { row := bitmapOrdersUptoRow, standIns := [], harness := (true, "d5a0f0d5ec1408945b6f8225077eee1575570065966f1fcace24a9db68c3a11b"), looks := true }, kinds := [], alts := [], laidByText := true, laidKinds := [.data], laidTests := true, laidLooks := .later }
def BitmapOrdersUptoCardSaid : Prop := Claim7.holds Tryd.pinned (.plain (OpenSpec.upto bitmapOrdersSpec)) bitmapOrdersUptoCard

/-- THE SECOND FORM's CARD OF 'coxswainlaw03.BitmapPicks'. -/
def bitmapPicksUptoCard : Claim7 := { stood := { row := bitmapPicksUptoRow, standIns := [], harness := (true, "d5a0f0d5ec1408945b6f8225077eee1575570065966f1fcace24a9db68c3a11b"), looks := true }, kinds := [], alts := [], laidByText := true, laidKinds := [.data], laidTests := true, laidLooks := .later }
def BitmapPicksUptoCardSaid : Prop := Claim7.holds Tryd.pinned (.plain (OpenSpec.upto bitmapPicksSpec)) bitmapPicksUptoCard

/-- THE SECOND FORM's CARD OF 'coxswainlaw04.RecordFinds'. -/
def recordFindsUptoCard : Claim7 := { stood := { row := recordFindsUptoRow, standIns := [], harness := (true, "d5a0f0d5ec1408945b6f8225077eee1575570065966f1fcace24a9db68c3a11b"), looks := true }, kinds := [], alts := [], laidByText := true, laidKinds := [.data, .data, .data], laidTests := true, laidLooks := .later }
def RecordFindsUptoCardSaid : Prop := Claim7.holds Tryd.pinned (.plain (OpenSpec.upto recordFindsSpec)) recordFindsUptoCard

/-- THE SECOND FORM's CARD OF 'coxswainlaw04.RecordTexts'. -/
def recordTextsUptoCard : Claim7 := { stood := { row := recordTextsUptoRow, standIns := [], harness := (true, "d5a0f0d5ec1408945b6f8225077eee1575570065966f1fcace24a9db68c3a11b"), looks := true }, kinds := [], alts := [], laidByText := true, laidKinds := [.data, .data, .data, .data, .sentinel, .sentinel, .pinned], laidTests := true, laidLooks := .later }
def RecordTextsUptoCardSaid : Prop := Claim7.holds Tryd.pinned (.plain (OpenSpec.upto recordTextsSpec)) recordTextsUptoCard

/-- THE SECOND FORM's CARD OF 'coxswainlaw04.RecordStamps'. -/
def recordStampsUptoCard : Claim7 := { stood := { row := recordStampsUptoRow, standIns := [], harness := (true, "d5a0f0d5ec1408945b6f8225077eee1575570065966f1fcace24a9db68c3a11b"), looks := true }, kinds := [], alts := [], laidByText := true, laidKinds := [.data, .data, .data], laidTests := true, laidLooks := .later }
def RecordStampsUptoCardSaid : Prop := Claim7.holds Tryd.pinned (.plain (OpenSpec.upto recordStampsSpec)) recordStampsUptoCard
end Rows
end Go.Proofs.YtgpipfmgjbecjaaDoor
