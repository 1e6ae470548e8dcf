/-
  DERIVED. GIVEN WITH THE SEED: THE CARDS: each row of YtflmejcojfnknaaDoorRows.lean that lists a variable, with what it lists TIED to the program's text (the seventh form; the later family's looks); each row that meets fmt, with fmt's text TOLD by the authors' own Lean function (tested against real Go, not proved from fmt's source: count such statements apart). THE CARD IS WHAT COUNTS. Prove the row's statement (the work); the ties are given (YtflmejcojfnknaaDoorTie.lean); close each card by the builder's one call (the guide's Derived/Test/ToyasCard.lean, 'card_holds'). Laid BY PROGRAM, IN A SANDBOX (cutbox-door.mjs). By AI agents, Wed Nov 11 2026. No macro, syntax, notation, axiom, sorry.
-/
import Derived.Test.YtflmejcojfnknaaDoorRows
import GoSem.ClaimSeven
namespace Go.Proofs.YtflmejcojfnknaaDoor
namespace Rows

/-- THE TIED CARD OF 'coxswainlaw03.BitmapSets'. -/
def bitmapSetsCard : Claim7 := { stood := { row := bitmapSetsRow, standIns := [], harness := (true, "2fd22568b68051d314c8df44bd299702ca25611338997d74ed63c0e96db18235"), looks := true }, kinds := [], alts := [], laidByText := true, laidKinds := [.data], laidTests := true, laidLooks := .later }
def BitmapSetsCardSaid : Prop := Claim7.holds Tryd.pinned (.plain (OpenSpec.ofChange bitmapSetsSpec)) bitmapSetsCard

/-- THE TIED CARD OF 'coxswainlaw03.BitmapOrders'. -/
def bitmapOrdersCard : Claim7 := { stood := { row := bitmapOrdersRow, standIns := [], harness := (true, "2fd22568b68051d314c8df44bd299702ca25611338997d74ed63c0e96db18235"), looks := true }, kinds := [], alts := [], laidByText := true, laidKinds := [.data], laidTests := true, laidLooks := .later }
def BitmapOrdersCardSaid : Prop := Claim7.holds Tryd.pinned (.plain (OpenSpec.ofChange bitmapOrdersSpec)) bitmapOrdersCard

/-- THE TIED CARD OF 'coxswainlaw03.BitmapPicks'. -/
def bitmapPicksCard : Claim7 := { stood := { row := bitmapPicksRow, standIns := [], harness := (true, "2fd22568b68051d314c8df44bd299702ca25611338997d74ed63c0e96db18235"), looks := true }, kinds := [], alts := [], laidByText := true, laidKinds := [.data], laidTests := true, laidLooks := .later }
def BitmapPicksCardSaid : Prop := Claim7.holds Tryd.pinned (.plain (OpenSpec.ofChange bitmapPicksSpec)) bitmapPicksCard

/-- THE TIED CARD OF 'coxswainlaw04.RecordTexts'. -/
def recordTextsCard : Claim7 := { stood := { row := recordTextsRow, standIns := [], harness := (true, "2fd22568b68051d314c8df44bd299702ca25611338997d74ed63c0e96db18235"), looks := true }, kinds := [], alts := [], laidByText := true, laidKinds := [.data, .data, .data, .data, .sentinel, .sentinel, .pinned], laidTests := true, laidLooks := .later }
def RecordTextsCardSaid : Prop := Claim7.holds Tryd.pinned (.plain (OpenSpec.ofChange recordTextsSpec)) recordTextsCard

/-- THE TIED CARD OF 'coxswainlaw10.FlowEnds'. -/
def flowEndsCard : Claim7 := { stood := { row := flowEndsRow, standIns := [], harness := (true, "2fd22568b68051d314c8df44bd299702ca25611338997d74ed63c0e96db18235"), looks := true }, kinds := [], alts := [], laidByText := true, laidKinds := [.data, .data], laidTests := true, laidLooks := .later }
def FlowEndsCardSaid : Prop := Claim7.holds Tryd.pinned (.plain (OpenSpec.ofChange flowEndsSpec)) flowEndsCard

/-- THE SECOND FORM's CARD OF 'coxswainlaw03.BitmapSets'. -/
def bitmapSetsUptoCard : Claim7 := { stood := { row := bitmapSetsUptoRow, standIns := [], harness := (true, "2fd22568b68051d314c8df44bd299702ca25611338997d74ed63c0e96db18235"), looks := true }, kinds := [], alts := [], laidByText := true, laidKinds := [.data], laidTests := true, laidLooks := .later }
def BitmapSetsUptoCardSaid : Prop := Claim7.holds Tryd.pinned (.plain (OpenSpec.upto bitmapSetsSpec)) bitmapSetsUptoCard

/-- THE SECOND FORM's CARD OF 'coxswainlaw03.BitmapOrders'. -/
def bitmapOrdersUptoCard : Claim7 := { stood := { row := bitmapOrdersUptoRow, standIns := [], harness := (true, "2fd22568b68051d314c8df44bd299702ca25611338997d74ed63c0e96db18235"), looks := true }, kinds := [], alts := [], laidByText := true, laidKinds := [.data], laidTests := true, laidLooks := .later }
def BitmapOrdersUptoCardSaid : Prop := Claim7.holds Tryd.pinned (.plain (OpenSpec.upto bitmapOrdersSpec)) bitmapOrdersUptoCard

/-- THE SECOND FORM's CARD OF 'coxswainlaw03.BitmapPicks'. -/
def bitmapPicksUptoCard : Claim7 := { stood := { row := bitmapPicksUptoRow, standIns := [], harness := (true, "2fd22568b68051d314c8df44bd299702ca25611338997d74ed63c0e96db18235"), looks := true }, kinds := [], alts := [], laidByText := true, laidKinds := [.data], laidTests := true, laidLooks := .later }
def BitmapPicksUptoCardSaid : Prop := Claim7.holds Tryd.pinned (.plain (OpenSpec.upto bitmapPicksSpec)) bitmapPicksUptoCard

/-- THE SECOND FORM's CARD OF 'coxswainlaw04.RecordTexts'. -/
def recordTextsUptoCard : Claim7 := { stood := { row := recordTextsUptoRow, standIns := [], harness := (true, "2fd22568b68051d314c8df44bd299702ca25611338997d74ed63c0e96db18235"), looks := true }, kinds := [], alts := [], laidByText := true, laidKinds := [.data, .data, .data, .data, .sentinel, .sentinel, .pinned], laidTests := true, laidLooks := .later }
def RecordTextsUptoCardSaid : Prop := Claim7.holds Tryd.pinned (.plain (OpenSpec.upto recordTextsSpec)) recordTextsUptoCard

/-- THE SECOND FORM's CARD OF 'coxswainlaw10.FlowEnds'. -/
def flowEndsUptoCard : Claim7 := { stood := { row := flowEndsUptoRow, standIns := [], harness := (true, "2fd22568b68051d314c8df44bd299702ca25611338997d74ed63c0e96db18235"), looks := true }, kinds := [], alts := [], laidByText := true, laidKinds := [.data, .data], laidTests := true, laidLooks := .later }
def FlowEndsUptoCardSaid : Prop := Claim7.holds Tryd.pinned (.plain (OpenSpec.upto flowEndsSpec)) flowEndsUptoCard
end Rows
end Go.Proofs.YtflmejcojfnknaaDoor
