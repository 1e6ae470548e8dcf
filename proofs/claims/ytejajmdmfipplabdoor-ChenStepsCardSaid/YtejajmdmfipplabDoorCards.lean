/-
  DERIVED. GIVEN WITH THE SEED: THE CARDS: each row of YtejajmdmfipplabDoorRows.lean that lists a variable, with what it lists TIED to the program's text (the seventh form; the later family's looks); each row that meets fmt, with fmt's text TOLD by the authors' own Lean function (tested against real Go, not proved from fmt's source: count such statements apart). THE CARD IS WHAT COUNTS. Prove the row's statement (the work); the ties are given (YtejajmdmfipplabDoorTie.lean); close each card by the builder's one call (the guide's Derived/Test/ToyasCard.lean, 'card_holds'). Laid BY PROGRAM, IN A SANDBOX (cutbox-door.mjs). By AI agents, Wed Nov 11 2026. No macro, syntax, notation, axiom, sorry.
-/
import Derived.Test.YtejajmdmfipplabDoorRows
import GoSem.ClaimSeven
namespace Go.Proofs.YtejajmdmfipplabDoor
namespace Rows

/-- THE TIED CARD OF 'coxswainlaw13.FramePasses'. -/
def framePassesCard : Claim7 := { stood := { row := framePassesRow, standIns := [], harness := (true, "e42059475482c1e247cbe9f2cfc1281aadb1ad6e27cdc8ffee29108884323f55"), looks := false }, kinds := [], alts := [], laidByText := true, laidKinds := [.data, .data], laidTests := true, laidLooks := .later }
def FramePassesCardSaid : Prop := Claim7.holds Tryd.pinned (.plain (OpenSpec.ofChange framePassesSpec)) framePassesCard

/-- THE TIED CARD OF 'coxswainlaw15.ChenSteps'. -/
def chenStepsCard : Claim7 := { stood := { row := chenStepsRow, standIns := [], harness := (true, "e42059475482c1e247cbe9f2cfc1281aadb1ad6e27cdc8ffee29108884323f55"), looks := false }, kinds := [], alts := [], laidByText := true, laidKinds := [.data], laidTests := true, laidLooks := .later }
def ChenStepsCardSaid : Prop := Claim7.holds Tryd.pinned (.plain (OpenSpec.ofChange chenStepsSpec)) chenStepsCard

/-- THE TIED CARD OF 'coxswainlaw15.ChenKeeps'. -/
def chenKeepsCard : Claim7 := { stood := { row := chenKeepsRow, standIns := [], harness := (true, "e42059475482c1e247cbe9f2cfc1281aadb1ad6e27cdc8ffee29108884323f55"), looks := false }, kinds := [], alts := [], laidByText := true, laidKinds := [.data], laidTests := true, laidLooks := .later }
def ChenKeepsCardSaid : Prop := Claim7.holds Tryd.pinned (.plain (OpenSpec.ofChange chenKeepsSpec)) chenKeepsCard

/-- THE SECOND FORM's CARD OF 'coxswainlaw13.FramePasses'. -/
def framePassesUptoCard : Claim7 := { stood := { row := framePassesUptoRow, standIns := [], harness := (true, "e42059475482c1e247cbe9f2cfc1281aadb1ad6e27cdc8ffee29108884323f55"), looks := false }, kinds := [], alts := [], laidByText := true, laidKinds := [.data, .data], laidTests := true, laidLooks := .later }
def FramePassesUptoCardSaid : Prop := Claim7.holds Tryd.pinned (.plain (OpenSpec.upto framePassesSpec)) framePassesUptoCard

/-- THE SECOND FORM's CARD OF 'coxswainlaw15.ChenSteps'. -/
def chenStepsUptoCard : Claim7 := { stood := { row := chenStepsUptoRow, standIns := [], harness := (true, "e42059475482c1e247cbe9f2cfc1281aadb1ad6e27cdc8ffee29108884323f55"), looks := false }, kinds := [], alts := [], laidByText := true, laidKinds := [.data], laidTests := true, laidLooks := .later }
def ChenStepsUptoCardSaid : Prop := Claim7.holds Tryd.pinned (.plain (OpenSpec.upto chenStepsSpec)) chenStepsUptoCard

/-- THE SECOND FORM's CARD OF 'coxswainlaw15.ChenKeeps'. -/
def chenKeepsUptoCard : Claim7 := { stood := { row := chenKeepsUptoRow, standIns := [], harness := (true, "e42059475482c1e247cbe9f2cfc1281aadb1ad6e27cdc8ffee29108884323f55"), looks := false }, kinds := [], alts := [], laidByText := true, laidKinds := [.data], laidTests := true, laidLooks := .later }
def ChenKeepsUptoCardSaid : Prop := Claim7.holds Tryd.pinned (.plain (OpenSpec.upto chenKeepsSpec)) chenKeepsUptoCard
end Rows
end Go.Proofs.YtejajmdmfipplabDoor
