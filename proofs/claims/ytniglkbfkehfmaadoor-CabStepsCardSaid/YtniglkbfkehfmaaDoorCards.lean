/-
  DERIVED. GIVEN WITH THE SEED: THE CARDS: each row of YtniglkbfkehfmaaDoorRows.lean that lists a variable, with what it lists TIED to the program's text (the seventh form; the later family's looks); each row that meets fmt, with fmt's text TOLD by the authors' own Lean function (tested against real Go, not proved from fmt's source: count such statements apart). THE CARD IS WHAT COUNTS. Prove the row's statement (the work); the ties are given (YtniglkbfkehfmaaDoorTie.lean); close each card by the builder's one call (the guide's Derived/Test/ToyasCard.lean, 'card_holds'). Laid BY PROGRAM, IN A SANDBOX (cutbox-door.mjs). By AI agents, Wed Nov 11 2026. No macro, syntax, notation, axiom, sorry.
-/
import Derived.Test.YtniglkbfkehfmaaDoorRows
import GoSem.ClaimSeven
namespace Go.Proofs.YtniglkbfkehfmaaDoor
namespace Rows

/-- THE TIED CARD OF 'coxswainlaw18.CabShapes'. -/
def cabShapesCard : Claim7 := { stood := { row := cabShapesRow, standIns := [], harness := (true, "2a7105ba7b2ebbc625046f34f560f71b1a72a2350d2e1ece5edde837640e158d"), looks := false }, kinds := [], alts := [], laidByText := true, laidKinds := [.data], laidTests := true, laidLooks := .later }
def CabShapesCardSaid : Prop := Claim7.holds Tryd.pinned (.plain (OpenSpec.ofChange cabShapesSpec)) cabShapesCard

/-- THE TIED CARD OF 'coxswainlaw18.CabSteps'. -/
def cabStepsCard : Claim7 := { stood := { row := cabStepsRow, standIns := [], harness := (true, "2a7105ba7b2ebbc625046f34f560f71b1a72a2350d2e1ece5edde837640e158d"), looks := false }, kinds := [], alts := [], laidByText := true, laidKinds := [.data], laidTests := true, laidLooks := .later }
def CabStepsCardSaid : Prop := Claim7.holds Tryd.pinned (.plain (OpenSpec.ofChange cabStepsSpec)) cabStepsCard

/-- THE TIED CARD OF 'coxswainlaw18.CabEnds'. -/
def cabEndsCard : Claim7 := { stood := { row := cabEndsRow, standIns := [], harness := (true, "2a7105ba7b2ebbc625046f34f560f71b1a72a2350d2e1ece5edde837640e158d"), looks := false }, kinds := [], alts := [], laidByText := true, laidKinds := [.data], laidTests := true, laidLooks := .later }
def CabEndsCardSaid : Prop := Claim7.holds Tryd.pinned (.plain (OpenSpec.ofChange cabEndsSpec)) cabEndsCard

/-- THE TIED CARD OF 'coxswainlaw18.CabClones'. -/
def cabClonesCard : Claim7 := { stood := { row := cabClonesRow, standIns := [], harness := (true, "2a7105ba7b2ebbc625046f34f560f71b1a72a2350d2e1ece5edde837640e158d"), looks := false }, kinds := [], alts := [], laidByText := true, laidKinds := [.data], laidTests := true, laidLooks := .later }
def CabClonesCardSaid : Prop := Claim7.holds Tryd.pinned (.plain (OpenSpec.ofChange cabClonesSpec)) cabClonesCard

/-- THE TIED CARD OF 'coxswainlaw18.CabKeeps'. -/
def cabKeepsCard : Claim7 := { stood := { row := cabKeepsRow, standIns := [], harness := (true, "2a7105ba7b2ebbc625046f34f560f71b1a72a2350d2e1ece5edde837640e158d"), looks := false }, kinds := [], alts := [], laidByText := true, laidKinds := [.data], laidTests := true, laidLooks := .later }
def CabKeepsCardSaid : Prop := Claim7.holds Tryd.pinned (.plain (OpenSpec.ofChange cabKeepsSpec)) cabKeepsCard

/-- THE TIED CARD OF 'coxswainlaw04.RecordFinds'. -/
def recordFindsCard : Claim7 := { stood := { row := recordFindsRow, standIns := [], harness := (true, "2a7105ba7b2ebbc625046f34f560f71b1a72a2350d2e1ece5edde837640e158d"), looks := false }, kinds := [], alts := [], laidByText := true, laidKinds := [.data, .data, .data], laidTests := true, laidLooks := .later }
def RecordFindsCardSaid : Prop := Claim7.holds Tryd.pinned (.plain (OpenSpec.ofChange recordFindsSpec)) recordFindsCard

/-- THE SECOND FORM's CARD OF 'coxswainlaw18.CabShapes'. -/
def cabShapesUptoCard : Claim7 := { stood := { row := cabShapesUptoRow, standIns := [], harness := (true, "2a7105ba7b2ebbc625046f34f560f71b1a72a2350d2e1ece5edde837640e158d"), looks := false }, kinds := [], alts := [], laidByText := true, laidKinds := [.data], laidTests := true, laidLooks := .later }
def CabShapesUptoCardSaid : Prop := Claim7.holds Tryd.pinned (.plain (OpenSpec.upto cabShapesSpec)) cabShapesUptoCard

/-- THE SECOND FORM's CARD OF 'coxswainlaw18.CabSteps'. -/
def cabStepsUptoCard : Claim7 := { stood := { row := cabStepsUptoRow, standIns := [], harness := (true, "2a7105ba7b2ebbc625046f34f560f71b1a72a2350d2e1ece5edde837640e158d"), looks := false }, kinds := [], alts := [], laidByText := true, laidKinds := [.data], laidTests := true, laidLooks := .later }
def CabStepsUptoCardSaid : Prop := Claim7.holds Tryd.pinned (.plain (OpenSpec.upto cabStepsSpec)) cabStepsUptoCard

/-- THE SECOND FORM's CARD OF 'coxswainlaw18.CabEnds'. -/
def cabEndsUptoCard : Claim7 := { stood := { row := cabEndsUptoRow, standIns := [], harness := (true, "2a7105ba7b2ebbc625046f34f560f71b1a72a2350d2e1ece5edde837640e158d"), looks := false }, kinds := [], alts := [], laidByText := true, laidKinds := [.data], laidTests := true, laidLooks := .later }
def CabEndsUptoCardSaid : Prop := Claim7.holds Tryd.pinned (.plain (OpenSpec.upto cabEndsSpec)) cabEndsUptoCard

/-- THE SECOND FORM's CARD OF 'coxswainlaw18.CabClones'. -/
def cabClonesUptoCard : Claim7 := { stood := { row := cabClonesUptoRow, standIns := [], harness := (true, "2a7105ba7b2ebbc625046f34f560f71b1a72a2350d2e1ece5edde837640e158d"), looks := false }, kinds := [], alts := [], laidByText := true, laidKinds := [.data], laidTests := true, laidLooks := .later }
def CabClonesUptoCardSaid : Prop := Claim7.holds Tryd.pinned (.plain (OpenSpec.upto cabClonesSpec)) cabClonesUptoCard

/-- THE SECOND FORM's CARD OF 'coxswainlaw18.CabKeeps'. -/
def cabKeepsUptoCard : Claim7 := { stood := { row := cabKeepsUptoRow, standIns := [], harness := (true, "2a7105ba7b2ebbc625046f34f560f71b1a72a2350d2e1ece5edde837640e158d"), looks := false }, kinds := [], alts := [], laidByText := true, laidKinds := [.data], laidTests := true, laidLooks := .later }
def CabKeepsUptoCardSaid : Prop := Claim7.holds Tryd.pinned (.plain (OpenSpec.upto cabKeepsSpec)) cabKeepsUptoCard

/-- THE SECOND FORM's CARD OF 'coxswainlaw04.RecordFinds'. -/
def recordFindsUptoCard : Claim7 := { stood := { row := recordFindsUptoRow, standIns := [], harness := (true, "2a7105ba7b2ebbc625046f34f560f71b1a72a2350d2e1ece5edde837640e158d"), looks := false }, kinds := [], alts := [], laidByText := true, laidKinds := [.data, .data, .data], laidTests := true, laidLooks := .later }
def RecordFindsUptoCardSaid : Prop := Claim7.holds Tryd.pinned (.plain (OpenSpec.upto recordFindsSpec)) recordFindsUptoCard
end Rows
end Go.Proofs.YtniglkbfkehfmaaDoor
