/-
  DERIVED. GIVEN WITH THE SEED: THE CARDS: each row of YtdepogopepjonaaDoorRows.lean that lists a variable, with what it lists TIED to the program's text (the seventh form; the later family's looks); each row that meets fmt, with fmt's text TOLD by the authors' own Lean function (tested against real Go, not proved from fmt's source: count such statements apart). THE CARD IS WHAT COUNTS. Prove the row's statement (the work); the ties are given (YtdepogopepjonaaDoorTie.lean); close each card by the builder's one call (the guide's Derived/Test/ToyasCard.lean, 'card_holds'). Laid BY PROGRAM, IN A SANDBOX (cutbox-door.mjs). By AI agents, Wed Nov 11 2026. No macro, syntax, notation, axiom, sorry.
-/
import Derived.Test.YtdepogopepjonaaDoorRows
import GoSem.ClaimSeven
namespace Go.Proofs.YtdepogopepjonaaDoor
namespace Rows

/-- THE TIED CARD OF 'coxswainlaw15.ChenShapes'. -/
def chenShapesCard : Claim7 := { stood := { row := chenShapesRow, standIns := [], harness := (true, "de73282e827900982e70d8b4f9395da7dbebd6054cefb192d2b81914fdabef58"), looks := false }, kinds := [], alts := [], laidByText := true, laidKinds := [.data], laidTests := true, laidLooks := .later }
def ChenShapesCardSaid : Prop := Claim7.holds Tryd.pinned (.plain (OpenSpec.ofChange chenShapesSpec)) chenShapesCard

/-- THE TIED CARD OF 'coxswainlaw15.ChenSteps'. -/
def chenStepsCard : Claim7 := { stood := { row := chenStepsRow, standIns := [], harness := (true, "de73282e827900982e70d8b4f9395da7dbebd6054cefb192d2b81914fdabef58"), looks := false }, kinds := [], alts := [], laidByText := true, laidKinds := [.data], laidTests := true, laidLooks := .later }
def ChenStepsCardSaid : Prop := Claim7.holds Tryd.pinned (.plain (OpenSpec.ofChange chenStepsSpec)) chenStepsCard

/-- THE TIED CARD OF 'coxswainlaw15.ChenEnds'. -/
def chenEndsCard : Claim7 := { stood := { row := chenEndsRow, standIns := [], harness := (true, "de73282e827900982e70d8b4f9395da7dbebd6054cefb192d2b81914fdabef58"), looks := false }, kinds := [], alts := [], laidByText := true, laidKinds := [.data], laidTests := true, laidLooks := .later }
def ChenEndsCardSaid : Prop := Claim7.holds Tryd.pinned (.plain (OpenSpec.ofChange chenEndsSpec)) chenEndsCard

/-- THE TIED CARD OF 'coxswainlaw15.ChenClones'. -/
def chenClonesCard : Claim7 := { stood := { row := chenClonesRow, standIns := [], harness := (true, "de73282e827900982e70d8b4f9395da7dbebd6054cefb192d2b81914fdabef58"), looks := false }, kinds := [], alts := [], laidByText := true, laidKinds := [.data], laidTests := true, laidLooks := .later }
def ChenClonesCardSaid : Prop := Claim7.holds Tryd.pinned (.plain (OpenSpec.ofChange chenClonesSpec)) chenClonesCard

/-- THE TIED CARD OF 'coxswainlaw15.ChenKeeps'. -/
def chenKeepsCard : Claim7 := { stood := { row := chenKeepsRow, standIns := [], harness := (true, "de73282e827900982e70d8b4f9395da7dbebd6054cefb192d2b81914fdabef58"), looks := false }, kinds := [], alts := [], laidByText := true, laidKinds := [.data], laidTests := true, laidLooks := .later }
def ChenKeepsCardSaid : Prop := Claim7.holds Tryd.pinned (.plain (OpenSpec.ofChange chenKeepsSpec)) chenKeepsCard

/-- THE SECOND FORM's CARD OF 'coxswainlaw15.ChenShapes'. -/
def chenShapesUptoCard : Claim7 := { stood := { row := chenShapesUptoRow, standIns := [], harness := (true, "de73282e827900982e70d8b4f9395da7dbebd6054cefb192d2b81914fdabef58"), looks := false }, kinds := [], alts := [], laidByText := true, laidKinds := [.data], laidTests := true, laidLooks := .later }
def ChenShapesUptoCardSaid : Prop := Claim7.holds Tryd.pinned (.plain (OpenSpec.upto chenShapesSpec)) chenShapesUptoCard

/-- THE SECOND FORM's CARD OF 'coxswainlaw15.ChenSteps'. -/
def chenStepsUptoCard : Claim7 := { stood := { row := chenStepsUptoRow, standIns := [], harness := (true, "de73282e827900982e70d8b4f9395da7dbebd6054cefb192d2b81914fdabef58"), looks := false }, kinds := [], alts := [], laidByText := true, laidKinds := [.data], laidTests := true, laidLooks := .later }
def ChenStepsUptoCardSaid : Prop := Claim7.holds Tryd.pinned (.plain (OpenSpec.upto chenStepsSpec)) chenStepsUptoCard

/-- THE SECOND FORM's CARD OF 'coxswainlaw15.ChenEnds'. -/
def chenEndsUptoCard : Claim7 := { stood := { row := chenEndsUptoRow, standIns := [], harness := (true, "de73282e827900982e70d8b4f9395da7dbebd6054cefb192d2b81914fdabef58"), looks := false }, kinds := [], alts := [], laidByText := true, laidKinds := [.data], laidTests := true, laidLooks := .later }
def ChenEndsUptoCardSaid : Prop := Claim7.holds Tryd.pinned (.plain (OpenSpec.upto chenEndsSpec)) chenEndsUptoCard

/-- THE SECOND FORM's CARD OF 'coxswainlaw15.ChenClones'. -/
def chenClonesUptoCard : Claim7 := { stood := { row := chenClonesUptoRow, standIns := [], harness := (true, "de73282e827900982e70d8b4f9395da7dbebd6054cefb192d2b81914fdabef58"), looks := false }, kinds := [], alts := [], laidByText := true, laidKinds := [.data], laidTests := true, laidLooks := .later }
def ChenClonesUptoCardSaid : Prop := Claim7.holds Tryd.pinned (.plain (OpenSpec.upto chenClonesSpec)) chenClonesUptoCard

/-- THE SECOND FORM's CARD OF 'coxswainlaw15.ChenKeeps'. -/
def chenKeepsUptoCard : Claim7 := { stood := { row := chenKeepsUptoRow, standIns := [], harness := (true, "de73282e827900982e70d8b4f9395da7dbebd6054cefb192d2b81914fdabef58"), looks := false }, kinds := [], alts := [], laidByText := true, laidKinds := [.data], laidTests := true, laidLooks := .later }
def ChenKeepsUptoCardSaid : Prop := Claim7.holds Tryd.pinned (.plain (OpenSpec.upto chenKeepsSpec)) chenKeepsUptoCard
end Rows
end Go.Proofs.YtdepogopepjonaaDoor
