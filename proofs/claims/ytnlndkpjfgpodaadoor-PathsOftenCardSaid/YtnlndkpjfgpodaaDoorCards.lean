/-
  DERIVED. GIVEN WITH THE SEED: THE CARDS: each row of YtnlndkpjfgpodaaDoorRows.lean that lists a variable, with what it lists TIED to the program's text (the seventh form; the later family's looks); each row that meets fmt, with fmt's text TOLD by the authors' own Lean function (tested against real Go, not proved from fmt's source: count such statements apart). THE CARD IS WHAT COUNTS. Prove the row's statement (the work); the ties are given (YtnlndkpjfgpodaaDoorTie.lean); close each card by the builder's one call (the guide's Derived/Test/ToyasCard.lean, 'card_holds'). Laid BY PROGRAM, IN A SANDBOX (cutbox-door.mjs). By AI agents, Wed Nov 11 2026. No macro, syntax, notation, axiom, sorry.
-/
import Derived.Test.YtnlndkpjfgpodaaDoorRows
import GoSem.ClaimSeven
namespace Go.Proofs.YtnlndkpjfgpodaaDoor
namespace Rows

/-- THE TIED CARD OF 'coxswainlaw12.CostTells'. -/
def costTellsCard : Claim7 := { stood := { row := costTellsRow, standIns := [], harness := (true, "1f889ff062e1bcfefc0f39b912873f21a28505119996a669bb3f16c636b88e10"), looks := false }, kinds := [], alts := [], laidByText := true, laidKinds := [.data, .data], laidTests := true, laidLooks := .later }
def CostTellsCardSaid : Prop := Claim7.holds Tryd.pinned (.plain (OpenSpec.ofChange costTellsSpec)) costTellsCard

/-- THE TIED CARD OF 'coxswainlaw12.CostWalks'. -/
def costWalksCard : Claim7 := { stood := { row := costWalksRow, standIns := [], harness := (true, "1f889ff062e1bcfefc0f39b912873f21a28505119996a669bb3f16c636b88e10"), looks := false }, kinds := [], alts := [], laidByText := true, laidKinds := [.data, .data], laidTests := true, laidLooks := .later }
def CostWalksCardSaid : Prop := Claim7.holds Tryd.pinned (.plain (OpenSpec.ofChange costWalksSpec)) costWalksCard

/-- THE TIED CARD OF 'coxswainlaw13.FrameGoes'. -/
def frameGoesCard : Claim7 := { stood := { row := frameGoesRow, standIns := [], harness := (true, "1f889ff062e1bcfefc0f39b912873f21a28505119996a669bb3f16c636b88e10"), looks := false }, kinds := [], alts := [], laidByText := true, laidKinds := [.data, .data], laidTests := true, laidLooks := .later }
def FrameGoesCardSaid : Prop := Claim7.holds Tryd.pinned (.plain (OpenSpec.ofChange frameGoesSpec)) frameGoesCard

/-- THE TIED CARD OF 'coxswainlaw11.PathsWalks'. -/
def pathsWalksCard : Claim7 := { stood := { row := pathsWalksRow, standIns := [], harness := (true, "1f889ff062e1bcfefc0f39b912873f21a28505119996a669bb3f16c636b88e10"), looks := false }, kinds := [], alts := [], laidByText := true, laidKinds := [.data, .data], laidTests := true, laidLooks := .later }
def PathsWalksCardSaid : Prop := Claim7.holds Tryd.pinned (.plain (OpenSpec.ofChange pathsWalksSpec)) pathsWalksCard

/-- THE TIED CARD OF 'coxswainlaw11.PathsOften'. -/
def pathsOftenCard : Claim7 := { stood := { row := pathsOftenRow, standIns := [], harness := (true, "1f889ff062e1bcfefc0f39b912873f21a28505119996a669bb3f16c636b88e10"), looks := false }, kinds := [], alts := [], laidByText := true, laidKinds := [.data, .data], laidTests := true, laidLooks := .later }
def PathsOftenCardSaid : Prop := Claim7.holds Tryd.pinned (.plain (OpenSpec.ofChange pathsOftenSpec)) pathsOftenCard

/-- THE TIED CARD OF 'coxswainlaw11.PathsCounts'. -/
def pathsCountsCard : Claim7 := { stood := { row := pathsCountsRow, standIns := [], harness := (true, "1f889ff062e1bcfefc0f39b912873f21a28505119996a669bb3f16c636b88e10"), looks := false }, kinds := [], alts := [], laidByText := true, laidKinds := [.data, .data], laidTests := true, laidLooks := .later }
def PathsCountsCardSaid : Prop := Claim7.holds Tryd.pinned (.plain (OpenSpec.ofChange pathsCountsSpec)) pathsCountsCard

/-- THE SECOND FORM's CARD OF 'coxswainlaw12.CostTells'. -/
def costTellsUptoCard : Claim7 := { stood := { row := costTellsUptoRow, standIns := [], harness := (true, "1f889ff062e1bcfefc0f39b912873f21a28505119996a669bb3f16c636b88e10"), looks := false }, kinds := [], alts := [], laidByText := true, laidKinds := [.data, .data], laidTests := true, laidLooks := .later }
def CostTellsUptoCardSaid : Prop := Claim7.holds Tryd.pinned (.plain (OpenSpec.upto costTellsSpec)) costTellsUptoCard

/-- THE SECOND FORM's CARD OF 'coxswainlaw12.CostWalks'. -/
def costWalksUptoCard : Claim7 := { stood := { row := costWalksUptoRow, standIns := [], harness := (true, "1f889ff062e1bcfefc0f39b912873f21a28505119996a669bb3f16c636b88e10"), looks := false }, kinds := [], alts := [], laidByText := true, laidKinds := [.data, .data], laidTests := true, laidLooks := .later }
def CostWalksUptoCardSaid : Prop := Claim7.holds Tryd.pinned (.plain (OpenSpec.upto costWalksSpec)) costWalksUptoCard

/-- THE SECOND FORM's CARD OF 'coxswainlaw13.FrameGoes'. -/
def frameGoesUptoCard : Claim7 := { stood := { row := frameGoesUptoRow, standIns := [], harness := (true, "1f889ff062e1bcfefc0f39b912873f21a28505119996a669bb3f16c636b88e10"), looks := false }, kinds := [], alts := [], laidByText := true, laidKinds := [.data, .data], laidTests := true, laidLooks := .later }
def FrameGoesUptoCardSaid : Prop := Claim7.holds Tryd.pinned (.plain (OpenSpec.upto frameGoesSpec)) frameGoesUptoCard

/-- THE SECOND FORM's CARD OF 'coxswainlaw11.PathsWalks'. -/
def pathsWalksUptoCard : Claim7 := { stood := { row := pathsWalksUptoRow, standIns := [], harness := (true, "1f889ff062e1bcfefc0f39b912873f21a28505119996a669bb3f16c636b88e10"), looks := false }, kinds := [], alts := [], laidByText := true, laidKinds := [.data, .data], laidTests := true, laidLooks := .later }
def PathsWalksUptoCardSaid : Prop := Claim7.holds Tryd.pinned (.plain (OpenSpec.upto pathsWalksSpec)) pathsWalksUptoCard

/-- THE SECOND FORM's CARD OF 'coxswainlaw11.PathsOften'. -/
def pathsOftenUptoCard : Claim7 := { stood := { row := pathsOftenUptoRow, standIns := [], harness := (true, "1f889ff062e1bcfefc0f39b912873f21a28505119996a669bb3f16c636b88e10"), looks := false }, kinds := [], alts := [], laidByText := true, laidKinds := [.data, .data], laidTests := true, laidLooks := .later }
def PathsOftenUptoCardSaid : Prop := Claim7.holds Tryd.pinned (.plain (OpenSpec.upto pathsOftenSpec)) pathsOftenUptoCard

/-- THE SECOND FORM's CARD OF 'coxswainlaw11.PathsCounts'. -/
def pathsCountsUptoCard : Claim7 := { stood := { row := pathsCountsUptoRow, standIns := [], harness := (true, "1f889ff062e1bcfefc0f39b912873f21a28505119996a669bb3f16c636b88e10"), looks := false }, kinds := [], alts := [], laidByText := true, laidKinds := [.data, .data], laidTests := true, laidLooks := .later }
def PathsCountsUptoCardSaid : Prop := Claim7.holds Tryd.pinned (.plain (OpenSpec.upto pathsCountsSpec)) pathsCountsUptoCard
end Rows
end Go.Proofs.YtnlndkpjfgpodaaDoor
