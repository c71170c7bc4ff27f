/-
  DERIVED. GIVEN WITH THE SEED: THE CARDS: each row of YtfpcoomkbmfchaaGreatDoorRows.lean that lists a variable, with what it lists TIED to the program's text (the seventh form; the later family's looks); each row that meets fmt, with fmt's text TOLD by the authors' own Lean function (tested against real Go, not proved from fmt's source: count such statements apart). THE CARD IS WHAT COUNTS. Prove the row's statement (the work); the ties are given (YtfpcoomkbmfchaaGreatDoorTie.lean); close each card by the builder's one call (the guide's Derived/Test/ToyasCard.lean, 'card_holds'). Laid BY PROGRAM, IN A SANDBOX (cutbox-door.mjs). By AI agents, Wed Nov 11 2026. No macro, syntax, notation, axiom, sorry.
-/
import Derived.Test.YtfpcoomkbmfchaaGreatDoorRows
import GoSem.ClaimSeven
namespace Go.Proofs.YtfpcoomkbmfchaaGreatDoor
namespace Rows

/-- THE TIED CARD OF 'priorylaw16.SpaceNone'. -/
def spaceNoneCard : Claim7 := { stood := { row := spaceNoneRow, standIns := [], harness := (true, "537c26bdc21080666148d69c8d14ff7bfd8fa6c4b09c63cb7258205eba6a6c53"), looks := false }, kinds := [], alts := [], laidByText := true, laidKinds := [.data, .data, .data], laidTests := true, laidLooks := .later }
def SpaceNoneCardSaid : Prop := Claim7.holds Tryz.pinned (.plain (OpenSpec.ofChange spaceNoneSpec)) spaceNoneCard

/-- THE TIED CARD OF 'priorylaw16.SpaceApart'. -/
def spaceApartCard : Claim7 := { stood := { row := spaceApartRow, standIns := [], harness := (true, "537c26bdc21080666148d69c8d14ff7bfd8fa6c4b09c63cb7258205eba6a6c53"), looks := false }, kinds := [], alts := [], laidByText := true, laidKinds := [.data, .data, .data], laidTests := true, laidLooks := .later }
def SpaceApartCardSaid : Prop := Claim7.holds Tryz.pinned (.plain (OpenSpec.ofChange spaceApartSpec)) spaceApartCard

/-- THE TIED CARD OF 'priorylaw16.SpaceBack'. -/
def spaceBackCard : Claim7 := { stood := { row := spaceBackRow, standIns := [], harness := (true, "537c26bdc21080666148d69c8d14ff7bfd8fa6c4b09c63cb7258205eba6a6c53"), looks := false }, kinds := [], alts := [], laidByText := true, laidKinds := [.data, .data, .data], laidTests := true, laidLooks := .later }
def SpaceBackCardSaid : Prop := Claim7.holds Tryz.pinned (.plain (OpenSpec.ofChange spaceBackSpec)) spaceBackCard

/-- THE TIED CARD OF 'priorylaw16.SpaceFails'. -/
def spaceFailsCard : Claim7 := { stood := { row := spaceFailsRow, standIns := [], harness := (true, "537c26bdc21080666148d69c8d14ff7bfd8fa6c4b09c63cb7258205eba6a6c53"), looks := false }, kinds := [], alts := [], laidByText := true, laidKinds := [.data, .data, .data], laidTests := true, laidLooks := .later }
def SpaceFailsCardSaid : Prop := Claim7.holds Tryz.pinned (.plain (OpenSpec.ofChange spaceFailsSpec)) spaceFailsCard

/-- THE TIED CARD OF 'priorylaw16.SpaceCost'. -/
def spaceCostCard : Claim7 := { stood := { row := spaceCostRow, standIns := [], harness := (true, "537c26bdc21080666148d69c8d14ff7bfd8fa6c4b09c63cb7258205eba6a6c53"), looks := false }, kinds := [], alts := [], laidByText := true, laidKinds := [.data, .data, .data], laidTests := true, laidLooks := .later }
def SpaceCostCardSaid : Prop := Claim7.holds Tryz.pinned (.plain (OpenSpec.ofChange spaceCostSpec)) spaceCostCard

/-- THE TIED CARD OF 'priorylaw16.SpaceZero'. -/
def spaceZeroCard : Claim7 := { stood := { row := spaceZeroRow, standIns := [], harness := (true, "537c26bdc21080666148d69c8d14ff7bfd8fa6c4b09c63cb7258205eba6a6c53"), looks := false }, kinds := [], alts := [], laidByText := true, laidKinds := [.data, .data, .data], laidTests := true, laidLooks := .later }
def SpaceZeroCardSaid : Prop := Claim7.holds Tryz.pinned (.plain (OpenSpec.ofChange spaceZeroSpec)) spaceZeroCard

/-- THE TIED CARD OF 'priorylaw16.SpaceGuard'. -/
def spaceGuardCard : Claim7 := { stood := { row := spaceGuardRow, standIns := [], harness := (true, "537c26bdc21080666148d69c8d14ff7bfd8fa6c4b09c63cb7258205eba6a6c53"), looks := false }, kinds := [], alts := [], laidByText := true, laidKinds := [.data, .data, .data], laidTests := true, laidLooks := .later }
def SpaceGuardCardSaid : Prop := Claim7.holds Tryz.pinned (.plain (OpenSpec.ofChange spaceGuardSpec)) spaceGuardCard

/-- THE TIED CARD OF 'priorylaw16.SpaceThree'. -/
def spaceThreeCard : Claim7 := { stood := { row := spaceThreeRow, standIns := [], harness := (true, "537c26bdc21080666148d69c8d14ff7bfd8fa6c4b09c63cb7258205eba6a6c53"), looks := false }, kinds := [], alts := [], laidByText := true, laidKinds := [.data, .data, .data], laidTests := true, laidLooks := .later }
def SpaceThreeCardSaid : Prop := Claim7.holds Tryz.pinned (.plain (OpenSpec.ofChange spaceThreeSpec)) spaceThreeCard

/-- THE TIED CARD OF 'priorylaw16.SpaceReach'. -/
def spaceReachCard : Claim7 := { stood := { row := spaceReachRow, standIns := [], harness := (true, "537c26bdc21080666148d69c8d14ff7bfd8fa6c4b09c63cb7258205eba6a6c53"), looks := false }, kinds := [], alts := [], laidByText := true, laidKinds := [.data, .data, .data], laidTests := true, laidLooks := .later }
def SpaceReachCardSaid : Prop := Claim7.holds Tryz.pinned (.plain (OpenSpec.ofChange spaceReachSpec)) spaceReachCard

/-- THE SECOND FORM's CARD OF 'priorylaw16.SpaceNone'. -/
def spaceNoneUptoCard : Claim7 := { stood := { row := spaceNoneUptoRow, standIns := [], harness := (true, "537c26bdc21080666148d69c8d14ff7bfd8fa6c4b09c63cb7258205eba6a6c53"), looks := false }, kinds := [], alts := [], laidByText := true, laidKinds := [.data, .data, .data], laidTests := true, laidLooks := .later }
def SpaceNoneUptoCardSaid : Prop := Claim7.holds Tryz.pinned (.plain (OpenSpec.upto spaceNoneSpec)) spaceNoneUptoCard

/-- THE SECOND FORM's CARD OF 'priorylaw16.SpaceApart'. -/
def spaceApartUptoCard : Claim7 := { stood := { row := spaceApartUptoRow, standIns := [], harness := (true, "537c26bdc21080666148d69c8d14ff7bfd8fa6c4b09c63cb7258205eba6a6c53"), looks := false }, kinds := [], alts := [], laidByText := true, laidKinds := [.data, .data, .data], laidTests := true, laidLooks := .later }
def SpaceApartUptoCardSaid : Prop := Claim7.holds Tryz.pinned (.plain (OpenSpec.upto spaceApartSpec)) spaceApartUptoCard

/-- THE SECOND FORM's CARD OF 'priorylaw16.SpaceBack'. -/
def spaceBackUptoCard : Claim7 := { stood := { row := spaceBackUptoRow, standIns := [], harness := (true, "537c26bdc21080666148d69c8d14ff7bfd8fa6c4b09c63cb7258205eba6a6c53"), looks := false }, kinds := [], alts := [], laidByText := true, laidKinds := [.data, .data, .data], laidTests := true, laidLooks := .later }
def SpaceBackUptoCardSaid : Prop := Claim7.holds Tryz.pinned (.plain (OpenSpec.upto spaceBackSpec)) spaceBackUptoCard

/-- THE SECOND FORM's CARD OF 'priorylaw16.SpaceFails'. -/
def spaceFailsUptoCard : Claim7 := { stood := { row := spaceFailsUptoRow, standIns := [], harness := (true, "537c26bdc21080666148d69c8d14ff7bfd8fa6c4b09c63cb7258205eba6a6c53"), looks := false }, kinds := [], alts := [], laidByText := true, laidKinds := [.data, .data, .data], laidTests := true, laidLooks := .later }
def SpaceFailsUptoCardSaid : Prop := Claim7.holds Tryz.pinned (.plain (OpenSpec.upto spaceFailsSpec)) spaceFailsUptoCard

/-- THE SECOND FORM's CARD OF 'priorylaw16.SpaceCost'. -/
def spaceCostUptoCard : Claim7 := { stood := { row := spaceCostUptoRow, standIns := [], harness := (true, "537c26bdc21080666148d69c8d14ff7bfd8fa6c4b09c63cb7258205eba6a6c53"), looks := false }, kinds := [], alts := [], laidByText := true, laidKinds := [.data, .data, .data], laidTests := true, laidLooks := .later }
def SpaceCostUptoCardSaid : Prop := Claim7.holds Tryz.pinned (.plain (OpenSpec.upto spaceCostSpec)) spaceCostUptoCard

/-- THE SECOND FORM's CARD OF 'priorylaw16.SpaceZero'. -/
def spaceZeroUptoCard : Claim7 := { stood := { row := spaceZeroUptoRow, standIns := [], harness := (true, "537c26bdc21080666148d69c8d14ff7bfd8fa6c4b09c63cb7258205eba6a6c53"), looks := false }, kinds := [], alts := [], laidByText := true, laidKinds := [.data, .data, .data], laidTests := true, laidLooks := .later }
def SpaceZeroUptoCardSaid : Prop := Claim7.holds Tryz.pinned (.plain (OpenSpec.upto spaceZeroSpec)) spaceZeroUptoCard

/-- THE SECOND FORM's CARD OF 'priorylaw16.SpaceGuard'. -/
def spaceGuardUptoCard : Claim7 := { stood := { row := spaceGuardUptoRow, standIns := [], harness := (true, "537c26bdc21080666148d69c8d14ff7bfd8fa6c4b09c63cb7258205eba6a6c53"), looks := false }, kinds := [], alts := [], laidByText := true, laidKinds := [.data, .data, .data], laidTests := true, laidLooks := .later }
def SpaceGuardUptoCardSaid : Prop := Claim7.holds Tryz.pinned (.plain (OpenSpec.upto spaceGuardSpec)) spaceGuardUptoCard

/-- THE SECOND FORM's CARD OF 'priorylaw16.SpaceThree'. -/
def spaceThreeUptoCard : Claim7 := { stood := { row := spaceThreeUptoRow, standIns := [], harness := (true, "537c26bdc21080666148d69c8d14ff7bfd8fa6c4b09c63cb7258205eba6a6c53"), looks := false }, kinds := [], alts := [], laidByText := true, laidKinds := [.data, .data, .data], laidTests := true, laidLooks := .later }
def SpaceThreeUptoCardSaid : Prop := Claim7.holds Tryz.pinned (.plain (OpenSpec.upto spaceThreeSpec)) spaceThreeUptoCard

/-- THE SECOND FORM's CARD OF 'priorylaw16.SpaceReach'. -/
def spaceReachUptoCard : Claim7 := { stood := { row := spaceReachUptoRow, standIns := [], harness := (true, "537c26bdc21080666148d69c8d14ff7bfd8fa6c4b09c63cb7258205eba6a6c53"), looks := false }, kinds := [], alts := [], laidByText := true, laidKinds := [.data, .data, .data], laidTests := true, laidLooks := .later }
def SpaceReachUptoCardSaid : Prop := Claim7.holds Tryz.pinned (.plain (OpenSpec.upto spaceReachSpec)) spaceReachUptoCard
end Rows
end Go.Proofs.YtfpcoomkbmfchaaGreatDoor
