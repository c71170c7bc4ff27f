/-
  DERIVED. GIVEN WITH THE SEED: THE CARDS: each row of YtkcecfghfohjcaaDoorRows.lean that lists a variable, with what it lists TIED to the program's text (the seventh form; the later family's looks); each row that meets fmt, with fmt's text TOLD by the authors' own Lean function (tested against real Go, not proved from fmt's source: count such statements apart). THE CARD IS WHAT COUNTS. Prove the row's statement (the work); the ties are given (YtkcecfghfohjcaaDoorTie.lean); close each card by the builder's one call (the guide's Derived/Test/ToyasCard.lean, 'card_holds'). Laid BY PROGRAM, IN A SANDBOX (cutbox-door.mjs). By AI agents, Wed Nov 11 2026. No macro, syntax, notation, axiom, sorry.
-/
import Derived.Test.YtkcecfghfohjcaaDoorRows
import GoSem.ClaimSeven
namespace Go.Proofs.YtkcecfghfohjcaaDoor
namespace Rows

/-- THE TIED CARD OF 'priorylaw10.PtablePlays'. -/
def ptablePlaysCard : Claim7 := { stood := { row := ptablePlaysRow, standIns := [], harness := (true, "20ec2cf89616934f987e7ae0419f28f1b7c6c1d4ed7c343ea36d599ae4b53dff"), looks := false }, kinds := [], alts := [], laidByText := true, laidKinds := [.data, .data, .data], laidTests := true, laidLooks := .later }
def PtablePlaysCardSaid : Prop := Claim7.holds Tryd.pinned (.plain (OpenSpec.ofChange ptablePlaysSpec)) ptablePlaysCard

/-- THE TIED CARD OF 'priorylaw10.PtableNone'. -/
def ptableNoneCard : Claim7 := { stood := { row := ptableNoneRow, standIns := [], harness := (true, "20ec2cf89616934f987e7ae0419f28f1b7c6c1d4ed7c343ea36d599ae4b53dff"), looks := false }, kinds := [], alts := [], laidByText := true, laidKinds := [.data, .data, .data], laidTests := true, laidLooks := .later }
def PtableNoneCardSaid : Prop := Claim7.holds Tryd.pinned (.plain (OpenSpec.ofChange ptableNoneSpec)) ptableNoneCard

/-- THE TIED CARD OF 'priorylaw10.PtableWalk'. -/
def ptableWalkCard : Claim7 := { stood := { row := ptableWalkRow, standIns := [], harness := (true, "20ec2cf89616934f987e7ae0419f28f1b7c6c1d4ed7c343ea36d599ae4b53dff"), looks := false }, kinds := [], alts := [], laidByText := true, laidKinds := [.data, .data, .data], laidTests := true, laidLooks := .later }
def PtableWalkCardSaid : Prop := Claim7.holds Tryd.pinned (.plain (OpenSpec.ofChange ptableWalkSpec)) ptableWalkCard

/-- THE TIED CARD OF 'priorylaw10.PtableBack'. -/
def ptableBackCard : Claim7 := { stood := { row := ptableBackRow, standIns := [], harness := (true, "20ec2cf89616934f987e7ae0419f28f1b7c6c1d4ed7c343ea36d599ae4b53dff"), looks := false }, kinds := [], alts := [], laidByText := true, laidKinds := [.data, .data, .data], laidTests := true, laidLooks := .later }
def PtableBackCardSaid : Prop := Claim7.holds Tryd.pinned (.plain (OpenSpec.ofChange ptableBackSpec)) ptableBackCard

/-- THE TIED CARD OF 'priorylaw10.PtableTwo'. -/
def ptableTwoCard : Claim7 := { stood := { row := ptableTwoRow, standIns := [], harness := (true, "20ec2cf89616934f987e7ae0419f28f1b7c6c1d4ed7c343ea36d599ae4b53dff"), looks := false }, kinds := [], alts := [], laidByText := true, laidKinds := [.data, .data, .data], laidTests := true, laidLooks := .later }
def PtableTwoCardSaid : Prop := Claim7.holds Tryd.pinned (.plain (OpenSpec.ofChange ptableTwoSpec)) ptableTwoCard

/-- THE TIED CARD OF 'priorylaw10.PtableFull'. -/
def ptableFullCard : Claim7 := { stood := { row := ptableFullRow, standIns := [], harness := (true, "20ec2cf89616934f987e7ae0419f28f1b7c6c1d4ed7c343ea36d599ae4b53dff"), looks := false }, kinds := [], alts := [], laidByText := true, laidKinds := [.data, .data, .data], laidTests := true, laidLooks := .later }
def PtableFullCardSaid : Prop := Claim7.holds Tryd.pinned (.plain (OpenSpec.ofChange ptableFullSpec)) ptableFullCard

/-- THE SECOND FORM's CARD OF 'priorylaw10.PtablePlays'. -/
def ptablePlaysUptoCard : Claim7 := { stood := { row := ptablePlaysUptoRow, standIns := [], harness := (true, "20ec2cf89616934f987e7ae0419f28f1b7c6c1d4ed7c343ea36d599ae4b53dff"), looks := false }, kinds := [], alts := [], laidByText := true, laidKinds := [.data, .data, .data], laidTests := true, laidLooks := .later }
def PtablePlaysUptoCardSaid : Prop := Claim7.holds Tryd.pinned (.plain (OpenSpec.upto ptablePlaysSpec)) ptablePlaysUptoCard

/-- THE SECOND FORM's CARD OF 'priorylaw10.PtableNone'. -/
def ptableNoneUptoCard : Claim7 := { stood := { row := ptableNoneUptoRow, standIns := [], harness := (true, "20ec2cf89616934f987e7ae0419f28f1b7c6c1d4ed7c343ea36d599ae4b53dff"), looks := false }, kinds := [], alts := [], laidByText := true, laidKinds := [.data, .data, .data], laidTests := true, laidLooks := .later }
def PtableNoneUptoCardSaid : Prop := Claim7.holds Tryd.pinned (.plain (OpenSpec.upto ptableNoneSpec)) ptableNoneUptoCard

/-- THE SECOND FORM's CARD OF 'priorylaw10.PtableWalk'. -/
def ptableWalkUptoCard : Claim7 := { stood := { row := ptableWalkUptoRow, standIns := [], harness := (true, "20ec2cf89616934f987e7ae0419f28f1b7c6c1d4ed7c343ea36d599ae4b53dff"), looks := false }, kinds := [], alts := [], laidByText := true, laidKinds := [.data, .data, .data], laidTests := true, laidLooks := .later }
def PtableWalkUptoCardSaid : Prop := Claim7.holds Tryd.pinned (.plain (OpenSpec.upto ptableWalkSpec)) ptableWalkUptoCard

/-- THE SECOND FORM's CARD OF 'priorylaw10.PtableBack'. -/
def ptableBackUptoCard : Claim7 := { stood := { row := ptableBackUptoRow, standIns := [], harness := (true, "20ec2cf89616934f987e7ae0419f28f1b7c6c1d4ed7c343ea36d599ae4b53dff"), looks := false }, kinds := [], alts := [], laidByText := true, laidKinds := [.data, .data, .data], laidTests := true, laidLooks := .later }
def PtableBackUptoCardSaid : Prop := Claim7.holds Tryd.pinned (.plain (OpenSpec.upto ptableBackSpec)) ptableBackUptoCard

/-- THE SECOND FORM's CARD OF 'priorylaw10.PtableTwo'. -/
def ptableTwoUptoCard : Claim7 := { stood := { row := ptableTwoUptoRow, standIns := [], harness := (true, "20ec2cf89616934f987e7ae0419f28f1b7c6c1d4ed7c343ea36d599ae4b53dff"), looks := false }, kinds := [], alts := [], laidByText := true, laidKinds := [.data, .data, .data], laidTests := true, laidLooks := .later }
def PtableTwoUptoCardSaid : Prop := Claim7.holds Tryd.pinned (.plain (OpenSpec.upto ptableTwoSpec)) ptableTwoUptoCard

/-- THE SECOND FORM's CARD OF 'priorylaw10.PtableFull'. -/
def ptableFullUptoCard : Claim7 := { stood := { row := ptableFullUptoRow, standIns := [], harness := (true, "20ec2cf89616934f987e7ae0419f28f1b7c6c1d4ed7c343ea36d599ae4b53dff"), looks := false }, kinds := [], alts := [], laidByText := true, laidKinds := [.data, .data, .data], laidTests := true, laidLooks := .later }
def PtableFullUptoCardSaid : Prop := Claim7.holds Tryd.pinned (.plain (OpenSpec.upto ptableFullSpec)) ptableFullUptoCard
end Rows
end Go.Proofs.YtkcecfghfohjcaaDoor
