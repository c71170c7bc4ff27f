/-
  DERIVED. GIVEN WITH THE SEED: THE CARDS: each row of YthkfffficobbjaaDoorRows.lean that lists a variable, with what it lists TIED to the program's text (the seventh form; the later family's looks); each row that meets fmt, with fmt's text TOLD by the authors' own Lean function (tested against real Go, not proved from fmt's source: count such statements apart). THE CARD IS WHAT COUNTS. Prove the row's statement (the work); the ties are given (YthkfffficobbjaaDoorTie.lean); close each card by the builder's one call (the guide's Derived/Test/ToyasCard.lean, 'card_holds'). Laid BY PROGRAM, IN A SANDBOX (cutbox-door.mjs). By AI agents, Wed Nov 11 2026. No macro, syntax, notation, axiom, sorry.
-/
import Derived.Test.YthkfffficobbjaaDoorRows
import GoSem.ClaimSeven
namespace Go.Proofs.YthkfffficobbjaaDoor
namespace Rows

/-- THE TIED CARD OF 'priorylaw03.WalkAt'. -/
def walkAtCard : Claim7 := { stood := { row := walkAtRow, standIns := [], harness := (true, "46eaf24a027e128c91abb46cdfcdd4a4fb22320e7c0e0c518dc257067079218c"), looks := false }, kinds := [], alts := [], laidByText := true, laidKinds := [.data, .data], laidTests := true, laidLooks := .later }
def WalkAtCardSaid : Prop := Claim7.holds Tryd.pinned (.plain (OpenSpec.ofChange walkAtSpec)) walkAtCard

/-- THE TIED CARD OF 'priorylaw03.WalkLook'. -/
def walkLookCard : Claim7 := { stood := { row := walkLookRow, standIns := [], harness := (true, "46eaf24a027e128c91abb46cdfcdd4a4fb22320e7c0e0c518dc257067079218c"), looks := false }, kinds := [], alts := [], laidByText := true, laidKinds := [.data, .data], laidTests := true, laidLooks := .later }
def WalkLookCardSaid : Prop := Claim7.holds Tryd.pinned (.plain (OpenSpec.ofChange walkLookSpec)) walkLookCard

/-- THE TIED CARD OF 'priorylaw03.WalkLoad'. -/
def walkLoadCard : Claim7 := { stood := { row := walkLoadRow, standIns := [], harness := (true, "46eaf24a027e128c91abb46cdfcdd4a4fb22320e7c0e0c518dc257067079218c"), looks := false }, kinds := [], alts := [], laidByText := true, laidKinds := [.data, .data], laidTests := true, laidLooks := .later }
def WalkLoadCardSaid : Prop := Claim7.holds Tryd.pinned (.plain (OpenSpec.ofChange walkLoadSpec)) walkLoadCard

/-- THE TIED CARD OF 'priorylaw03.WalkBoth'. -/
def walkBothCard : Claim7 := { stood := { row := walkBothRow, standIns := [], harness := (true, "46eaf24a027e128c91abb46cdfcdd4a4fb22320e7c0e0c518dc257067079218c"), looks := false }, kinds := [], alts := [], laidByText := true, laidKinds := [.data, .data], laidTests := true, laidLooks := .later }
def WalkBothCardSaid : Prop := Claim7.holds Tryd.pinned (.plain (OpenSpec.ofChange walkBothSpec)) walkBothCard

/-- THE TIED CARD OF 'priorylaw03.WalkTables'. -/
def walkTablesCard : Claim7 := { stood := { row := walkTablesRow, standIns := [], harness := (true, "46eaf24a027e128c91abb46cdfcdd4a4fb22320e7c0e0c518dc257067079218c"), looks := false }, kinds := [], alts := [], laidByText := true, laidKinds := [.data, .data], laidTests := true, laidLooks := .later }
def WalkTablesCardSaid : Prop := Claim7.holds Tryd.pinned (.plain (OpenSpec.ofChange walkTablesSpec)) walkTablesCard

/-- THE TIED CARD OF 'priorylaw03.WalkPlaces'. -/
def walkPlacesCard : Claim7 := { stood := { row := walkPlacesRow, standIns := [], harness := (true, "46eaf24a027e128c91abb46cdfcdd4a4fb22320e7c0e0c518dc257067079218c"), looks := false }, kinds := [], alts := [], laidByText := true, laidKinds := [.data, .data], laidTests := true, laidLooks := .later }
def WalkPlacesCardSaid : Prop := Claim7.holds Tryd.pinned (.plain (OpenSpec.ofChange walkPlacesSpec)) walkPlacesCard

/-- THE SECOND FORM's CARD OF 'priorylaw03.WalkAt'. -/
def walkAtUptoCard : Claim7 := { stood := { row := walkAtUptoRow, standIns := [], harness := (true, "46eaf24a027e128c91abb46cdfcdd4a4fb22320e7c0e0c518dc257067079218c"), looks := false }, kinds := [], alts := [], laidByText := true, laidKinds := [.data, .data], laidTests := true, laidLooks := .later }
def WalkAtUptoCardSaid : Prop := Claim7.holds Tryd.pinned (.plain (OpenSpec.upto walkAtSpec)) walkAtUptoCard

/-- THE SECOND FORM's CARD OF 'priorylaw03.WalkLook'. -/
def walkLookUptoCard : Claim7 := { stood := { row := walkLookUptoRow, standIns := [], harness := (true, "46eaf24a027e128c91abb46cdfcdd4a4fb22320e7c0e0c518dc257067079218c"), looks := false }, kinds := [], alts := [], laidByText := true, laidKinds := [.data, .data], laidTests := true, laidLooks := .later }
def WalkLookUptoCardSaid : Prop := Claim7.holds Tryd.pinned (.plain (OpenSpec.upto walkLookSpec)) walkLookUptoCard

/-- THE SECOND FORM's CARD OF 'priorylaw03.WalkLoad'. -/
def walkLoadUptoCard : Claim7 := { stood := { row := walkLoadUptoRow, standIns := [], harness := (true, "46eaf24a027e128c91abb46cdfcdd4a4fb22320e7c0e0c518dc257067079218c"), looks := false }, kinds := [], alts := [], laidByText := true, laidKinds := [.data, .data], laidTests := true, laidLooks := .later }
def WalkLoadUptoCardSaid : Prop := Claim7.holds Tryd.pinned (.plain (OpenSpec.upto walkLoadSpec)) walkLoadUptoCard

/-- THE SECOND FORM's CARD OF 'priorylaw03.WalkBoth'. -/
def walkBothUptoCard : Claim7 := { stood := { row := walkBothUptoRow, standIns := [], harness := (true, "46eaf24a027e128c91abb46cdfcdd4a4fb22320e7c0e0c518dc257067079218c"), looks := false }, kinds := [], alts := [], laidByText := true, laidKinds := [.data, .data], laidTests := true, laidLooks := .later }
def WalkBothUptoCardSaid : Prop := Claim7.holds Tryd.pinned (.plain (OpenSpec.upto walkBothSpec)) walkBothUptoCard

/-- THE SECOND FORM's CARD OF 'priorylaw03.WalkTables'. -/
def walkTablesUptoCard : Claim7 := { stood := { row := walkTablesUptoRow, standIns := [], harness := (true, "46eaf24a027e128c91abb46cdfcdd4a4fb22320e7c0e0c518dc257067079218c"), looks := false }, kinds := [], alts := [], laidByText := true, laidKinds := [.data, .data], laidTests := true, laidLooks := .later }
def WalkTablesUptoCardSaid : Prop := Claim7.holds Tryd.pinned (.plain (OpenSpec.upto walkTablesSpec)) walkTablesUptoCard

/-- THE SECOND FORM's CARD OF 'priorylaw03.WalkPlaces'. -/
def walkPlacesUptoCard : Claim7 := { stood := { row := walkPlacesUptoRow, standIns := [], harness := (true, "46eaf24a027e128c91abb46cdfcdd4a4fb22320e7c0e0c518dc257067079218c"), looks := false }, kinds := [], alts := [], laidByText := true, laidKinds := [.data, .data], laidTests := true, laidLooks := .later }
def WalkPlacesUptoCardSaid : Prop := Claim7.holds Tryd.pinned (.plain (OpenSpec.upto walkPlacesSpec)) walkPlacesUptoCard
end Rows
end Go.Proofs.YthkfffficobbjaaDoor
