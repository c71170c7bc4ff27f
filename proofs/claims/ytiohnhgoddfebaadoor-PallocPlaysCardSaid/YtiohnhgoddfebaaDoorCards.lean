/-
  DERIVED. GIVEN WITH THE SEED: THE CARDS: each row of YtiohnhgoddfebaaDoorRows.lean that lists a variable, with what it lists TIED to the program's text (the seventh form; the later family's looks); each row that meets fmt, with fmt's text TOLD by the authors' own Lean function (tested against real Go, not proved from fmt's source: count such statements apart). THE CARD IS WHAT COUNTS. Prove the row's statement (the work); the ties are given (YtiohnhgoddfebaaDoorTie.lean); close each card by the builder's one call (the guide's Derived/Test/ToyasCard.lean, 'card_holds'). Laid BY PROGRAM, IN A SANDBOX (cutbox-door.mjs). By AI agents, Wed Nov 11 2026. No macro, syntax, notation, axiom, sorry.
-/
import Derived.Test.YtiohnhgoddfebaaDoorRows
import GoSem.ClaimSeven
namespace Go.Proofs.YtiohnhgoddfebaaDoor
namespace Rows

/-- THE TIED CARD OF 'priorylaw09.PallocPlays'. -/
def pallocPlaysCard : Claim7 := { stood := { row := pallocPlaysRow, standIns := [], harness := (true, "a6b384184a5e6ad2708420ae5650b440a6d44c36726cf41cf0d783d6fd17a8f2"), looks := false }, kinds := [], alts := [], laidByText := true, laidKinds := [.data], laidTests := true, laidLooks := .later }
def PallocPlaysCardSaid : Prop := Claim7.holds Tryd.pinned (.plain (OpenSpec.ofChange pallocPlaysSpec)) pallocPlaysCard

/-- THE TIED CARD OF 'priorylaw09.PallocNone'. -/
def pallocNoneCard : Claim7 := { stood := { row := pallocNoneRow, standIns := [], harness := (true, "a6b384184a5e6ad2708420ae5650b440a6d44c36726cf41cf0d783d6fd17a8f2"), looks := false }, kinds := [], alts := [], laidByText := true, laidKinds := [.data], laidTests := true, laidLooks := .later }
def PallocNoneCardSaid : Prop := Claim7.holds Tryd.pinned (.plain (OpenSpec.ofChange pallocNoneSpec)) pallocNoneCard

/-- THE TIED CARD OF 'priorylaw09.PallocApart'. -/
def pallocApartCard : Claim7 := { stood := { row := pallocApartRow, standIns := [], harness := (true, "a6b384184a5e6ad2708420ae5650b440a6d44c36726cf41cf0d783d6fd17a8f2"), looks := false }, kinds := [], alts := [], laidByText := true, laidKinds := [.data], laidTests := true, laidLooks := .later }
def PallocApartCardSaid : Prop := Claim7.holds Tryd.pinned (.plain (OpenSpec.ofChange pallocApartSpec)) pallocApartCard

/-- THE TIED CARD OF 'priorylaw09.PallocWhole'. -/
def pallocWholeCard : Claim7 := { stood := { row := pallocWholeRow, standIns := [], harness := (true, "a6b384184a5e6ad2708420ae5650b440a6d44c36726cf41cf0d783d6fd17a8f2"), looks := false }, kinds := [], alts := [], laidByText := true, laidKinds := [.data], laidTests := true, laidLooks := .later }
def PallocWholeCardSaid : Prop := Claim7.holds Tryd.pinned (.plain (OpenSpec.ofChange pallocWholeSpec)) pallocWholeCard

/-- THE TIED CARD OF 'priorylaw09.PallocRefs'. -/
def pallocRefsCard : Claim7 := { stood := { row := pallocRefsRow, standIns := [], harness := (true, "a6b384184a5e6ad2708420ae5650b440a6d44c36726cf41cf0d783d6fd17a8f2"), looks := false }, kinds := [], alts := [], laidByText := true, laidKinds := [.data], laidTests := true, laidLooks := .later }
def PallocRefsCardSaid : Prop := Claim7.holds Tryd.pinned (.plain (OpenSpec.ofChange pallocRefsSpec)) pallocRefsCard

/-- THE TIED CARD OF 'priorylaw09.PallocLeast'. -/
def pallocLeastCard : Claim7 := { stood := { row := pallocLeastRow, standIns := [], harness := (true, "a6b384184a5e6ad2708420ae5650b440a6d44c36726cf41cf0d783d6fd17a8f2"), looks := false }, kinds := [], alts := [], laidByText := true, laidKinds := [.data], laidTests := true, laidLooks := .later }
def PallocLeastCardSaid : Prop := Claim7.holds Tryd.pinned (.plain (OpenSpec.ofChange pallocLeastSpec)) pallocLeastCard

/-- THE TIED CARD OF 'priorylaw09.PallocTwo'. -/
def pallocTwoCard : Claim7 := { stood := { row := pallocTwoRow, standIns := [], harness := (true, "a6b384184a5e6ad2708420ae5650b440a6d44c36726cf41cf0d783d6fd17a8f2"), looks := false }, kinds := [], alts := [], laidByText := true, laidKinds := [.data], laidTests := true, laidLooks := .later }
def PallocTwoCardSaid : Prop := Claim7.holds Tryd.pinned (.plain (OpenSpec.ofChange pallocTwoSpec)) pallocTwoCard

/-- THE SECOND FORM's CARD OF 'priorylaw09.PallocPlays'. -/
def pallocPlaysUptoCard : Claim7 := { stood := { row := pallocPlaysUptoRow, standIns := [], harness := (true, "a6b384184a5e6ad2708420ae5650b440a6d44c36726cf41cf0d783d6fd17a8f2"), looks := false }, kinds := [], alts := [], laidByText := true, laidKinds := [.data], laidTests := true, laidLooks := .later }
def PallocPlaysUptoCardSaid : Prop := Claim7.holds Tryd.pinned (.plain (OpenSpec.upto pallocPlaysSpec)) pallocPlaysUptoCard

/-- THE SECOND FORM's CARD OF 'priorylaw09.PallocNone'. -/
def pallocNoneUptoCard : Claim7 := { stood := { row := pallocNoneUptoRow, standIns := [], harness := (true, "a6b384184a5e6ad2708420ae5650b440a6d44c36726cf41cf0d783d6fd17a8f2"), looks := false }, kinds := [], alts := [], laidByText := true, laidKinds := [.data], laidTests := true, laidLooks := .later }
def PallocNoneUptoCardSaid : Prop := Claim7.holds Tryd.pinned (.plain (OpenSpec.upto pallocNoneSpec)) pallocNoneUptoCard

/-- THE SECOND FORM's CARD OF 'priorylaw09.PallocApart'. -/
def pallocApartUptoCard : Claim7 := { stood := { row := pallocApartUptoRow, standIns := [], harness := (true, "a6b384184a5e6ad2708420ae5650b440a6d44c36726cf41cf0d783d6fd17a8f2"), looks := false }, kinds := [], alts := [], laidByText := true, laidKinds := [.data], laidTests := true, laidLooks := .later }
def PallocApartUptoCardSaid : Prop := Claim7.holds Tryd.pinned (.plain (OpenSpec.upto pallocApartSpec)) pallocApartUptoCard

/-- THE SECOND FORM's CARD OF 'priorylaw09.PallocWhole'. -/
def pallocWholeUptoCard : Claim7 := { stood := { row := pallocWholeUptoRow, standIns := [], harness := (true, "a6b384184a5e6ad2708420ae5650b440a6d44c36726cf41cf0d783d6fd17a8f2"), looks := false }, kinds := [], alts := [], laidByText := true, laidKinds := [.data], laidTests := true, laidLooks := .later }
def PallocWholeUptoCardSaid : Prop := Claim7.holds Tryd.pinned (.plain (OpenSpec.upto pallocWholeSpec)) pallocWholeUptoCard

/-- THE SECOND FORM's CARD OF 'priorylaw09.PallocRefs'. -/
def pallocRefsUptoCard : Claim7 := { stood := { row := pallocRefsUptoRow, standIns := [], harness := (true, "a6b384184a5e6ad2708420ae5650b440a6d44c36726cf41cf0d783d6fd17a8f2"), looks := false }, kinds := [], alts := [], laidByText := true, laidKinds := [.data], laidTests := true, laidLooks := .later }
def PallocRefsUptoCardSaid : Prop := Claim7.holds Tryd.pinned (.plain (OpenSpec.upto pallocRefsSpec)) pallocRefsUptoCard

/-- THE SECOND FORM's CARD OF 'priorylaw09.PallocLeast'. -/
def pallocLeastUptoCard : Claim7 := { stood := { row := pallocLeastUptoRow, standIns := [], harness := (true, "a6b384184a5e6ad2708420ae5650b440a6d44c36726cf41cf0d783d6fd17a8f2"), looks := false }, kinds := [], alts := [], laidByText := true, laidKinds := [.data], laidTests := true, laidLooks := .later }
def PallocLeastUptoCardSaid : Prop := Claim7.holds Tryd.pinned (.plain (OpenSpec.upto pallocLeastSpec)) pallocLeastUptoCard

/-- THE SECOND FORM's CARD OF 'priorylaw09.PallocTwo'. -/
def pallocTwoUptoCard : Claim7 := { stood := { row := pallocTwoUptoRow, standIns := [], harness := (true, "a6b384184a5e6ad2708420ae5650b440a6d44c36726cf41cf0d783d6fd17a8f2"), looks := false }, kinds := [], alts := [], laidByText := true, laidKinds := [.data], laidTests := true, laidLooks := .later }
def PallocTwoUptoCardSaid : Prop := Claim7.holds Tryd.pinned (.plain (OpenSpec.upto pallocTwoSpec)) pallocTwoUptoCard
end Rows
end Go.Proofs.YtiohnhgoddfebaaDoor
