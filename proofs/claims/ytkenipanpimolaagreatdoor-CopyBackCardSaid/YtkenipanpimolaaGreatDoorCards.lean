/-
  DERIVED. GIVEN WITH THE SEED: THE CARDS: each row of YtkenipanpimolaaGreatDoorRows.lean that lists a variable, with what it lists TIED to the program's text (the seventh form; the later family's looks); each row that meets fmt, with fmt's text TOLD by the authors' own Lean function (tested against real Go, not proved from fmt's source: count such statements apart). THE CARD IS WHAT COUNTS. Prove the row's statement (the work); the ties are given (YtkenipanpimolaaGreatDoorTie.lean); close each card by the builder's one call (the guide's Derived/Test/ToyasCard.lean, 'card_holds'). Laid BY PROGRAM, IN A SANDBOX (cutbox-door.mjs). By AI agents, Wed Nov 11 2026. No macro, syntax, notation, axiom, sorry.
-/
import Derived.Test.YtkenipanpimolaaGreatDoorRows
import GoSem.ClaimSeven
namespace Go.Proofs.YtkenipanpimolaaGreatDoor
namespace Rows

/-- THE TIED CARD OF 'priorylaw17.CopyBack'. -/
def copyBackCard : Claim7 := { stood := { row := copyBackRow, standIns := [], harness := (true, "9945ee27532a6967a731b88ed0ee649a22be69b9d6f752da72f7e26f25dfa1a3"), looks := false }, kinds := [], alts := [], laidByText := true, laidKinds := [.data, .data, .data], laidTests := true, laidLooks := .later }
def CopyBackCardSaid : Prop := Claim7.holds Tryz.pinned (.plain (OpenSpec.ofChange copyBackSpec)) copyBackCard

/-- THE TIED CARD OF 'priorylaw17.CopyNone'. -/
def copyNoneCard : Claim7 := { stood := { row := copyNoneRow, standIns := [], harness := (true, "9945ee27532a6967a731b88ed0ee649a22be69b9d6f752da72f7e26f25dfa1a3"), looks := false }, kinds := [], alts := [], laidByText := true, laidKinds := [.data, .data, .data], laidTests := true, laidLooks := .later }
def CopyNoneCardSaid : Prop := Claim7.holds Tryz.pinned (.plain (OpenSpec.ofChange copyNoneSpec)) copyNoneCard

/-- THE SECOND FORM's CARD OF 'priorylaw17.CopyBack'. -/
def copyBackUptoCard : Claim7 := { stood := { row := copyBackUptoRow, standIns := [], harness := (true, "9945ee27532a6967a731b88ed0ee649a22be69b9d6f752da72f7e26f25dfa1a3"), looks := false }, kinds := [], alts := [], laidByText := true, laidKinds := [.data, .data, .data], laidTests := true, laidLooks := .later }
def CopyBackUptoCardSaid : Prop := Claim7.holds Tryz.pinned (.plain (OpenSpec.upto copyBackSpec)) copyBackUptoCard

/-- THE SECOND FORM's CARD OF 'priorylaw17.CopyNone'. -/
def copyNoneUptoCard : Claim7 := { stood := { row := copyNoneUptoRow, standIns := [], harness := (true, "9945ee27532a6967a731b88ed0ee649a22be69b9d6f752da72f7e26f25dfa1a3"), looks := false }, kinds := [], alts := [], laidByText := true, laidKinds := [.data, .data, .data], laidTests := true, laidLooks := .later }
def CopyNoneUptoCardSaid : Prop := Claim7.holds Tryz.pinned (.plain (OpenSpec.upto copyNoneSpec)) copyNoneUptoCard
end Rows
end Go.Proofs.YtkenipanpimolaaGreatDoor
