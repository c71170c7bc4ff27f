/-
  DERIVED. GIVEN WITH THE SEED: THE CARDS: each row of YtfehchbllfjngaaDoorRows.lean that lists a variable, with what it lists TIED to the program's text (the seventh form; the later family's looks); each row that meets fmt, with fmt's text TOLD by the authors' own Lean function (tested against real Go, not proved from fmt's source: count such statements apart). THE CARD IS WHAT COUNTS. Prove the row's statement (the work); the ties are given (YtfehchbllfjngaaDoorTie.lean); close each card by the builder's one call (the guide's Derived/Test/ToyasCard.lean, 'card_holds'). Laid BY PROGRAM, IN A SANDBOX (cutbox-door.mjs). By AI agents, Wed Nov 11 2026. No macro, syntax, notation, axiom, sorry.
-/
import Derived.Test.YtfehchbllfjngaaDoorRows
import GoSem.ClaimSeven
namespace Go.Proofs.YtfehchbllfjngaaDoor
namespace Rows

/-- THE TIED CARD OF 'priorylaw01.WordEntry'. -/
def wordEntryCard : Claim7 := { stood := { row := wordEntryRow, standIns := [], harness := (true, "9790a0611981f5a1155315eca584045686547ed40d64b3725e467dd7610abe2b"), looks := false }, kinds := [], alts := [], laidByText := true, laidKinds := [.data, .data], laidTests := true, laidLooks := .later }
def WordEntryCardSaid : Prop := Claim7.holds Tryd.pinned (.plain (OpenSpec.ofChange wordEntrySpec)) wordEntryCard

/-- THE TIED CARD OF 'priorylaw01.WordGet'. -/
def wordGetCard : Claim7 := { stood := { row := wordGetRow, standIns := [], harness := (true, "9790a0611981f5a1155315eca584045686547ed40d64b3725e467dd7610abe2b"), looks := false }, kinds := [], alts := [], laidByText := true, laidKinds := [.data, .data], laidTests := true, laidLooks := .later }
def WordGetCardSaid : Prop := Claim7.holds Tryd.pinned (.plain (OpenSpec.ofChange wordGetSpec)) wordGetCard

/-- THE TIED CARD OF 'priorylaw01.WordCut'. -/
def wordCutCard : Claim7 := { stood := { row := wordCutRow, standIns := [], harness := (true, "9790a0611981f5a1155315eca584045686547ed40d64b3725e467dd7610abe2b"), looks := false }, kinds := [], alts := [], laidByText := true, laidKinds := [.data, .data], laidTests := true, laidLooks := .later }
def WordCutCardSaid : Prop := Claim7.holds Tryd.pinned (.plain (OpenSpec.ofChange wordCutSpec)) wordCutCard

/-- THE TIED CARD OF 'priorylaw01.WordAddress'. -/
def wordAddressCard : Claim7 := { stood := { row := wordAddressRow, standIns := [], harness := (true, "9790a0611981f5a1155315eca584045686547ed40d64b3725e467dd7610abe2b"), looks := false }, kinds := [], alts := [], laidByText := true, laidKinds := [.data, .data], laidTests := true, laidLooks := .later }
def WordAddressCardSaid : Prop := Claim7.holds Tryd.pinned (.plain (OpenSpec.ofChange wordAddressSpec)) wordAddressCard

/-- THE TIED CARD OF 'priorylaw01.WordBack'. -/
def wordBackCard : Claim7 := { stood := { row := wordBackRow, standIns := [], harness := (true, "9790a0611981f5a1155315eca584045686547ed40d64b3725e467dd7610abe2b"), looks := false }, kinds := [], alts := [], laidByText := true, laidKinds := [.data, .data], laidTests := true, laidLooks := .later }
def WordBackCardSaid : Prop := Claim7.holds Tryd.pinned (.plain (OpenSpec.ofChange wordBackSpec)) wordBackCard

/-- THE TIED CARD OF 'priorylaw01.WordWhole'. -/
def wordWholeCard : Claim7 := { stood := { row := wordWholeRow, standIns := [], harness := (true, "9790a0611981f5a1155315eca584045686547ed40d64b3725e467dd7610abe2b"), looks := false }, kinds := [], alts := [], laidByText := true, laidKinds := [.data, .data], laidTests := true, laidLooks := .later }
def WordWholeCardSaid : Prop := Claim7.holds Tryd.pinned (.plain (OpenSpec.ofChange wordWholeSpec)) wordWholeCard

/-- THE TIED CARD OF 'priorylaw01.WordPage'. -/
def wordPageCard : Claim7 := { stood := { row := wordPageRow, standIns := [], harness := (true, "9790a0611981f5a1155315eca584045686547ed40d64b3725e467dd7610abe2b"), looks := false }, kinds := [], alts := [], laidByText := true, laidKinds := [.data, .data], laidTests := true, laidLooks := .later }
def WordPageCardSaid : Prop := Claim7.holds Tryd.pinned (.plain (OpenSpec.ofChange wordPageSpec)) wordPageCard

/-- THE TIED CARD OF 'priorylaw01.WordBits'. -/
def wordBitsCard : Claim7 := { stood := { row := wordBitsRow, standIns := [], harness := (true, "9790a0611981f5a1155315eca584045686547ed40d64b3725e467dd7610abe2b"), looks := false }, kinds := [], alts := [], laidByText := true, laidKinds := [.data, .data], laidTests := true, laidLooks := .later }
def WordBitsCardSaid : Prop := Claim7.holds Tryd.pinned (.plain (OpenSpec.ofChange wordBitsSpec)) wordBitsCard

/-- THE SECOND FORM's CARD OF 'priorylaw01.WordEntry'. -/
def wordEntryUptoCard : Claim7 := { stood := { row := wordEntryUptoRow, standIns := [], harness := (true, "9790a0611981f5a1155315eca584045686547ed40d64b3725e467dd7610abe2b"), looks := false }, kinds := [], alts := [], laidByText := true, laidKinds := [.data, .data], laidTests := true, laidLooks := .later }
def WordEntryUptoCardSaid : Prop := Claim7.holds Tryd.pinned (.plain (OpenSpec.upto wordEntrySpec)) wordEntryUptoCard

/-- THE SECOND FORM's CARD OF 'priorylaw01.WordGet'. -/
def wordGetUptoCard : Claim7 := { stood := { row := wordGetUptoRow, standIns := [], harness := (true, "9790a0611981f5a1155315eca584045686547ed40d64b3725e467dd7610abe2b"), looks := false }, kinds := [], alts := [], laidByText := true, laidKinds := [.data, .data], laidTests := true, laidLooks := .later }
def WordGetUptoCardSaid : Prop := Claim7.holds Tryd.pinned (.plain (OpenSpec.upto wordGetSpec)) wordGetUptoCard

/-- THE SECOND FORM's CARD OF 'priorylaw01.WordCut'. -/
def wordCutUptoCard : Claim7 := { stood := { row := wordCutUptoRow, standIns := [], harness := (true, "9790a0611981f5a1155315eca584045686547ed40d64b3725e467dd7610abe2b"), looks := false }, kinds := [], alts := [], laidByText := true, laidKinds := [.data, .data], laidTests := true, laidLooks := .later }
def WordCutUptoCardSaid : Prop := Claim7.holds Tryd.pinned (.plain (OpenSpec.upto wordCutSpec)) wordCutUptoCard

/-- THE SECOND FORM's CARD OF 'priorylaw01.WordAddress'. -/
def wordAddressUptoCard : Claim7 := { stood := { row := wordAddressUptoRow, standIns := [], harness := (true, "9790a0611981f5a1155315eca584045686547ed40d64b3725e467dd7610abe2b"), looks := false }, kinds := [], alts := [], laidByText := true, laidKinds := [.data, .data], laidTests := true, laidLooks := .later }
def WordAddressUptoCardSaid : Prop := Claim7.holds Tryd.pinned (.plain (OpenSpec.upto wordAddressSpec)) wordAddressUptoCard

/-- THE SECOND FORM's CARD OF 'priorylaw01.WordBack'. -/
def wordBackUptoCard : Claim7 := { stood := { row := wordBackUptoRow, standIns := [], harness := (true, "9790a0611981f5a1155315eca584045686547ed40d64b3725e467dd7610abe2b"), looks := false }, kinds := [], alts := [], laidByText := true, laidKinds := [.data, .data], laidTests := true, laidLooks := .later }
def WordBackUptoCardSaid : Prop := Claim7.holds Tryd.pinned (.plain (OpenSpec.upto wordBackSpec)) wordBackUptoCard

/-- THE SECOND FORM's CARD OF 'priorylaw01.WordWhole'. -/
def wordWholeUptoCard : Claim7 := { stood := { row := wordWholeUptoRow, standIns := [], harness := (true, "9790a0611981f5a1155315eca584045686547ed40d64b3725e467dd7610abe2b"), looks := false }, kinds := [], alts := [], laidByText := true, laidKinds := [.data, .data], laidTests := true, laidLooks := .later }
def WordWholeUptoCardSaid : Prop := Claim7.holds Tryd.pinned (.plain (OpenSpec.upto wordWholeSpec)) wordWholeUptoCard

/-- THE SECOND FORM's CARD OF 'priorylaw01.WordPage'. -/
def wordPageUptoCard : Claim7 := { stood := { row := wordPageUptoRow, standIns := [], harness := (true, "9790a0611981f5a1155315eca584045686547ed40d64b3725e467dd7610abe2b"), looks := false }, kinds := [], alts := [], laidByText := true, laidKinds := [.data, .data], laidTests := true, laidLooks := .later }
def WordPageUptoCardSaid : Prop := Claim7.holds Tryd.pinned (.plain (OpenSpec.upto wordPageSpec)) wordPageUptoCard

/-- THE SECOND FORM's CARD OF 'priorylaw01.WordBits'. -/
def wordBitsUptoCard : Claim7 := { stood := { row := wordBitsUptoRow, standIns := [], harness := (true, "9790a0611981f5a1155315eca584045686547ed40d64b3725e467dd7610abe2b"), looks := false }, kinds := [], alts := [], laidByText := true, laidKinds := [.data, .data], laidTests := true, laidLooks := .later }
def WordBitsUptoCardSaid : Prop := Claim7.holds Tryd.pinned (.plain (OpenSpec.upto wordBitsSpec)) wordBitsUptoCard
end Rows
end Go.Proofs.YtfehchbllfjngaaDoor
