/-
  DERIVED. GIVEN WITH THE SEED: THE CARDS: each row of YtammlljefhakmaaGreatDoorRows.lean that lists a variable, with what it lists TIED to the program's text (the seventh form; the later family's looks); each row that meets fmt, with fmt's text TOLD by the authors' own Lean function (tested against real Go, not proved from fmt's source: count such statements apart). THE CARD IS WHAT COUNTS. Prove the row's statement (the work); the ties are given (YtammlljefhakmaaGreatDoorTie.lean); close each card by the builder's one call (the guide's Derived/Test/ToyasCard.lean, 'card_holds'). Laid BY PROGRAM, IN A SANDBOX (cutbox-door.mjs). By AI agents, Wed Nov 11 2026. No macro, syntax, notation, axiom, sorry.
-/
import Derived.Test.YtammlljefhakmaaGreatDoorRows
import GoSem.ClaimSeven
namespace Go.Proofs.YtammlljefhakmaaGreatDoor
namespace Rows

/-- THE TIED CARD OF 'priorylaw18.ProcNone'. -/
def procNoneCard : Claim7 := { stood := { row := procNoneRow, standIns := [], harness := (true, "273827b0b4ce0d075b1d21f9f60a666675716ef6236e017c9d55d68bf143c645"), looks := false }, kinds := [], alts := [], laidByText := true, laidKinds := [.data, .data, .data], laidTests := true, laidLooks := .later }
def ProcNoneCardSaid : Prop := Claim7.holds Tryz.pinned (.plain (OpenSpec.ofChange procNoneSpec)) procNoneCard

/-- THE TIED CARD OF 'priorylaw18.ProcWhole'. -/
def procWholeCard : Claim7 := { stood := { row := procWholeRow, standIns := [], harness := (true, "273827b0b4ce0d075b1d21f9f60a666675716ef6236e017c9d55d68bf143c645"), looks := false }, kinds := [], alts := [], laidByText := true, laidKinds := [.data, .data, .data], laidTests := true, laidLooks := .later }
def ProcWholeCardSaid : Prop := Claim7.holds Tryz.pinned (.plain (OpenSpec.ofChange procWholeSpec)) procWholeCard

/-- THE TIED CARD OF 'priorylaw18.ProcBack'. -/
def procBackCard : Claim7 := { stood := { row := procBackRow, standIns := [], harness := (true, "273827b0b4ce0d075b1d21f9f60a666675716ef6236e017c9d55d68bf143c645"), looks := false }, kinds := [], alts := [], laidByText := true, laidKinds := [.data, .data, .data], laidTests := true, laidLooks := .later }
def ProcBackCardSaid : Prop := Claim7.holds Tryz.pinned (.plain (OpenSpec.ofChange procBackSpec)) procBackCard

/-- THE TIED CARD OF 'priorylaw18.ProcSame'. -/
def procSameCard : Claim7 := { stood := { row := procSameRow, standIns := [], harness := (true, "273827b0b4ce0d075b1d21f9f60a666675716ef6236e017c9d55d68bf143c645"), looks := false }, kinds := [], alts := [], laidByText := true, laidKinds := [.data, .data, .data], laidTests := true, laidLooks := .later }
def ProcSameCardSaid : Prop := Claim7.holds Tryz.pinned (.plain (OpenSpec.ofChange procSameSpec)) procSameCard

/-- THE TIED CARD OF 'priorylaw18.ProcTurns'. -/
def procTurnsCard : Claim7 := { stood := { row := procTurnsRow, standIns := [], harness := (true, "273827b0b4ce0d075b1d21f9f60a666675716ef6236e017c9d55d68bf143c645"), looks := false }, kinds := [], alts := [], laidByText := true, laidKinds := [.data, .data, .data], laidTests := true, laidLooks := .later }
def ProcTurnsCardSaid : Prop := Claim7.holds Tryz.pinned (.plain (OpenSpec.ofChange procTurnsSpec)) procTurnsCard

/-- THE TIED CARD OF 'priorylaw18.ProcRegs'. -/
def procRegsCard : Claim7 := { stood := { row := procRegsRow, standIns := [], harness := (true, "273827b0b4ce0d075b1d21f9f60a666675716ef6236e017c9d55d68bf143c645"), looks := false }, kinds := [], alts := [], laidByText := true, laidKinds := [.data, .data, .data], laidTests := true, laidLooks := .later }
def ProcRegsCardSaid : Prop := Claim7.holds Tryz.pinned (.plain (OpenSpec.ofChange procRegsSpec)) procRegsCard

/-- THE TIED CARD OF 'priorylaw18.ProcQuota'. -/
def procQuotaCard : Claim7 := { stood := { row := procQuotaRow, standIns := [], harness := (true, "273827b0b4ce0d075b1d21f9f60a666675716ef6236e017c9d55d68bf143c645"), looks := false }, kinds := [], alts := [], laidByText := true, laidKinds := [.data, .data, .data], laidTests := true, laidLooks := .later }
def ProcQuotaCardSaid : Prop := Claim7.holds Tryz.pinned (.plain (OpenSpec.ofChange procQuotaSpec)) procQuotaCard

/-- THE TIED CARD OF 'priorylaw18.ProcChain'. -/
def procChainCard : Claim7 := { stood := { row := procChainRow, standIns := [], harness := (true, "273827b0b4ce0d075b1d21f9f60a666675716ef6236e017c9d55d68bf143c645"), looks := false }, kinds := [], alts := [], laidByText := true, laidKinds := [.data, .data, .data], laidTests := true, laidLooks := .later }
def ProcChainCardSaid : Prop := Claim7.holds Tryz.pinned (.plain (OpenSpec.ofChange procChainSpec)) procChainCard

/-- THE SECOND FORM's CARD OF 'priorylaw18.ProcNone'. -/
def procNoneUptoCard : Claim7 := { stood := { row := procNoneUptoRow, standIns := [], harness := (true, "273827b0b4ce0d075b1d21f9f60a666675716ef6236e017c9d55d68bf143c645"), looks := false }, kinds := [], alts := [], laidByText := true, laidKinds := [.data, .data, .data], laidTests := true, laidLooks := .later }
def ProcNoneUptoCardSaid : Prop := Claim7.holds Tryz.pinned (.plain (OpenSpec.upto procNoneSpec)) procNoneUptoCard

/-- THE SECOND FORM's CARD OF 'priorylaw18.ProcWhole'. -/
def procWholeUptoCard : Claim7 := { stood := { row := procWholeUptoRow, standIns := [], harness := (true, "273827b0b4ce0d075b1d21f9f60a666675716ef6236e017c9d55d68bf143c645"), looks := false }, kinds := [], alts := [], laidByText := true, laidKinds := [.data, .data, .data], laidTests := true, laidLooks := .later }
def ProcWholeUptoCardSaid : Prop := Claim7.holds Tryz.pinned (.plain (OpenSpec.upto procWholeSpec)) procWholeUptoCard

/-- THE SECOND FORM's CARD OF 'priorylaw18.ProcBack'. -/
def procBackUptoCard : Claim7 := { stood := { row := procBackUptoRow, standIns := [], harness := (true, "273827b0b4ce0d075b1d21f9f60a666675716ef6236e017c9d55d68bf143c645"), looks := false }, kinds := [], alts := [], laidByText := true, laidKinds := [.data, .data, .data], laidTests := true, laidLooks := .later }
def ProcBackUptoCardSaid : Prop := Claim7.holds Tryz.pinned (.plain (OpenSpec.upto procBackSpec)) procBackUptoCard

/-- THE SECOND FORM's CARD OF 'priorylaw18.ProcSame'. -/
def procSameUptoCard : Claim7 := { stood := { row := procSameUptoRow, standIns := [], harness := (true, "273827b0b4ce0d075b1d21f9f60a666675716ef6236e017c9d55d68bf143c645"), looks := false }, kinds := [], alts := [], laidByText := true, laidKinds := [.data, .data, .data], laidTests := true, laidLooks := .later }
def ProcSameUptoCardSaid : Prop := Claim7.holds Tryz.pinned (.plain (OpenSpec.upto procSameSpec)) procSameUptoCard

/-- THE SECOND FORM's CARD OF 'priorylaw18.ProcTurns'. -/
def procTurnsUptoCard : Claim7 := { stood := { row := procTurnsUptoRow, standIns := [], harness := (true, "273827b0b4ce0d075b1d21f9f60a666675716ef6236e017c9d55d68bf143c645"), looks := false }, kinds := [], alts := [], laidByText := true, laidKinds := [.data, .data, .data], laidTests := true, laidLooks := .later }
def ProcTurnsUptoCardSaid : Prop := Claim7.holds Tryz.pinned (.plain (OpenSpec.upto procTurnsSpec)) procTurnsUptoCard

/-- THE SECOND FORM's CARD OF 'priorylaw18.ProcRegs'. -/
def procRegsUptoCard : Claim7 := { stood := { row := procRegsUptoRow, standIns := [], harness := (true, "273827b0b4ce0d075b1d21f9f60a666675716ef6236e017c9d55d68bf143c645"), looks := false }, kinds := [], alts := [], laidByText := true, laidKinds := [.data, .data, .data], laidTests := true, laidLooks := .later }
def ProcRegsUptoCardSaid : Prop := Claim7.holds Tryz.pinned (.plain (OpenSpec.upto procRegsSpec)) procRegsUptoCard

/-- THE SECOND FORM's CARD OF 'priorylaw18.ProcQuota'. -/
def procQuotaUptoCard : Claim7 := { stood := { row := procQuotaUptoRow, standIns := [], harness := (true, "273827b0b4ce0d075b1d21f9f60a666675716ef6236e017c9d55d68bf143c645"), looks := false }, kinds := [], alts := [], laidByText := true, laidKinds := [.data, .data, .data], laidTests := true, laidLooks := .later }
def ProcQuotaUptoCardSaid : Prop := Claim7.holds Tryz.pinned (.plain (OpenSpec.upto procQuotaSpec)) procQuotaUptoCard

/-- THE SECOND FORM's CARD OF 'priorylaw18.ProcChain'. -/
def procChainUptoCard : Claim7 := { stood := { row := procChainUptoRow, standIns := [], harness := (true, "273827b0b4ce0d075b1d21f9f60a666675716ef6236e017c9d55d68bf143c645"), looks := false }, kinds := [], alts := [], laidByText := true, laidKinds := [.data, .data, .data], laidTests := true, laidLooks := .later }
def ProcChainUptoCardSaid : Prop := Claim7.holds Tryz.pinned (.plain (OpenSpec.upto procChainSpec)) procChainUptoCard
end Rows
end Go.Proofs.YtammlljefhakmaaGreatDoor
