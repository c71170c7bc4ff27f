/-
  NARROWER THAN 'FOR EVERY INPUT', by the rows' own cells (each row's printed sentence says how): ProcNone: laid · ProcWhole: laid · ProcBack: laid · ProcSame: laid · ProcTurns: laid · ProcRegs: laid · ProcQuota: laid · ProcChain: laid.
  DERIVED. THE GIVEN ROWS OF THIS SEAT. 8 by the template 'for every input the law returns true; each argument reads behind the call as it read before'; 0 by the template 'total and deterministic' (their statements: YtammlljefhakmaaGreatDoorTotals.lean).
  GIVEN WITH THE SEED: the statements are not yours to turn. If you find one false, say at which input.
  Laid BY PROGRAM, IN A SANDBOX (cutbox-rows.mjs): the forced cells as the released guide's own fill.sh prints them over the translation d8689a72d9708b98… (all of the seat's roots in one cut). By AI agents, Wed Nov 11 2026. No macro, syntax, notation, axiom, sorry.
-/
import Derived.Test.YtammlljefhakmaaGreatDoorChecked
import GoSem.Claim
import GoSem.ClaimJoined
import GoSem.ClaimMapViews
import Derived.JoinedTies
import Derived.KernelRfl
namespace Go.Proofs.YtammlljefhakmaaGreatDoor
/- THE CELL 'sum', in the pinned program and in every row, IS THE sha256 OF THE DUMP (.gsa) THAT YtammlljefhakmaaGreatDoorProg.lean LOADS. Nothing in Lean hashes anything: it is a label: what it is worth is what the hold of that sum in a sandbox is worth. -/
noncomputable def Tryz.pinned : Pinned := { name := "ytammlljefhakmaagreatdoor", sum := "d8689a72d9708b98787b73fa40dddc3d9caf6e4f84199ba6591f777ae70c4b5f", checked := Tryz.checked }
namespace Rows
def none {H : Type} : Left H := { results := [], args := [] }

/- WHAT THE LISTED PACKAGE-LEVEL VARIABLES READ AS WHEN THE CALL BEGINS. Each datum BY PROGRAM (the guide's laid-datum.mjs) off the statement by which the dump's own 'gosem.cut.vars' lays the variable. In a bare row this is a premise. The card (YtammlljefhakmaaGreatDoorCards.lean) ties it to the program's text. -/
def laid_math_bits_deBruijn32tab {H : Type} : DataW H := .agg [.lit (.int .u8 0), .lit (.int .u8 1), .lit (.int .u8 28), .lit (.int .u8 2), .lit (.int .u8 29), .lit (.int .u8 14), .lit (.int .u8 24), .lit (.int .u8 3), .lit (.int .u8 30), .lit (.int .u8 22), .lit (.int .u8 20), .lit (.int .u8 15), .lit (.int .u8 25), .lit (.int .u8 17), .lit (.int .u8 4), .lit (.int .u8 8), .lit (.int .u8 31), .lit (.int .u8 27), .lit (.int .u8 13), .lit (.int .u8 23), .lit (.int .u8 21), .lit (.int .u8 19), .lit (.int .u8 16), .lit (.int .u8 7), .lit (.int .u8 26), .lit (.int .u8 12), .lit (.int .u8 18), .lit (.int .u8 6), .lit (.int .u8 11), .lit (.int .u8 5), .lit (.int .u8 10), .lit (.int .u8 9)]
def laid_math_bits_deBruijn64tab {H : Type} : DataW H := .agg [.lit (.int .u8 0), .lit (.int .u8 1), .lit (.int .u8 56), .lit (.int .u8 2), .lit (.int .u8 57), .lit (.int .u8 49), .lit (.int .u8 28), .lit (.int .u8 3), .lit (.int .u8 61), .lit (.int .u8 58), .lit (.int .u8 42), .lit (.int .u8 50), .lit (.int .u8 38), .lit (.int .u8 29), .lit (.int .u8 17), .lit (.int .u8 4), .lit (.int .u8 62), .lit (.int .u8 47), .lit (.int .u8 59), .lit (.int .u8 36), .lit (.int .u8 45), .lit (.int .u8 43), .lit (.int .u8 51), .lit (.int .u8 22), .lit (.int .u8 53), .lit (.int .u8 39), .lit (.int .u8 33), .lit (.int .u8 30), .lit (.int .u8 24), .lit (.int .u8 18), .lit (.int .u8 12), .lit (.int .u8 5), .lit (.int .u8 63), .lit (.int .u8 55), .lit (.int .u8 48), .lit (.int .u8 27), .lit (.int .u8 60), .lit (.int .u8 41), .lit (.int .u8 37), .lit (.int .u8 16), .lit (.int .u8 46), .lit (.int .u8 35), .lit (.int .u8 44), .lit (.int .u8 21), .lit (.int .u8 52), .lit (.int .u8 32), .lit (.int .u8 23), .lit (.int .u8 11), .lit (.int .u8 54), .lit (.int .u8 26), .lit (.int .u8 40), .lit (.int .u8 15), .lit (.int .u8 34), .lit (.int .u8 20), .lit (.int .u8 31), .lit (.int .u8 10), .lit (.int .u8 25), .lit (.int .u8 14), .lit (.int .u8 19), .lit (.int .u8 9), .lit (.int .u8 13), .lit (.int .u8 8), .lit (.int .u8 7), .lit (.int .u8 6)]
def laid_priory_word_masks {H : Type} : DataW H := .agg [.lit (.int .u32 1), .lit (.int .u32 2), .lit (.int .u32 4), .lit (.int .u32 261888), .lit (.int .u32 31), .lit (.int .u32 992), .lit (.int .u32 31744), .lit (.int .u32 32736)]

/-- 'priorylaw18.ProcNone': WHATEVER THE INPUT: true; the input reads as it did. -/
def procNoneSpec : ChangeSpec := { name := "procNone", fn := fun _ => fun
  | [d1, d2] => { results := [.lit (.bool true)], args := [d1, d2] }
  | _ => none }
def procNoneRow : OpenClaim := { program := "ytammlljefhakmaagreatdoor", sum := "d8689a72d9708b98787b73fa40dddc3d9caf6e4f84199ba6591f777ae70c4b5f", func := "priory/priorylaw18.ProcNone", spec := "procNone", unfollowed := true, recurses := true, named := ["priory/word.masks", "math/bits.deBruijn32tab", "math/bits.deBruijn64tab"], apart := false, laid := [("math/bits.deBruijn32tab", laid_math_bits_deBruijn32tab), ("math/bits.deBruijn64tab", laid_math_bits_deBruijn64tab), ("priory/word.masks", laid_priory_word_masks)] }
def ProcNoneSaid : Prop := procNoneRow.holds Tryz.pinned (OpenSpec.ofChange procNoneSpec)

/-- ITS FALSE NEIGHBOUR: 'it returns false'. Refute it at one input. -/
def procNoneWrong : ChangeSpec := { name := "procNone", fn := fun _ => fun
  | [d1, d2] => { results := [.lit (.bool false)], args := [d1, d2] }
  | _ => none }
def ProcNoneWrongFalsely : Prop := procNoneRow.holds Tryz.pinned (OpenSpec.ofChange procNoneWrong)

/-- 'priorylaw18.ProcWhole': WHATEVER THE INPUT: true; the input reads as it did. -/
def procWholeSpec : ChangeSpec := { name := "procWhole", fn := fun _ => fun
  | [d1, d2] => { results := [.lit (.bool true)], args := [d1, d2] }
  | _ => none }
def procWholeRow : OpenClaim := { program := "ytammlljefhakmaagreatdoor", sum := "d8689a72d9708b98787b73fa40dddc3d9caf6e4f84199ba6591f777ae70c4b5f", func := "priory/priorylaw18.ProcWhole", spec := "procWhole", unfollowed := true, recurses := true, named := ["math/bits.deBruijn64tab", "priory/word.masks", "math/bits.deBruijn32tab"], apart := false, laid := [("math/bits.deBruijn32tab", laid_math_bits_deBruijn32tab), ("math/bits.deBruijn64tab", laid_math_bits_deBruijn64tab), ("priory/word.masks", laid_priory_word_masks)] }
def ProcWholeSaid : Prop := procWholeRow.holds Tryz.pinned (OpenSpec.ofChange procWholeSpec)

/-- ITS FALSE NEIGHBOUR: 'it returns false'. Refute it at one input. -/
def procWholeWrong : ChangeSpec := { name := "procWhole", fn := fun _ => fun
  | [d1, d2] => { results := [.lit (.bool false)], args := [d1, d2] }
  | _ => none }
def ProcWholeWrongFalsely : Prop := procWholeRow.holds Tryz.pinned (OpenSpec.ofChange procWholeWrong)

/-- 'priorylaw18.ProcBack': WHATEVER THE INPUT: true; the input reads as it did. -/
def procBackSpec : ChangeSpec := { name := "procBack", fn := fun _ => fun
  | [d1, d2] => { results := [.lit (.bool true)], args := [d1, d2] }
  | _ => none }
def procBackRow : OpenClaim := { program := "ytammlljefhakmaagreatdoor", sum := "d8689a72d9708b98787b73fa40dddc3d9caf6e4f84199ba6591f777ae70c4b5f", func := "priory/priorylaw18.ProcBack", spec := "procBack", unfollowed := true, recurses := true, named := ["math/bits.deBruijn64tab", "priory/word.masks", "math/bits.deBruijn32tab"], apart := false, laid := [("math/bits.deBruijn32tab", laid_math_bits_deBruijn32tab), ("math/bits.deBruijn64tab", laid_math_bits_deBruijn64tab), ("priory/word.masks", laid_priory_word_masks)] }
def ProcBackSaid : Prop := procBackRow.holds Tryz.pinned (OpenSpec.ofChange procBackSpec)

/-- ITS FALSE NEIGHBOUR: 'it returns false'. Refute it at one input. -/
def procBackWrong : ChangeSpec := { name := "procBack", fn := fun _ => fun
  | [d1, d2] => { results := [.lit (.bool false)], args := [d1, d2] }
  | _ => none }
def ProcBackWrongFalsely : Prop := procBackRow.holds Tryz.pinned (OpenSpec.ofChange procBackWrong)

/-- 'priorylaw18.ProcSame': WHATEVER THE INPUT: true; the input reads as it did. -/
def procSameSpec : ChangeSpec := { name := "procSame", fn := fun _ => fun
  | [d1, d2, d3] => { results := [.lit (.bool true)], args := [d1, d2, d3] }
  | _ => none }
def procSameRow : OpenClaim := { program := "ytammlljefhakmaagreatdoor", sum := "d8689a72d9708b98787b73fa40dddc3d9caf6e4f84199ba6591f777ae70c4b5f", func := "priory/priorylaw18.ProcSame", spec := "procSame", unfollowed := true, recurses := true, named := ["math/bits.deBruijn64tab", "priory/word.masks", "math/bits.deBruijn32tab"], apart := false, laid := [("math/bits.deBruijn32tab", laid_math_bits_deBruijn32tab), ("math/bits.deBruijn64tab", laid_math_bits_deBruijn64tab), ("priory/word.masks", laid_priory_word_masks)] }
def ProcSameSaid : Prop := procSameRow.holds Tryz.pinned (OpenSpec.ofChange procSameSpec)

/-- ITS FALSE NEIGHBOUR: 'it returns false'. Refute it at one input. -/
def procSameWrong : ChangeSpec := { name := "procSame", fn := fun _ => fun
  | [d1, d2, d3] => { results := [.lit (.bool false)], args := [d1, d2, d3] }
  | _ => none }
def ProcSameWrongFalsely : Prop := procSameRow.holds Tryz.pinned (OpenSpec.ofChange procSameWrong)

/-- 'priorylaw18.ProcTurns': WHATEVER THE INPUT: true; the input reads as it did. -/
def procTurnsSpec : ChangeSpec := { name := "procTurns", fn := fun _ => fun
  | [d1, d2] => { results := [.lit (.bool true)], args := [d1, d2] }
  | _ => none }
def procTurnsRow : OpenClaim := { program := "ytammlljefhakmaagreatdoor", sum := "d8689a72d9708b98787b73fa40dddc3d9caf6e4f84199ba6591f777ae70c4b5f", func := "priory/priorylaw18.ProcTurns", spec := "procTurns", unfollowed := true, recurses := true, named := ["math/bits.deBruijn64tab", "priory/word.masks", "math/bits.deBruijn32tab"], apart := false, laid := [("math/bits.deBruijn32tab", laid_math_bits_deBruijn32tab), ("math/bits.deBruijn64tab", laid_math_bits_deBruijn64tab), ("priory/word.masks", laid_priory_word_masks)] }
def ProcTurnsSaid : Prop := procTurnsRow.holds Tryz.pinned (OpenSpec.ofChange procTurnsSpec)

/-- ITS FALSE NEIGHBOUR: 'it returns false'. Refute it at one input. -/
def procTurnsWrong : ChangeSpec := { name := "procTurns", fn := fun _ => fun
  | [d1, d2] => { results := [.lit (.bool false)], args := [d1, d2] }
  | _ => none }
def ProcTurnsWrongFalsely : Prop := procTurnsRow.holds Tryz.pinned (OpenSpec.ofChange procTurnsWrong)

/-- 'priorylaw18.ProcRegs': WHATEVER THE INPUT: true; the input reads as it did. -/
def procRegsSpec : ChangeSpec := { name := "procRegs", fn := fun _ => fun
  | [d1, d2, d3, d4] => { results := [.lit (.bool true)], args := [d1, d2, d3, d4] }
  | _ => none }
def procRegsRow : OpenClaim := { program := "ytammlljefhakmaagreatdoor", sum := "d8689a72d9708b98787b73fa40dddc3d9caf6e4f84199ba6591f777ae70c4b5f", func := "priory/priorylaw18.ProcRegs", spec := "procRegs", unfollowed := true, recurses := true, named := ["math/bits.deBruijn64tab", "priory/word.masks", "math/bits.deBruijn32tab"], apart := false, laid := [("math/bits.deBruijn32tab", laid_math_bits_deBruijn32tab), ("math/bits.deBruijn64tab", laid_math_bits_deBruijn64tab), ("priory/word.masks", laid_priory_word_masks)] }
def ProcRegsSaid : Prop := procRegsRow.holds Tryz.pinned (OpenSpec.ofChange procRegsSpec)

/-- ITS FALSE NEIGHBOUR: 'it returns false'. Refute it at one input. -/
def procRegsWrong : ChangeSpec := { name := "procRegs", fn := fun _ => fun
  | [d1, d2, d3, d4] => { results := [.lit (.bool false)], args := [d1, d2, d3, d4] }
  | _ => none }
def ProcRegsWrongFalsely : Prop := procRegsRow.holds Tryz.pinned (OpenSpec.ofChange procRegsWrong)

/-- 'priorylaw18.ProcQuota': WHATEVER THE INPUT: true; the input reads as it did. -/
def procQuotaSpec : ChangeSpec := { name := "procQuota", fn := fun _ => fun
  | [d1, d2, d3] => { results := [.lit (.bool true)], args := [d1, d2, d3] }
  | _ => none }
def procQuotaRow : OpenClaim := { program := "ytammlljefhakmaagreatdoor", sum := "d8689a72d9708b98787b73fa40dddc3d9caf6e4f84199ba6591f777ae70c4b5f", func := "priory/priorylaw18.ProcQuota", spec := "procQuota", unfollowed := true, recurses := true, named := ["math/bits.deBruijn64tab", "priory/word.masks", "math/bits.deBruijn32tab"], apart := false, laid := [("math/bits.deBruijn32tab", laid_math_bits_deBruijn32tab), ("math/bits.deBruijn64tab", laid_math_bits_deBruijn64tab), ("priory/word.masks", laid_priory_word_masks)] }
def ProcQuotaSaid : Prop := procQuotaRow.holds Tryz.pinned (OpenSpec.ofChange procQuotaSpec)

/-- ITS FALSE NEIGHBOUR: 'it returns false'. Refute it at one input. -/
def procQuotaWrong : ChangeSpec := { name := "procQuota", fn := fun _ => fun
  | [d1, d2, d3] => { results := [.lit (.bool false)], args := [d1, d2, d3] }
  | _ => none }
def ProcQuotaWrongFalsely : Prop := procQuotaRow.holds Tryz.pinned (OpenSpec.ofChange procQuotaWrong)

/-- 'priorylaw18.ProcChain': WHATEVER THE INPUT: true; the input reads as it did. -/
def procChainSpec : ChangeSpec := { name := "procChain", fn := fun _ => fun
  | [d1, d2] => { results := [.lit (.bool true)], args := [d1, d2] }
  | _ => none }
def procChainRow : OpenClaim := { program := "ytammlljefhakmaagreatdoor", sum := "d8689a72d9708b98787b73fa40dddc3d9caf6e4f84199ba6591f777ae70c4b5f", func := "priory/priorylaw18.ProcChain", spec := "procChain", unfollowed := true, recurses := true, named := ["math/bits.deBruijn64tab", "priory/word.masks", "math/bits.deBruijn32tab"], apart := false, laid := [("math/bits.deBruijn32tab", laid_math_bits_deBruijn32tab), ("math/bits.deBruijn64tab", laid_math_bits_deBruijn64tab), ("priory/word.masks", laid_priory_word_masks)] }
def ProcChainSaid : Prop := procChainRow.holds Tryz.pinned (OpenSpec.ofChange procChainSpec)

/-- ITS FALSE NEIGHBOUR: 'it returns false'. Refute it at one input. -/
def procChainWrong : ChangeSpec := { name := "procChain", fn := fun _ => fun
  | [d1, d2] => { results := [.lit (.bool false)], args := [d1, d2] }
  | _ => none }
def ProcChainWrongFalsely : Prop := procChainRow.holds Tryz.pinned (OpenSpec.ofChange procChainWrong)

/- THE SECOND FORM. 'bulk': how many values and letters a reading holds, each counted each time it is reached (what is shared counts as often as it is met; a slice's spare places count too). A statement '..UptoSaid' is the law's where the arguments, and the package variables that the reading takes, are together of bulk at most 1048576: NARROWER than '..Said'. Prove '..Said' where nothing that the law and all that it calls make is longer than what came in: it says more and counts as full. Else prove '..UptoSaid'. A law counts once. -/
mutual
def uptoBulk {H : Type} : DataW H → Nat
  | .lit (.string bytes) => bytes.length + 1
  | .lit _ => 1
  | .nil => 1
  | .ptr d => uptoBulk d + 1
  | .slice elems spare => uptoBulkAll elems + uptoBulkAll spare + 1
  | .agg parts => uptoBulkAll parts + 1
  | .iface _ d => uptoBulk d + 1
  | .map entries => uptoBulkEntries entries + 1
  | .held _ => 1
def uptoBulkAll {H : Type} : List (DataW H) → Nat
  | [] => 0
  | d :: r => uptoBulk d + uptoBulkAll r
def uptoBulkEntries {H : Type} : List (Lit × DataW H) → Nat
  | [] => 0
  | x :: r => uptoBulkEntry x + uptoBulkEntries r
def uptoBulkEntry {H : Type} : Lit × DataW H → Nat
  | (.string bytes, d) => bytes.length + uptoBulk d + 1
  | (_, d) => uptoBulk d + 1
 end
def uptoSmall : (H : Type) → List (DataW H) → Bool := fun _ ds => decide (uptoBulkAll ds ≤ 1048576)
def OpenSpec.upto (s : _root_.Go.ChangeSpec) : _root_.Go.OpenSpec := { _root_.Go.OpenSpec.ofChange s with cond := some uptoSmall }

/-- 'priorylaw18.ProcNone', WHERE WHAT IT READS IS OF BULK AT MOST 1048576: true; the input reads as it did. -/
def procNoneUptoRow : OpenClaim := { program := "ytammlljefhakmaagreatdoor", sum := "d8689a72d9708b98787b73fa40dddc3d9caf6e4f84199ba6591f777ae70c4b5f", func := "priory/priorylaw18.ProcNone", spec := "procNone", unfollowed := true, recurses := true, named := ["priory/word.masks", "math/bits.deBruijn32tab", "math/bits.deBruijn64tab"], apart := false, laid := [("math/bits.deBruijn32tab", laid_math_bits_deBruijn32tab), ("math/bits.deBruijn64tab", laid_math_bits_deBruijn64tab), ("priory/word.masks", laid_priory_word_masks)], narrowed := true }
def ProcNoneUptoSaid : Prop := procNoneUptoRow.holds Tryz.pinned (OpenSpec.upto procNoneSpec)

/-- 'priorylaw18.ProcWhole', WHERE WHAT IT READS IS OF BULK AT MOST 1048576: true; the input reads as it did. -/
def procWholeUptoRow : OpenClaim := { program := "ytammlljefhakmaagreatdoor", sum := "d8689a72d9708b98787b73fa40dddc3d9caf6e4f84199ba6591f777ae70c4b5f", func := "priory/priorylaw18.ProcWhole", spec := "procWhole", unfollowed := true, recurses := true, named := ["math/bits.deBruijn64tab", "priory/word.masks", "math/bits.deBruijn32tab"], apart := false, laid := [("math/bits.deBruijn32tab", laid_math_bits_deBruijn32tab), ("math/bits.deBruijn64tab", laid_math_bits_deBruijn64tab), ("priory/word.masks", laid_priory_word_masks)], narrowed := true }
def ProcWholeUptoSaid : Prop := procWholeUptoRow.holds Tryz.pinned (OpenSpec.upto procWholeSpec)

/-- 'priorylaw18.ProcBack', WHERE WHAT IT READS IS OF BULK AT MOST 1048576: true; the input reads as it did. -/
def procBackUptoRow : OpenClaim := { program := "ytammlljefhakmaagreatdoor", sum := "d8689a72d9708b98787b73fa40dddc3d9caf6e4f84199ba6591f777ae70c4b5f", func := "priory/priorylaw18.ProcBack", spec := "procBack", unfollowed := true, recurses := true, named := ["math/bits.deBruijn64tab", "priory/word.masks", "math/bits.deBruijn32tab"], apart := false, laid := [("math/bits.deBruijn32tab", laid_math_bits_deBruijn32tab), ("math/bits.deBruijn64tab", laid_math_bits_deBruijn64tab), ("priory/word.masks", laid_priory_word_masks)], narrowed := true }
def ProcBackUptoSaid : Prop := procBackUptoRow.holds Tryz.pinned (OpenSpec.upto procBackSpec)

/-- 'priorylaw18.ProcSame', WHERE WHAT IT READS IS OF BULK AT MOST 1048576: true; the input reads as it did. -/
def procSameUptoRow : OpenClaim := { program := "ytammlljefhakmaagreatdoor", sum := "d8689a72d9708b98787b73fa40dddc3d9caf6e4f84199ba6591f777ae70c4b5f", func := "priory/priorylaw18.ProcSame", spec := "procSame", unfollowed := true, recurses := true, named := ["math/bits.deBruijn64tab", "priory/word.masks", "math/bits.deBruijn32tab"], apart := false, laid := [("math/bits.deBruijn32tab", laid_math_bits_deBruijn32tab), ("math/bits.deBruijn64tab", laid_math_bits_deBruijn64tab), ("priory/word.masks", laid_priory_word_masks)], narrowed := true }
def ProcSameUptoSaid : Prop := procSameUptoRow.holds Tryz.pinned (OpenSpec.upto procSameSpec)

/-- 'priorylaw18.ProcTurns', WHERE WHAT IT READS IS OF BULK AT MOST 1048576: true; the input reads as it did. -/
def procTurnsUptoRow : OpenClaim := { program := "ytammlljefhakmaagreatdoor", sum := "d8689a72d9708b98787b73fa40dddc3d9caf6e4f84199ba6591f777ae70c4b5f", func := "priory/priorylaw18.ProcTurns", spec := "procTurns", unfollowed := true, recurses := true, named := ["math/bits.deBruijn64tab", "priory/word.masks", "math/bits.deBruijn32tab"], apart := false, laid := [("math/bits.deBruijn32tab", laid_math_bits_deBruijn32tab), ("math/bits.deBruijn64tab", laid_math_bits_deBruijn64tab), ("priory/word.masks", laid_priory_word_masks)], narrowed := true }
def ProcTurnsUptoSaid : Prop := procTurnsUptoRow.holds Tryz.pinned (OpenSpec.upto procTurnsSpec)

/-- 'priorylaw18.ProcRegs', WHERE WHAT IT READS IS OF BULK AT MOST 1048576: true; the input reads as it did. -/
def procRegsUptoRow : OpenClaim := { program := "ytammlljefhakmaagreatdoor", sum := "d8689a72d9708b98787b73fa40dddc3d9caf6e4f84199ba6591f777ae70c4b5f", func := "priory/priorylaw18.ProcRegs", spec := "procRegs", unfollowed := true, recurses := true, named := ["math/bits.deBruijn64tab", "priory/word.masks", "math/bits.deBruijn32tab"], apart := false, laid := [("math/bits.deBruijn32tab", laid_math_bits_deBruijn32tab), ("math/bits.deBruijn64tab", laid_math_bits_deBruijn64tab), ("priory/word.masks", laid_priory_word_masks)], narrowed := true }
def ProcRegsUptoSaid : Prop := procRegsUptoRow.holds Tryz.pinned (OpenSpec.upto procRegsSpec)

/-- 'priorylaw18.ProcQuota', WHERE WHAT IT READS IS OF BULK AT MOST 1048576: true; the input reads as it did. -/
def procQuotaUptoRow : OpenClaim := { program := "ytammlljefhakmaagreatdoor", sum := "d8689a72d9708b98787b73fa40dddc3d9caf6e4f84199ba6591f777ae70c4b5f", func := "priory/priorylaw18.ProcQuota", spec := "procQuota", unfollowed := true, recurses := true, named := ["math/bits.deBruijn64tab", "priory/word.masks", "math/bits.deBruijn32tab"], apart := false, laid := [("math/bits.deBruijn32tab", laid_math_bits_deBruijn32tab), ("math/bits.deBruijn64tab", laid_math_bits_deBruijn64tab), ("priory/word.masks", laid_priory_word_masks)], narrowed := true }
def ProcQuotaUptoSaid : Prop := procQuotaUptoRow.holds Tryz.pinned (OpenSpec.upto procQuotaSpec)

/-- 'priorylaw18.ProcChain', WHERE WHAT IT READS IS OF BULK AT MOST 1048576: true; the input reads as it did. -/
def procChainUptoRow : OpenClaim := { program := "ytammlljefhakmaagreatdoor", sum := "d8689a72d9708b98787b73fa40dddc3d9caf6e4f84199ba6591f777ae70c4b5f", func := "priory/priorylaw18.ProcChain", spec := "procChain", unfollowed := true, recurses := true, named := ["math/bits.deBruijn64tab", "priory/word.masks", "math/bits.deBruijn32tab"], apart := false, laid := [("math/bits.deBruijn32tab", laid_math_bits_deBruijn32tab), ("math/bits.deBruijn64tab", laid_math_bits_deBruijn64tab), ("priory/word.masks", laid_priory_word_masks)], narrowed := true }
def ProcChainUptoSaid : Prop := procChainUptoRow.holds Tryz.pinned (OpenSpec.upto procChainSpec)

end Rows
end Go.Proofs.YtammlljefhakmaaGreatDoor
