/-
  NARROWER THAN 'FOR EVERY INPUT', by the rows' own cells (each row's printed sentence says how): WordEntry: laid · WordGet: laid · WordCut: laid · WordAddress: laid · WordBack: laid · WordWhole: laid · WordPage: laid · WordBits: laid.
  DERIVED. THE GIVEN ROWS OF THIS SEAT. 8 by the template 'for every input the law returns true; each argument reads behind the call as it read before'; 0 by the template 'total and deterministic' (their statements: YtfehchbllfjngaaDoorTotals.lean).
  GIVEN WITH THE SEED: the statements are not yours to turn. If you find one false, say at which input.
  Laid BY PROGRAM, IN A SANDBOX (cutbox-rows.mjs): the forced cells as the released guide's own fill.sh prints them over the translation ee017746e303e12d… (all of the seat's roots in one cut). By AI agents, Wed Nov 11 2026. No macro, syntax, notation, axiom, sorry.
-/
import Derived.Test.YtfehchbllfjngaaDoorChecked
import GoSem.Claim
import GoSem.ClaimJoined
import GoSem.ClaimMapViews
import Derived.JoinedTies
import Derived.KernelRfl
namespace Go.Proofs.YtfehchbllfjngaaDoor
/- THE CELL 'sum', in the pinned program and in every row, IS THE sha256 OF THE DUMP (.gsa) THAT YtfehchbllfjngaaDoorProg.lean LOADS. Nothing in Lean hashes anything: it is a label: what it is worth is what the hold of that sum in a sandbox is worth. -/
noncomputable def Tryd.pinned : Pinned := { name := "ytfehchbllfjngaadoor", sum := "ee017746e303e12ddcbe6fabc834069ff206254596e15cc719374ad477b1f5f9", checked := Tryd.checked }
namespace Rows
def none {H : Type} : Left H := { results := [], args := [] }

/- WHAT THE LISTED PACKAGE-LEVEL VARIABLES READ AS WHEN THE CALL BEGINS. Each datum BY PROGRAM (the guide's laid-datum.mjs) off the statement by which the dump's own 'gosem.cut.vars' lays the variable. In a bare row this is a premise. The card (YtfehchbllfjngaaDoorCards.lean) ties it to the program's text. -/
def laid_math_bits_deBruijn32tab {H : Type} : DataW H := .agg [.lit (.int .u8 0), .lit (.int .u8 1), .lit (.int .u8 28), .lit (.int .u8 2), .lit (.int .u8 29), .lit (.int .u8 14), .lit (.int .u8 24), .lit (.int .u8 3), .lit (.int .u8 30), .lit (.int .u8 22), .lit (.int .u8 20), .lit (.int .u8 15), .lit (.int .u8 25), .lit (.int .u8 17), .lit (.int .u8 4), .lit (.int .u8 8), .lit (.int .u8 31), .lit (.int .u8 27), .lit (.int .u8 13), .lit (.int .u8 23), .lit (.int .u8 21), .lit (.int .u8 19), .lit (.int .u8 16), .lit (.int .u8 7), .lit (.int .u8 26), .lit (.int .u8 12), .lit (.int .u8 18), .lit (.int .u8 6), .lit (.int .u8 11), .lit (.int .u8 5), .lit (.int .u8 10), .lit (.int .u8 9)]
def laid_priory_word_masks {H : Type} : DataW H := .agg [.lit (.int .u32 1), .lit (.int .u32 2), .lit (.int .u32 4), .lit (.int .u32 261888), .lit (.int .u32 31), .lit (.int .u32 992), .lit (.int .u32 31744), .lit (.int .u32 32736)]

/-- 'priorylaw01.WordEntry': WHATEVER THE INPUT: true; the input reads as it did. -/
def wordEntrySpec : ChangeSpec := { name := "wordEntry", fn := fun _ => fun
  | [d] => { results := [.lit (.bool true)], args := [d] }
  | _ => none }
def wordEntryRow : OpenClaim := { program := "ytfehchbllfjngaadoor", sum := "ee017746e303e12ddcbe6fabc834069ff206254596e15cc719374ad477b1f5f9", func := "priory/priorylaw01.WordEntry", spec := "wordEntry", unfollowed := true, recurses := true, named := ["priory/word.masks", "math/bits.deBruijn32tab"], apart := false, laid := [("math/bits.deBruijn32tab", laid_math_bits_deBruijn32tab), ("priory/word.masks", laid_priory_word_masks)] }
def WordEntrySaid : Prop := wordEntryRow.holds Tryd.pinned (OpenSpec.ofChange wordEntrySpec)

/-- ITS FALSE NEIGHBOUR: 'it returns false'. Refute it at one input. -/
def wordEntryWrong : ChangeSpec := { name := "wordEntry", fn := fun _ => fun
  | [d] => { results := [.lit (.bool false)], args := [d] }
  | _ => none }
def WordEntryWrongFalsely : Prop := wordEntryRow.holds Tryd.pinned (OpenSpec.ofChange wordEntryWrong)

/-- 'priorylaw01.WordGet': WHATEVER THE INPUT: true; the input reads as it did. -/
def wordGetSpec : ChangeSpec := { name := "wordGet", fn := fun _ => fun
  | [d] => { results := [.lit (.bool true)], args := [d] }
  | _ => none }
def wordGetRow : OpenClaim := { program := "ytfehchbllfjngaadoor", sum := "ee017746e303e12ddcbe6fabc834069ff206254596e15cc719374ad477b1f5f9", func := "priory/priorylaw01.WordGet", spec := "wordGet", unfollowed := true, recurses := true, named := ["priory/word.masks", "math/bits.deBruijn32tab"], apart := false, laid := [("math/bits.deBruijn32tab", laid_math_bits_deBruijn32tab), ("priory/word.masks", laid_priory_word_masks)] }
def WordGetSaid : Prop := wordGetRow.holds Tryd.pinned (OpenSpec.ofChange wordGetSpec)

/-- ITS FALSE NEIGHBOUR: 'it returns false'. Refute it at one input. -/
def wordGetWrong : ChangeSpec := { name := "wordGet", fn := fun _ => fun
  | [d] => { results := [.lit (.bool false)], args := [d] }
  | _ => none }
def WordGetWrongFalsely : Prop := wordGetRow.holds Tryd.pinned (OpenSpec.ofChange wordGetWrong)

/-- 'priorylaw01.WordCut': WHATEVER THE INPUT: true; the input reads as it did. -/
def wordCutSpec : ChangeSpec := { name := "wordCut", fn := fun _ => fun
  | [d] => { results := [.lit (.bool true)], args := [d] }
  | _ => none }
def wordCutRow : OpenClaim := { program := "ytfehchbllfjngaadoor", sum := "ee017746e303e12ddcbe6fabc834069ff206254596e15cc719374ad477b1f5f9", func := "priory/priorylaw01.WordCut", spec := "wordCut", unfollowed := true, recurses := true, named := ["priory/word.masks", "math/bits.deBruijn32tab"], apart := false, laid := [("math/bits.deBruijn32tab", laid_math_bits_deBruijn32tab), ("priory/word.masks", laid_priory_word_masks)] }
def WordCutSaid : Prop := wordCutRow.holds Tryd.pinned (OpenSpec.ofChange wordCutSpec)

/-- ITS FALSE NEIGHBOUR: 'it returns false'. Refute it at one input. -/
def wordCutWrong : ChangeSpec := { name := "wordCut", fn := fun _ => fun
  | [d] => { results := [.lit (.bool false)], args := [d] }
  | _ => none }
def WordCutWrongFalsely : Prop := wordCutRow.holds Tryd.pinned (OpenSpec.ofChange wordCutWrong)

/-- 'priorylaw01.WordAddress': WHATEVER THE INPUT: true; the input reads as it did. -/
def wordAddressSpec : ChangeSpec := { name := "wordAddress", fn := fun _ => fun
  | [d1, d2] => { results := [.lit (.bool true)], args := [d1, d2] }
  | _ => none }
def wordAddressRow : OpenClaim := { program := "ytfehchbllfjngaadoor", sum := "ee017746e303e12ddcbe6fabc834069ff206254596e15cc719374ad477b1f5f9", func := "priory/priorylaw01.WordAddress", spec := "wordAddress", unfollowed := true, recurses := true, named := ["priory/word.masks", "math/bits.deBruijn32tab"], apart := false, laid := [("math/bits.deBruijn32tab", laid_math_bits_deBruijn32tab), ("priory/word.masks", laid_priory_word_masks)] }
def WordAddressSaid : Prop := wordAddressRow.holds Tryd.pinned (OpenSpec.ofChange wordAddressSpec)

/-- ITS FALSE NEIGHBOUR: 'it returns false'. Refute it at one input. -/
def wordAddressWrong : ChangeSpec := { name := "wordAddress", fn := fun _ => fun
  | [d1, d2] => { results := [.lit (.bool false)], args := [d1, d2] }
  | _ => none }
def WordAddressWrongFalsely : Prop := wordAddressRow.holds Tryd.pinned (OpenSpec.ofChange wordAddressWrong)

/-- 'priorylaw01.WordBack': WHATEVER THE INPUT: true; the input reads as it did. -/
def wordBackSpec : ChangeSpec := { name := "wordBack", fn := fun _ => fun
  | [d1, d2, d3] => { results := [.lit (.bool true)], args := [d1, d2, d3] }
  | _ => none }
def wordBackRow : OpenClaim := { program := "ytfehchbllfjngaadoor", sum := "ee017746e303e12ddcbe6fabc834069ff206254596e15cc719374ad477b1f5f9", func := "priory/priorylaw01.WordBack", spec := "wordBack", unfollowed := true, recurses := true, named := ["priory/word.masks", "math/bits.deBruijn32tab"], apart := false, laid := [("math/bits.deBruijn32tab", laid_math_bits_deBruijn32tab), ("priory/word.masks", laid_priory_word_masks)] }
def WordBackSaid : Prop := wordBackRow.holds Tryd.pinned (OpenSpec.ofChange wordBackSpec)

/-- ITS FALSE NEIGHBOUR: 'it returns false'. Refute it at one input. -/
def wordBackWrong : ChangeSpec := { name := "wordBack", fn := fun _ => fun
  | [d1, d2, d3] => { results := [.lit (.bool false)], args := [d1, d2, d3] }
  | _ => none }
def WordBackWrongFalsely : Prop := wordBackRow.holds Tryd.pinned (OpenSpec.ofChange wordBackWrong)

/-- 'priorylaw01.WordWhole': WHATEVER THE INPUT: true; the input reads as it did. -/
def wordWholeSpec : ChangeSpec := { name := "wordWhole", fn := fun _ => fun
  | [d1, d2] => { results := [.lit (.bool true)], args := [d1, d2] }
  | _ => none }
def wordWholeRow : OpenClaim := { program := "ytfehchbllfjngaadoor", sum := "ee017746e303e12ddcbe6fabc834069ff206254596e15cc719374ad477b1f5f9", func := "priory/priorylaw01.WordWhole", spec := "wordWhole", unfollowed := true, recurses := true, named := ["priory/word.masks", "math/bits.deBruijn32tab"], apart := false, laid := [("math/bits.deBruijn32tab", laid_math_bits_deBruijn32tab), ("priory/word.masks", laid_priory_word_masks)] }
def WordWholeSaid : Prop := wordWholeRow.holds Tryd.pinned (OpenSpec.ofChange wordWholeSpec)

/-- ITS FALSE NEIGHBOUR: 'it returns false'. Refute it at one input. -/
def wordWholeWrong : ChangeSpec := { name := "wordWhole", fn := fun _ => fun
  | [d1, d2] => { results := [.lit (.bool false)], args := [d1, d2] }
  | _ => none }
def WordWholeWrongFalsely : Prop := wordWholeRow.holds Tryd.pinned (OpenSpec.ofChange wordWholeWrong)

/-- 'priorylaw01.WordPage': WHATEVER THE INPUT: true; the input reads as it did. -/
def wordPageSpec : ChangeSpec := { name := "wordPage", fn := fun _ => fun
  | [d1, d2] => { results := [.lit (.bool true)], args := [d1, d2] }
  | _ => none }
def wordPageRow : OpenClaim := { program := "ytfehchbllfjngaadoor", sum := "ee017746e303e12ddcbe6fabc834069ff206254596e15cc719374ad477b1f5f9", func := "priory/priorylaw01.WordPage", spec := "wordPage", unfollowed := true, recurses := true, named := ["priory/word.masks", "math/bits.deBruijn32tab"], apart := false, laid := [("math/bits.deBruijn32tab", laid_math_bits_deBruijn32tab), ("priory/word.masks", laid_priory_word_masks)] }
def WordPageSaid : Prop := wordPageRow.holds Tryd.pinned (OpenSpec.ofChange wordPageSpec)

/-- ITS FALSE NEIGHBOUR: 'it returns false'. Refute it at one input. -/
def wordPageWrong : ChangeSpec := { name := "wordPage", fn := fun _ => fun
  | [d1, d2] => { results := [.lit (.bool false)], args := [d1, d2] }
  | _ => none }
def WordPageWrongFalsely : Prop := wordPageRow.holds Tryd.pinned (OpenSpec.ofChange wordPageWrong)

/-- 'priorylaw01.WordBits': WHATEVER THE INPUT: true; the input reads as it did. -/
def wordBitsSpec : ChangeSpec := { name := "wordBits", fn := fun _ => fun
  | [d1, d2] => { results := [.lit (.bool true)], args := [d1, d2] }
  | _ => none }
def wordBitsRow : OpenClaim := { program := "ytfehchbllfjngaadoor", sum := "ee017746e303e12ddcbe6fabc834069ff206254596e15cc719374ad477b1f5f9", func := "priory/priorylaw01.WordBits", spec := "wordBits", unfollowed := true, recurses := true, named := ["priory/word.masks", "math/bits.deBruijn32tab"], apart := false, laid := [("math/bits.deBruijn32tab", laid_math_bits_deBruijn32tab), ("priory/word.masks", laid_priory_word_masks)] }
def WordBitsSaid : Prop := wordBitsRow.holds Tryd.pinned (OpenSpec.ofChange wordBitsSpec)

/-- ITS FALSE NEIGHBOUR: 'it returns false'. Refute it at one input. -/
def wordBitsWrong : ChangeSpec := { name := "wordBits", fn := fun _ => fun
  | [d1, d2] => { results := [.lit (.bool false)], args := [d1, d2] }
  | _ => none }
def WordBitsWrongFalsely : Prop := wordBitsRow.holds Tryd.pinned (OpenSpec.ofChange wordBitsWrong)

/- THE SECOND FORM. 'bulk': how many values and letters a reading holds, each counted each time it is reached (what is shared counts as often as it is met; a slice's spare places count too). A statement '..UptoSaid' is the law's where the arguments, and the package variables that the reading takes, are together of bulk at most 1048576: NARROWER than '..Said'. Prove '..Said' where nothing that the law and all that it calls make is longer than what came in: it says more and counts as full. Else prove '..UptoSaid'. A law counts once. -/
mutual
def uptoBulk {H : Type} : DataW H → Nat
  | .lit (.string bytes) => bytes.length + 1
  | .lit _ => 1
  | .nil => 1
  | .ptr d => uptoBulk d + 1
  | .slice elems spare => uptoBulkAll elems + uptoBulkAll spare + 1
  | .agg parts => uptoBulkAll parts + 1
  | .iface _ d => uptoBulk d + 1
  | .map entries => uptoBulkEntries entries + 1
  | .held _ => 1
def uptoBulkAll {H : Type} : List (DataW H) → Nat
  | [] => 0
  | d :: r => uptoBulk d + uptoBulkAll r
def uptoBulkEntries {H : Type} : List (Lit × DataW H) → Nat
  | [] => 0
  | x :: r => uptoBulkEntry x + uptoBulkEntries r
def uptoBulkEntry {H : Type} : Lit × DataW H → Nat
  | (.string bytes, d) => bytes.length + uptoBulk d + 1
  | (_, d) => uptoBulk d + 1
 end
def uptoSmall : (H : Type) → List (DataW H) → Bool := fun _ ds => decide (uptoBulkAll ds ≤ 1048576)
def OpenSpec.upto (s : _root_.Go.ChangeSpec) : _root_.Go.OpenSpec := { _root_.Go.OpenSpec.ofChange s with cond := some uptoSmall }

/-- 'priorylaw01.WordEntry', WHERE WHAT IT READS IS OF BULK AT MOST 1048576: true; the input reads as it did. -/
def wordEntryUptoRow : OpenClaim := { program := "ytfehchbllfjngaadoor", sum := "ee017746e303e12ddcbe6fabc834069ff206254596e15cc719374ad477b1f5f9", func := "priory/priorylaw01.WordEntry", spec := "wordEntry", unfollowed := true, recurses := true, named := ["priory/word.masks", "math/bits.deBruijn32tab"], apart := false, laid := [("math/bits.deBruijn32tab", laid_math_bits_deBruijn32tab), ("priory/word.masks", laid_priory_word_masks)], narrowed := true }
def WordEntryUptoSaid : Prop := wordEntryUptoRow.holds Tryd.pinned (OpenSpec.upto wordEntrySpec)

/-- 'priorylaw01.WordGet', WHERE WHAT IT READS IS OF BULK AT MOST 1048576: true; the input reads as it did. -/
def wordGetUptoRow : OpenClaim := { program := "ytfehchbllfjngaadoor", sum := "ee017746e303e12ddcbe6fabc834069ff206254596e15cc719374ad477b1f5f9", func := "priory/priorylaw01.WordGet", spec := "wordGet", unfollowed := true, recurses := true, named := ["priory/word.masks", "math/bits.deBruijn32tab"], apart := false, laid := [("math/bits.deBruijn32tab", laid_math_bits_deBruijn32tab), ("priory/word.masks", laid_priory_word_masks)], narrowed := true }
def WordGetUptoSaid : Prop := wordGetUptoRow.holds Tryd.pinned (OpenSpec.upto wordGetSpec)

/-- 'priorylaw01.WordCut', WHERE WHAT IT READS IS OF BULK AT MOST 1048576: true; the input reads as it did. -/
def wordCutUptoRow : OpenClaim := { program := "ytfehchbllfjngaadoor", sum := "ee017746e303e12ddcbe6fabc834069ff206254596e15cc719374ad477b1f5f9", func := "priory/priorylaw01.WordCut", spec := "wordCut", unfollowed := true, recurses := true, named := ["priory/word.masks", "math/bits.deBruijn32tab"], apart := false, laid := [("math/bits.deBruijn32tab", laid_math_bits_deBruijn32tab), ("priory/word.masks", laid_priory_word_masks)], narrowed := true }
def WordCutUptoSaid : Prop := wordCutUptoRow.holds Tryd.pinned (OpenSpec.upto wordCutSpec)

/-- 'priorylaw01.WordAddress', WHERE WHAT IT READS IS OF BULK AT MOST 1048576: true; the input reads as it did. -/
def wordAddressUptoRow : OpenClaim := { program := "ytfehchbllfjngaadoor", sum := "ee017746e303e12ddcbe6fabc834069ff206254596e15cc719374ad477b1f5f9", func := "priory/priorylaw01.WordAddress", spec := "wordAddress", unfollowed := true, recurses := true, named := ["priory/word.masks", "math/bits.deBruijn32tab"], apart := false, laid := [("math/bits.deBruijn32tab", laid_math_bits_deBruijn32tab), ("priory/word.masks", laid_priory_word_masks)], narrowed := true }
def WordAddressUptoSaid : Prop := wordAddressUptoRow.holds Tryd.pinned (OpenSpec.upto wordAddressSpec)

/-- 'priorylaw01.WordBack', WHERE WHAT IT READS IS OF BULK AT MOST 1048576: true; the input reads as it did. -/
def wordBackUptoRow : OpenClaim := { program := "ytfehchbllfjngaadoor", sum := "ee017746e303e12ddcbe6fabc834069ff206254596e15cc719374ad477b1f5f9", func := "priory/priorylaw01.WordBack", spec := "wordBack", unfollowed := true, recurses := true, named := ["priory/word.masks", "math/bits.deBruijn32tab"], apart := false, laid := [("math/bits.deBruijn32tab", laid_math_bits_deBruijn32tab), ("priory/word.masks", laid_priory_word_masks)], narrowed := true }
def WordBackUptoSaid : Prop := wordBackUptoRow.holds Tryd.pinned (OpenSpec.upto wordBackSpec)

/-- 'priorylaw01.WordWhole', WHERE WHAT IT READS IS OF BULK AT MOST 1048576: true; the input reads as it did. -/
def wordWholeUptoRow : OpenClaim := { program := "ytfehchbllfjngaadoor", sum := "ee017746e303e12ddcbe6fabc834069ff206254596e15cc719374ad477b1f5f9", func := "priory/priorylaw01.WordWhole", spec := "wordWhole", unfollowed := true, recurses := true, named := ["priory/word.masks", "math/bits.deBruijn32tab"], apart := false, laid := [("math/bits.deBruijn32tab", laid_math_bits_deBruijn32tab), ("priory/word.masks", laid_priory_word_masks)], narrowed := true }
def WordWholeUptoSaid : Prop := wordWholeUptoRow.holds Tryd.pinned (OpenSpec.upto wordWholeSpec)

/-- 'priorylaw01.WordPage', WHERE WHAT IT READS IS OF BULK AT MOST 1048576: true; the input reads as it did. -/
def wordPageUptoRow : OpenClaim := { program := "ytfehchbllfjngaadoor", sum := "ee017746e303e12ddcbe6fabc834069ff206254596e15cc719374ad477b1f5f9", func := "priory/priorylaw01.WordPage", spec := "wordPage", unfollowed := true, recurses := true, named := ["priory/word.masks", "math/bits.deBruijn32tab"], apart := false, laid := [("math/bits.deBruijn32tab", laid_math_bits_deBruijn32tab), ("priory/word.masks", laid_priory_word_masks)], narrowed := true }
def WordPageUptoSaid : Prop := wordPageUptoRow.holds Tryd.pinned (OpenSpec.upto wordPageSpec)

/-- 'priorylaw01.WordBits', WHERE WHAT IT READS IS OF BULK AT MOST 1048576: true; the input reads as it did. -/
def wordBitsUptoRow : OpenClaim := { program := "ytfehchbllfjngaadoor", sum := "ee017746e303e12ddcbe6fabc834069ff206254596e15cc719374ad477b1f5f9", func := "priory/priorylaw01.WordBits", spec := "wordBits", unfollowed := true, recurses := true, named := ["priory/word.masks", "math/bits.deBruijn32tab"], apart := false, laid := [("math/bits.deBruijn32tab", laid_math_bits_deBruijn32tab), ("priory/word.masks", laid_priory_word_masks)], narrowed := true }
def WordBitsUptoSaid : Prop := wordBitsUptoRow.holds Tryd.pinned (OpenSpec.upto wordBitsSpec)

end Rows
end Go.Proofs.YtfehchbllfjngaaDoor
