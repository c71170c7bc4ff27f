/-
  NARROWER THAN 'FOR EVERY INPUT', by the rows' own cells (each row's printed sentence says how): SpaceNone: laid · SpaceApart: laid · SpaceBack: laid · SpaceFails: laid · SpaceCost: laid · SpaceZero: laid · SpaceGuard: laid · SpaceThree: laid · SpaceReach: laid.
  DERIVED. THE GIVEN ROWS OF THIS SEAT. 9 by the template 'for every input the law returns true; each argument reads behind the call as it read before'; 0 by the template 'total and deterministic' (their statements: YtfpcoomkbmfchaaGreatDoorTotals.lean).
  GIVEN WITH THE SEED: the statements are not yours to turn. If you find one false, say at which input.
  Laid BY PROGRAM, IN A SANDBOX (cutbox-rows.mjs): the forced cells as the released guide's own fill.sh prints them over the translation 59d8403dc472bc2b… (all of the seat's roots in one cut). By AI agents, Wed Nov 11 2026. No macro, syntax, notation, axiom, sorry.
-/
import Derived.Test.YtfpcoomkbmfchaaGreatDoorChecked
import GoSem.Claim
import GoSem.ClaimJoined
import GoSem.ClaimMapViews
import Derived.JoinedTies
import Derived.KernelRfl
namespace Go.Proofs.YtfpcoomkbmfchaaGreatDoor
/- THE CELL 'sum', in the pinned program and in every row, IS THE sha256 OF THE DUMP (.gsa) THAT YtfpcoomkbmfchaaGreatDoorProg.lean LOADS. Nothing in Lean hashes anything: it is a label: what it is worth is what the hold of that sum in a sandbox is worth. -/
noncomputable def Tryz.pinned : Pinned := { name := "ytfpcoomkbmfchaagreatdoor", sum := "59d8403dc472bc2b461029ea68f7f6446a6f2d607d59937755c3db712cb4a277", checked := Tryz.checked }
namespace Rows
def none {H : Type} : Left H := { results := [], args := [] }

/- WHAT THE LISTED PACKAGE-LEVEL VARIABLES READ AS WHEN THE CALL BEGINS. Each datum BY PROGRAM (the guide's laid-datum.mjs) off the statement by which the dump's own 'gosem.cut.vars' lays the variable. In a bare row this is a premise. The card (YtfpcoomkbmfchaaGreatDoorCards.lean) ties it to the program's text. -/
def laid_math_bits_deBruijn32tab {H : Type} : DataW H := .agg [.lit (.int .u8 0), .lit (.int .u8 1), .lit (.int .u8 28), .lit (.int .u8 2), .lit (.int .u8 29), .lit (.int .u8 14), .lit (.int .u8 24), .lit (.int .u8 3), .lit (.int .u8 30), .lit (.int .u8 22), .lit (.int .u8 20), .lit (.int .u8 15), .lit (.int .u8 25), .lit (.int .u8 17), .lit (.int .u8 4), .lit (.int .u8 8), .lit (.int .u8 31), .lit (.int .u8 27), .lit (.int .u8 13), .lit (.int .u8 23), .lit (.int .u8 21), .lit (.int .u8 19), .lit (.int .u8 16), .lit (.int .u8 7), .lit (.int .u8 26), .lit (.int .u8 12), .lit (.int .u8 18), .lit (.int .u8 6), .lit (.int .u8 11), .lit (.int .u8 5), .lit (.int .u8 10), .lit (.int .u8 9)]
def laid_math_bits_deBruijn64tab {H : Type} : DataW H := .agg [.lit (.int .u8 0), .lit (.int .u8 1), .lit (.int .u8 56), .lit (.int .u8 2), .lit (.int .u8 57), .lit (.int .u8 49), .lit (.int .u8 28), .lit (.int .u8 3), .lit (.int .u8 61), .lit (.int .u8 58), .lit (.int .u8 42), .lit (.int .u8 50), .lit (.int .u8 38), .lit (.int .u8 29), .lit (.int .u8 17), .lit (.int .u8 4), .lit (.int .u8 62), .lit (.int .u8 47), .lit (.int .u8 59), .lit (.int .u8 36), .lit (.int .u8 45), .lit (.int .u8 43), .lit (.int .u8 51), .lit (.int .u8 22), .lit (.int .u8 53), .lit (.int .u8 39), .lit (.int .u8 33), .lit (.int .u8 30), .lit (.int .u8 24), .lit (.int .u8 18), .lit (.int .u8 12), .lit (.int .u8 5), .lit (.int .u8 63), .lit (.int .u8 55), .lit (.int .u8 48), .lit (.int .u8 27), .lit (.int .u8 60), .lit (.int .u8 41), .lit (.int .u8 37), .lit (.int .u8 16), .lit (.int .u8 46), .lit (.int .u8 35), .lit (.int .u8 44), .lit (.int .u8 21), .lit (.int .u8 52), .lit (.int .u8 32), .lit (.int .u8 23), .lit (.int .u8 11), .lit (.int .u8 54), .lit (.int .u8 26), .lit (.int .u8 40), .lit (.int .u8 15), .lit (.int .u8 34), .lit (.int .u8 20), .lit (.int .u8 31), .lit (.int .u8 10), .lit (.int .u8 25), .lit (.int .u8 14), .lit (.int .u8 19), .lit (.int .u8 9), .lit (.int .u8 13), .lit (.int .u8 8), .lit (.int .u8 7), .lit (.int .u8 6)]
def laid_priory_word_masks {H : Type} : DataW H := .agg [.lit (.int .u32 1), .lit (.int .u32 2), .lit (.int .u32 4), .lit (.int .u32 261888), .lit (.int .u32 31), .lit (.int .u32 992), .lit (.int .u32 31744), .lit (.int .u32 32736)]

/-- 'priorylaw16.SpaceNone': WHATEVER THE INPUT: true; the input reads as it did. -/
def spaceNoneSpec : ChangeSpec := { name := "spaceNone", fn := fun _ => fun
  | [d] => { results := [.lit (.bool true)], args := [d] }
  | _ => none }
def spaceNoneRow : OpenClaim := { program := "ytfpcoomkbmfchaagreatdoor", sum := "59d8403dc472bc2b461029ea68f7f6446a6f2d607d59937755c3db712cb4a277", func := "priory/priorylaw16.SpaceNone", spec := "spaceNone", unfollowed := true, recurses := true, named := ["priory/word.masks", "math/bits.deBruijn32tab", "math/bits.deBruijn64tab"], apart := false, laid := [("math/bits.deBruijn32tab", laid_math_bits_deBruijn32tab), ("math/bits.deBruijn64tab", laid_math_bits_deBruijn64tab), ("priory/word.masks", laid_priory_word_masks)] }
def SpaceNoneSaid : Prop := spaceNoneRow.holds Tryz.pinned (OpenSpec.ofChange spaceNoneSpec)

/-- ITS FALSE NEIGHBOUR: 'it returns false'. Refute it at one input. -/
def spaceNoneWrong : ChangeSpec := { name := "spaceNone", fn := fun _ => fun
  | [d] => { results := [.lit (.bool false)], args := [d] }
  | _ => none }
def SpaceNoneWrongFalsely : Prop := spaceNoneRow.holds Tryz.pinned (OpenSpec.ofChange spaceNoneWrong)

/-- 'priorylaw16.SpaceApart': WHATEVER THE INPUT: true; the input reads as it did. -/
def spaceApartSpec : ChangeSpec := { name := "spaceApart", fn := fun _ => fun
  | [d1, d2, d3] => { results := [.lit (.bool true)], args := [d1, d2, d3] }
  | _ => none }
def spaceApartRow : OpenClaim := { program := "ytfpcoomkbmfchaagreatdoor", sum := "59d8403dc472bc2b461029ea68f7f6446a6f2d607d59937755c3db712cb4a277", func := "priory/priorylaw16.SpaceApart", spec := "spaceApart", unfollowed := true, recurses := true, named := ["math/bits.deBruijn64tab", "priory/word.masks", "math/bits.deBruijn32tab"], apart := false, laid := [("math/bits.deBruijn32tab", laid_math_bits_deBruijn32tab), ("math/bits.deBruijn64tab", laid_math_bits_deBruijn64tab), ("priory/word.masks", laid_priory_word_masks)] }
def SpaceApartSaid : Prop := spaceApartRow.holds Tryz.pinned (OpenSpec.ofChange spaceApartSpec)

/-- ITS FALSE NEIGHBOUR: 'it returns false'. Refute it at one input. -/
def spaceApartWrong : ChangeSpec := { name := "spaceApart", fn := fun _ => fun
  | [d1, d2, d3] => { results := [.lit (.bool false)], args := [d1, d2, d3] }
  | _ => none }
def SpaceApartWrongFalsely : Prop := spaceApartRow.holds Tryz.pinned (OpenSpec.ofChange spaceApartWrong)

/-- 'priorylaw16.SpaceBack': WHATEVER THE INPUT: true; the input reads as it did. -/
def spaceBackSpec : ChangeSpec := { name := "spaceBack", fn := fun _ => fun
  | [d1, d2] => { results := [.lit (.bool true)], args := [d1, d2] }
  | _ => none }
def spaceBackRow : OpenClaim := { program := "ytfpcoomkbmfchaagreatdoor", sum := "59d8403dc472bc2b461029ea68f7f6446a6f2d607d59937755c3db712cb4a277", func := "priory/priorylaw16.SpaceBack", spec := "spaceBack", unfollowed := true, recurses := true, named := ["math/bits.deBruijn64tab", "priory/word.masks", "math/bits.deBruijn32tab"], apart := false, laid := [("math/bits.deBruijn32tab", laid_math_bits_deBruijn32tab), ("math/bits.deBruijn64tab", laid_math_bits_deBruijn64tab), ("priory/word.masks", laid_priory_word_masks)] }
def SpaceBackSaid : Prop := spaceBackRow.holds Tryz.pinned (OpenSpec.ofChange spaceBackSpec)

/-- ITS FALSE NEIGHBOUR: 'it returns false'. Refute it at one input. -/
def spaceBackWrong : ChangeSpec := { name := "spaceBack", fn := fun _ => fun
  | [d1, d2] => { results := [.lit (.bool false)], args := [d1, d2] }
  | _ => none }
def SpaceBackWrongFalsely : Prop := spaceBackRow.holds Tryz.pinned (OpenSpec.ofChange spaceBackWrong)

/-- 'priorylaw16.SpaceFails': WHATEVER THE INPUT: true; the input reads as it did. -/
def spaceFailsSpec : ChangeSpec := { name := "spaceFails", fn := fun _ => fun
  | [d1, d2] => { results := [.lit (.bool true)], args := [d1, d2] }
  | _ => none }
def spaceFailsRow : OpenClaim := { program := "ytfpcoomkbmfchaagreatdoor", sum := "59d8403dc472bc2b461029ea68f7f6446a6f2d607d59937755c3db712cb4a277", func := "priory/priorylaw16.SpaceFails", spec := "spaceFails", unfollowed := true, recurses := true, named := ["math/bits.deBruijn64tab", "priory/word.masks", "math/bits.deBruijn32tab"], apart := false, laid := [("math/bits.deBruijn32tab", laid_math_bits_deBruijn32tab), ("math/bits.deBruijn64tab", laid_math_bits_deBruijn64tab), ("priory/word.masks", laid_priory_word_masks)] }
def SpaceFailsSaid : Prop := spaceFailsRow.holds Tryz.pinned (OpenSpec.ofChange spaceFailsSpec)

/-- ITS FALSE NEIGHBOUR: 'it returns false'. Refute it at one input. -/
def spaceFailsWrong : ChangeSpec := { name := "spaceFails", fn := fun _ => fun
  | [d1, d2] => { results := [.lit (.bool false)], args := [d1, d2] }
  | _ => none }
def SpaceFailsWrongFalsely : Prop := spaceFailsRow.holds Tryz.pinned (OpenSpec.ofChange spaceFailsWrong)

/-- 'priorylaw16.SpaceCost': WHATEVER THE INPUT: true; the input reads as it did. -/
def spaceCostSpec : ChangeSpec := { name := "spaceCost", fn := fun _ => fun
  | [d1, d2] => { results := [.lit (.bool true)], args := [d1, d2] }
  | _ => none }
def spaceCostRow : OpenClaim := { program := "ytfpcoomkbmfchaagreatdoor", sum := "59d8403dc472bc2b461029ea68f7f6446a6f2d607d59937755c3db712cb4a277", func := "priory/priorylaw16.SpaceCost", spec := "spaceCost", unfollowed := true, recurses := true, named := ["math/bits.deBruijn64tab", "priory/word.masks", "math/bits.deBruijn32tab"], apart := false, laid := [("math/bits.deBruijn32tab", laid_math_bits_deBruijn32tab), ("math/bits.deBruijn64tab", laid_math_bits_deBruijn64tab), ("priory/word.masks", laid_priory_word_masks)] }
def SpaceCostSaid : Prop := spaceCostRow.holds Tryz.pinned (OpenSpec.ofChange spaceCostSpec)

/-- ITS FALSE NEIGHBOUR: 'it returns false'. Refute it at one input. -/
def spaceCostWrong : ChangeSpec := { name := "spaceCost", fn := fun _ => fun
  | [d1, d2] => { results := [.lit (.bool false)], args := [d1, d2] }
  | _ => none }
def SpaceCostWrongFalsely : Prop := spaceCostRow.holds Tryz.pinned (OpenSpec.ofChange spaceCostWrong)

/-- 'priorylaw16.SpaceZero': WHATEVER THE INPUT: true; the input reads as it did. -/
def spaceZeroSpec : ChangeSpec := { name := "spaceZero", fn := fun _ => fun
  | [d1, d2] => { results := [.lit (.bool true)], args := [d1, d2] }
  | _ => none }
def spaceZeroRow : OpenClaim := { program := "ytfpcoomkbmfchaagreatdoor", sum := "59d8403dc472bc2b461029ea68f7f6446a6f2d607d59937755c3db712cb4a277", func := "priory/priorylaw16.SpaceZero", spec := "spaceZero", unfollowed := true, recurses := true, named := ["math/bits.deBruijn64tab", "priory/word.masks", "math/bits.deBruijn32tab"], apart := false, laid := [("math/bits.deBruijn32tab", laid_math_bits_deBruijn32tab), ("math/bits.deBruijn64tab", laid_math_bits_deBruijn64tab), ("priory/word.masks", laid_priory_word_masks)] }
def SpaceZeroSaid : Prop := spaceZeroRow.holds Tryz.pinned (OpenSpec.ofChange spaceZeroSpec)

/-- ITS FALSE NEIGHBOUR: 'it returns false'. Refute it at one input. -/
def spaceZeroWrong : ChangeSpec := { name := "spaceZero", fn := fun _ => fun
  | [d1, d2] => { results := [.lit (.bool false)], args := [d1, d2] }
  | _ => none }
def SpaceZeroWrongFalsely : Prop := spaceZeroRow.holds Tryz.pinned (OpenSpec.ofChange spaceZeroWrong)

/-- 'priorylaw16.SpaceGuard': WHATEVER THE INPUT: true; the input reads as it did. -/
def spaceGuardSpec : ChangeSpec := { name := "spaceGuard", fn := fun _ => fun
  | [d1, d2, d3, d4] => { results := [.lit (.bool true)], args := [d1, d2, d3, d4] }
  | _ => none }
def spaceGuardRow : OpenClaim := { program := "ytfpcoomkbmfchaagreatdoor", sum := "59d8403dc472bc2b461029ea68f7f6446a6f2d607d59937755c3db712cb4a277", func := "priory/priorylaw16.SpaceGuard", spec := "spaceGuard", unfollowed := true, recurses := true, named := ["math/bits.deBruijn64tab", "priory/word.masks", "math/bits.deBruijn32tab"], apart := false, laid := [("math/bits.deBruijn32tab", laid_math_bits_deBruijn32tab), ("math/bits.deBruijn64tab", laid_math_bits_deBruijn64tab), ("priory/word.masks", laid_priory_word_masks)] }
def SpaceGuardSaid : Prop := spaceGuardRow.holds Tryz.pinned (OpenSpec.ofChange spaceGuardSpec)

/-- ITS FALSE NEIGHBOUR: 'it returns false'. Refute it at one input. -/
def spaceGuardWrong : ChangeSpec := { name := "spaceGuard", fn := fun _ => fun
  | [d1, d2, d3, d4] => { results := [.lit (.bool false)], args := [d1, d2, d3, d4] }
  | _ => none }
def SpaceGuardWrongFalsely : Prop := spaceGuardRow.holds Tryz.pinned (OpenSpec.ofChange spaceGuardWrong)

/-- 'priorylaw16.SpaceThree': WHATEVER THE INPUT: true; the input reads as it did. -/
def spaceThreeSpec : ChangeSpec := { name := "spaceThree", fn := fun _ => fun
  | [d1, d2, d3, d4] => { results := [.lit (.bool true)], args := [d1, d2, d3, d4] }
  | _ => none }
def spaceThreeRow : OpenClaim := { program := "ytfpcoomkbmfchaagreatdoor", sum := "59d8403dc472bc2b461029ea68f7f6446a6f2d607d59937755c3db712cb4a277", func := "priory/priorylaw16.SpaceThree", spec := "spaceThree", unfollowed := true, recurses := true, named := ["math/bits.deBruijn64tab", "priory/word.masks", "math/bits.deBruijn32tab"], apart := false, laid := [("math/bits.deBruijn32tab", laid_math_bits_deBruijn32tab), ("math/bits.deBruijn64tab", laid_math_bits_deBruijn64tab), ("priory/word.masks", laid_priory_word_masks)] }
def SpaceThreeSaid : Prop := spaceThreeRow.holds Tryz.pinned (OpenSpec.ofChange spaceThreeSpec)

/-- ITS FALSE NEIGHBOUR: 'it returns false'. Refute it at one input. -/
def spaceThreeWrong : ChangeSpec := { name := "spaceThree", fn := fun _ => fun
  | [d1, d2, d3, d4] => { results := [.lit (.bool false)], args := [d1, d2, d3, d4] }
  | _ => none }
def SpaceThreeWrongFalsely : Prop := spaceThreeRow.holds Tryz.pinned (OpenSpec.ofChange spaceThreeWrong)

/-- 'priorylaw16.SpaceReach': WHATEVER THE INPUT: true; the input reads as it did. -/
def spaceReachSpec : ChangeSpec := { name := "spaceReach", fn := fun _ => fun
  | [d1, d2, d3, d4, d5] => { results := [.lit (.bool true)], args := [d1, d2, d3, d4, d5] }
  | _ => none }
def spaceReachRow : OpenClaim := { program := "ytfpcoomkbmfchaagreatdoor", sum := "59d8403dc472bc2b461029ea68f7f6446a6f2d607d59937755c3db712cb4a277", func := "priory/priorylaw16.SpaceReach", spec := "spaceReach", unfollowed := true, recurses := true, named := ["math/bits.deBruijn64tab", "priory/word.masks", "math/bits.deBruijn32tab"], apart := false, laid := [("math/bits.deBruijn32tab", laid_math_bits_deBruijn32tab), ("math/bits.deBruijn64tab", laid_math_bits_deBruijn64tab), ("priory/word.masks", laid_priory_word_masks)] }
def SpaceReachSaid : Prop := spaceReachRow.holds Tryz.pinned (OpenSpec.ofChange spaceReachSpec)

/-- ITS FALSE NEIGHBOUR: 'it returns false'. Refute it at one input. -/
def spaceReachWrong : ChangeSpec := { name := "spaceReach", fn := fun _ => fun
  | [d1, d2, d3, d4, d5] => { results := [.lit (.bool false)], args := [d1, d2, d3, d4, d5] }
  | _ => none }
def SpaceReachWrongFalsely : Prop := spaceReachRow.holds Tryz.pinned (OpenSpec.ofChange spaceReachWrong)

/- THE SECOND FORM. 'bulk': how many values and letters a reading holds, each counted each time it is reached (what is shared counts as often as it is met; a slice's spare places count too). A statement '..UptoSaid' is the law's where the arguments, and the package variables that the reading takes, are together of bulk at most 1048576: NARROWER than '..Said'. Prove '..Said' where nothing that the law and all that it calls make is longer than what came in: it says more and counts as full. Else prove '..UptoSaid'. A law counts once. -/
mutual
def uptoBulk {H : Type} : DataW H → Nat
  | .lit (.string bytes) => bytes.length + 1
  | .lit _ => 1
  | .nil => 1
  | .ptr d => uptoBulk d + 1
  | .slice elems spare => uptoBulkAll elems + uptoBulkAll spare + 1
  | .agg parts => uptoBulkAll parts + 1
  | .iface _ d => uptoBulk d + 1
  | .map entries => uptoBulkEntries entries + 1
  | .held _ => 1
def uptoBulkAll {H : Type} : List (DataW H) → Nat
  | [] => 0
  | d :: r => uptoBulk d + uptoBulkAll r
def uptoBulkEntries {H : Type} : List (Lit × DataW H) → Nat
  | [] => 0
  | x :: r => uptoBulkEntry x + uptoBulkEntries r
def uptoBulkEntry {H : Type} : Lit × DataW H → Nat
  | (.string bytes, d) => bytes.length + uptoBulk d + 1
  | (_, d) => uptoBulk d + 1
 end
def uptoSmall : (H : Type) → List (DataW H) → Bool := fun _ ds => decide (uptoBulkAll ds ≤ 1048576)
def OpenSpec.upto (s : _root_.Go.ChangeSpec) : _root_.Go.OpenSpec := { _root_.Go.OpenSpec.ofChange s with cond := some uptoSmall }

/-- 'priorylaw16.SpaceNone', WHERE WHAT IT READS IS OF BULK AT MOST 1048576: true; the input reads as it did. -/
def spaceNoneUptoRow : OpenClaim := { program := "ytfpcoomkbmfchaagreatdoor", sum := "59d8403dc472bc2b461029ea68f7f6446a6f2d607d59937755c3db712cb4a277", func := "priory/priorylaw16.SpaceNone", spec := "spaceNone", unfollowed := true, recurses := true, named := ["priory/word.masks", "math/bits.deBruijn32tab", "math/bits.deBruijn64tab"], apart := false, laid := [("math/bits.deBruijn32tab", laid_math_bits_deBruijn32tab), ("math/bits.deBruijn64tab", laid_math_bits_deBruijn64tab), ("priory/word.masks", laid_priory_word_masks)], narrowed := true }
def SpaceNoneUptoSaid : Prop := spaceNoneUptoRow.holds Tryz.pinned (OpenSpec.upto spaceNoneSpec)

/-- 'priorylaw16.SpaceApart', WHERE WHAT IT READS IS OF BULK AT MOST 1048576: true; the input reads as it did. -/
def spaceApartUptoRow : OpenClaim := { program := "ytfpcoomkbmfchaagreatdoor", sum := "59d8403dc472bc2b461029ea68f7f6446a6f2d607d59937755c3db712cb4a277", func := "priory/priorylaw16.SpaceApart", spec := "spaceApart", unfollowed := true, recurses := true, named := ["math/bits.deBruijn64tab", "priory/word.masks", "math/bits.deBruijn32tab"], apart := false, laid := [("math/bits.deBruijn32tab", laid_math_bits_deBruijn32tab), ("math/bits.deBruijn64tab", laid_math_bits_deBruijn64tab), ("priory/word.masks", laid_priory_word_masks)], narrowed := true }
def SpaceApartUptoSaid : Prop := spaceApartUptoRow.holds Tryz.pinned (OpenSpec.upto spaceApartSpec)

/-- 'priorylaw16.SpaceBack', WHERE WHAT IT READS IS OF BULK AT MOST 1048576: true; the input reads as it did. -/
def spaceBackUptoRow : OpenClaim := { program := "ytfpcoomkbmfchaagreatdoor", sum := "59d8403dc472bc2b461029ea68f7f6446a6f2d607d59937755c3db712cb4a277", func := "priory/priorylaw16.SpaceBack", spec := "spaceBack", unfollowed := true, recurses := true, named := ["math/bits.deBruijn64tab", "priory/word.masks", "math/bits.deBruijn32tab"], apart := false, laid := [("math/bits.deBruijn32tab", laid_math_bits_deBruijn32tab), ("math/bits.deBruijn64tab", laid_math_bits_deBruijn64tab), ("priory/word.masks", laid_priory_word_masks)], narrowed := true }
def SpaceBackUptoSaid : Prop := spaceBackUptoRow.holds Tryz.pinned (OpenSpec.upto spaceBackSpec)

/-- 'priorylaw16.SpaceFails', WHERE WHAT IT READS IS OF BULK AT MOST 1048576: true; the input reads as it did. -/
def spaceFailsUptoRow : OpenClaim := { program := "ytfpcoomkbmfchaagreatdoor", sum := "59d8403dc472bc2b461029ea68f7f6446a6f2d607d59937755c3db712cb4a277", func := "priory/priorylaw16.SpaceFails", spec := "spaceFails", unfollowed := true, recurses := true, named := ["math/bits.deBruijn64tab", "priory/word.masks", "math/bits.deBruijn32tab"], apart := false, laid := [("math/bits.deBruijn32tab", laid_math_bits_deBruijn32tab), ("math/bits.deBruijn64tab", laid_math_bits_deBruijn64tab), ("priory/word.masks", laid_priory_word_masks)], narrowed := true }
def SpaceFailsUptoSaid : Prop := spaceFailsUptoRow.holds Tryz.pinned (OpenSpec.upto spaceFailsSpec)

/-- 'priorylaw16.SpaceCost', WHERE WHAT IT READS IS OF BULK AT MOST 1048576: true; the input reads as it did. -/
def spaceCostUptoRow : OpenClaim := { program := "ytfpcoomkbmfchaagreatdoor", sum := "59d8403dc472bc2b461029ea68f7f6446a6f2d607d59937755c3db712cb4a277", func := "priory/priorylaw16.SpaceCost", spec := "spaceCost", unfollowed := true, recurses := true, named := ["math/bits.deBruijn64tab", "priory/word.masks", "math/bits.deBruijn32tab"], apart := false, laid := [("math/bits.deBruijn32tab", laid_math_bits_deBruijn32tab), ("math/bits.deBruijn64tab", laid_math_bits_deBruijn64tab), ("priory/word.masks", laid_priory_word_masks)], narrowed := true }
def SpaceCostUptoSaid : Prop := spaceCostUptoRow.holds Tryz.pinned (OpenSpec.upto spaceCostSpec)

/-- 'priorylaw16.SpaceZero', WHERE WHAT IT READS IS OF BULK AT MOST 1048576: true; the input reads as it did. -/
def spaceZeroUptoRow : OpenClaim := { program := "ytfpcoomkbmfchaagreatdoor", sum := "59d8403dc472bc2b461029ea68f7f6446a6f2d607d59937755c3db712cb4a277", func := "priory/priorylaw16.SpaceZero", spec := "spaceZero", unfollowed := true, recurses := true, named := ["math/bits.deBruijn64tab", "priory/word.masks", "math/bits.deBruijn32tab"], apart := false, laid := [("math/bits.deBruijn32tab", laid_math_bits_deBruijn32tab), ("math/bits.deBruijn64tab", laid_math_bits_deBruijn64tab), ("priory/word.masks", laid_priory_word_masks)], narrowed := true }
def SpaceZeroUptoSaid : Prop := spaceZeroUptoRow.holds Tryz.pinned (OpenSpec.upto spaceZeroSpec)

/-- 'priorylaw16.SpaceGuard', WHERE WHAT IT READS IS OF BULK AT MOST 1048576: true; the input reads as it did. -/
def spaceGuardUptoRow : OpenClaim := { program := "ytfpcoomkbmfchaagreatdoor", sum := "59d8403dc472bc2b461029ea68f7f6446a6f2d607d59937755c3db712cb4a277", func := "priory/priorylaw16.SpaceGuard", spec := "spaceGuard", unfollowed := true, recurses := true, named := ["math/bits.deBruijn64tab", "priory/word.masks", "math/bits.deBruijn32tab"], apart := false, laid := [("math/bits.deBruijn32tab", laid_math_bits_deBruijn32tab), ("math/bits.deBruijn64tab", laid_math_bits_deBruijn64tab), ("priory/word.masks", laid_priory_word_masks)], narrowed := true }
def SpaceGuardUptoSaid : Prop := spaceGuardUptoRow.holds Tryz.pinned (OpenSpec.upto spaceGuardSpec)

/-- 'priorylaw16.SpaceThree', WHERE WHAT IT READS IS OF BULK AT MOST 1048576: true; the input reads as it did. -/
def spaceThreeUptoRow : OpenClaim := { program := "ytfpcoomkbmfchaagreatdoor", sum := "59d8403dc472bc2b461029ea68f7f6446a6f2d607d59937755c3db712cb4a277", func := "priory/priorylaw16.SpaceThree", spec := "spaceThree", unfollowed := true, recurses := true, named := ["math/bits.deBruijn64tab", "priory/word.masks", "math/bits.deBruijn32tab"], apart := false, laid := [("math/bits.deBruijn32tab", laid_math_bits_deBruijn32tab), ("math/bits.deBruijn64tab", laid_math_bits_deBruijn64tab), ("priory/word.masks", laid_priory_word_masks)], narrowed := true }
def SpaceThreeUptoSaid : Prop := spaceThreeUptoRow.holds Tryz.pinned (OpenSpec.upto spaceThreeSpec)

/-- 'priorylaw16.SpaceReach', WHERE WHAT IT READS IS OF BULK AT MOST 1048576: true; the input reads as it did. -/
def spaceReachUptoRow : OpenClaim := { program := "ytfpcoomkbmfchaagreatdoor", sum := "59d8403dc472bc2b461029ea68f7f6446a6f2d607d59937755c3db712cb4a277", func := "priory/priorylaw16.SpaceReach", spec := "spaceReach", unfollowed := true, recurses := true, named := ["math/bits.deBruijn64tab", "priory/word.masks", "math/bits.deBruijn32tab"], apart := false, laid := [("math/bits.deBruijn32tab", laid_math_bits_deBruijn32tab), ("math/bits.deBruijn64tab", laid_math_bits_deBruijn64tab), ("priory/word.masks", laid_priory_word_masks)], narrowed := true }
def SpaceReachUptoSaid : Prop := spaceReachUptoRow.holds Tryz.pinned (OpenSpec.upto spaceReachSpec)

end Rows
end Go.Proofs.YtfpcoomkbmfchaaGreatDoor
