/-
  NARROWER THAN 'FOR EVERY INPUT', by the rows' own cells (each row's printed sentence says how): WalkAt: laid · WalkLook: laid · WalkLoad: laid · WalkBoth: laid · WalkTables: laid · WalkPlaces: laid.
  DERIVED. THE GIVEN ROWS OF THIS SEAT. 6 by the template 'for every input the law returns true; each argument reads behind the call as it read before'; 0 by the template 'total and deterministic' (their statements: YthkfffficobbjaaDoorTotals.lean).
  GIVEN WITH THE SEED: the statements are not yours to turn. If you find one false, say at which input.
  Laid BY PROGRAM, IN A SANDBOX (cutbox-rows.mjs): the forced cells as the released guide's own fill.sh prints them over the translation c65a562611d37121… (all of the seat's roots in one cut). By AI agents, Wed Nov 11 2026. No macro, syntax, notation, axiom, sorry.
-/
import Derived.Test.YthkfffficobbjaaDoorChecked
import GoSem.Claim
import GoSem.ClaimJoined
import GoSem.ClaimMapViews
import Derived.JoinedTies
import Derived.KernelRfl
namespace Go.Proofs.YthkfffficobbjaaDoor
/- THE CELL 'sum', in the pinned program and in every row, IS THE sha256 OF THE DUMP (.gsa) THAT YthkfffficobbjaaDoorProg.lean LOADS. Nothing in Lean hashes anything: it is a label: what it is worth is what the hold of that sum in a sandbox is worth. -/
noncomputable def Tryd.pinned : Pinned := { name := "ythkfffficobbjaadoor", sum := "c65a562611d371218570edf242725f3367b45759cf762c2c9b431b177c936efa", checked := Tryd.checked }
namespace Rows
def none {H : Type} : Left H := { results := [], args := [] }

/- WHAT THE LISTED PACKAGE-LEVEL VARIABLES READ AS WHEN THE CALL BEGINS. Each datum BY PROGRAM (the guide's laid-datum.mjs) off the statement by which the dump's own 'gosem.cut.vars' lays the variable. In a bare row this is a premise. The card (YthkfffficobbjaaDoorCards.lean) ties it to the program's text. -/
def laid_math_bits_deBruijn32tab {H : Type} : DataW H := .agg [.lit (.int .u8 0), .lit (.int .u8 1), .lit (.int .u8 28), .lit (.int .u8 2), .lit (.int .u8 29), .lit (.int .u8 14), .lit (.int .u8 24), .lit (.int .u8 3), .lit (.int .u8 30), .lit (.int .u8 22), .lit (.int .u8 20), .lit (.int .u8 15), .lit (.int .u8 25), .lit (.int .u8 17), .lit (.int .u8 4), .lit (.int .u8 8), .lit (.int .u8 31), .lit (.int .u8 27), .lit (.int .u8 13), .lit (.int .u8 23), .lit (.int .u8 21), .lit (.int .u8 19), .lit (.int .u8 16), .lit (.int .u8 7), .lit (.int .u8 26), .lit (.int .u8 12), .lit (.int .u8 18), .lit (.int .u8 6), .lit (.int .u8 11), .lit (.int .u8 5), .lit (.int .u8 10), .lit (.int .u8 9)]
def laid_priory_word_masks {H : Type} : DataW H := .agg [.lit (.int .u32 1), .lit (.int .u32 2), .lit (.int .u32 4), .lit (.int .u32 261888), .lit (.int .u32 31), .lit (.int .u32 992), .lit (.int .u32 31744), .lit (.int .u32 32736)]

/-- 'priorylaw03.WalkAt': WHATEVER THE INPUT: true; the input reads as it did. -/
def walkAtSpec : ChangeSpec := { name := "walkAt", fn := fun _ => fun
  | [d1, d2, d3, d4, d5] => { results := [.lit (.bool true)], args := [d1, d2, d3, d4, d5] }
  | _ => none }
def walkAtRow : OpenClaim := { program := "ythkfffficobbjaadoor", sum := "c65a562611d371218570edf242725f3367b45759cf762c2c9b431b177c936efa", func := "priory/priorylaw03.WalkAt", spec := "walkAt", unfollowed := true, recurses := true, named := ["priory/word.masks", "math/bits.deBruijn32tab"], apart := false, laid := [("math/bits.deBruijn32tab", laid_math_bits_deBruijn32tab), ("priory/word.masks", laid_priory_word_masks)] }
def WalkAtSaid : Prop := walkAtRow.holds Tryd.pinned (OpenSpec.ofChange walkAtSpec)

/-- ITS FALSE NEIGHBOUR: 'it returns false'. Refute it at one input. -/
def walkAtWrong : ChangeSpec := { name := "walkAt", fn := fun _ => fun
  | [d1, d2, d3, d4, d5] => { results := [.lit (.bool false)], args := [d1, d2, d3, d4, d5] }
  | _ => none }
def WalkAtWrongFalsely : Prop := walkAtRow.holds Tryd.pinned (OpenSpec.ofChange walkAtWrong)

/-- 'priorylaw03.WalkLook': WHATEVER THE INPUT: true; the input reads as it did. -/
def walkLookSpec : ChangeSpec := { name := "walkLook", fn := fun _ => fun
  | [d1, d2, d3, d4] => { results := [.lit (.bool true)], args := [d1, d2, d3, d4] }
  | _ => none }
def walkLookRow : OpenClaim := { program := "ythkfffficobbjaadoor", sum := "c65a562611d371218570edf242725f3367b45759cf762c2c9b431b177c936efa", func := "priory/priorylaw03.WalkLook", spec := "walkLook", unfollowed := true, recurses := true, named := ["priory/word.masks", "math/bits.deBruijn32tab"], apart := false, laid := [("math/bits.deBruijn32tab", laid_math_bits_deBruijn32tab), ("priory/word.masks", laid_priory_word_masks)] }
def WalkLookSaid : Prop := walkLookRow.holds Tryd.pinned (OpenSpec.ofChange walkLookSpec)

/-- ITS FALSE NEIGHBOUR: 'it returns false'. Refute it at one input. -/
def walkLookWrong : ChangeSpec := { name := "walkLook", fn := fun _ => fun
  | [d1, d2, d3, d4] => { results := [.lit (.bool false)], args := [d1, d2, d3, d4] }
  | _ => none }
def WalkLookWrongFalsely : Prop := walkLookRow.holds Tryd.pinned (OpenSpec.ofChange walkLookWrong)

/-- 'priorylaw03.WalkLoad': WHATEVER THE INPUT: true; the input reads as it did. -/
def walkLoadSpec : ChangeSpec := { name := "walkLoad", fn := fun _ => fun
  | [d1, d2, d3, d4, d5] => { results := [.lit (.bool true)], args := [d1, d2, d3, d4, d5] }
  | _ => none }
def walkLoadRow : OpenClaim := { program := "ythkfffficobbjaadoor", sum := "c65a562611d371218570edf242725f3367b45759cf762c2c9b431b177c936efa", func := "priory/priorylaw03.WalkLoad", spec := "walkLoad", unfollowed := true, recurses := true, named := ["priory/word.masks", "math/bits.deBruijn32tab"], apart := false, laid := [("math/bits.deBruijn32tab", laid_math_bits_deBruijn32tab), ("priory/word.masks", laid_priory_word_masks)] }
def WalkLoadSaid : Prop := walkLoadRow.holds Tryd.pinned (OpenSpec.ofChange walkLoadSpec)

/-- ITS FALSE NEIGHBOUR: 'it returns false'. Refute it at one input. -/
def walkLoadWrong : ChangeSpec := { name := "walkLoad", fn := fun _ => fun
  | [d1, d2, d3, d4, d5] => { results := [.lit (.bool false)], args := [d1, d2, d3, d4, d5] }
  | _ => none }
def WalkLoadWrongFalsely : Prop := walkLoadRow.holds Tryd.pinned (OpenSpec.ofChange walkLoadWrong)

/-- 'priorylaw03.WalkBoth': WHATEVER THE INPUT: true; the input reads as it did. -/
def walkBothSpec : ChangeSpec := { name := "walkBoth", fn := fun _ => fun
  | [d1, d2, d3, d4, d5] => { results := [.lit (.bool true)], args := [d1, d2, d3, d4, d5] }
  | _ => none }
def walkBothRow : OpenClaim := { program := "ythkfffficobbjaadoor", sum := "c65a562611d371218570edf242725f3367b45759cf762c2c9b431b177c936efa", func := "priory/priorylaw03.WalkBoth", spec := "walkBoth", unfollowed := true, recurses := true, named := ["priory/word.masks", "math/bits.deBruijn32tab"], apart := false, laid := [("math/bits.deBruijn32tab", laid_math_bits_deBruijn32tab), ("priory/word.masks", laid_priory_word_masks)] }
def WalkBothSaid : Prop := walkBothRow.holds Tryd.pinned (OpenSpec.ofChange walkBothSpec)

/-- ITS FALSE NEIGHBOUR: 'it returns false'. Refute it at one input. -/
def walkBothWrong : ChangeSpec := { name := "walkBoth", fn := fun _ => fun
  | [d1, d2, d3, d4, d5] => { results := [.lit (.bool false)], args := [d1, d2, d3, d4, d5] }
  | _ => none }
def WalkBothWrongFalsely : Prop := walkBothRow.holds Tryd.pinned (OpenSpec.ofChange walkBothWrong)

/-- 'priorylaw03.WalkTables': WHATEVER THE INPUT: true; the input reads as it did. -/
def walkTablesSpec : ChangeSpec := { name := "walkTables", fn := fun _ => fun
  | [d1, d2, d3, d4] => { results := [.lit (.bool true)], args := [d1, d2, d3, d4] }
  | _ => none }
def walkTablesRow : OpenClaim := { program := "ythkfffficobbjaadoor", sum := "c65a562611d371218570edf242725f3367b45759cf762c2c9b431b177c936efa", func := "priory/priorylaw03.WalkTables", spec := "walkTables", unfollowed := true, recurses := true, named := ["priory/word.masks", "math/bits.deBruijn32tab"], apart := false, laid := [("math/bits.deBruijn32tab", laid_math_bits_deBruijn32tab), ("priory/word.masks", laid_priory_word_masks)] }
def WalkTablesSaid : Prop := walkTablesRow.holds Tryd.pinned (OpenSpec.ofChange walkTablesSpec)

/-- ITS FALSE NEIGHBOUR: 'it returns false'. Refute it at one input. -/
def walkTablesWrong : ChangeSpec := { name := "walkTables", fn := fun _ => fun
  | [d1, d2, d3, d4] => { results := [.lit (.bool false)], args := [d1, d2, d3, d4] }
  | _ => none }
def WalkTablesWrongFalsely : Prop := walkTablesRow.holds Tryd.pinned (OpenSpec.ofChange walkTablesWrong)

/-- 'priorylaw03.WalkPlaces': WHATEVER THE INPUT: true; the input reads as it did. -/
def walkPlacesSpec : ChangeSpec := { name := "walkPlaces", fn := fun _ => fun
  | [d1, d2, d3, d4, d5] => { results := [.lit (.bool true)], args := [d1, d2, d3, d4, d5] }
  | _ => none }
def walkPlacesRow : OpenClaim := { program := "ythkfffficobbjaadoor", sum := "c65a562611d371218570edf242725f3367b45759cf762c2c9b431b177c936efa", func := "priory/priorylaw03.WalkPlaces", spec := "walkPlaces", unfollowed := true, recurses := true, named := ["priory/word.masks", "math/bits.deBruijn32tab"], apart := false, laid := [("math/bits.deBruijn32tab", laid_math_bits_deBruijn32tab), ("priory/word.masks", laid_priory_word_masks)] }
def WalkPlacesSaid : Prop := walkPlacesRow.holds Tryd.pinned (OpenSpec.ofChange walkPlacesSpec)

/-- ITS FALSE NEIGHBOUR: 'it returns false'. Refute it at one input. -/
def walkPlacesWrong : ChangeSpec := { name := "walkPlaces", fn := fun _ => fun
  | [d1, d2, d3, d4, d5] => { results := [.lit (.bool false)], args := [d1, d2, d3, d4, d5] }
  | _ => none }
def WalkPlacesWrongFalsely : Prop := walkPlacesRow.holds Tryd.pinned (OpenSpec.ofChange walkPlacesWrong)

/- THE SECOND FORM. 'bulk': how many values and letters a reading holds, each counted each time it is reached (what is shared counts as often as it is met; a slice's spare places count too). A statement '..UptoSaid' is the law's where the arguments, and the package variables that the reading takes, are together of bulk at most 1048576: NARROWER than '..Said'. Prove '..Said' where nothing that the law and all that it calls make is longer than what came in: it says more and counts as full. Else prove '..UptoSaid'. A law counts once. -/
mutual
def uptoBulk {H : Type} : DataW H → Nat
  | .lit (.string bytes) => bytes.length + 1
  | .lit _ => 1
  | .nil => 1
  | .ptr d => uptoBulk d + 1
  | .slice elems spare => uptoBulkAll elems + uptoBulkAll spare + 1
  | .agg parts => uptoBulkAll parts + 1
  | .iface _ d => uptoBulk d + 1
  | .map entries => uptoBulkEntries entries + 1
  | .held _ => 1
def uptoBulkAll {H : Type} : List (DataW H) → Nat
  | [] => 0
  | d :: r => uptoBulk d + uptoBulkAll r
def uptoBulkEntries {H : Type} : List (Lit × DataW H) → Nat
  | [] => 0
  | x :: r => uptoBulkEntry x + uptoBulkEntries r
def uptoBulkEntry {H : Type} : Lit × DataW H → Nat
  | (.string bytes, d) => bytes.length + uptoBulk d + 1
  | (_, d) => uptoBulk d + 1
 end
def uptoSmall : (H : Type) → List (DataW H) → Bool := fun _ ds => decide (uptoBulkAll ds ≤ 1048576)
def OpenSpec.upto (s : _root_.Go.ChangeSpec) : _root_.Go.OpenSpec := { _root_.Go.OpenSpec.ofChange s with cond := some uptoSmall }

/-- 'priorylaw03.WalkAt', WHERE WHAT IT READS IS OF BULK AT MOST 1048576: true; the input reads as it did. -/
def walkAtUptoRow : OpenClaim := { program := "ythkfffficobbjaadoor", sum := "c65a562611d371218570edf242725f3367b45759cf762c2c9b431b177c936efa", func := "priory/priorylaw03.WalkAt", spec := "walkAt", unfollowed := true, recurses := true, named := ["priory/word.masks", "math/bits.deBruijn32tab"], apart := false, laid := [("math/bits.deBruijn32tab", laid_math_bits_deBruijn32tab), ("priory/word.masks", laid_priory_word_masks)], narrowed := true }
def WalkAtUptoSaid : Prop := walkAtUptoRow.holds Tryd.pinned (OpenSpec.upto walkAtSpec)

/-- 'priorylaw03.WalkLook', WHERE WHAT IT READS IS OF BULK AT MOST 1048576: true; the input reads as it did. -/
def walkLookUptoRow : OpenClaim := { program := "ythkfffficobbjaadoor", sum := "c65a562611d371218570edf242725f3367b45759cf762c2c9b431b177c936efa", func := "priory/priorylaw03.WalkLook", spec := "walkLook", unfollowed := true, recurses := true, named := ["priory/word.masks", "math/bits.deBruijn32tab"], apart := false, laid := [("math/bits.deBruijn32tab", laid_math_bits_deBruijn32tab), ("priory/word.masks", laid_priory_word_masks)], narrowed := true }
def WalkLookUptoSaid : Prop := walkLookUptoRow.holds Tryd.pinned (OpenSpec.upto walkLookSpec)

/-- 'priorylaw03.WalkLoad', WHERE WHAT IT READS IS OF BULK AT MOST 1048576: true; the input reads as it did. -/
def walkLoadUptoRow : OpenClaim := { program := "ythkfffficobbjaadoor", sum := "c65a562611d371218570edf242725f3367b45759cf762c2c9b431b177c936efa", func := "priory/priorylaw03.WalkLoad", spec := "walkLoad", unfollowed := true, recurses := true, named := ["priory/word.masks", "math/bits.deBruijn32tab"], apart := false, laid := [("math/bits.deBruijn32tab", laid_math_bits_deBruijn32tab), ("priory/word.masks", laid_priory_word_masks)], narrowed := true }
def WalkLoadUptoSaid : Prop := walkLoadUptoRow.holds Tryd.pinned (OpenSpec.upto walkLoadSpec)

/-- 'priorylaw03.WalkBoth', WHERE WHAT IT READS IS OF BULK AT MOST 1048576: true; the input reads as it did. -/
def walkBothUptoRow : OpenClaim := { program := "ythkfffficobbjaadoor", sum := "c65a562611d371218570edf242725f3367b45759cf762c2c9b431b177c936efa", func := "priory/priorylaw03.WalkBoth", spec := "walkBoth", unfollowed := true, recurses := true, named := ["priory/word.masks", "math/bits.deBruijn32tab"], apart := false, laid := [("math/bits.deBruijn32tab", laid_math_bits_deBruijn32tab), ("priory/word.masks", laid_priory_word_masks)], narrowed := true }
def WalkBothUptoSaid : Prop := walkBothUptoRow.holds Tryd.pinned (OpenSpec.upto walkBothSpec)

/-- 'priorylaw03.WalkTables', WHERE WHAT IT READS IS OF BULK AT MOST 1048576: true; the input reads as it did. -/
def walkTablesUptoRow : OpenClaim := { program := "ythkfffficobbjaadoor", sum := "c65a562611d371218570edf242725f3367b45759cf762c2c9b431b177c936efa", func := "priory/priorylaw03.WalkTables", spec := "walkTables", unfollowed := true, recurses := true, named := ["priory/word.masks", "math/bits.deBruijn32tab"], apart := false, laid := [("math/bits.deBruijn32tab", laid_math_bits_deBruijn32tab), ("priory/word.masks", laid_priory_word_masks)], narrowed := true }
def WalkTablesUptoSaid : Prop := walkTablesUptoRow.holds Tryd.pinned (OpenSpec.upto walkTablesSpec)

/-- 'priorylaw03.WalkPlaces', WHERE WHAT IT READS IS OF BULK AT MOST 1048576: true; the input reads as it did. -/
def walkPlacesUptoRow : OpenClaim := { program := "ythkfffficobbjaadoor", sum := "c65a562611d371218570edf242725f3367b45759cf762c2c9b431b177c936efa", func := "priory/priorylaw03.WalkPlaces", spec := "walkPlaces", unfollowed := true, recurses := true, named := ["priory/word.masks", "math/bits.deBruijn32tab"], apart := false, laid := [("math/bits.deBruijn32tab", laid_math_bits_deBruijn32tab), ("priory/word.masks", laid_priory_word_masks)], narrowed := true }
def WalkPlacesUptoSaid : Prop := walkPlacesUptoRow.holds Tryd.pinned (OpenSpec.upto walkPlacesSpec)

end Rows
end Go.Proofs.YthkfffficobbjaaDoor
