/-
  No cell of these rows narrows 'for every input' (looked for: loops, veiled, ifaces, maps, wideKeys, modest, calm, conditions, laid).
  DERIVED. THE GIVEN ROWS OF THIS SEAT. 5 by the template 'for every input the law returns true; each argument reads behind the call as it read before'; 0 by the template 'total and deterministic' (their statements: YteohfonmckahgaaTotals.lean).
  GIVEN WITH THE SEED: the statements are not yours to turn. If you find one false, say at which input.
  Laid BY PROGRAM, IN A SANDBOX (cutbox-rows.mjs): the forced cells as the released guide's own fill.sh prints them over the translation 27f6d3f345ecb218… (all of the seat's roots in one cut). By AI agents, Wed Nov 11 2026. No macro, syntax, notation, axiom, sorry.
-/
import Derived.Test.YteohfonmckahgaaChecked
import GoSem.Claim
import GoSem.ClaimJoined
import GoSem.ClaimMapViews
import Derived.JoinedTies
import Derived.KernelRfl
namespace Go.Proofs.Yteohfonmckahgaa
/- THE CELL 'sum', in the pinned program and in every row, IS THE sha256 OF THE DUMP (.gsa) THAT YteohfonmckahgaaProg.lean LOADS. Nothing in Lean hashes anything: it is a label: what it is worth is what the hold of that sum in a sandbox is worth. -/
noncomputable def Try.pinned : Pinned := { name := "yteohfonmckahgaa", sum := "27f6d3f345ecb2186ccc846f06d7e5aa35b601d4447adfb0c2f2d5b40f72dd4c", checked := Try.checked }
namespace Rows
def none {H : Type} : Left H := { results := [], args := [] }

/-- 'priorylaw04.TrapWords': WHATEVER THE INPUT: true; the input reads as it did. -/
def trapWordsSpec : ChangeSpec := { name := "trapWords", fn := fun _ => fun
  | [d1, d2] => { results := [.lit (.bool true)], args := [d1, d2] }
  | _ => none }
def trapWordsRow : OpenClaim := { program := "yteohfonmckahgaa", sum := "27f6d3f345ecb2186ccc846f06d7e5aa35b601d4447adfb0c2f2d5b40f72dd4c", func := "priory/priorylaw04.TrapWords", spec := "trapWords", unfollowed := true, recurses := true, apart := false }
def TrapWordsSaid : Prop := trapWordsRow.holds Try.pinned (OpenSpec.ofChange trapWordsSpec)

/-- ITS FALSE NEIGHBOUR: 'it returns false'. Refute it at one input. -/
def trapWordsWrong : ChangeSpec := { name := "trapWords", fn := fun _ => fun
  | [d1, d2] => { results := [.lit (.bool false)], args := [d1, d2] }
  | _ => none }
def TrapWordsWrongFalsely : Prop := trapWordsRow.holds Try.pinned (OpenSpec.ofChange trapWordsWrong)

/-- 'priorylaw04.TrapSave': WHATEVER THE INPUT: true; the input reads as it did. -/
def trapSaveSpec : ChangeSpec := { name := "trapSave", fn := fun _ => fun
  | [d1, d2, d3, d4, d5, d6, d7, d8] => { results := [.lit (.bool true)], args := [d1, d2, d3, d4, d5, d6, d7, d8] }
  | _ => none }
def trapSaveRow : OpenClaim := { program := "yteohfonmckahgaa", sum := "27f6d3f345ecb2186ccc846f06d7e5aa35b601d4447adfb0c2f2d5b40f72dd4c", func := "priory/priorylaw04.TrapSave", spec := "trapSave", unfollowed := true, recurses := true, apart := false }
def TrapSaveSaid : Prop := trapSaveRow.holds Try.pinned (OpenSpec.ofChange trapSaveSpec)

/-- ITS FALSE NEIGHBOUR: 'it returns false'. Refute it at one input. -/
def trapSaveWrong : ChangeSpec := { name := "trapSave", fn := fun _ => fun
  | [d1, d2, d3, d4, d5, d6, d7, d8] => { results := [.lit (.bool false)], args := [d1, d2, d3, d4, d5, d6, d7, d8] }
  | _ => none }
def TrapSaveWrongFalsely : Prop := trapSaveRow.holds Try.pinned (OpenSpec.ofChange trapSaveWrong)

/-- 'priorylaw04.TrapBack': WHATEVER THE INPUT: true; the input reads as it did. -/
def trapBackSpec : ChangeSpec := { name := "trapBack", fn := fun _ => fun
  | [d1, d2, d3, d4] => { results := [.lit (.bool true)], args := [d1, d2, d3, d4] }
  | _ => none }
def trapBackRow : OpenClaim := { program := "yteohfonmckahgaa", sum := "27f6d3f345ecb2186ccc846f06d7e5aa35b601d4447adfb0c2f2d5b40f72dd4c", func := "priory/priorylaw04.TrapBack", spec := "trapBack", unfollowed := true, recurses := true, apart := false }
def TrapBackSaid : Prop := trapBackRow.holds Try.pinned (OpenSpec.ofChange trapBackSpec)

/-- ITS FALSE NEIGHBOUR: 'it returns false'. Refute it at one input. -/
def trapBackWrong : ChangeSpec := { name := "trapBack", fn := fun _ => fun
  | [d1, d2, d3, d4] => { results := [.lit (.bool false)], args := [d1, d2, d3, d4] }
  | _ => none }
def TrapBackWrongFalsely : Prop := trapBackRow.holds Try.pinned (OpenSpec.ofChange trapBackWrong)

/-- 'priorylaw04.TrapThree': WHATEVER THE INPUT: true; the input reads as it did. -/
def trapThreeSpec : ChangeSpec := { name := "trapThree", fn := fun _ => fun
  | [d1, d2, d3, d4, d5, d6] => { results := [.lit (.bool true)], args := [d1, d2, d3, d4, d5, d6] }
  | _ => none }
def trapThreeRow : OpenClaim := { program := "yteohfonmckahgaa", sum := "27f6d3f345ecb2186ccc846f06d7e5aa35b601d4447adfb0c2f2d5b40f72dd4c", func := "priory/priorylaw04.TrapThree", spec := "trapThree", unfollowed := true, recurses := true, apart := false }
def TrapThreeSaid : Prop := trapThreeRow.holds Try.pinned (OpenSpec.ofChange trapThreeSpec)

/-- ITS FALSE NEIGHBOUR: 'it returns false'. Refute it at one input. -/
def trapThreeWrong : ChangeSpec := { name := "trapThree", fn := fun _ => fun
  | [d1, d2, d3, d4, d5, d6] => { results := [.lit (.bool false)], args := [d1, d2, d3, d4, d5, d6] }
  | _ => none }
def TrapThreeWrongFalsely : Prop := trapThreeRow.holds Try.pinned (OpenSpec.ofChange trapThreeWrong)

/-- 'priorylaw04.TrapOver': WHATEVER THE INPUT: true; the input reads as it did. -/
def trapOverSpec : ChangeSpec := { name := "trapOver", fn := fun _ => fun
  | [d1, d2, d3] => { results := [.lit (.bool true)], args := [d1, d2, d3] }
  | _ => none }
def trapOverRow : OpenClaim := { program := "yteohfonmckahgaa", sum := "27f6d3f345ecb2186ccc846f06d7e5aa35b601d4447adfb0c2f2d5b40f72dd4c", func := "priory/priorylaw04.TrapOver", spec := "trapOver", unfollowed := true, recurses := true, apart := false }
def TrapOverSaid : Prop := trapOverRow.holds Try.pinned (OpenSpec.ofChange trapOverSpec)

/-- ITS FALSE NEIGHBOUR: 'it returns false'. Refute it at one input. -/
def trapOverWrong : ChangeSpec := { name := "trapOver", fn := fun _ => fun
  | [d1, d2, d3] => { results := [.lit (.bool false)], args := [d1, d2, d3] }
  | _ => none }
def TrapOverWrongFalsely : Prop := trapOverRow.holds Try.pinned (OpenSpec.ofChange trapOverWrong)

/- THE SECOND FORM. 'bulk': how many values and letters a reading holds, each counted each time it is reached (what is shared counts as often as it is met; a slice's spare places count too). A statement '..UptoSaid' is the law's where the arguments, and the package variables that the reading takes, are together of bulk at most 1048576: NARROWER than '..Said'. Prove '..Said' where nothing that the law and all that it calls make is longer than what came in: it says more and counts as full. Else prove '..UptoSaid'. A law counts once. -/
mutual
def uptoBulk {H : Type} : DataW H → Nat
  | .lit (.string bytes) => bytes.length + 1
  | .lit _ => 1
  | .nil => 1
  | .ptr d => uptoBulk d + 1
  | .slice elems spare => uptoBulkAll elems + uptoBulkAll spare + 1
  | .agg parts => uptoBulkAll parts + 1
  | .iface _ d => uptoBulk d + 1
  | .map entries => uptoBulkEntries entries + 1
  | .held _ => 1
def uptoBulkAll {H : Type} : List (DataW H) → Nat
  | [] => 0
  | d :: r => uptoBulk d + uptoBulkAll r
def uptoBulkEntries {H : Type} : List (Lit × DataW H) → Nat
  | [] => 0
  | x :: r => uptoBulkEntry x + uptoBulkEntries r
def uptoBulkEntry {H : Type} : Lit × DataW H → Nat
  | (.string bytes, d) => bytes.length + uptoBulk d + 1
  | (_, d) => uptoBulk d + 1
 end
def uptoSmall : (H : Type) → List (DataW H) → Bool := fun _ ds => decide (uptoBulkAll ds ≤ 1048576)
def OpenSpec.upto (s : _root_.Go.ChangeSpec) : _root_.Go.OpenSpec := { _root_.Go.OpenSpec.ofChange s with cond := some uptoSmall }

/-- 'priorylaw04.TrapWords', WHERE WHAT IT READS IS OF BULK AT MOST 1048576: true; the input reads as it did. -/
def trapWordsUptoRow : OpenClaim := { program := "yteohfonmckahgaa", sum := "27f6d3f345ecb2186ccc846f06d7e5aa35b601d4447adfb0c2f2d5b40f72dd4c", func := "priory/priorylaw04.TrapWords", spec := "trapWords", unfollowed := true, recurses := true, apart := false, narrowed := true }
def TrapWordsUptoSaid : Prop := trapWordsUptoRow.holds Try.pinned (OpenSpec.upto trapWordsSpec)

/-- 'priorylaw04.TrapSave', WHERE WHAT IT READS IS OF BULK AT MOST 1048576: true; the input reads as it did. -/
def trapSaveUptoRow : OpenClaim := { program := "yteohfonmckahgaa", sum := "27f6d3f345ecb2186ccc846f06d7e5aa35b601d4447adfb0c2f2d5b40f72dd4c", func := "priory/priorylaw04.TrapSave", spec := "trapSave", unfollowed := true, recurses := true, apart := false, narrowed := true }
def TrapSaveUptoSaid : Prop := trapSaveUptoRow.holds Try.pinned (OpenSpec.upto trapSaveSpec)

/-- 'priorylaw04.TrapBack', WHERE WHAT IT READS IS OF BULK AT MOST 1048576: true; the input reads as it did. -/
def trapBackUptoRow : OpenClaim := { program := "yteohfonmckahgaa", sum := "27f6d3f345ecb2186ccc846f06d7e5aa35b601d4447adfb0c2f2d5b40f72dd4c", func := "priory/priorylaw04.TrapBack", spec := "trapBack", unfollowed := true, recurses := true, apart := false, narrowed := true }
def TrapBackUptoSaid : Prop := trapBackUptoRow.holds Try.pinned (OpenSpec.upto trapBackSpec)

/-- 'priorylaw04.TrapThree', WHERE WHAT IT READS IS OF BULK AT MOST 1048576: true; the input reads as it did. -/
def trapThreeUptoRow : OpenClaim := { program := "yteohfonmckahgaa", sum := "27f6d3f345ecb2186ccc846f06d7e5aa35b601d4447adfb0c2f2d5b40f72dd4c", func := "priory/priorylaw04.TrapThree", spec := "trapThree", unfollowed := true, recurses := true, apart := false, narrowed := true }
def TrapThreeUptoSaid : Prop := trapThreeUptoRow.holds Try.pinned (OpenSpec.upto trapThreeSpec)

/-- 'priorylaw04.TrapOver', WHERE WHAT IT READS IS OF BULK AT MOST 1048576: true; the input reads as it did. -/
def trapOverUptoRow : OpenClaim := { program := "yteohfonmckahgaa", sum := "27f6d3f345ecb2186ccc846f06d7e5aa35b601d4447adfb0c2f2d5b40f72dd4c", func := "priory/priorylaw04.TrapOver", spec := "trapOver", unfollowed := true, recurses := true, apart := false, narrowed := true }
def TrapOverUptoSaid : Prop := trapOverUptoRow.holds Try.pinned (OpenSpec.upto trapOverSpec)

end Rows
end Go.Proofs.Yteohfonmckahgaa
