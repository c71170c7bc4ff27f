/- Texts of mine, joined: F0. What each says and under which conditions stands at its head, below. -/
import Derived.Test.YtkcecfghfohjcaaDoorGA
import Derived.ProofKit
import Derived.LaidMore
import Derived.OpenShut
import Derived.Stop.Joined
import Derived.Lib.SmallJoins
import Derived.Lib.LaidTab
import Derived.Stop.LaidErr
/- What the rows' condition gives the walks: the two tables lie as laid; and the world in which the witness starts. -/
namespace Go.Proofs.YtkcecfghfohjcaaDoor
open Go.ChangeShapes Go.WideShapes Go.ChangeAt Go.RowKit
set_option maxRecDepth 100000

theorem Tryd.own : ownKnob Tryd.prog.godebug = none := by kernel_rfl
theorem gMasks : Tryd.prog.globalNamed "priory/word.masks" = some 0 := by kernel_rfl
theorem gBruijn : Tryd.prog.globalNamed "math/bits.deBruijn32tab" = some 2 := by kernel_rfl
theorem tMasks : (Tryd.prog.globals[0]?).map (·.type) = some 175 := by kernel_rfl
theorem tBruijn : (Tryd.prog.globals[2]?).map (·.type) = some 178 := by kernel_rfl
theorem cWord : Tryd.prog.cellsOf 70 = 1 := by kernel_rfl
theorem cByte : Tryd.prog.cellsOf 5 = 1 := by kernel_rfl
theorem cMasks : Tryd.prog.cellsOf 175 = 8 := by kernel_rfl
theorem cBruijn : Tryd.prog.cellsOf 178 = 32 := by kernel_rfl

abbrev laidTwo : List (String × DataW Unit) := [("math/bits.deBruijn32tab", Rows.laid_math_bits_deBruijn32tab), ("priory/word.masks", Rows.laid_priory_word_masks)]

/-- The door's own heap meets the condition. -/
theorem door_met (os : Os) (args : Array Value) : laidMetH Tryd.prog laidTwo ((World.doorLaid Tryd.prog 400 os).forCall (fun _ _ => 0) ⟨#[], args, []⟩).memory :=
  laidMetH_of_parts3 (fuel := 8) (laidMet_of_run' 8 (by kernel_rfl) (by kernel_rfl)) (by kernel_rfl) (by kernel_rfl)

/-- What the condition gives. -/
theorem laidW_of {W : World} (h : laidMetH Tryd.prog laidTwo W) : LaidW W := by
  rw [MakeChecks.laidMetH_plain _ _ _ (by kernel_rfl)] at h
  have hB : Lib.TabIs Tryd.prog W "math/bits.deBruijn32tab" .u8 [0, 1, 28, 2, 29, 14, 24, 3, 30, 22, 20, 15, 25, 17, 4, 8, 31, 27, 13, 23, 21, 19, 16, 7, 26, 12, 18, 6, 11, 5, 10, 9] :=
    Lib.tabIs_of_head gBruijn tBruijn Tryd.underlying178 Tryd.underlying5 cByte cBruijn h
  have hM : Lib.TabIs Tryd.prog W "priory/word.masks" .u32 [1, 2, 4, 261888, 31, 992, 31744, 32736] :=
    Lib.tabIs_of_head gMasks tMasks Tryd.underlying175 Tryd.underlying70 cWord cMasks (laidMet.tail h)
  have b := fun i hi => hB.cell gBruijn i hi
  have m := fun i hi => hM.cell gMasks i hi
  exact ⟨m 0 (by decide), m 1 (by decide), m 2 (by decide), m 3 (by decide), m 4 (by decide), m 5 (by decide), m 6 (by decide), m 7 (by decide), b 0 (by decide), b 1 (by decide), b 3 (by decide), b 15 (by decide), b 29 (by decide), b 30 (by decide)⟩
end Go.Proofs.YtkcecfghfohjcaaDoor
