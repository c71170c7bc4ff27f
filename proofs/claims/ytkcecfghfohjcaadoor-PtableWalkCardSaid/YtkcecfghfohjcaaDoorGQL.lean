/- Texts of mine, joined: QL. What each says and under which conditions stands at its head, below. -/
import Derived.Test.YtkcecfghfohjcaaDoorGJ
import Derived.Test.YtkcecfghfohjcaaDoorGLD
import Derived.ProofKit
import Derived.OpenShut
/- What the condition of a row that lists the library's table alone gives the walks: it lies as laid; and the world in which the witness starts. -/
namespace Go.Proofs.YtkcecfghfohjcaaDoor
open Go.ChangeShapes Go.WideShapes Go.ChangeAt Go.RowKit
set_option maxRecDepth 100000

theorem gTab64 : Tryd.prog.globalNamed "math/bits.deBruijn64tab" = some 1 := by kernel_rfl
theorem tTab64 : (Tryd.prog.globals[1]?).map (·.type) = some 176 := by kernel_rfl
theorem cU8 : Tryd.prog.cellsOf 5 = 1 := by kernel_rfl
theorem cTab64 : Tryd.prog.cellsOf 176 = 64 := by kernel_rfl

abbrev laidTab : List (String × DataW Unit) := [("math/bits.deBruijn64tab", Rows.laid_math_bits_deBruijn64tab)]

/-- The door's own heap meets the condition. -/
theorem door_tab (os : Os) (args : Array Value) : laidMetH Tryd.prog laidTab ((World.doorLaid Tryd.prog 400 os).forCall (fun _ _ => 0) ⟨#[], args, []⟩).memory :=
  laidMetH_of_parts3 (fuel := 8) (laidMet_of_run' 8 (by kernel_rfl) (by kernel_rfl)) (by kernel_rfl) (by kernel_rfl)

/-- What the condition gives. -/
theorem laidQ_of {W : World} (h : laidMetH Tryd.prog laidTab W) : LaidQ W := by
  rw [MakeChecks.laidMetH_plain _ _ _ (by kernel_rfl)] at h
  have hB : Lib.TabIs Tryd.prog W "math/bits.deBruijn64tab" .u8 (Lib.deBruijn64tab.map fun (n : Nat) => (n : Int)) :=
    Lib.tabIs_of_head gTab64 tTab64 Tryd.underlying176 Tryd.underlying5 cU8 cTab64 h
  intro j hj
  have := hB.cell gTab64 j hj
  rw [this]
  have h1 : j < Lib.deBruijn64tab.length := hj
  simp [List.getD_eq_getElem?_getD, h1]
end Go.Proofs.YtkcecfghfohjcaaDoor
