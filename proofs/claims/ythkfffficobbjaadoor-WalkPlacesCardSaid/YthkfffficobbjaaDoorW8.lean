/- The walks of the laws WordCut and WordAddress. Conditions: the two tables read as laid. -/
import Derived.Test.YthkfffficobbjaaDoorW7
namespace Go.Proofs.YthkfffficobbjaaDoor
open Go.RowKit

theorem LaidW.drewN {w : World} (h : LaidW w) (n : Nat) : LaidW (w.drewN n) := h.of_cells (fun _ _ _ => rfl)
theorem drewN_below (w : World) (n : Nat) (B : Nat) : Below B w (w.drewN n) := ⟨rfl, rfl, rfl, Nat.le_refl _, fun _ _ => rfl⟩

end Go.Proofs.YthkfffficobbjaaDoor
