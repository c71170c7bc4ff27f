/- The contract of awake, layer 2's laws: it returns true. No condition. -/
import Derived.Test.YtiohnhgoddfebaaDoorM6
namespace Go.Proofs.YtiohnhgoddfebaaDoor
open Go.RowKit
set_option maxRecDepth 100000

/-- Old memory below B stays, behind what a call did to a memory of the law's own. -/
theorem Puts.kept {B : Nat} {a w w' : World} {mp fb n : Nat} {L : List Int} (k : Puts w w' mp fb n L) (h : Below B a w) (hw : B ≤ w.heap.size) (hf : B ≤ fb) : Below B a w' := h.trans (below_of_grownBy k.grown hw hf)

end Go.Proofs.YtiohnhgoddfebaaDoor
