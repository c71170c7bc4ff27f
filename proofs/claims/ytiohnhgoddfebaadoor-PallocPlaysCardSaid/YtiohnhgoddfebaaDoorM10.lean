/- The walk of MemChain. No condition. -/
import Derived.Test.YtiohnhgoddfebaaDoorM9
namespace Go.Proofs.YtiohnhgoddfebaaDoor
open Go.RowKit
set_option maxRecDepth 100000

/-- The first frames have the word at the place. -/
def ChainRel (W : World) (mp fb n p : Nat) (w : Int) (i : Value) (wr : World) : Prop := ∃ (k : Nat) (L : List Int), i = .int .i64 k ∧ 1 ≤ k ∧ k ≤ n ∧ OwnMem W wr mp fb n L ∧ ∀ f, f < k → L.getD (f * 32 + p) 0 = w
def ChainRel2 (W : World) (mp fb n : Nat) (L : List Int) (i : Value) (wr : World) : Prop := ∃ k : Nat, i = .int .i64 k ∧ 1 ≤ k ∧ k ≤ n ∧ OwnMem W wr mp fb n L

end Go.Proofs.YtiohnhgoddfebaaDoor
