/- The contract of the document's own Put, layer 5. No condition. -/
import Derived.Test.YtepfljfaclakeaaB2
import Derived.Great.BuildSlice
namespace Go.Proofs.Ytepfljfaclakeaa
open Go.RowKit
set_option maxRecDepth 100000

theorem str_add (l m : List UInt8) (h : l.length + m.length ≤ 1000000) (w : World) : (Op.stringOp .add ⟨l.toArray⟩ ⟨m.toArray⟩).run Try.prog w = .ok (strV (l ++ m)) w :=
  run_string_add_lists w l m (by omega) (by omega)
def RPutRel (w : World) (k m : Nat) (s n i : Value) (wr : World) : Prop := ∃ j : Nat, j ≤ k ∧ i = .int .i64 (j : Int) ∧ n = .int .u32 ((m / 256 ^ j : Nat) : Int) ∧ s = strV (bytesOf m j) ∧ Below w.heap.size w wr
end Go.Proofs.Ytepfljfaclakeaa
