/- The walk of MemNone. No condition. -/
import Derived.Test.YtolefcbhiajbbaaM8
import Derived.LoopTactic
namespace Go.Proofs.Ytolefcbhiajbbaa
open Go.RowKit
set_option maxRecDepth 100000

/-- What holds at the head of a round. -/
structure NoneSt (W : World) (p : Option Addr) (wr : World) : Prop where
  no : NoMem wr p
  c : wr.cell? ⟨W.heap.size, 0, none⟩ = some (.slice none 0 0)
  b : Below W.heap.size W wr
  z : W.heap.size < wr.heap.size
theorem NoneSt.step {W wr w' : World} {p : Option Addr} (h : NoneSt W p wr) (k : Below wr.heap.size wr w') : NoneSt W p w' :=
  ⟨h.no.below k, (k.cell (p := ⟨W.heap.size, 0, none⟩) h.z).trans h.c, h.b.trans (k.mono h.b.size), Nat.lt_of_lt_of_le h.z k.size⟩
theorem NoneSt.own {W wr : World} {p : Option Addr} (h : NoneSt W p wr) : NoneSt W (some ⟨W.heap.size, 0, none⟩) wr := ⟨Or.inr ⟨_, rfl, h.c⟩, h.c, h.b, h.z⟩
def NoneRel (W : World) (m i : Value) (wr : World) : Prop := ∃ (p : Option Addr) (k : Nat), m = .pointer p ∧ k ≤ 2 ∧ i = .int .i64 k ∧ NoneSt W p wr

end Go.Proofs.Ytolefcbhiajbbaa
