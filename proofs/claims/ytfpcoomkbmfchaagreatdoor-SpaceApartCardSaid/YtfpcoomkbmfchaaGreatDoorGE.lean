/- Texts of mine, joined: M9 M10 M11. What each says and under which conditions stands at its head, below. -/
import Derived.Test.YtfpcoomkbmfchaaGreatDoorGD8
import Derived.LoopTactic
/- The walk of MemNone. No condition. -/
namespace Go.Proofs.YtfpcoomkbmfchaaGreatDoor
open Go.RowKit
set_option maxRecDepth 100000

/-- What holds at the head of a round. -/
structure NoneSt (W : World) (p : Option Addr) (wr : World) : Prop where
  no : NoMem wr p
  c : wr.cell? ⟨W.heap.size, 0, none⟩ = some (.slice none 0 0)
  b : Below W.heap.size W wr
  z : W.heap.size < wr.heap.size
def NoneRel (W : World) (m i : Value) (wr : World) : Prop := ∃ (p : Option Addr) (k : Nat), m = .pointer p ∧ k ≤ 2 ∧ i = .int .i64 k ∧ NoneSt W p wr

end Go.Proofs.YtfpcoomkbmfchaaGreatDoor

/- The walk of MemChain. No condition. -/
namespace Go.Proofs.YtfpcoomkbmfchaaGreatDoor
open Go.RowKit
set_option maxRecDepth 100000

/-- The first frames have the word at the place. -/
def ChainRel (W : World) (mp fb n p : Nat) (w : Int) (i : Value) (wr : World) : Prop := ∃ (k : Nat) (L : List Int), i = .int .i64 k ∧ 1 ≤ k ∧ k ≤ n ∧ OwnMem W wr mp fb n L ∧ ∀ f, f < k → L.getD (f * 32 + p) 0 = w
def ChainRel2 (W : World) (mp fb n : Nat) (L : List Int) (i : Value) (wr : World) : Prop := ∃ k : Nat, i = .int .i64 k ∧ 1 ≤ k ∧ k ≤ n ∧ OwnMem W wr mp fb n L

end Go.Proofs.YtfpcoomkbmfchaaGreatDoor

/- The contracts of the document's own answers for layer 2: Same, In, Read, Write. Conditions: its words lie in a block. -/
namespace Go.Proofs.YtfpcoomkbmfchaaGreatDoor
open Go.RowKit
set_option maxRecDepth 100000

/-- A slice of these words. -/
def RowAt (w : World) (v : Value) (L : List Int) : Prop := ∃ a c, v = .slice a L.length c ∧ (L = [] ∨ ∃ b o, a = some ⟨b, o, none⟩ ∧ b < w.heap.size ∧ ∀ i, i < L.length → w.cell? ⟨b, o + i, none⟩ = some (.int .u32 (L.getD i 0)))
def SameRel (w : World) (n : Nat) (i : Value) (wr : World) : Prop := ∃ k m : Nat, i = .int .i64 k ∧ k ≤ n ∧ wr = w.drewN m
end Go.Proofs.YtfpcoomkbmfchaaGreatDoor
