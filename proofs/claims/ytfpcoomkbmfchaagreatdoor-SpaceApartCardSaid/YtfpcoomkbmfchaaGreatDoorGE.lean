/- Texts of mine, joined: M9 M10 M11. What each says and under which conditions stands at its head, below. -/
import Derived.Test.YtfpcoomkbmfchaaGreatDoorGD8
import Derived.LoopTactic
/- The walk of MemNone. No condition. -/
namespace Go.Proofs.YtfpcoomkbmfchaaGreatDoor
open Go.RowKit
set_option maxRecDepth 100000

/-- What holds at the head of a round. -/
structure NoneSt (W : World) (p : Option Addr) (wr : World) : Prop where
  no : NoMem wr p
  c : wr.cell? ⟨W.heap.size, 0, none⟩ = some (.slice none 0 0)
  b : Below W.heap.size W wr
  z : W.heap.size < wr.heap.size
theorem NoneSt.step {W wr w' : World} {p : Option Addr} (h : NoneSt W p wr) (k : Below wr.heap.size wr w') : NoneSt W p w' :=
  ⟨h.no.below k, (k.cell (p := ⟨W.heap.size, 0, none⟩) h.z).trans h.c, h.b.trans (k.mono h.b.size), Nat.lt_of_lt_of_le h.z k.size⟩
theorem NoneSt.own {W wr : World} {p : Option Addr} (h : NoneSt W p wr) : NoneSt W (some ⟨W.heap.size, 0, none⟩) wr := ⟨Or.inr ⟨_, rfl, h.c⟩, h.c, h.b, h.z⟩
def NoneRel (W : World) (m i : Value) (wr : World) : Prop := ∃ (p : Option Addr) (k : Nat), m = .pointer p ∧ k ≤ 2 ∧ i = .int .i64 k ∧ NoneSt W p wr

end Go.Proofs.YtfpcoomkbmfchaaGreatDoor

/- The walk of MemChain. No condition. -/
namespace Go.Proofs.YtfpcoomkbmfchaaGreatDoor
open Go.RowKit
set_option maxRecDepth 100000

/-- The first frames have the word at the place. -/
def ChainRel (W : World) (mp fb n p : Nat) (w : Int) (i : Value) (wr : World) : Prop := ∃ (k : Nat) (L : List Int), i = .int .i64 k ∧ 1 ≤ k ∧ k ≤ n ∧ OwnMem W wr mp fb n L ∧ ∀ f, f < k → L.getD (f * 32 + p) 0 = w
def ChainRel2 (W : World) (mp fb n : Nat) (L : List Int) (i : Value) (wr : World) : Prop := ∃ k : Nat, i = .int .i64 k ∧ 1 ≤ k ∧ k ≤ n ∧ OwnMem W wr mp fb n L

end Go.Proofs.YtfpcoomkbmfchaaGreatDoor

/- The contracts of the document's own answers for layer 2: Same, In, Read, Write. Conditions: its words lie in a block. -/
namespace Go.Proofs.YtfpcoomkbmfchaaGreatDoor
open Go.RowKit
set_option maxRecDepth 100000

/-- A slice of these words. -/
def RowAt (w : World) (v : Value) (L : List Int) : Prop := ∃ a c, v = .slice a L.length c ∧ (L = [] ∨ ∃ b o, a = some ⟨b, o, none⟩ ∧ b < w.heap.size ∧ ∀ i, i < L.length → w.cell? ⟨b, o + i, none⟩ = some (.int .u32 (L.getD i 0)))
theorem RowAt.below {w w' : World} {v : Value} {L : List Int} (h : RowAt w v L) (hb : Below w.heap.size w w') : RowAt w' v L := by
  obtain ⟨a, c, rfl, h | ⟨b, o, rfl, hlt, hc⟩⟩ := h
  · exact ⟨a, c, rfl, Or.inl h⟩
  · exact ⟨_, c, rfl, Or.inr ⟨b, o, rfl, Nat.lt_of_lt_of_le hlt hb.size, fun i hi => (hb.cell (p := ⟨b, o + i, none⟩) hlt).trans (hc i hi)⟩⟩
def SameRel (w : World) (n : Nat) (i : Value) (wr : World) : Prop := ∃ k m : Nat, i = .int .i64 k ∧ k ≤ n ∧ wr = w.drewN m
end Go.Proofs.YtfpcoomkbmfchaaGreatDoor
