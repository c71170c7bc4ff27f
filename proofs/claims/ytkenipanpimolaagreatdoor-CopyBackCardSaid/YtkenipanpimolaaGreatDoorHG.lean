/- Texts of mine, joined: D18 D10 D11 D13 D14 D15 D12 D16 D17 D19 D20 D22 D24. What each says and under which conditions stands at its head, below. -/
import Derived.Test.YtkenipanpimolaaGreatDoorHE
import Derived.Laws.AppendOwnNone
import Derived.StillTailTactics
/- What the sentinel of layer 14's laws does: some answers that the document fixes. No condition. -/
namespace Go.Proofs.YtkenipanpimolaaGreatDoor
open Go.RowKit Go.Maps
set_option maxRecDepth 100000

end Go.Proofs.YtkenipanpimolaaGreatDoor

/- The contract of the document's Check of layer 14. Condition: the slice lies in memory. -/
namespace Go.Proofs.YtkenipanpimolaaGreatDoor
open Go.RowKit Go.Maps
set_option maxRecDepth 100000

end Go.Proofs.YtkenipanpimolaaGreatDoor

/- The contracts of the document's Find, Covers, Pages, Same, meet of layer 14. Condition: the slices lie in memory. -/
namespace Go.Proofs.YtkenipanpimolaaGreatDoor
open Go.RowKit Go.Maps
set_option maxRecDepth 100000

end Go.Proofs.YtkenipanpimolaaGreatDoor

/- The contracts of the document's outside and less of layer 14. Condition: the slice lies in memory. -/
namespace Go.Proofs.YtkenipanpimolaaGreatDoor
open Go.RowKit Go.Maps
set_option maxRecDepth 100000

/-- A row of one's own, told as areas. -/
def OwnD (base : Nat) (w : World) (v : Value) (L : List Ar) : Prop := w.ownsRow base 62 3 v L.length (arsV L)
end Go.Proofs.YtkenipanpimolaaGreatDoor

/- The contracts of the document's less and few of layer 14. Condition: the slice lies in memory. -/
namespace Go.Proofs.YtkenipanpimolaaGreatDoor
open Go.RowKit Go.Maps
set_option maxRecDepth 100000

end Go.Proofs.YtkenipanpimolaaGreatDoor

/- The contract of the document's with of layer 14: an area more, joined with those at its sides. Condition: the slice lies in memory. Written by gen/gen_d15.py. -/
namespace Go.Proofs.YtkenipanpimolaaGreatDoor
open Go.RowKit Go.Maps
set_option maxRecDepth 100000

def boxD (b : Ar) : Obj := .cells #[.int .i64 b.1, .int .i64 b.2.1, .bool b.2.2] 62 (0, 0)
/-- Where the document's with stands: what it kept, and the area that grows, in its box. -/
structure WithD (w wr : World) (s : Value) (out : List Ar) (b : Ar) : Prop where
  row : OwnD (w.heap.size + 1) wr s out
  box : wr.heap[w.heap.size]? = some (boxD b)
  below : Below w.heap.size w wr
/-- What with answers. -/
def WithPost (w : World) (g : Int → Option Bool) (e : Ending) (w' : World) : Prop := ∃ v R, e = .returned v ∧ ArAt w' v R ∧ UpD R ∧ (∀ p, atD R p = g p) ∧ Below w.heap.size w w'
end Go.Proofs.YtkenipanpimolaaGreatDoor

/- The contracts of the document's Pages, Same of layer 14. Condition: the slices lie in memory. -/
namespace Go.Proofs.YtkenipanpimolaaGreatDoor
open Go.RowKit Go.Maps
set_option maxRecDepth 100000

end Go.Proofs.YtkenipanpimolaaGreatDoor

/- The contracts of the document's Add, Cut, Set of layer 14. Condition: the slice lies in memory. -/
namespace Go.Proofs.YtkenipanpimolaaGreatDoor
open Go.RowKit Go.Maps
set_option maxRecDepth 100000

end Go.Proofs.YtkenipanpimolaaGreatDoor

/- The contracts of the document's Cut and Set of layer 14. Condition: the slice lies in memory. -/
namespace Go.Proofs.YtkenipanpimolaaGreatDoor
open Go.RowKit Go.Maps
set_option maxRecDepth 100000

end Go.Proofs.YtkenipanpimolaaGreatDoor

/- The walk of the law RegionCheck. Condition: the slice lies in memory. -/
namespace Go.Proofs.YtkenipanpimolaaGreatDoor
open Go.RowKit Go.Maps
set_option maxRecDepth 100000

/-- A slice of areas that came in. -/
def ArgAr (w : World) (v : Value) (L : List Ar) : Prop := ∃ a c, v = .slice a L.length c ∧ (a = none → c = 0) ∧ (∀ x ∈ L, WideD x) ∧ (L = [] ∨ ∃ b o, a = some ⟨b, o, none⟩ ∧ b < w.heap.size ∧ ∀ i, i < L.length → CellsD w b (o + i * 3) (L.getD i default))
end Go.Proofs.YtkenipanpimolaaGreatDoor

/- A copy of what came in; the walk of the law RegionAdd. Condition: the slice lies in memory. -/
namespace Go.Proofs.YtkenipanpimolaaGreatDoor
open Go.RowKit Go.Maps
set_option maxRecDepth 100000

/-- What an append may take: nil, or cells that are there. -/
def SrcD (w : World) (sv : Value) (m : Nat) (news : List Value) : Prop := (sv = .slice none 0 0 ∧ m = 0 ∧ news = []) ∨ ∃ ad c, sv = .slice (some ad) m c ∧ ∀ j u, news[j]? = some u → w.cell? (ad.add j) = some u
end Go.Proofs.YtkenipanpimolaaGreatDoor

/- The walk of the law RegionBack. Condition: the slice lies in memory. -/
namespace Go.Proofs.YtkenipanpimolaaGreatDoor
open Go.RowKit Go.Maps
set_option maxRecDepth 100000

end Go.Proofs.YtkenipanpimolaaGreatDoor

/- The walk of the law RegionCovers. Condition: the slice lies in memory. Written by gen/gen_d24.py. -/
namespace Go.Proofs.YtkenipanpimolaaGreatDoor
open Go.RowKit Go.Maps
set_option maxRecDepth 100000

end Go.Proofs.YtkenipanpimolaaGreatDoor
