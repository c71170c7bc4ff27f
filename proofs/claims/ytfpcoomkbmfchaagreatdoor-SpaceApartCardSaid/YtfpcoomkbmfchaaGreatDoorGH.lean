/- Texts of mine, joined: K3 K4. What each says and under which conditions stands at its head, below. -/
import Derived.Test.YtfpcoomkbmfchaaGreatDoorGG
import Derived.WalkMore
/- The contract of find, package walk: the walk from a root to the entry of an address's page. Conditions: the tables of package word read as laid; the memory lies as made, or there is none. -/
namespace Go.Proofs.YtfpcoomkbmfchaaGreatDoor
open Go.RowKit
set_option maxRecDepth 100000

/-- What lies behind the call's start: the result's cells, and old memory as it was. -/
structure FindSt (w w1 : World) (p x c : Bool) (f : Int) : Prop where
  below : Below w.heap.size w w1
  res : w1.heap[w.heap.size]? = some (.cells #[.bool p, .bool x, .bool c, .int .i64 f] 109 (0, 0))
/-- Four cells of the result are put. -/
def put4 (w w1 : World) (p x c : Bool) (f : Int) : World := (((w1.setCell ⟨w.heap.size, 0, none⟩ (.bool p)).setCell ⟨w.heap.size, 1, none⟩ (.bool x)).setCell ⟨w.heap.size, 2, none⟩ (.bool c)).setCell ⟨w.heap.size, 3, none⟩ (.int .i64 f)
end Go.Proofs.YtfpcoomkbmfchaaGreatDoor

/- The contracts of package walk's At, Look, Load, Store. Conditions: the tables of package word read as laid; the memory lies as made, or there is none. -/
namespace Go.Proofs.YtfpcoomkbmfchaaGreatDoor
open Go.RowKit
set_option maxRecDepth 100000

/-- What find tells: the entry, the place, the fault. -/
def findR (n : Nat) (L : List Int) (root va : Int) : Ent × Int × Int :=
  if 32768 ≤ va then (z0, 0, 1) else
  ((pageE n L root (va / 32)).1, (if (pageE n L root (va / 32)).2 = 0 then va % 32 else 0), (pageE n L root (va / 32)).2)

/-- Where an address is: find's answer, by the kind of access. -/
def AtArgs (p : Option Addr) (root va : Int) (wr : Bool) : Array Value := #[.pointer p, .int .i64 root, .int .u32 va, .bool wr]
end Go.Proofs.YtfpcoomkbmfchaaGreatDoor
