/- Texts of mine, joined: K3 K4. What each says and under which conditions stands at its head, below. -/
import Derived.Test.YtfpcoomkbmfchaaGreatDoorGG
import Derived.WalkMore
/- The contract of find, package walk: the walk from a root to the entry of an address's page. Conditions: the tables of package word read as laid; the memory lies as made, or there is none. -/
namespace Go.Proofs.YtfpcoomkbmfchaaGreatDoor
open Go.RowKit
set_option maxRecDepth 100000

/-- What lies behind the call's start: the result's cells, and old memory as it was. -/
structure FindSt (w w1 : World) (p x c : Bool) (f : Int) : Prop where
  below : Below w.heap.size w w1
  res : w1.heap[w.heap.size]? = some (.cells #[.bool p, .bool x, .bool c, .int .i64 f] 109 (0, 0))
theorem FindSt.start (w : World) : FindSt w (w.alloc (.cells #[.bool false, .bool false, .bool false, .int .i64 0] 109)) false false false 0 := ⟨(Below.refl _ _).alloc (Nat.le_refl _) _, heap_alloc_new w _⟩
theorem FindSt.step {w w1 w2 : World} {p x c : Bool} {f : Int} (h : FindSt w w1 p x c f) (hb : Below w1.heap.size w1 w2) : FindSt w w2 p x c f := ⟨h.below.trans (hb.mono h.below.size), below_block hb h.res⟩
/-- Four cells of the result are put. -/
def put4 (w w1 : World) (p x c : Bool) (f : Int) : World := (((w1.setCell ⟨w.heap.size, 0, none⟩ (.bool p)).setCell ⟨w.heap.size, 1, none⟩ (.bool x)).setCell ⟨w.heap.size, 2, none⟩ (.bool c)).setCell ⟨w.heap.size, 3, none⟩ (.int .i64 f)
theorem FindSt.put {w w1 : World} {p x c : Bool} {f : Int} (h : FindSt w w1 p x c f) (p' x' c' : Bool) (f' : Int) : FindSt w (put4 w w1 p' x' c' f') p' x' c' f' := by
  refine ⟨below_four h.below _ _ _ _, ?_⟩
  have h0 := heap_setCell_same w1 w.heap.size 0 _ _ (.bool p') h.res
  have h1 := heap_setCell_same _ w.heap.size 1 _ _ (.bool x') h0
  have h2 := heap_setCell_same _ w.heap.size 2 _ _ (.bool c') h1
  exact heap_setCell_same _ w.heap.size 3 _ _ (.int .i64 f') h2
end Go.Proofs.YtfpcoomkbmfchaaGreatDoor

/- The contracts of package walk's At, Look, Load, Store. Conditions: the tables of package word read as laid; the memory lies as made, or there is none. -/
namespace Go.Proofs.YtfpcoomkbmfchaaGreatDoor
open Go.RowKit
set_option maxRecDepth 100000

/-- What find tells: the entry, the place, the fault. -/
def findR (n : Nat) (L : List Int) (root va : Int) : Ent × Int × Int :=
  if 32768 ≤ va then (z0, 0, 1) else
  ((pageE n L root (va / 32)).1, (if (pageE n L root (va / 32)).2 = 0 then va % 32 else 0), (pageE n L root (va / 32)).2)

/-- Where an address is: find's answer, by the kind of access. -/
def AtArgs (p : Option Addr) (root va : Int) (wr : Bool) : Array Value := #[.pointer p, .int .i64 root, .int .u32 va, .bool wr]
end Go.Proofs.YtfpcoomkbmfchaaGreatDoor
