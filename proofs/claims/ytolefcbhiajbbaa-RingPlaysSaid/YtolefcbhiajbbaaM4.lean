/- The contracts of package mem's Read and Write. Conditions: the memory lies as New laid it, or there is none. -/
import Derived.Test.YtolefcbhiajbbaaM3
import Derived.OneCell
namespace Go.Proofs.Ytolefcbhiajbbaa
open Go.RowKit
set_option maxRecDepth 100000

/-- There is such a place. -/
def okFQ (n : Nat) (f q : Int) : Prop := 0 ≤ f ∧ f < n ∧ 0 ≤ q ∧ q < 32

/-- No memory: none is there, or nobody made it. -/
def NoMem (w : World) (p : Option Addr) : Prop := p = none ∨ ∃ mp, p = some ⟨mp, 0, none⟩ ∧ w.cell? ⟨mp, 0, none⟩ = some (.slice none 0 0)

theorem below_block {w w' : World} {k : Nat} {o : Obj} (hb : Below w.heap.size w w') (h : w.heap[k]? = some o) : w'.heap[k]? = some o :=
  (hb.block k (lt_of_block h)).trans h
theorem NoMem.below {w w' : World} {p : Option Addr} (h : NoMem w p) (hb : Below w.heap.size w w') : NoMem w' p := by
  rcases h with h | ⟨mp, h, k⟩
  · exact Or.inl h
  · exact Or.inr ⟨mp, h, (hb.cell (p := ⟨mp, 0, none⟩) (block_lt_of_cell k)).trans k⟩
theorem below_drewN {B : Nat} {a w : World} (h : Below B a w) (n : Nat) : Below B a (w.drewN n) := ⟨h.os, h.tape, h.output, h.size, h.block⟩
theorem below_from_drewN {B : Nat} {w w' : World} {n : Nat} (h : Below B (w.drewN n) w') : Below B w w' := ⟨h.os, h.tape, h.output, h.size, h.block⟩
theorem below_setRow {B : Nat} {a w : World} (h : Below B a w) {g : Nat} (hg : B ≤ g) (cs : Array Value) : Below B a (w.setRow g cs) :=
  h.trans ⟨rfl, rfl, rfl, by simp, fun k hk => by simp only [World.setRow, Array.getElem?_modify]; rw [if_neg (by omega)]⟩

theorem AskSt.start (w : World) (p : Value) (f q : Int) (t1 t2 t3 : TypeId) : AskSt (((w.alloc (.cells #[p] t1)).alloc (.cells #[.int .i64 f] t2)).alloc (.cells #[.int .i64 q] t3)) w.heap.size (w.heap.size + 1) (w.heap.size + 2) p f q := by
  refine ⟨?_, ?_, ?_⟩
  · rw [World.cell?_alloc_past _ _ _ (by simp; omega), World.cell?_alloc_past _ _ _ (by simp), World.cell?_alloc_at _ _ _ _ rfl]; rfl
  · rw [World.cell?_alloc_past _ _ _ (by simp), World.cell?_alloc_at _ _ _ _ (by simp)]; rfl
  · rw [World.cell?_alloc_at _ _ _ _ (by simp)]; rfl

theorem two_new (w : World) (u v : Value) (t1 t2 : TypeId) : ((w.alloc (.cells #[u] t1)).alloc (.cells #[v] t2)).heap[w.heap.size]? = some (.cells #[u] t1 (0, 0)) ∧ ((w.alloc (.cells #[u] t1)).alloc (.cells #[v] t2)).heap[w.heap.size + 1]? = some (.cells #[v] t2 (0, 0)) :=
  ⟨heap_alloc2_old _ _ _, heap_alloc2_new _ _ _⟩
theorem below_two (w : World) (u v : Obj) : Below w.heap.size w ((w.alloc u).alloc v) := ((Below.refl _ _).alloc (Nat.le_refl _) _).alloc (by simp) _

end Go.Proofs.Ytolefcbhiajbbaa
