/- The contracts of package octet's New, Fine, Left, spoil, take. Condition: the reader lies as New laid it, or is spoilt, or there is none. -/
import Derived.Test.YtepfljfaclakeaaB3
namespace Go.Proofs.Ytepfljfaclakeaa
open Go.RowKit
set_option maxRecDepth 100000

/-- Bytes lie from a place on. -/
def BytesAt (w : World) (g o : Nat) (l : List UInt8) : Prop := ∀ i, i < l.length → w.cell? ⟨g, o + i, none⟩ = some (.int .u8 ((l.getD i 0).toNat : Int))
theorem BytesAt.grown {w w' : World} {g o b : Nat} {l : List UInt8} (h : BytesAt w g o l) (hg : w.grownBy w' (some b)) (hne : g ≠ b) : BytesAt w' g o l :=
  fun i hi => hg.cell (h i hi) (fun e => hne (Option.some.inj e))
theorem BytesAt.below {w w' : World} {g o : Nat} {l : List UInt8} (h : BytesAt w g o l) (hb : Below w.heap.size w w') : BytesAt w' g o l :=
  fun i hi => (hb.cell (p := ⟨g, o + i, none⟩) (block_lt_of_cell (h i hi))).trans (h i hi)
theorem BytesAt.drop {w : World} {g o : Nat} {l : List UInt8} (h : BytesAt w g o l) (k : Nat) : BytesAt w g (o + k) (l.drop k) := fun i hi => by
  have hi' : k + i < l.length := by simp at hi; omega
  have := h (k + i) hi'
  rw [Nat.add_assoc, this]
  simp [List.getD_eq_getElem?_getD]
theorem BytesAt.take {w : World} {g o : Nat} {l : List UInt8} (h : BytesAt w g o l) (k : Nat) : BytesAt w g o (l.take k) := fun i hi => by
  have hi' : i < k ∧ i < l.length := by simp at hi; omega
  rw [h i hi'.2]
  simp [List.getD_eq_getElem?_getD, hi'.1]
theorem BytesAt.heap {w w' : World} {g o : Nat} {l : List UInt8} (h : BytesAt w g o l) (e : w'.heap = w.heap) : BytesAt w' g o l := fun i hi => by
  rw [World.cell?_of_block (w := w) (by rw [e])]; exact h i hi
/-- How many bytes are left. -/
def leftN (s : Option (List UInt8)) : Nat := (s.getD []).length
/-- A row of bytes as '[]byte(s)' lays it. -/
theorem bytesRow_cells (w : World) (s : ByteArray) (cap : Nat) (t : TypeId) (fr : Nat × Nat) (l : List UInt8) (hl : s = ⟨l.toArray⟩) : BytesAt (w.alloc (.cells (bytesRow s cap) t fr)) w.heap.size 0 l := fun i hi => by
  subst hl
  rw [Nat.zero_add, cell_of_row _ _ _ _ _ _ (heap_alloc_new w _), bytesRow_at _ _ _ (by simpa using hi)]
  simp [List.getD_eq_getElem?_getD, hi]
/-- Are there so many bytes? -/
def has (s : Option (List UInt8)) (k : Nat) : Prop := ∃ l, s = some l ∧ k ≤ l.length
end Go.Proofs.Ytepfljfaclakeaa
