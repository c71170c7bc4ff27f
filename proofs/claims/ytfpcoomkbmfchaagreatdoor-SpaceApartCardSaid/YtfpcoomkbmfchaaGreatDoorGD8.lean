/- Texts of mine, joined: M8. What each says and under which conditions stands at its head, below. -/
import Derived.Test.YtfpcoomkbmfchaaGreatDoorGD
import Derived.BigGuardPart
/- What is read of words that were set, and the contracts of package mem's calls over any numbers; the walk of MemEdges. Conditions: none. -/
namespace Go.Proofs.YtfpcoomkbmfchaaGreatDoor
open Go.RowKit
set_option maxRecDepth 100000

/-- Where a place's word stands. -/
def idx (f q : Int) : Nat := f.toNat * 32 + q.toNat
theorem read_i (mp fb n : Nat) (L : List Int) (f q : Int) (w : World) (hm : MemSt w mp fb n L) (h : okFQ n f q) :
    Calls Tryz.prog 39 #[.pointer (some ⟨mp, 0, none⟩), .int .i64 f, .int .i64 q] w fun e w' => e = .returned (.tuple #[.int .u32 (L.getD (idx f q) 0), .int .i64 0]) ∧ Below w.heap.size w w' := by
  unfold okFQ at h
  obtain ⟨f', rfl⟩ := Int.eq_ofNat_of_zero_le h.1
  obtain ⟨q', rfl⟩ := Int.eq_ofNat_of_zero_le h.2.2.1
  exact read_ok mp fb n f' q' L w hm (by omega) (by omega)
/-- A memory of the law's own. -/
structure OwnMem (W w : World) (mp fb n : Nat) (L : List Int) : Prop where
  st : MemSt w mp fb n L
  below : Below W.heap.size W w
  lm : W.heap.size ≤ mp
  lf : W.heap.size ≤ fb
theorem OwnMem.step {W w w' : World} {mp fb n : Nat} {L : List Int} (h : OwnMem W w mp fb n L) (k : Below w.heap.size w w') : OwnMem W w' mp fb n L := ⟨h.st.below k, h.below.trans (k.mono h.below.size), h.lm, h.lf⟩
theorem OwnMem.new {W w : World} {n : Nat} {e : Ending} (h : NewPost n W e w) : ∃ mp fb, e = .returned (.tuple #[.pointer (some ⟨mp, 0, none⟩), .int .i64 0]) ∧ OwnMem W w mp fb n (List.replicate (n * 32) 0) := by
  obtain ⟨mp, fb, he, hm, h1, h2, hb⟩ := h
  exact ⟨mp, fb, he, hm, hb, h1, h2⟩

end Go.Proofs.YtfpcoomkbmfchaaGreatDoor
