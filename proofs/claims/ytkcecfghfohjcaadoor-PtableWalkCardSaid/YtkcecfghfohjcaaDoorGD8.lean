/- Texts of mine, joined: M8. What each says and under which conditions stands at its head, below. -/
import Derived.Test.YtkcecfghfohjcaaDoorGD
import Derived.BigGuardPart
/- What is read of words that were set, and the contracts of package mem's calls over any numbers; the walk of MemEdges. Conditions: none. -/
namespace Go.Proofs.YtkcecfghfohjcaaDoor
open Go.RowKit
set_option maxRecDepth 100000

theorem getD_set (L : List Int) (i j : Nat) (v : Int) (hi : i < L.length) : (L.set i v).getD j 0 = if i = j then v else L.getD j 0 := by
  simp only [List.getD_eq_getElem?_getD, List.getElem?_set]
  by_cases h : i = j
  · subst h; simp [hi]
  · simp [h]
theorem getD_rowOf (L : List Int) (f q : Nat) (hq : q < 32) : (rowOf L f).getD q 0 = L.getD (f * 32 + q) 0 := by
  simp only [rowOf, List.getD_eq_getElem?_getD, List.getElem?_take, List.getElem?_drop, if_pos hq]
theorem getD_putRow {L R : List Int} {n t f q : Nat} (hl : L.length = n * 32) (ht : t < n) (hR : R.length = 32) (hq : q < 32) : (putRow L t R).getD (f * 32 + q) 0 = if t = f then R.getD q 0 else L.getD (f * 32 + q) 0 := by
  have e1 : (L.take (t * 32)).length = t * 32 := by rw [List.length_take]; omega
  simp only [putRow, List.getD_eq_getElem?_getD]
  by_cases h : t = f
  · subst h
    rw [if_pos rfl, List.getElem?_append_left (by rw [List.length_append, e1, hR]; omega), List.getElem?_append_right (by rw [e1]; omega), e1, show t * 32 + q - t * 32 = q by omega]
  · rw [if_neg h]
    by_cases h2 : f < t
    · rw [List.getElem?_append_left (by rw [List.length_append, e1, hR]; omega), List.getElem?_append_left (by rw [e1]; omega), List.getElem?_take, if_pos (by omega)]
    · rw [List.getElem?_append_right (by rw [List.length_append, e1, hR]; omega), List.length_append, e1, hR, List.getElem?_drop, show t * 32 + 32 + (f * 32 + q - (t * 32 + 32)) = f * 32 + q by omega]
theorem zeros_get (q : Nat) : zeros.getD q 0 = 0 := by
  simp only [zeros, List.getD_eq_getElem?_getD, List.getElem?_replicate]
  split <;> rfl
theorem replicate_get (n q : Nat) : (List.replicate n (0 : Int)).getD q 0 = 0 := by
  simp only [List.getD_eq_getElem?_getD, List.getElem?_replicate]
  split <;> rfl

/-- Where a place's word stands. -/
def idx (f q : Int) : Nat := f.toNat * 32 + q.toNat
theorem idx_lt {n : Nat} {f q : Int} (h : okFQ n f q) : idx f q < n * 32 := by unfold okFQ at h; unfold idx; omega

theorem read_i (mp fb n : Nat) (L : List Int) (f q : Int) (w : World) (hm : MemSt w mp fb n L) (h : okFQ n f q) :
    Calls Tryd.prog 77 #[.pointer (some ⟨mp, 0, none⟩), .int .i64 f, .int .i64 q] w fun e w' => e = .returned (.tuple #[.int .u32 (L.getD (idx f q) 0), .int .i64 0]) ∧ Below w.heap.size w w' := by
  unfold okFQ at h
  obtain ⟨f', rfl⟩ := Int.eq_ofNat_of_zero_le h.1
  obtain ⟨q', rfl⟩ := Int.eq_ofNat_of_zero_le h.2.2.1
  exact read_ok mp fb n f' q' L w hm (by omega) (by omega)
theorem write_i (mp fb n : Nat) (L : List Int) (f q v : Int) (w : World) (hm : MemSt w mp fb n L) (h : okFQ n f q) :
    Calls Tryd.prog 68 #[.pointer (some ⟨mp, 0, none⟩), .int .i64 f, .int .i64 q, .int .u32 v] w fun e w' => e = .returned (.int .i64 0) ∧ Puts w w' mp fb n (L.set (idx f q) v) := by
  unfold okFQ at h
  obtain ⟨f', rfl⟩ := Int.eq_ofNat_of_zero_le h.1
  obtain ⟨q', rfl⟩ := Int.eq_ofNat_of_zero_le h.2.2.1
  exact write_ok mp fb n f' q' L v w hm (by omega) (by omega)
theorem zero_i (mp fb n : Nat) (L : List Int) (f : Int) (w : World) (hm : MemSt w mp fb n L) (h : okFQ n f 0) :
    Calls Tryd.prog 66 #[.pointer (some ⟨mp, 0, none⟩), .int .i64 f] w fun e w' => e = .returned (.int .i64 0) ∧ Puts w w' mp fb n (putRow L f.toNat zeros) := by
  unfold okFQ at h
  obtain ⟨f', rfl⟩ := Int.eq_ofNat_of_zero_le h.1
  exact zero_ok mp fb n f' L w hm (by omega)
/-- A memory of the law's own. -/
structure OwnMem (W w : World) (mp fb n : Nat) (L : List Int) : Prop where
  st : MemSt w mp fb n L
  below : Below W.heap.size W w
  lm : W.heap.size ≤ mp
  lf : W.heap.size ≤ fb
theorem OwnMem.put {W w w' : World} {mp fb n : Nat} {L L' : List Int} (h : OwnMem W w mp fb n L) (k : Puts w w' mp fb n L') : OwnMem W w' mp fb n L' := ⟨k.st, k.kept h.below h.below.size h.lf, h.lm, h.lf⟩
theorem OwnMem.step {W w w' : World} {mp fb n : Nat} {L : List Int} (h : OwnMem W w mp fb n L) (k : Below w.heap.size w w') : OwnMem W w' mp fb n L := ⟨h.st.below k, h.below.trans (k.mono h.below.size), h.lm, h.lf⟩
theorem OwnMem.new {W w : World} {n : Nat} {e : Ending} (h : NewPost n W e w) : ∃ mp fb, e = .returned (.tuple #[.pointer (some ⟨mp, 0, none⟩), .int .i64 0]) ∧ OwnMem W w mp fb n (List.replicate (n * 32) 0) := by
  obtain ⟨mp, fb, he, hm, h1, h2, hb⟩ := h
  exact ⟨mp, fb, he, hm, hb, h1, h2⟩

end Go.Proofs.YtkcecfghfohjcaaDoor
