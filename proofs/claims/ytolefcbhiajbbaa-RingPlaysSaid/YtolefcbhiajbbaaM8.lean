/- What is read of words that were set, and the contracts of package mem's calls over any numbers; the walk of MemEdges. Conditions: none. -/
import Derived.Test.YtolefcbhiajbbaaM7
import Derived.BigGuardPart
namespace Go.Proofs.Ytolefcbhiajbbaa
open Go.RowKit
set_option maxRecDepth 100000

theorem getD_set (L : List Int) (i j : Nat) (v : Int) (hi : i < L.length) : (L.set i v).getD j 0 = if i = j then v else L.getD j 0 := by
  simp only [List.getD_eq_getElem?_getD, List.getElem?_set]
  by_cases h : i = j
  · subst h; simp [hi]
  · simp [h]
theorem getD_rowOf (L : List Int) (f q : Nat) (hq : q < 32) : (rowOf L f).getD q 0 = L.getD (f * 32 + q) 0 := by
  simp only [rowOf, List.getD_eq_getElem?_getD, List.getElem?_take, List.getElem?_drop, if_pos hq]
theorem getD_putRow {L R : List Int} {n t f q : Nat} (hl : L.length = n * 32) (ht : t < n) (hR : R.length = 32) (hq : q < 32) : (putRow L t R).getD (f * 32 + q) 0 = if t = f then R.getD q 0 else L.getD (f * 32 + q) 0 := by
  have e1 : (L.take (t * 32)).length = t * 32 := by rw [List.length_take]; omega
  simp only [putRow, List.getD_eq_getElem?_getD]
  by_cases h : t = f
  · subst h
    rw [if_pos rfl, List.getElem?_append_left (by rw [List.length_append, e1, hR]; omega), List.getElem?_append_right (by rw [e1]; omega), e1, show t * 32 + q - t * 32 = q by omega]
  · rw [if_neg h]
    by_cases h2 : f < t
    · rw [List.getElem?_append_left (by rw [List.length_append, e1, hR]; omega), List.getElem?_append_left (by rw [e1]; omega), List.getElem?_take, if_pos (by omega)]
    · rw [List.getElem?_append_right (by rw [List.length_append, e1, hR]; omega), List.length_append, e1, hR, List.getElem?_drop, show t * 32 + 32 + (f * 32 + q - (t * 32 + 32)) = f * 32 + q by omega]
theorem zeros_get (q : Nat) : zeros.getD q 0 = 0 := by
  simp only [zeros, List.getD_eq_getElem?_getD, List.getElem?_replicate]
  split <;> rfl
theorem replicate_get (n q : Nat) : (List.replicate n (0 : Int)).getD q 0 = 0 := by
  simp only [List.getD_eq_getElem?_getD, List.getElem?_replicate]
  split <;> rfl

/-- Where a place's word stands. -/
def idx (f q : Int) : Nat := f.toNat * 32 + q.toNat
theorem idx_lt {n : Nat} {f q : Int} (h : okFQ n f q) : idx f q < n * 32 := by unfold okFQ at h; unfold idx; omega

end Go.Proofs.Ytolefcbhiajbbaa
