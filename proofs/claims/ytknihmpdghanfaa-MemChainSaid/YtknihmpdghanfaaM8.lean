/- What is read of words that were set, and the contracts of package mem's calls over any numbers; the walk of MemEdges. Conditions: none. -/
import Derived.Test.YtknihmpdghanfaaM7
import Derived.BigGuardPart
namespace Go.Proofs.Ytknihmpdghanfaa
open Go.RowKit

theorem getD_set (L : List Int) (i j : Nat) (v : Int) (hi : i < L.length) : (L.set i v).getD j 0 = if i = j then v else L.getD j 0 := by
  simp only [List.getD_eq_getElem?_getD, List.getElem?_set]
  by_cases h : i = j
  · subst h; simp [hi]
  · simp [h]
theorem getD_rowOf (L : List Int) (f q : Nat) (hq : q < 32) : (rowOf L f).getD q 0 = L.getD (f * 32 + q) 0 := by
  simp only [rowOf, List.getD_eq_getElem?_getD, List.getElem?_take, List.getElem?_drop, if_pos hq]
theorem getD_putRow {L R : List Int} {n t f q : Nat} (hl : L.length = n * 32) (ht : t < n) (hR : R.length = 32) (hq : q < 32) : (putRow L t R).getD (f * 32 + q) 0 = if t = f then R.getD q 0 else L.getD (f * 32 + q) 0 := by
  have e1 : (L.take (t * 32)).length = t * 32 := by rw [List.length_take]; omega
  simp only [putRow, List.getD_eq_getElem?_getD]
  by_cases h : t = f
  · subst h
    rw [if_pos rfl, List.getElem?_append_left (by rw [List.length_append, e1, hR]; omega), List.getElem?_append_right (by rw [e1]; omega), e1, show t * 32 + q - t * 32 = q by omega]
  · rw [if_neg h]
    by_cases h2 : f < t
    · rw [List.getElem?_append_left (by rw [List.length_append, e1, hR]; omega), List.getElem?_append_left (by rw [e1]; omega), List.getElem?_take, if_pos (by omega)]
    · rw [List.getElem?_append_right (by rw [List.length_append, e1, hR]; omega), List.length_append, e1, hR, List.getElem?_drop, show t * 32 + 32 + (f * 32 + q - (t * 32 + 32)) = f * 32 + q by omega]
theorem zeros_get (q : Nat) : zeros.getD q 0 = 0 := by
  simp only [zeros, List.getD_eq_getElem?_getD, List.getElem?_replicate]
  split <;> rfl
theorem replicate_get (n q : Nat) : (List.replicate n (0 : Int)).getD q 0 = 0 := by
  simp only [List.getD_eq_getElem?_getD, List.getElem?_replicate]
  split <;> rfl

/-- Where a place's word stands. -/
def idx (f q : Int) : Nat := f.toNat * 32 + q.toNat
theorem idx_lt {n : Nat} {f q : Int} (h : okFQ n f q) : idx f q < n * 32 := by unfold okFQ at h; unfold idx; omega

theorem read_i (mp fb n : Nat) (L : List Int) (f q : Int) (w : World) (hm : MemSt w mp fb n L) (h : okFQ n f q) :
    Calls Try.prog 14 #[.pointer (some ⟨mp, 0, none⟩), .int .i64 f, .int .i64 q] w fun e w' => e = .returned (.tuple #[.int .u32 (L.getD (idx f q) 0), .int .i64 0]) ∧ Below w.heap.size w w' := by
  unfold okFQ at h
  obtain ⟨f', rfl⟩ := Int.eq_ofNat_of_zero_le h.1
  obtain ⟨q', rfl⟩ := Int.eq_ofNat_of_zero_le h.2.2.1
  exact read_ok mp fb n f' q' L w hm (by omega) (by omega)
theorem write_i (mp fb n : Nat) (L : List Int) (f q v : Int) (w : World) (hm : MemSt w mp fb n L) (h : okFQ n f q) :
    Calls Try.prog 16 #[.pointer (some ⟨mp, 0, none⟩), .int .i64 f, .int .i64 q, .int .u32 v] w fun e w' => e = .returned (.int .i64 0) ∧ Puts w w' mp fb n (L.set (idx f q) v) := by
  unfold okFQ at h
  obtain ⟨f', rfl⟩ := Int.eq_ofNat_of_zero_le h.1
  obtain ⟨q', rfl⟩ := Int.eq_ofNat_of_zero_le h.2.2.1
  exact write_ok mp fb n f' q' L v w hm (by omega) (by omega)
theorem zero_i (mp fb n : Nat) (L : List Int) (f : Int) (w : World) (hm : MemSt w mp fb n L) (h : okFQ n f 0) :
    Calls Try.prog 17 #[.pointer (some ⟨mp, 0, none⟩), .int .i64 f] w fun e w' => e = .returned (.int .i64 0) ∧ Puts w w' mp fb n (putRow L f.toNat zeros) := by
  unfold okFQ at h
  obtain ⟨f', rfl⟩ := Int.eq_ofNat_of_zero_le h.1
  exact zero_ok mp fb n f' L w hm (by omega)
theorem copy_i (mp fb n : Nat) (L : List Int) (t f : Int) (w : World) (hm : MemSt w mp fb n L) (ht : okFQ n t 0) (h : okFQ n f 0) :
    Calls Try.prog 18 #[.pointer (some ⟨mp, 0, none⟩), .int .i64 t, .int .i64 f] w fun e w' => e = .returned (.int .i64 0) ∧ Puts w w' mp fb n (putRow L t.toNat (rowOf L f.toNat)) := by
  unfold okFQ at h ht
  obtain ⟨f', rfl⟩ := Int.eq_ofNat_of_zero_le h.1
  obtain ⟨t', rfl⟩ := Int.eq_ofNat_of_zero_le ht.1
  exact copy_ok mp fb n f' t' L w hm (by omega) (by omega)
theorem page_i (mp fb n : Nat) (L : List Int) (f : Int) (w : World) (hm : MemSt w mp fb n L) (h : okFQ n f 0) :
    Calls Try.prog 15 #[.pointer (some ⟨mp, 0, none⟩), .int .i64 f] w fun e w' => ∃ v, e = .returned (.tuple #[v, .int .i64 0]) ∧ NewRow w.heap.size w' v (rowOf L f.toNat) ∧ Below w.heap.size w w' := by
  unfold okFQ at h
  obtain ⟨f', rfl⟩ := Int.eq_ofNat_of_zero_le h.1
  exact page_ok mp fb n f' L w hm (by omega)

/-- A memory of the law's own. -/
structure OwnMem (W w : World) (mp fb n : Nat) (L : List Int) : Prop where
  st : MemSt w mp fb n L
  below : Below W.heap.size W w
  lm : W.heap.size ≤ mp
  lf : W.heap.size ≤ fb
theorem OwnMem.put {W w w' : World} {mp fb n : Nat} {L L' : List Int} (h : OwnMem W w mp fb n L) (k : Puts w w' mp fb n L') : OwnMem W w' mp fb n L' := ⟨k.st, k.kept h.below h.below.size h.lf, h.lm, h.lf⟩
theorem OwnMem.step {W w w' : World} {mp fb n : Nat} {L : List Int} (h : OwnMem W w mp fb n L) (k : Below w.heap.size w w') : OwnMem W w' mp fb n L := ⟨h.st.below k, h.below.trans (k.mono h.below.size), h.lm, h.lf⟩
theorem OwnMem.new {W w : World} {n : Nat} {e : Ending} (h : NewPost n W e w) : ∃ mp fb, e = .returned (.tuple #[.pointer (some ⟨mp, 0, none⟩), .int .i64 0]) ∧ OwnMem W w mp fb n (List.replicate (n * 32) 0) := by
  obtain ⟨mp, fb, he, hm, h1, h2, hb⟩ := h
  exact ⟨mp, fb, he, hm, hb, h1, h2⟩

set_option maxRecDepth 100000 in
set_option maxHeartbeats 2000000 in
theorem edges_bad (n v u : Int) (w : World) (hn : n < 1 ∨ 1024 < n) : Calls Try.prog 8 #[.int .i64 n, .int .u32 v, .int .u32 u] w fun e w' => e = .returned (.bool true) ∧ Below w.heap.size w w' := by
  have HN := Lib.hid hn
  rcases hn with hn | hn
  all_goals
    go_enter Try.func8, Try.ntmps8
    go_wp2_with fail
    refine (new_bad n w HN.out).mono ?_
    rintro e w1 ⟨rfl, rfl⟩
    go_wp2_with fail
    refine (awake_any _).mono ?_
    rintro e w2 ⟨rfl, hb⟩
    have B := Lib.hid hb
    clear hb
    go_wp2
    go_ret
    exact ⟨rfl, B.out⟩

set_option maxRecDepth 100000 in
set_option maxHeartbeats 4000000 in
theorem edges_ok (n : Nat) (v u : Int) (W : World) (h0 : 1 ≤ n) (h1 : n ≤ 1024) : Calls Try.prog 8 #[.int .i64 n, .int .u32 v, .int .u32 u] W fun e w' => e = .returned (.bool true) ∧ Below W.heap.size W w' := by
  have L1 : (List.replicate (n * 32) (0 : Int)).length = n * 32 := List.length_replicate
  have L2 : ((List.replicate (n * 32) (0 : Int)).set (idx 0 0) v).length = n * 32 := by rw [List.length_set, L1]
  have e1 : (((List.replicate (n * 32) (0 : Int)).set (idx 0 0) v).set (idx ((n : Int) - 1) 31) u).getD (idx 0 0) 0 = v := by
    rw [getD_set _ _ _ _ (by rw [L2]; unfold idx; omega), if_neg (by unfold idx; omega), getD_set _ _ _ _ (by rw [L1]; unfold idx; omega), if_pos rfl]
  have e2 : (((List.replicate (n * 32) (0 : Int)).set (idx 0 0) v).set (idx ((n : Int) - 1) 31) u).getD (idx ((n : Int) - 1) 31) 0 = u := by
    rw [getD_set _ _ _ _ (by rw [L2]; unfold idx; omega), if_pos rfl]
  have E1 := Lib.hid e1
  have E2 := Lib.hid e2
  have g0 : okFQ n 0 0 := by unfold okFQ; omega
  have g1 : okFQ n ((n : Int) - 1) 31 := by unfold okFQ; omega
  have G0 := Lib.hid g0
  have G1 := Lib.hid g1
  have G2 : Hid (¬ okFQ n n 0) := Lib.hid (by unfold okFQ; omega)
  have G3 : Hid (¬ okFQ n 0 32) := Lib.hid (by unfold okFQ; omega)
  have G4 : Hid (¬ okFQ n (-1) 0) := Lib.hid (by unfold okFQ; omega)
  have G5 : Hid (¬ okFQ n 0 (-1)) := Lib.hid (by unfold okFQ; omega)
  clear L1 L2 e1 e2 g0 g1
  go_enter Try.func8, Try.ntmps8
  go_wp2_with fail
  refine (new_ok n W h0 h1).mono ?_
  rintro e w1 hp
  obtain ⟨mp, fb, rfl, ho⟩ := OwnMem.new hp
  have O1 := Lib.hid ho
  clear hp ho
  go_wp2_with fail
  refine (write_i mp fb n _ 0 0 v w1 O1.out.st G0.out).mono ?_
  rintro e w2 ⟨rfl, hp⟩
  have O2 := Lib.hid (O1.out.put hp)
  clear hp
  go_wp2_with fail
  refine (write_i mp fb n _ _ 31 u w2 O2.out.st G1.out).mono ?_
  rintro e w3 ⟨rfl, hp⟩
  have O3 := Lib.hid (O2.out.put hp)
  clear hp
  go_wp2_with fail
  refine (write_bad mp fb n _ _ _ v w3 O3.out.st G2.out).mono ?_
  rintro e w4 ⟨rfl, hb⟩
  have O4 := Lib.hid (O3.out.step hb)
  clear hb
  go_wp2_with fail
  refine (write_bad mp fb n _ _ _ v w4 O4.out.st G3.out).mono ?_
  rintro e w5 ⟨rfl, hb⟩
  have O5 := Lib.hid (O4.out.step hb)
  clear hb
  go_wp2_with fail
  refine (write_bad mp fb n _ _ _ v w5 O5.out.st G4.out).mono ?_
  rintro e w6 ⟨rfl, hb⟩
  have O6 := Lib.hid (O5.out.step hb)
  clear hb
  go_wp2_with fail
  refine (write_bad mp fb n _ _ _ v w6 O6.out.st G5.out).mono ?_
  rintro e w7 ⟨rfl, hb⟩
  have O7 := Lib.hid (O6.out.step hb)
  clear hb
  go_wp2_with fail
  have C := read_i mp fb n _ 0 0 w7 O7.out.st G0.out
  rw [E1.out] at C
  refine C.mono ?_
  clear C
  rintro e w8 ⟨rfl, hb⟩
  have O8 := Lib.hid (O7.out.step hb)
  clear hb
  go_wp2_with fail
  have C := read_i mp fb n _ _ 31 w8 O8.out.st G1.out
  rw [E2.out] at C
  refine C.mono ?_
  clear C
  rintro e w9 ⟨rfl, hb⟩
  have O9 := Lib.hid (O8.out.step hb)
  clear hb
  go_wp2_with fail
  refine (frames_some mp _ n n w9 O9.out.st.cellM).mono ?_
  rintro e w10 ⟨rfl, rfl⟩
  go_wp2_with fail
  refine (awake_any _).mono ?_
  rintro e w11 ⟨rfl, hb⟩
  have O10 := Lib.hid (O9.out.step hb)
  clear hb
  go_wp2
  go_ret
  exact ⟨rfl, O10.out.below⟩
theorem memEdges_walk (n v u : Int) (W : World) (_hn : -9223372036854775808 ≤ n ∧ n ≤ 9223372036854775807) (_hv : 0 ≤ v ∧ v ≤ 4294967295) (_hu : 0 ≤ u ∧ u ≤ 4294967295) : Calls Try.prog 8 #[.int .i64 n, .int .u32 v, .int .u32 u] W fun e w' => e = .returned (.bool true) ∧ Below W.heap.size W w' := by
  by_cases h : n < 1 ∨ 1024 < n
  · exact edges_bad n v u W h
  · obtain ⟨k, rfl⟩ := Int.eq_ofNat_of_zero_le (show 0 ≤ n by omega)
    exact edges_ok k v u W (by omega) (by omega)
end Go.Proofs.Ytknihmpdghanfaa
