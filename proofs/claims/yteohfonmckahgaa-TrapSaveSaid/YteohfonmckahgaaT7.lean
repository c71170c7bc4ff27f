/- The contract of the document's own Words, layer 4. No condition. -/
import Derived.Test.YteohfonmckahgaaT6
import Derived.OwnWalk
namespace Go.Proofs.Yteohfonmckahgaa
open Go.RowKit
set_option maxRecDepth 100000

def RWRel (W : World) (T : List Int) (l i : Value) (wr : World) : Prop := ∃ k : Nat, i = .int .i64 k ∧ k ≤ 8 ∧ wr.ownsRow W.heap.size 23 1 l k ((T.take k).map (Value.int .u32)) ∧ Below W.heap.size W wr
/-- Ten words that lie in a block from B on. -/
def TenIn (B : Nat) (w : World) (v : Value) (T : List Int) : Prop := ∃ b c, v = .slice (some ⟨b, 0, none⟩) 10 c ∧ B ≤ b ∧ b < w.heap.size ∧ ∀ j, j < 10 → w.cell? ⟨b, j, none⟩ = some (.int .u32 (T.getD j 0))
theorem TenIn.rowAt {B : Nat} {w : World} {v : Value} {T : List Int} (h : TenIn B w v T) (hT : T.length = 10) : RowAt w v T := by
  obtain ⟨b, c, rfl, _, hlt, hc⟩ := h
  exact ⟨_, c, by rw [hT], Or.inr ⟨b, 0, rfl, hlt, fun i hi => by rw [Nat.zero_add]; exact hc i (by omega)⟩⟩
theorem tenIn_of_owns {w : World} {base : Nat} {e : TypeId} {v : Value} {T : List Int} (h : w.ownsRow base e 1 v 10 (T.map (Value.int .u32))) (hT : T.length = 10) : TenIn base w v T := by
  obtain ⟨_, h2⟩ := h
  rcases h2 with ⟨_, h2⟩ | ⟨g, cap, cur, rfl, hb, hg, hc, hm, hs, ht⟩
  · cases h2
  · refine ⟨g, cap, rfl, hb, lt_of_block hg, fun j hj => ?_⟩
    rw [cell_of_row w g _ _ _ _ hg]
    have : (cur.toList.take (10 * 1))[j]? = (T.map (Value.int .u32))[j]? := by rw [ht]
    rw [List.getElem?_take, if_pos (by omega)] at this
    rw [← Array.getElem?_toList, this]
    simp [hT, hj]
def RWordsPost (w : World) (T : List Int) (e : Ending) (w' : World) : Prop := ∃ v, e = .returned v ∧ TenIn w.heap.size w' v T ∧ Below w.heap.size w w'
theorem take_snoc8 (T : List Int) (k : Nat) (hT : T.length = 10) (hk : k < 8) : (T.take k).map (Value.int .u32) ++ [.int .u32 (T.getD k 0)] = (T.take (k + 1)).map (Value.int .u32) := by
  have h : k < T.length := by omega
  rw [List.take_succ_eq_append_getElem h, List.map_append]
  simp [List.getD_eq_getElem?_getD, h]
theorem take_all (T : List Int) (hT : T.length = 10) : (T.take 8).map (Value.int .u32) ++ [.int .u32 (T.getD 8 0), .int .u32 (T.getD 9 0)] = T.map (Value.int .u32) := by
  match T, hT with
  | [a0, a1, a2, a3, a4, a5, a6, a7, a8, a9], _ => rfl

set_option maxHeartbeats 2000000 in
theorem rwords_ok (T : List Int) (hT : T.length = 10) (w : World) : Calls Try.prog 13 #[.agg (wordsV T)] w (RWordsPost w T) := by
  obtain ⟨i0, hi, hz0, hz1, hz2⟩ := info_parts wordInfo
  have HT := Lib.hid hT
  clear hT
  go_enter Try.func13, Try.ntmps13
  go_wp2_with fail
  obtain ⟨w1, hw1⟩ : ∃ w1, w1 = w.alloc (.cells (wordsV T) 26) := ⟨_, rfl⟩
  have B1 : Hid (Below w.heap.size w w1) := Lib.hid (by rw [hw1]; exact (Below.refl _ _).alloc (Nat.le_refl _) _)
  have X1 : Hid (w1.heap[w.heap.size]? = some (.cells (wordsV T) 26 (0, 0))) := Lib.hid (by rw [hw1]; exact heap_alloc_new w _)
  rw [← hw1]
  clear hw1
  go_loopw [3, 4] (fun l i wr => RWRel w1 T l i wr) (fun _ i _ => (8 - (intOf i).toNat))
  case atStart => exact ⟨0, rfl, by omega, World.ownsRow_nil _ _ _ _, Below.refl _ _⟩
  case round =>
    obtain ⟨k, rfl, hk, ho, hb⟩ := hrel
    have O := Lib.hid ho
    have B := Lib.hid hb
    have XT := Lib.hid (below_block hb X1.out)
    clear ho hb
    by_cases hlt : k < 8
    · obtain ⟨x, hx⟩ : ∃ x, x = T.getD k 0 := ⟨_, rfl⟩
      have ck : wr.cell? ⟨w.heap.size, k, none⟩ = some (.int .u32 x) := by
        rw [cell_of_row wr _ _ _ _ _ XT.out, hx]
        exact wordsV_get T k (by rw [HT.out]; omega)
      have HX := Lib.hid hx
      have O1 := Lib.hid (O.out.alloc (.cells #[.int .u32 x] 23))
      have B1' := Lib.hid (B.out.alloc B.out.size (.cells #[.int .u32 x] 23))
      have HN : Hid (∀ (j : Nat) (u : Value), [Value.int .u32 x][j]? = some u → (wr.alloc (.cells #[.int .u32 x] 23)).cell? ((⟨wr.heap.size, 0, none⟩ : Addr).add j) = some u) := Lib.hid (fun j u hu => by
        rw [Addr.add_mid, cell_of_row _ _ _ _ _ _ (heap_alloc_new wr _)]
        match j, hu with
        | 0, hu => exact hu
        | j + 1, hu => simp at hu)
      clear hx
      go_wp2_with (at_builtin; refine wpList_append_own _ rfl (.tmp 9) (.tmp 14) 27 rfl w1.heap.size 23 i0 (.int .u32 0) 1 4 Try.underlying27 hi hz0 hz1 hz2 rfl (by decide) _ k _ rfl O1.out ⟨wr.heap.size, 0, none⟩ 1 1 [.int .u32 x] rfl rfl HN.out (by simp [Value.oneCell']) (by unfold maxLen; omega) (by omega) B1'.out.size ?_; intro v' w2 ho hg _; have O2 := Lib.hid ho; have B3 := Lib.hid (B1'.out.grown hg B1'.out.size (fun k hk => (O1.out.lt k hk).1)); clear ho hg)
      go_roundw
      case rel => exact ⟨k + 1, by go_num, by omega, by have := O2.out; rwa [HX.out, take_snoc8 T k HT.out hlt] at this, B3.out⟩
      case measure => simp [intOf]; omega
    · obtain rfl : k = 8 := by omega
      obtain ⟨x, hx⟩ : ∃ x, x = T.getD 8 0 := ⟨_, rfl⟩
      obtain ⟨y, hy⟩ : ∃ y, y = T.getD 9 0 := ⟨_, rfl⟩
      have cx : wr.cell? ⟨w.heap.size, 8, none⟩ = some (.int .u32 x) := by
        rw [cell_of_row wr _ _ _ _ _ XT.out, hx]
        exact wordsV_get T 8 (by rw [HT.out]; omega)
      have cy : wr.cell? ⟨w.heap.size, 9, none⟩ = some (.int .u32 y) := by
        rw [cell_of_row wr _ _ _ _ _ XT.out, hy]
        exact wordsV_get T 9 (by rw [HT.out]; omega)
      have HX := Lib.hid hx
      have HY := Lib.hid hy
      have O1 := Lib.hid (O.out.alloc (.cells #[.int .u32 x, .int .u32 y] 23))
      have B1' := Lib.hid (B.out.alloc B.out.size (.cells #[.int .u32 x, .int .u32 y] 23))
      have HN : Hid (∀ (j : Nat) (u : Value), [Value.int .u32 x, Value.int .u32 y][j]? = some u → (wr.alloc (.cells #[.int .u32 x, .int .u32 y] 23)).cell? ((⟨wr.heap.size, 0, none⟩ : Addr).add j) = some u) := Lib.hid (fun j u hu => by
        rw [Addr.add_mid, cell_of_row _ _ _ _ _ _ (heap_alloc_new wr _)]
        match j, hu with
        | 0, hu => exact hu
        | 1, hu => exact hu
        | j + 2, hu => simp at hu)
      clear hx hy
      go_wp2_with (at_builtin; refine wpList_append_own _ rfl (.tmp 16) (.tmp 21) 27 rfl w1.heap.size 23 i0 (.int .u32 0) 1 4 Try.underlying27 hi hz0 hz1 hz2 rfl (by decide) _ 8 _ rfl O1.out ⟨wr.heap.size, 0, none⟩ 2 2 [.int .u32 x, .int .u32 y] rfl rfl HN.out (by simp [Value.oneCell']) (by unfold maxLen; omega) (by omega) B1'.out.size ?_; intro v' w2 ho hg _; have O2 := Lib.hid ho; have B3 := Lib.hid (B1'.out.grown hg B1'.out.size (fun k hk => (O1.out.lt k hk).1)); clear ho hg)
      go_ret
      refine ⟨_, rfl, ?_, B1.out.trans (B3.out.mono B1.out.size)⟩
      have := O2.out
      rw [HX.out, HY.out, take_all T HT.out] at this
      obtain ⟨b, c, e, h1, h2⟩ := tenIn_of_owns this HT.out
      exact ⟨b, c, e, Nat.le_trans B1.out.size h1, h2⟩
end Go.Proofs.Yteohfonmckahgaa
