/- The contract of the document's own Of, layer 4. Condition: the slice that is taken has its words in a block. -/
import Derived.Test.YteohfonmckahgaaT7
namespace Go.Proofs.Yteohfonmckahgaa
open Go.RowKit
set_option maxRecDepth 100000

theorem putK_all (T : List Int) (hT : T.length = 10) : putK z10 0 T 10 = T := by
  match T, hT with
  | [a0, a1, a2, a3, a4, a5, a6, a7, a8, a9], _ => rfl
theorem putK_len10 (T : List Int) (k : Nat) : (putK z10 0 T k).length = 10 := putK_length _ _ _ _

/-- What lies behind the call's start: the result's cells, and the frame's that is filled. -/
structure ROf (w : World) (T : List Int) (k : Nat) (wr : World) : Prop where
  below : Below w.heap.size w wr
  res : wr.heap[w.heap.size]? = some (.cells (wordsV z10) 26 (0, 0))
  row : wr.heap[w.heap.size + 1]? = some (.cells (wordsV (putK z10 0 T k)) 26 (0, 0))
theorem ROf.start (w : World) (T : List Int) : ROf w T 0 ((w.alloc (.cells (wordsV z10) 26)).alloc (.cells (wordsV z10) 26)) := ⟨below_two _ _ _, heap_alloc2_old _ _ _, heap_alloc2_new _ _ _⟩
theorem ROf.set {w wr : World} {T : List Int} {k : Nat} (h : ROf w T k wr) : ROf w T (k + 1) (wr.setCell ⟨w.heap.size + 1, k, none⟩ (.int .u32 (T.getD k 0))) := by
  have h1 := heap_setCell_same wr (w.heap.size + 1) k _ _ (.int .u32 (T.getD k 0)) h.row
  rw [wordsV_set] at h1
  refine ⟨h.below.setCell (p := ⟨w.heap.size + 1, k, none⟩) (by show w.heap.size ≤ w.heap.size + 1; omega) _, ?_, ?_⟩
  · rw [Below.heap_setCell _ _ _ _ (show w.heap.size ≠ w.heap.size + 1 by omega)]
    exact h.res
  · rw [putK, Nat.zero_add]
    exact h1
theorem ROf.fr {w wr : World} {T : List Int} {k : Nat} (h : ROf w T k wr) (i : Nat) : wr.frozen? ⟨w.heap.size + 1, i, none⟩ = false := frozen_of_row wr _ i _ _ h.row
theorem ROf.cell {w wr : World} {T : List Int} {k : Nat} (h : ROf w T k wr) (i : Nat) (hi : i < 10) : wr.cell? ⟨w.heap.size + 1, i, none⟩ = some (.int .u32 ((putK z10 0 T k).getD i 0)) := by
  rw [cell_of_row wr _ _ _ _ _ h.row]
  exact wordsV_get _ _ (by rw [putK_len10]; exact hi)

set_option maxHeartbeats 1000000 in
theorem rof_bad (a : Option Addr) (m c : Nat) (w : World) (h : m ≠ 10) :
    Calls Try.prog 10 #[.slice a m c] w fun e w' => e = .returned (.tuple #[.agg (wordsV z10), .int .i64 2]) ∧ Below w.heap.size w w' := by
  have hz := trapZ
  have h1 : ((m : Int) == 10) = false := by simp; omega
  have h2 : ((m : Int) != 10) = true := by simp; omega
  clear h
  go_enter Try.func10, Try.ntmps10
  go_wp2_with (first | (refine wpList_load_trap rfl (.tmp 4) rfl (w.heap.size + 1) z10 26 rfl (heap_alloc2_new w _ _) rfl ?_) | (refine wpList_store_trap rfl (.tmp 2) (.tmp 9) rfl w.heap.size z10 z10 26 rfl rfl (heap_alloc2_old w _ _) rfl rfl ?_))
  exact bodyPost_ret (v := .tuple #[.agg (wordsV z10), .int .i64 2]) (results_trap Try.results10 _ _ w.heap.size z10 _ _ rfl rfl (setRow_heap _ _ _ (wordsV z10) _ _ (heap_alloc2_old w (.cells (wordsV z10) 26) _)) rfl) rfl ⟨rfl, below_setRow (below_two _ _ _) (Nat.le_refl _) _⟩

def ROfRel (w : World) (T : List Int) (i : Value) (wr : World) : Prop := ∃ k : Nat, i = .int .i64 k ∧ k ≤ 8 ∧ ROf w T k wr
set_option maxHeartbeats 4000000 in
theorem rof_ok (b o c : Nat) (T : List Int) (w : World) (hT : T.length = 10) (hb : b < w.heap.size) (hc : ∀ i, i < 10 → w.cell? ⟨b, o + i, none⟩ = some (.int .u32 (T.getD i 0))) :
    Calls Try.prog 10 #[.slice (some ⟨b, o, none⟩) 10 c] w fun e w' => e = .returned (.tuple #[.agg (wordsV T), .int .i64 0]) ∧ Below w.heap.size w w' := by
  have hz := trapZ
  have HC := Lib.hid hc
  have HB := Lib.hid hb
  have HT := Lib.hid hT
  clear hc hb hT
  go_enter Try.func10, Try.ntmps10
  go_wp2_with fail
  have R0 := Lib.hid (ROf.start w T)
  obtain ⟨w0, hw0⟩ : ∃ w0, w0 = (w.alloc (.cells (wordsV z10) 26)).alloc (.cells (wordsV z10) 26) := ⟨_, rfl⟩
  rw [← hw0] at R0 ⊢
  clear hw0
  go_loopw [5] (fun i wr => ROfRel w T i wr) (fun i _ => (8 - (intOf i).toNat))
  case atStart => exact ⟨0, rfl, by omega, R0.out⟩
  case round =>
    obtain ⟨k, rfl, hk, hr⟩ := hrel
    have R1 := Lib.hid hr
    clear hr
    by_cases hlt : k < 8
    · obtain ⟨x, hx⟩ : ∃ x, x = T.getD k 0 := ⟨_, rfl⟩
      have ck : wr.cell? ⟨b, o + k, none⟩ = some (.int .u32 x) := by rw [R1.out.below.cell (p := ⟨b, o + k, none⟩) HB.out, hx]; exact HC.out k (by omega)
      have dk := R1.out.cell k (by omega)
      have fk := R1.out.fr k
      have R2 := Lib.hid R1.out.set
      rw [← hx] at R2
      clear hx
      generalize (putK z10 0 T k).getD k 0 = y at dk
      go_wp2_with fail
      go_roundw
      case rel => exact ⟨k + 1, by go_num, by omega, R2.out⟩
      case measure => simp [intOf]; omega
    · obtain rfl : k = 8 := by omega
      obtain ⟨x, hx⟩ : ∃ x, x = T.getD 8 0 := ⟨_, rfl⟩
      have ck : wr.cell? ⟨b, o + 8, none⟩ = some (.int .u32 x) := by rw [R1.out.below.cell (p := ⟨b, o + 8, none⟩) HB.out, hx]; exact HC.out 8 (by omega)
      have dk := R1.out.cell 8 (by omega)
      have fk := R1.out.fr 8
      have R2 := Lib.hid R1.out.set
      rw [← hx] at R2
      clear hx
      obtain ⟨x9, hx9⟩ : ∃ x, x = T.getD 9 0 := ⟨_, rfl⟩
      have ck9 : (wr.setCell ⟨w.heap.size + 1, 8, none⟩ (.int .u32 x)).cell? ⟨b, o + 9, none⟩ = some (.int .u32 x9) := by rw [R2.out.below.cell (p := ⟨b, o + 9, none⟩) HB.out, hx9]; exact HC.out 9 (by omega)
      have dk9 := R2.out.cell 9 (by omega)
      have fk9 := R2.out.fr 9
      have R3 := Lib.hid R2.out.set
      rw [← hx9] at R3
      clear hx9
      generalize (putK z10 0 T 8).getD 8 0 = y at dk
      generalize (putK z10 0 T (8 + 1)).getD 9 0 = y9 at dk9
      have W9 : Hid (((wr.setCell ⟨w.heap.size + 1, 8, none⟩ (.int .u32 x)).setCell ⟨w.heap.size + 1, 9, none⟩ (.int .u32 x9)).heap[w.heap.size + 1]? = some (.cells (wordsV T) 26 (0, 0))) := Lib.hid (by have := R3.out.row; rwa [putK_all T HT.out] at this)
      go_wp2_with (first | (refine wpList_load_trap rfl (.tmp 4) rfl (w.heap.size + 1) T 26 rfl W9.out HT.out ?_) | (refine wpList_store_trap rfl (.tmp 2) (.tmp 29) rfl w.heap.size z10 T 26 rfl rfl R3.out.res rfl HT.out ?_))
      exact bodyPost_ret (v := .tuple #[.agg (wordsV T), .int .i64 0]) (results_trap Try.results10 _ _ w.heap.size T _ _ rfl rfl (setRow_heap _ _ _ _ _ _ R3.out.res) HT.out) rfl ⟨rfl, below_setRow R3.out.below (Nat.le_refl _) _⟩
theorem rof_any (v : Value) (L : List Int) (w : World) (h : RowAt w v L) : Calls Try.prog 10 #[v] w fun e w' => e = .returned (.tuple #[.agg (wordsV (ofT L)), .int .i64 (ofE L)]) ∧ Below w.heap.size w w' := by
  unfold ofT ofE
  by_cases hL : L.length = 10
  · rw [if_pos hL, if_pos hL]
    obtain ⟨a, c, rfl, h⟩ := h
    obtain ⟨b, o, rfl, hlt, hc⟩ := h.resolve_left (by intro e; rw [e] at hL; cases hL)
    rw [hL] at hc ⊢
    exact rof_ok b o c L w hL hlt hc
  · rw [if_neg hL, if_neg hL]
    obtain ⟨a, c, rfl, h⟩ := h
    exact rof_bad a L.length c w hL
end Go.Proofs.Yteohfonmckahgaa
