/- The cursor of package trap: a place in a row of words, where the next one goes; and the words of a trap's frame. No condition. -/
import Derived.Test.YteohfonmckahgaaM15
import Derived.Deep.RegionHeld3
namespace Go.Proofs.Yteohfonmckahgaa
open Go.RowKit
set_option maxRecDepth 100000

/-- A cursor over ten words, the next place being k; all behind what was there. -/
structure CurSt (W w : World) (cb wb k : Nat) (L : List Int) : Prop where
  below : Below W.heap.size W w
  box : w.heap[cb]? = some (.cells #[.slice (some ⟨wb, 0, none⟩) 10 10, .int .i64 k] 58 (0, 0))
  row : w.heap[wb]? = some (.cells (wordsV L) 23 (0, 0))
  len : L.length = 10
  ne : cb ≠ wb
  lc : W.heap.size ≤ cb
  lw : W.heap.size ≤ wb
theorem CurSt.c0 {W w : World} {cb wb k : Nat} {L : List Int} (h : CurSt W w cb wb k L) : w.cell? ⟨cb, 0, none⟩ = some (.slice (some ⟨wb, 0, none⟩) 10 10) := by
  rw [cell_of_row w cb 0 _ _ _ h.box]; rfl
theorem CurSt.c1 {W w : World} {cb wb k : Nat} {L : List Int} (h : CurSt W w cb wb k L) : w.cell? ⟨cb, 1, none⟩ = some (.int .i64 k) := by
  rw [cell_of_row w cb 1 _ _ _ h.box]; rfl
theorem CurSt.fr {W w : World} {cb wb k : Nat} {L : List Int} (h : CurSt W w cb wb k L) (i : Nat) : w.frozen? ⟨cb, i, none⟩ = false := frozen_of_row w cb i _ _ h.box
theorem CurSt.cw {W w : World} {cb wb k : Nat} {L : List Int} (h : CurSt W w cb wb k L) (i : Nat) (hi : i < 10) : w.cell? ⟨wb, i, none⟩ = some (.int .u32 (L.getD i 0)) := by
  rw [cell_of_row w wb _ _ _ _ h.row]
  exact wordsV_get L _ (by rw [h.len]; omega)
theorem CurSt.fw {W w : World} {cb wb k : Nat} {L : List Int} (h : CurSt W w cb wb k L) (i : Nat) : w.frozen? ⟨wb, i, none⟩ = false := frozen_of_row w wb i _ _ h.row
theorem CurSt.set {W w : World} {cb wb k : Nat} {L : List Int} (h : CurSt W w cb wb k L) (v : Int) : CurSt W ((w.setCell ⟨wb, k, none⟩ (.int .u32 v)).drew.setCell ⟨cb, 1, none⟩ (.int .i64 (k + 1 : Nat))) cb wb (k + 1) (L.set k v) := by
  have h1 := heap_setCell_same w wb k _ _ (.int .u32 v) h.row
  rw [wordsV_set] at h1
  have hb1 : (w.setCell ⟨wb, k, none⟩ (.int .u32 v)).drew.heap[cb]? = some (.cells #[.slice (some ⟨wb, 0, none⟩) 10 10, .int .i64 k] 58 (0, 0)) := by
    show (w.setCell ⟨wb, k, none⟩ (.int .u32 v)).heap[cb]? = _
    rw [Below.heap_setCell _ _ _ _ h.ne]
    exact h.box
  refine ⟨?_, heap_setCell_same _ cb 1 _ _ _ hb1, ?_, by rw [List.length_set]; exact h.len, h.ne, h.lc, h.lw⟩
  · exact ((h.below.setCell (p := ⟨wb, k, none⟩) h.lw _).drew).setCell (p := ⟨cb, 1, none⟩) h.lc _
  · rw [Below.heap_setCell _ _ _ _ (fun e => h.ne e.symm)]
    exact h1

set_option maxHeartbeats 800000 in
theorem put_ok (W : World) (cb wb k : Nat) (L : List Int) (v : Int) (w : World) (h : CurSt W w cb wb k L) (hk : k < 10) :
    Calls Try.prog 23 #[.pointer (some ⟨cb, 0, none⟩), .int .u32 v] w fun e w' => e = .returned (.tuple #[]) ∧ CurSt W w' cb wb (k + 1) (L.set k v) := by
  have H := Lib.hid h
  have hne := h.ne
  have c0 := h.c0
  have c1 := h.c1
  have f1 := h.fr 1
  have cw := h.cw k hk
  have fw := h.fw k
  have hk' : (k : Int) < 10 := by omega
  clear h
  go_enter Try.func23, Try.ntmps23
  go_wp2
  go_still_tail 10, (by kernel_rfl)
  go_wp2
  go_end0
  exact ⟨rfl, H.out.set v⟩
end Go.Proofs.Yteohfonmckahgaa
