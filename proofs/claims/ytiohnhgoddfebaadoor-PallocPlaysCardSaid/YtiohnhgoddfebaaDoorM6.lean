/- The contracts of package mem's Copy and New. Conditions: the memory lies as New laid it, or there is none. -/
import Derived.Test.YtiohnhgoddfebaaDoorM5
namespace Go.Proofs.YtiohnhgoddfebaaDoor
open Go.RowKit
set_option maxRecDepth 100000

theorem pageInfoB : (Tryd.prog.info? 83).map (fun i => (i.zero, i.size, i.bytes)) = some (some (.agg (wordsV zeros)), 32, 128) := by kernel_rfl
theorem made_page (n : Nat) : madeCells (wordsV zeros) (n * 32) = wordsV (List.replicate (n * 32) 0) := by
  have e : ∀ i, i < 32 → (wordsV zeros)[i]! = .int .u32 0 := fun i hi => by
    rw [show wordsV zeros = Array.replicate 32 (.int .u32 0) from rfl, getElem!_pos _ i (by simpa using hi), Array.getElem_replicate]
  apply Array.ext
  · rw [size_madeCells, wordsV_size, List.length_replicate]
  · intro i h1 h2
    have h3 : i % (wordsV zeros).size < 32 := Nat.mod_lt _ (by decide)
    have : (madeCells (wordsV zeros) (n * 32))[i] = (wordsV zeros)[i % (wordsV zeros).size]! := by simp only [madeCells, Array.getElem_map, Array.getElem_range]
    rw [this, e _ h3]
    simp [wordsV]
theorem make_pages (n : Nat) (hn : n ≤ 1024) (w : World) : (Instr.makeSlice 68 (.int .i64 (n : Int)) (.int .i64 (n : Int))).run Tryd.prog w = .ok (.slice (some ⟨w.heap.size, 0, none⟩) n n) (w.alloc (.cells (wordsV (List.replicate (n * 32) 0)) 83)) := by
  have h := pageInfoB
  cases hq : Tryd.prog.info? 83 with
  | none => rw [hq] at h; cases h
  | some i =>
    rw [hq] at h
    simp only [Option.map_some, Option.some.injEq, Prod.mk.injEq] at h
    obtain ⟨h1, h2, h3⟩ := h
    have := run_make (P := Tryd.prog) w 68 83 i _ Tryd.underlying68 hq h1 .i64 .i64 n n (by omega) (by omega) (by rw [h3]; omega) (by omega)
    rw [h2] at this
    simpa [Value.cells, made_page] using this

set_option maxRecDepth 100000 in
set_option maxHeartbeats 400000 in
theorem new_bad (n : Int) (w : World) (hn : n < 1 ∨ 1024 < n) : Calls Tryd.prog 11 #[.int .i64 n] w fun e w' => e = .returned (.tuple #[.pointer none, .int .i64 2]) ∧ w = w' := by
  rcases hn with hn | hn
  all_goals
    go_enter Tryd.func11, Tryd.ntmps11
    go_wp2
    go_ret2
    exact ⟨rfl, rfl⟩
/-- What New of so many frames leaves. -/
def NewPost (n : Nat) (w : World) (e : Ending) (w' : World) : Prop := ∃ mp fb, e = .returned (.tuple #[.pointer (some ⟨mp, 0, none⟩), .int .i64 0]) ∧ MemSt w' mp fb n (List.replicate (n * 32) 0) ∧ w.heap.size ≤ mp ∧ w.heap.size ≤ fb ∧ Below w.heap.size w w'
set_option maxRecDepth 100000 in
set_option maxHeartbeats 400000 in
theorem new_ok (n : Nat) (w : World) (h0 : 1 ≤ n) (h1 : n ≤ 1024) : Calls Tryd.prog 11 #[.int .i64 n] w (NewPost n w) := by
  have hmk := make_pages n h1
  have a1 : ¬ (n : Int) < 1 := by omega
  have a2 : ¬ (1024 : Int) < n := by omega
  go_enter Tryd.func11, Tryd.ntmps11
  go_wp2
  go_ret2
  refine ⟨w.heap.size + 1, w.heap.size, rfl, MemSt.mk ?_ ?_ (by simp) ?_ h0 h1, ?_, ?_, ?_⟩
  · exact heap_alloc2_new _ _ _
  · exact heap_alloc2_old _ _ _
  · omega
  · omega
  · omega
  · exact ((Below.refl _ _).alloc (Nat.le_refl _) _).alloc (by simp) _
end Go.Proofs.YtiohnhgoddfebaaDoor
