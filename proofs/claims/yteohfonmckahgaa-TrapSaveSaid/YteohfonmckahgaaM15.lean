/- The contract of the document's own New, layer 2, and the walk of MemPlays. Conditions: the script lies as its slice says. -/
import Derived.Test.YteohfonmckahgaaM14
namespace Go.Proofs.Yteohfonmckahgaa
open Go.RowKit
set_option maxRecDepth 100000

theorem made_words (n : Nat) : madeCells #[.int .u32 0] n = wordsV (List.replicate n 0) := by
  apply Array.ext
  · rw [size_madeCells, wordsV_size, List.length_replicate]
  · intro i h1 h2
    have h3 : i % 1 = 0 := Nat.mod_one i
    simp [madeCells, wordsV, h3]
theorem make_words (n : Nat) (hn : n ≤ 1000000) (w : World) : (Instr.makeSlice 27 (.int .i64 (n : Int)) (.int .i64 (n : Int))).run Try.prog w = .ok (.slice (some ⟨w.heap.size, 0, none⟩) n n) (w.alloc (.cells (wordsV (List.replicate n 0)) 23)) := by
  obtain ⟨i, hi, h1, h2, h3⟩ := info_parts wordInfo
  have := run_make (P := Try.prog) w 27 23 i _ Try.underlying27 hi h1 .i64 .i64 n n (by omega) (by omega) (by rw [h3]; omega) (by omega)
  rw [h2] at this
  simpa [Value.cells, made_words] using this

set_option maxRecDepth 100000 in
set_option maxHeartbeats 400000 in
theorem rnew_bad (n : Int) (w : World) (hn : n < 1 ∨ 1024 < n) : Calls Try.prog 15 #[.int .i64 n] w fun e w' => e = .returned (.tuple #[.agg #[.slice none 0 0], .int .i64 2]) ∧ Below w.heap.size w w' := by
  rcases hn with hn | hn
  all_goals
    go_enter Try.func15, Try.ntmps15
    go_wp2
    exact bodyPost_ret (v := .tuple #[.agg #[.slice none 0 0], .int .i64 2]) (by simp [results, Try.results15, go_sem]) rfl ⟨rfl, (Below.refl _ _).alloc (Nat.le_refl _) _⟩
def RNewPost (n : Nat) (w : World) (e : Ending) (w' : World) : Prop := ∃ rb, e = .returned (.tuple #[.agg #[.slice (some ⟨rb, 0, none⟩) (n * 32) (n * 32)], .int .i64 0]) ∧ w'.heap[rb]? = some (.cells (wordsV (List.replicate (n * 32) 0)) 23 (0, 0)) ∧ w.heap.size ≤ rb ∧ Below w.heap.size w w'
set_option maxRecDepth 100000 in
set_option maxHeartbeats 400000 in
theorem rnew_ok (n : Nat) (w : World) (h0 : 1 ≤ n) (h1 : n ≤ 1024) : Calls Try.prog 15 #[.int .i64 n] w (RNewPost n w) := by
  have hmk := make_words (n * 32) (by omega)
  rw [show ((n * 32 : Nat) : Int) = (n : Int) * 32 by omega] at hmk
  have a1 : ¬ (n : Int) < 1 := by omega
  have a2 : ¬ (1024 : Int) < n := by omega
  go_enter Try.func15, Try.ntmps15
  go_wp2
  refine bodyPost_ret (v := .tuple #[.agg #[.slice (some ⟨w.heap.size + 1, 0, none⟩) (n * 32) (n * 32)], .int .i64 0]) (by simp [results, Try.results15, go_sem]) rfl ?_
  exact ⟨w.heap.size + 1, rfl, heap_alloc2_new _ _ _, by omega, below_two _ _ _⟩

/-- A slice of calls: each one's four cells. -/
abbrev OpD := Int × Int × Int × Int
def OpsAt (w : World) (v : Value) (S : List OpD) : Prop := ∃ a c, v = .slice a S.length c ∧ (S = [] ∨ ∃ b o, a = some ⟨b, o, none⟩ ∧ b < w.heap.size ∧ ∀ i, i < S.length →
  w.cell? ⟨b, o + i * 4, none⟩ = some (.int .i64 (S.getD i default).1) ∧ w.cell? ⟨b, o + i * 4 + 1, none⟩ = some (.int .i64 (S.getD i default).2.1) ∧ w.cell? ⟨b, o + i * 4 + 2, none⟩ = some (.int .i64 (S.getD i default).2.2.1) ∧ w.cell? ⟨b, o + i * 4 + 3, none⟩ = some (.int .u32 (S.getD i default).2.2.2))
theorem OpsAt.below {w w' : World} {v : Value} {S : List OpD} (h : OpsAt w v S) (hb : Below w.heap.size w w') : OpsAt w' v S := by
  obtain ⟨a, c, rfl, h | ⟨b, o, rfl, hlt, hc⟩⟩ := h
  · exact ⟨a, c, rfl, Or.inl h⟩
  · have e : ∀ j, w'.cell? ⟨b, j, none⟩ = w.cell? ⟨b, j, none⟩ := fun j => hb.cell (p := ⟨b, j, none⟩) hlt
    exact ⟨_, c, rfl, Or.inr ⟨b, o, rfl, Nat.lt_of_lt_of_le hlt hb.size, fun i hi => by rw [e, e, e, e]; exact hc i hi⟩⟩

def PlaysRel (W : World) (mp fb rp rb n m : Nat) (i : Value) (wr : World) : Prop := ∃ (k : Nat) (L : List Int), i = .int .i64 k ∧ k ≤ m ∧ Duo W mp fb rp rb n L L wr
end Go.Proofs.Yteohfonmckahgaa
