/- The contracts of the document's own answers for layer 2: Same, In, Read, Write. Conditions: its words lie in a block. -/
import Derived.Test.YtolefcbhiajbbaaM10
namespace Go.Proofs.Ytolefcbhiajbbaa
open Go.RowKit
set_option maxRecDepth 100000

/-- A slice of these words. -/
def RowAt (w : World) (v : Value) (L : List Int) : Prop := ∃ a c, v = .slice a L.length c ∧ (L = [] ∨ ∃ b o, a = some ⟨b, o, none⟩ ∧ b < w.heap.size ∧ ∀ i, i < L.length → w.cell? ⟨b, o + i, none⟩ = some (.int .u32 (L.getD i 0)))
theorem RowAt.below {w w' : World} {v : Value} {L : List Int} (h : RowAt w v L) (hb : Below w.heap.size w w') : RowAt w' v L := by
  obtain ⟨a, c, rfl, h | ⟨b, o, rfl, hlt, hc⟩⟩ := h
  · exact ⟨a, c, rfl, Or.inl h⟩
  · exact ⟨_, c, rfl, Or.inr ⟨b, o, rfl, Nat.lt_of_lt_of_le hlt hb.size, fun i hi => (hb.cell (p := ⟨b, o + i, none⟩) hlt).trans (hc i hi)⟩⟩
theorem NewRow.rowAt {B : Nat} {w : World} {v : Value} {R : List Int} (h : NewRow B w v R) : RowAt w v R := by
  obtain ⟨b, t, rfl, _, hr⟩ := h
  exact ⟨_, _, rfl, Or.inr ⟨b, 0, rfl, lt_of_block hr, fun i hi => by rw [cell_of_row w b _ _ _ _ hr, Nat.zero_add]; exact wordsV_get R i hi⟩⟩

theorem same_nil (a b : Option Addr) (c d : Nat) (w : World) : Calls Try.prog 17 #[.slice a 0 c, .slice b 0 d] w fun e w' => e = .returned (.bool true) ∧ ∃ m, w' = w.drewN m := by
  go_enter Try.func17, Try.ntmps17
  go_wp2
  refine wp_loop_rounds 1 ?_
  rw [rounds_succ]
  go_wp2
  go_ret
  exact ⟨rfl, 0, rfl⟩

def SameRel (w : World) (n : Nat) (i : Value) (wr : World) : Prop := ∃ k m : Nat, i = .int .i64 k ∧ k ≤ n ∧ wr = w.drewN m
set_option maxRecDepth 100000 in
set_option maxHeartbeats 1000000 in
theorem same_row (b o b' o' c c' n : Nat) (f : Nat → Int) (w : World) (hn : n ≤ 1000000) (h1 : ∀ i, i < n → w.cell? ⟨b, o + i, none⟩ = some (.int .u32 (f i))) (h2 : ∀ i, i < n → w.cell? ⟨b', o' + i, none⟩ = some (.int .u32 (f i))) :
    Calls Try.prog 17 #[.slice (some ⟨b, o, none⟩) n c, .slice (some ⟨b', o', none⟩) n c'] w fun e w' => e = .returned (.bool true) ∧ ∃ m, w' = w.drewN m := by
  have H1 := Lib.hid h1
  have H2 := Lib.hid h2
  clear h1 h2
  go_enter Try.func17, Try.ntmps17
  go_wp2
  go_loopw [5] (fun i wr => SameRel w n i wr) (fun i _ => (n - (intOf i).toNat))
  case atStart => exact ⟨0, 0, rfl, Nat.zero_le _, rfl⟩
  case round =>
    obtain ⟨k, m, rfl, hk, hw⟩ := hrel
    by_cases hlt : k < n
    · have c1 : wr.cell? ⟨b, o + k, none⟩ = some (.int .u32 (f k)) := by rw [hw]; exact H1.out k hlt
      have c2 : wr.cell? ⟨b', o' + k, none⟩ = some (.int .u32 (f k)) := by rw [hw]; exact H2.out k hlt
      have HW := Lib.hid hw
      clear hw
      go_wp2
      go_quiet (fail)
      go_wp2
      go_roundw
      case rel => exact ⟨k + 1, m + nq, by go_num, by omega, by rw [HW.out]; simp [World.drewN, Nat.add_assoc]⟩
      case measure => simp [intOf]; omega
    · obtain rfl : k = n := by omega
      have HW := Lib.hid hw
      clear hw
      go_wp2
      go_ret
      exact ⟨rfl, m, HW.out⟩
theorem same_yes (v v' : Value) (L : List Int) (w : World) (hn : L.length ≤ 1000000) (h : RowAt w v L) (h' : RowAt w v' L) :
    Calls Try.prog 17 #[v, v'] w fun e w' => e = .returned (.bool true) ∧ Below w.heap.size w w' := by
  obtain ⟨a, c, rfl, h⟩ := h
  obtain ⟨a', c', rfl, h'⟩ := h'
  have done : ∀ (e : Ending) (w' : World), (e = .returned (.bool true) ∧ ∃ m, w' = w.drewN m) → e = .returned (.bool true) ∧ Below w.heap.size w w' := fun e w' ⟨he, m, hw⟩ => ⟨he, by rw [hw]; exact below_drewN (Below.refl _ _) m⟩
  by_cases hL : L = []
  · subst hL
    exact (same_nil a a' c c' w).mono done
  · rcases h with h | ⟨b, o, rfl, _, hc⟩
    · exact absurd h hL
    rcases h' with h' | ⟨b', o', rfl, _, hc'⟩
    · exact absurd h' hL
    exact (same_row b o b' o' c c' L.length (fun i => L.getD i 0) w hn hc hc').mono done

end Go.Proofs.Ytolefcbhiajbbaa
