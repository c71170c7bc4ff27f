/- The contracts of the document's own answers for layer 2: Same, In, Read, Write. Conditions: its words lie in a block. -/
import Derived.Test.YtiohnhgoddfebaaDoorM10
namespace Go.Proofs.YtiohnhgoddfebaaDoor
open Go.RowKit
set_option maxRecDepth 100000

/-- A slice of these words. -/
def RowAt (w : World) (v : Value) (L : List Int) : Prop := ∃ a c, v = .slice a L.length c ∧ (L = [] ∨ ∃ b o, a = some ⟨b, o, none⟩ ∧ b < w.heap.size ∧ ∀ i, i < L.length → w.cell? ⟨b, o + i, none⟩ = some (.int .u32 (L.getD i 0)))
theorem RowAt.below {w w' : World} {v : Value} {L : List Int} (h : RowAt w v L) (hb : Below w.heap.size w w') : RowAt w' v L := by
  obtain ⟨a, c, rfl, h | ⟨b, o, rfl, hlt, hc⟩⟩ := h
  · exact ⟨a, c, rfl, Or.inl h⟩
  · exact ⟨_, c, rfl, Or.inr ⟨b, o, rfl, Nat.lt_of_lt_of_le hlt hb.size, fun i hi => (hb.cell (p := ⟨b, o + i, none⟩) hlt).trans (hc i hi)⟩⟩
theorem NewRow.rowAt {B : Nat} {w : World} {v : Value} {R : List Int} (h : NewRow B w v R) : RowAt w v R := by
  obtain ⟨b, t, rfl, _, hr⟩ := h
  exact ⟨_, _, rfl, Or.inr ⟨b, 0, rfl, lt_of_block hr, fun i hi => by rw [cell_of_row w b _ _ _ _ hr, Nat.zero_add]; exact wordsV_get R i hi⟩⟩

theorem same_nil (a b : Option Addr) (c d : Nat) (w : World) : Calls Tryd.prog 17 #[.slice a 0 c, .slice b 0 d] w fun e w' => e = .returned (.bool true) ∧ ∃ m, w' = w.drewN m := by
  go_enter Tryd.func17, Tryd.ntmps17
  go_wp2
  refine wp_loop_rounds 1 ?_
  rw [rounds_succ]
  go_wp2
  go_ret
  exact ⟨rfl, 0, rfl⟩

def SameRel (w : World) (n : Nat) (i : Value) (wr : World) : Prop := ∃ k m : Nat, i = .int .i64 k ∧ k ≤ n ∧ wr = w.drewN m
set_option maxRecDepth 100000 in
set_option maxHeartbeats 1000000 in
theorem same_row (b o b' o' c c' n : Nat) (f : Nat → Int) (w : World) (hn : n ≤ 1000000) (h1 : ∀ i, i < n → w.cell? ⟨b, o + i, none⟩ = some (.int .u32 (f i))) (h2 : ∀ i, i < n → w.cell? ⟨b', o' + i, none⟩ = some (.int .u32 (f i))) :
    Calls Tryd.prog 17 #[.slice (some ⟨b, o, none⟩) n c, .slice (some ⟨b', o', none⟩) n c'] w fun e w' => e = .returned (.bool true) ∧ ∃ m, w' = w.drewN m := by
  have H1 := Lib.hid h1
  have H2 := Lib.hid h2
  clear h1 h2
  go_enter Tryd.func17, Tryd.ntmps17
  go_wp2
  go_loopw [5] (fun i wr => SameRel w n i wr) (fun i _ => (n - (intOf i).toNat))
  case atStart => exact ⟨0, 0, rfl, Nat.zero_le _, rfl⟩
  case round =>
    obtain ⟨k, m, rfl, hk, hw⟩ := hrel
    by_cases hlt : k < n
    · have c1 : wr.cell? ⟨b, o + k, none⟩ = some (.int .u32 (f k)) := by rw [hw]; exact H1.out k hlt
      have c2 : wr.cell? ⟨b', o' + k, none⟩ = some (.int .u32 (f k)) := by rw [hw]; exact H2.out k hlt
      have HW := Lib.hid hw
      clear hw
      go_wp2
      go_quiet (fail)
      go_wp2
      go_roundw
      case rel => exact ⟨k + 1, m + nq, by go_num, by omega, by rw [HW.out]; simp [World.drewN, Nat.add_assoc]⟩
      case measure => simp [intOf]; omega
    · obtain rfl : k = n := by omega
      have HW := Lib.hid hw
      clear hw
      go_wp2
      go_ret
      exact ⟨rfl, m, HW.out⟩
theorem same_yes (v v' : Value) (L : List Int) (w : World) (hn : L.length ≤ 1000000) (h : RowAt w v L) (h' : RowAt w v' L) :
    Calls Tryd.prog 17 #[v, v'] w fun e w' => e = .returned (.bool true) ∧ Below w.heap.size w w' := by
  obtain ⟨a, c, rfl, h⟩ := h
  obtain ⟨a', c', rfl, h'⟩ := h'
  have done : ∀ (e : Ending) (w' : World), (e = .returned (.bool true) ∧ ∃ m, w' = w.drewN m) → e = .returned (.bool true) ∧ Below w.heap.size w w' := fun e w' ⟨he, m, hw⟩ => ⟨he, by rw [hw]; exact below_drewN (Below.refl _ _) m⟩
  by_cases hL : L = []
  · subst hL
    exact (same_nil a a' c c' w).mono done
  · rcases h with h | ⟨b, o, rfl, _, hc⟩
    · exact absurd h hL
    rcases h' with h' | ⟨b', o', rfl, _, hc'⟩
    · exact absurd h' hL
    exact (same_row b o b' o' c c' L.length (fun i => L.getD i 0) w hn hc hc').mono done

set_option maxRecDepth 100000 in
set_option maxHeartbeats 400000 in
theorem rin_yes (a : Option Addr) (n c : Nat) (f q : Int) (w : World) (hn : n ≤ 1024) (h : okFQ n f q) :
    Calls Tryd.prog 39 #[.agg #[.slice a (n * 32) c], .int .i64 f, .int .i64 q] w fun e w' => e = .returned (.bool true) ∧ Below w.heap.size w w' := by
  unfold okFQ at h
  obtain ⟨h1, h2, h3, h4⟩ := h
  have e : ((n : Int) * 32) / 32 = n := by omega
  go_enter Tryd.func39, Tryd.ntmps39
  go_wp2
  go_ret
  exact ⟨rfl, (Below.refl _ _).alloc (Nat.le_refl _) _⟩
set_option maxRecDepth 100000 in
set_option maxHeartbeats 400000 in
theorem rin_no (a : Option Addr) (n c : Nat) (f q : Int) (w : World) (hn : n ≤ 1024) (h : ¬ okFQ n f q) :
    Calls Tryd.prog 39 #[.agg #[.slice a (n * 32) c], .int .i64 f, .int .i64 q] w fun e w' => e = .returned (.bool false) ∧ Below w.heap.size w w' := by
  have h' : f < 0 ∨ (0 ≤ f ∧ n ≤ f) ∨ (0 ≤ f ∧ f < n ∧ q < 0) ∨ (0 ≤ f ∧ f < n ∧ 0 ≤ q ∧ 32 ≤ q) := by unfold okFQ at h; omega
  have e : ((n : Int) * 32) / 32 = n := by omega
  clear h
  rcases h' with h1 | ⟨h1, h2⟩ | ⟨h1, h2, h3⟩ | ⟨h1, h2, h3, h4⟩
  all_goals
    try have d4 : decide (q < 32) = false := decide_eq_false (by omega)
    go_enter Tryd.func39, Tryd.ntmps39
    go_wp2
    go_ret
    exact ⟨rfl, (Below.refl _ _).alloc (Nat.le_refl _) _⟩

/-- The document's own memory: its words in block rb, its box at rp. -/
structure RefSt (w : World) (rp rb n : Nat) (L : List Int) : Prop where
  box : w.heap[rp]? = some (.cells #[.slice (some ⟨rb, 0, none⟩) (n * 32) (n * 32)] 34 (0, 0))
  row : w.heap[rb]? = some (.cells (wordsV L) 62 (0, 0))
  len : L.length = n * 32
  ne : rp ≠ rb
  top : n ≤ 1024
theorem RefSt.below {w w' : World} {rp rb n : Nat} {L : List Int} (h : RefSt w rp rb n L) (hb : Below w.heap.size w w') : RefSt w' rp rb n L :=
  ⟨below_block hb h.box, below_block hb h.row, h.len, h.ne, h.top⟩
structure RPuts (w w' : World) (rp rb n : Nat) (L : List Int) : Prop where
  st : RefSt w' rp rb n L
  grown : w.grownBy w' (some rb)
theorem RPuts.stay {w w' : World} {rp rb n : Nat} {L : List Int} (h : RefSt w rp rb n L) (hb : Below w.heap.size w w') : RPuts w w' rp rb n L := ⟨h.below hb, grownBy_of_below hb _⟩
theorem RPuts.ahead {w w1 w' : World} {rp rb n : Nat} {L : List Int} (hb : Below w.heap.size w w1) (h : RPuts w1 w' rp rb n L) : RPuts w w' rp rb n L := ⟨h.st, grownBy_trans (grownBy_of_below hb _) h.grown⟩
theorem RPuts.next {w w1 w' : World} {rp rb n : Nat} {L L' : List Int} (h : RPuts w w1 rp rb n L) (k : RPuts w1 w' rp rb n L') : RPuts w w' rp rb n L' := ⟨k.st, grownBy_trans h.grown k.grown⟩
theorem RefSt.set {w : World} {rp rb n : Nat} {L : List Int} (h : RefSt w rp rb n L) (i : Nat) (v : Int) : RPuts w (w.setCell ⟨rb, i, none⟩ (.int .u32 v)) rp rb n (L.set i v) := by
  have hg := grownBy_setCell w rb i (.int .u32 v)
  have hr := heap_setCell_same w rb i (wordsV L) 62 (.int .u32 v) h.row
  rw [wordsV_set] at hr
  exact ⟨⟨(hg.block rp (lt_of_block h.box) (fun e => h.ne (Option.some.inj e))).trans h.box, hr, by rw [List.length_set]; exact h.len, h.ne, h.top⟩, hg⟩
theorem RefSt.cellB {w : World} {rp rb n : Nat} {L : List Int} (h : RefSt w rp rb n L) : w.cell? ⟨rp, 0, none⟩ = some (.slice (some ⟨rb, 0, none⟩) (n * 32) (n * 32)) := by
  rw [cell_of_row w rp 0 _ _ _ h.box]; rfl
theorem RefSt.cellR {w : World} {rp rb n : Nat} {L : List Int} (h : RefSt w rp rb n L) {i : Nat} (hi : i < n * 32) : w.cell? ⟨rb, i, none⟩ = some (.int .u32 (L.getD i 0)) := by
  rw [cell_of_row w rb _ _ _ _ h.row]
  exact wordsV_get L _ (by rw [h.len]; omega)
theorem RefSt.freeR {w : World} {rp rb n : Nat} {L : List Int} (h : RefSt w rp rb n L) (i : Nat) : w.frozen? ⟨rb, i, none⟩ = false := frozen_of_row w rb i _ _ h.row

set_option maxRecDepth 100000 in
set_option maxHeartbeats 400000 in
theorem rwrite_no (rp rb n : Nat) (L : List Int) (f q v : Int) (w : World) (hr : RefSt w rp rb n L) (h : ¬ okFQ n f q) :
    Calls Tryd.prog 33 #[.pointer (some ⟨rp, 0, none⟩), .int .i64 f, .int .i64 q, .int .u32 v] w fun e w' => e = .returned (.int .i64 2) ∧ Below w.heap.size w w' := by
  have R := Lib.hid hr
  have cb := hr.cellB
  have H := Lib.hid h
  clear h hr
  go_enter Tryd.func33, Tryd.ntmps33
  go_wp2_with fail
  refine (rin_no _ n _ f q _ R.out.top H.out).mono ?_
  rintro e w1 ⟨rfl, hb⟩
  have B1 := Lib.hid hb
  clear hb
  go_wp2
  go_ret
  exact ⟨rfl, B1.out⟩
set_option maxRecDepth 100000 in
set_option maxHeartbeats 400000 in
theorem rwrite_yes (rp rb n : Nat) (L : List Int) (f q : Nat) (v : Int) (w : World) (hr : RefSt w rp rb n L) (hf : f < n) (hq : q < 32) :
    Calls Tryd.prog 33 #[.pointer (some ⟨rp, 0, none⟩), .int .i64 f, .int .i64 q, .int .u32 v] w fun e w' => e = .returned (.int .i64 0) ∧ RPuts w w' rp rb n (L.set (f * 32 + q) v) := by
  have R := Lib.hid hr
  have cb := Lib.hid hr.cellB
  have HT := hr.top
  clear hr
  go_enter Tryd.func33, Tryd.ntmps33
  have cb0 := cb.out
  go_wp2_with fail
  refine (rin_yes _ n _ f q _ HT (by unfold okFQ; omega)).mono ?_
  rintro e w1 ⟨rfl, hb⟩
  clear cb0
  have R1 := Lib.hid (R.out.below hb)
  have B1 := Lib.hid hb
  have cb1 := R1.out.cellB
  have cw := R1.out.cellR (i := f * 32 + q) (by omega)
  have cf := R1.out.freeR (f * 32 + q)
  have hlt : f * 32 + q < n * 32 := by omega
  clear hb
  go_wp2
  go_ret
  exact ⟨rfl, RPuts.ahead B1.out (R1.out.set _ v)⟩
end Go.Proofs.YtiohnhgoddfebaaDoor
