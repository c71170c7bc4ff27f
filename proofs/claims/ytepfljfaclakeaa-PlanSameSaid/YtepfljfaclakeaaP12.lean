/- Layer 7's long, two, awake. Conditions: named in the theorems. -/
import Derived.Test.YtepfljfaclakeaaP11
import Derived.Test.YtepfljfaclakeaaCI
namespace Go.Proofs.Ytepfljfaclakeaa
open Go.RowKit
set_option maxRecDepth 100000

theorem long7_yes (v : Value) (C : Cf) (w : World) (h : ConfIn w v C) (hl : longC C) : Calls Try.prog 8 #[v] w fun e w' => e = .returned (.bool true) ∧ Below w.heap.size w w' := by
  obtain ⟨v1, v2, v3, rfl, ⟨a1, c1, rfl, -, -⟩, ⟨a2, c2, rfl, -, -⟩, ⟨a3, c3, rfl, -, -⟩⟩ := h.parts
  obtain ⟨P, W, H⟩ := C
  unfold longC at hl
  simp only at hl ⊢
  generalize P.length = n at *
  generalize W.length = m at *
  generalize H.length = k at *
  have hc : (100 : Int) < n ∨ (¬ (100 : Int) < n ∧ (100 : Int) < m) ∨ (¬ (100 : Int) < n ∧ ¬ (100 : Int) < m ∧ (100 : Int) < k) := by omega
  clear hl h
  rcases hc with h1 | ⟨h1, h2⟩ | ⟨h1, h2, h3⟩
  all_goals
    go_enter Try.func8, Try.ntmps8
    go_wp2
    go_ret
    exact ⟨rfl, (Below.refl _ _).alloc (Nat.le_refl _) _⟩
theorem long7_no (v1 v2 v3 : Value) (C : Cf) (w : World) (h : CfAt w v1 v2 v3 C) (hl : ¬ longC C) : Calls Try.prog 8 #[.agg #[v1, v2, v3]] w fun e w' => e = .returned (.bool false) ∧ Below w.heap.size w w' := by
  obtain ⟨⟨a1, c1, rfl, -, -, -⟩, ⟨a2, c2, rfl, -, -, -⟩, ⟨a3, c3, rfl, -, -, -⟩⟩ := h
  obtain ⟨P, W, H⟩ := C
  unfold longC at hl
  simp only at hl ⊢
  generalize P.length = n at *
  generalize W.length = m at *
  generalize H.length = k at *
  have h1 : ¬ (100 : Int) < n := by omega
  have h2 : ¬ (100 : Int) < m := by omega
  have h3 : ¬ (100 : Int) < k := by omega
  clear hl
  go_enter Try.func8, Try.ntmps8
  go_wp2
  go_ret
  exact ⟨rfl, (Below.refl _ _).alloc (Nat.le_refl _) _⟩
/-- The document's example. -/
def twoC : Cf := ([[4, 1], [5, 4]], [[0, 2], [1, 1]], [[0, 1, 2, 3]])
theorem two_traps : findA twoC (1, 1) = (10, 2, 0) := by decide
theorem two_chan : findA twoC (2, 0) = (12, 1, 0) := by decide
theorem two_major : majorA twoC = 3 := by decide
theorem two_chk : chk twoC = 0 := by decide
theorem two_turn : turnA twoC 5 = (1, 1, 0) := by decide
def TwoPost (w : World) (e : Ending) (w' : World) : Prop := ∃ v1 v2 v3, e = .returned (.agg #[v1, v2, v3]) ∧ CfAt w' v1 v2 v3 twoC ∧ Below w.heap.size w w'
theorem two_row2 {w : World} {b : Nat} {x y z t : Int} {ty : TypeId} (h : w.heap[b]? = some (.cells #[.int .i64 x, .int .i64 y, .int .i64 z, .int .i64 t] ty (0, 0))) : RowsAt 2 w (.slice (some ⟨b, 0, none⟩) 2 2) [[x, y], [z, t]] := by
  refine ⟨_, _, rfl, by simp, by simp, Or.inr ⟨b, 0, rfl, lt_of_block h, fun i hi j hj => ?_⟩⟩
  rw [cell_of_row w b _ _ _ _ h]
  match i, hi, j, hj with
  | 0, _, 0, _ => rfl
  | 0, _, 1, _ => rfl
  | 1, _, 0, _ => rfl
  | 1, _, 1, _ => rfl
theorem one_row4 {w : World} {b : Nat} {x y z t : Int} {ty : TypeId} (h : w.heap[b]? = some (.cells #[.int .i64 x, .int .i64 y, .int .i64 z, .int .i64 t] ty (0, 0))) : RowsAt 4 w (.slice (some ⟨b, 0, none⟩) 1 1) [[x, y, z, t]] := by
  refine ⟨_, _, rfl, by simp, by simp, Or.inr ⟨b, 0, rfl, lt_of_block h, fun i hi j hj => ?_⟩⟩
  obtain rfl : i = 0 := by simpa using hi
  rw [cell_of_row w b _ _ _ _ h]
  match j, hj with
  | 0, _ => rfl
  | 1, _ => rfl
  | 2, _ => rfl
  | 3, _ => rfl
set_option maxHeartbeats 1000000 in
theorem two_ok (w : World) : Calls Try.prog 23 #[] w (TwoPost w) := by
  go_enter Try.func23, Try.ntmps23
  go_wp2
  obtain ⟨wa, hwa⟩ : ∃ wa, wa = (w.alloc (.cells #[.slice (some ⟨w.heap.size + 1, 0, none⟩) 2 2, .slice (some ⟨w.heap.size + 1 + 1, 0, none⟩) 2 2, .slice (some ⟨w.heap.size + 1 + 1 + 1, 0, none⟩) 1 1] 26)).alloc (.cells #[.int .i64 4, .int .i64 1, .int .i64 5, .int .i64 4] 42) := ⟨_, rfl⟩
  have hsa : wa.heap.size = w.heap.size + 1 + 1 := by rw [hwa]; simp
  have hba : Below w.heap.size w wa := by rw [hwa]; exact below_two w _ _
  have hX : CBox wa w.heap.size (.slice (some ⟨w.heap.size + 1, 0, none⟩) 2 2) (.slice (some ⟨w.heap.size + 1 + 1, 0, none⟩) 2 2) (.slice (some ⟨w.heap.size + 1 + 1 + 1, 0, none⟩) 1 1) := by rw [hwa]; exact below_block ((Below.refl _ _).alloc (Nat.le_refl _) _) (heap_alloc_new w _)
  have hP : wa.heap[w.heap.size + 1]? = some (.cells #[.int .i64 4, .int .i64 1, .int .i64 5, .int .i64 4] 42 (0, 0)) := by rw [hwa]; exact heap_alloc2_new w _ _
  rw [← hwa]
  have hA : Below wa.heap.size wa ((wa.alloc (.cells #[.int .i64 0, .int .i64 2, .int .i64 1, .int .i64 1] 47)).alloc (.cells #[.int .i64 0, .int .i64 1, .int .i64 2, .int .i64 3] 44)) := below_two _ _ _
  have hW := below_block ((Below.refl _ _).alloc (Nat.le_refl _) (.cells #[.int .i64 0, .int .i64 1, .int .i64 2, .int .i64 3] 44)) (heap_alloc_new wa (.cells #[.int .i64 0, .int .i64 2, .int .i64 1, .int .i64 1] 47))
  have hH := heap_alloc2_new wa (.cells #[.int .i64 0, .int .i64 2, .int .i64 1, .int .i64 1] 47) (.cells #[.int .i64 0, .int .i64 1, .int .i64 2, .int .i64 3] 44)
  rw [hsa] at hW hH
  have q0 := (hX.below hA).c0
  have q1 := (hX.below hA).c1
  have q2 := (hX.below hA).c2
  refine ⟨rfl, .agg #[.slice (some ⟨w.heap.size + 1, 0, none⟩) 2 2, .slice (some ⟨w.heap.size + 1 + 1, 0, none⟩) 2 2, .slice (some ⟨w.heap.size + 1 + 1 + 1, 0, none⟩) 1 1], ?_, _, _, _, rfl, ⟨two_row2 (below_block hA hP), two_row2 hW, one_row4 hH⟩, hba.trans (hA.mono hba.size)⟩
  simp [results, Try.results23, go_sem, q0, q1, q2]
theorem twoTraps_ok (v1 v2 v3 : Value) (w : World) (h : CfAt w v1 v2 v3 twoC) : Calls Try.prog 12 #[.agg #[v1, v2, v3], .int .i64 1] w fun e w' => e = .returned (.tuple #[.int .i64 10, .int .i64 2, .int .i64 0]) ∧ Below w.heap.size w w' := by
  have := traps_ok v1 v2 v3 twoC 1 w h
  rwa [two_traps] at this
theorem twoChan_ok (v1 v2 v3 : Value) (w : World) (h : CfAt w v1 v2 v3 twoC) : Calls Try.prog 14 #[.agg #[v1, v2, v3], .int .i64 0] w fun e w' => e = .returned (.tuple #[.int .i64 12, .int .i64 1, .int .i64 0]) ∧ Below w.heap.size w w' := by
  have := chan_ok v1 v2 v3 twoC 0 w h
  rwa [two_chan] at this
theorem twoMajor_ok (v1 v2 v3 : Value) (w : World) (h : CfAt w v1 v2 v3 twoC) : Calls Try.prog 18 #[.agg #[v1, v2, v3]] w fun e w' => e = .returned (.tuple #[.int .i64 3, .int .i64 0]) ∧ Below w.heap.size w w' := by
  have := major_ok v1 v2 v3 twoC w h
  rwa [two_major, two_chk] at this
theorem twoTurn_ok (v1 v2 v3 : Value) (w : World) (h : CfAt w v1 v2 v3 twoC) : Calls Try.prog 16 #[.agg #[v1, v2, v3], .int .u64 5] w fun e w' => e = .returned (.tuple #[.int .i64 1, .int .i64 1, .int .i64 0]) ∧ Below w.heap.size w w' := by
  have := turn_ok v1 v2 v3 twoC 5 (by decide) w h
  rwa [two_turn] at this
set_option maxHeartbeats 4000000 in
theorem awake7_ok (w : World) : Calls Try.prog 9 #[] w fun e w' => e = .returned (.bool true) ∧ Below w.heap.size w w' := by
  go_enter Try.func9, Try.ntmps9
  have K := Lib.hid (Below.refl w.heap.size w)
  go_wp2_with (first
    | (go_at_call 23; refine (two_ok _).mono ?_; rintro e w' ⟨v1, v2, v3, rfl, hC, hb⟩; have CC := Lib.hid hC; have K := Lib.hid (K.out.trans (hb.mono K.out.size)); clear hC hb)
    | (go_at_call 12; refine (twoTraps_ok _ _ _ _ CC.out).mono ?_; rintro e w' ⟨rfl, hb⟩; have K := Lib.hid (K.out.trans (hb.mono K.out.size)); clear hb)
    | (go_at_call 14; refine (twoChan_ok _ _ _ _ CC.out).mono ?_; rintro e w' ⟨rfl, hb⟩; have K := Lib.hid (K.out.trans (hb.mono K.out.size)); clear hb)
    | (go_at_call 18; refine (twoMajor_ok _ _ _ _ CC.out).mono ?_; rintro e w' ⟨rfl, hb⟩; have K := Lib.hid (K.out.trans (hb.mono K.out.size)); clear hb)
    | (go_at_call 16; refine (twoTurn_ok _ _ _ _ CC.out).mono ?_; rintro e w' ⟨rfl, hb⟩; have K := Lib.hid (K.out.trans (hb.mono K.out.size)); clear hb))
  go_ret
  exact ⟨rfl, K.out⟩
end Go.Proofs.Ytepfljfaclakeaa
