/- The contracts of the document's own answers, layer 7: Own, Traps, Chan. Conditions: the configuration's lists lie in memory. -/
import Derived.Test.YtnapodeiigkebaaIS
namespace Go.Proofs.Ytnapodeiigkebaa
open Go.RowKit
set_option maxRecDepth 100000

theorem up_is (n k q : Int) (h0 : 0 ≤ n) (h1 : n ≤ 1000000) (hk : k = 3 ∨ k = 32) (hq : (n + k - 1) / k = q) (w : World) : Calls Try.prog 33 #[.int .i64 n, .int .i64 k] w fun e w' => e = .returned (.int .i64 q) ∧ w = w' := hq ▸ up_ok n k h0 h1 hk w
theorem up_same (n k q : Int) (h0 : 0 ≤ n) (h1 : n ≤ 1000000) (hk : k = 3 ∨ k = 32) (hq : (n + k - 1) / k = q) (w : World) : Calls Try.prog 33 #[.int .i64 n, .int .i64 k] w fun e w' => e = .returned (.int .i64 q) ∧ w' = w := (up_is n k q h0 h1 hk hq w).mono fun _ _ h => ⟨h.1, h.2.symm⟩
set_option maxHeartbeats 4000000 in
theorem rown_in (n c1 : Nat) (a1 : Option Addr) (v2 v3 : Value) (C : Cf) (hn : n = C.1.length) (k : Int) (w : World) (h : CfAt w (.slice a1 n c1) v2 v3 C) : Calls Try.prog 94 #[.agg #[.slice a1 n c1, v2, v3], .int .i64 k] w fun e w' => e = ans3 (findA C (0, k)) ∧ Below w.heap.size w w' := by
  obtain ⟨w1, hw1⟩ : ∃ w1, w1 = w.alloc (.cells #[.slice a1 n c1, v2, v3] 26) := ⟨_, rfl⟩
  have hb1 : Below w.heap.size w w1 := by rw [hw1]; exact (Below.refl _ _).alloc (Nat.le_refl _) _
  have hx : CBox w1 w.heap.size (.slice a1 n c1) v2 v3 := by rw [hw1]; exact CBox.new w _ _ _
  have HC := Lib.hid (h.below hb1)
  have X1 := Lib.hid hx
  have B1 := Lib.hid hb1
  have HN := Lib.hid hn
  have c0 := hx.c0
  have c1' := hx.c1
  have c2 := hx.c2
  clear h hx hb1 hn
  go_enter Try.func94, Try.ntmps94
  go_wp2_with fail
  rw [← hw1]
  clear hw1
  refine (rcheck_ok _ v2 v3 C w1 HC.out).mono ?_
  rintro e w2 ⟨rfl, hb⟩
  have K2 := Lib.hid hb
  clear hb c0 c1' c2
  by_cases hk : chk C = 0
  · have hm := (chk_zero hk).1
    have e0 := (X1.out.below K2.out).c0
    rw [hk]
    by_cases hin : 0 ≤ k ∧ k < n
    · obtain ⟨i1, i2⟩ := hin
      obtain ⟨j, rfl⟩ := Int.eq_ofNat_of_zero_le i1
      have hjn : j < n := by omega
      have HA := Lib.hid (findA_own hk j (by rw [← HN.out]; exact hjn))
      obtain ⟨⟨p1, p2⟩, -⟩ := mayB_parts hm
      have PP := Lib.hid p2
      have hn8 : n ≤ 8 := by rw [HN.out]; exact p1
      clear p1 p2
      have i3 : ¬ (n : Int) ≤ (j : Int) := by omega
      go_wp2_with fail
      clear e0
      go_loopw [8, 9] (fun s i wr => ∃ l : Nat, i = .int .i64 (l : Int) ∧ l ≤ j ∧ s = .int .i64 (partS C.1 l) ∧ Below w1.heap.size w1 wr) (fun _ i _ => (j - (intOf i).toNat))
      case atStart => exact ⟨0, rfl, Nat.zero_le _, rfl, K2.out⟩
      case round =>
        obtain ⟨l, rfl, hl, rfl, hB⟩ := hrel
        have K := Lib.hid hB
        clear hB
        have e0 := (X1.out.below K.out).c0
        obtain ⟨s0, s1⟩ := partS_le hm l
        by_cases hlt : l < j
        · obtain ⟨-, b, o, x, y, rfl, hbl, hrow, g0, g1⟩ := (show RowsAt 2 w1 (.slice a1 n c1) C.1 from HC.out.ps).two K.out l (by omega)
          have hx := partF_le (C.1.getD l []) (PP.out _ (getD_mem (by have := HN.out; omega)))
          have hnext := partS_succ C.1 l (by have := HN.out; omega)
          rw [hrow] at hx hnext
          obtain ⟨⟨x1, x2⟩, ⟨y1, y2⟩, -⟩ := hx
          simp only [List.getD_cons_zero, List.getD_cons_succ] at x1 x2 y1 y2
          obtain ⟨q, hq⟩ : ∃ q, (y + 3 - 1) / 3 = q := ⟨_, rfl⟩
          have q0 : 0 ≤ q := by omega
          have q1 : q ≤ 10 := by omega
          have hF : partF [x, y] = x + q := by rw [← hq, show y + 3 - 1 = y + 2 by omega]; rfl
          rw [hF] at hnext
          have hup := fun w => up_same y 3 q (by omega) (by omega) (Or.inl rfl) hq w
          have HUP := Lib.hid hup
          have HNX := Lib.hid hnext
          generalize partS C.1 l = s at *
          clear hrow hF hup hnext hq
          go_wp2_with fail
          go_quiet ((go_at_call 33; exact Calls.quiet_of_same (HUP.out _)))
          go_wp2
          go_roundw
          case rel => exact ⟨l + 1, by go_num, by omega, by rw [HNX.out]; go_num, below_drewN K.out _⟩
          case measure => simp [intOf]; omega
        · obtain rfl : l = j := by omega
          obtain ⟨-, b, o, x, y, rfl, hbl, hrow, g0, g1⟩ := (show RowsAt 2 w1 (.slice a1 n c1) C.1 from HC.out.ps).two K.out l hjn
          have hA := HA.out
          rw [hrow] at hA
          have HA2 := Lib.hid hA
          generalize partS C.1 l = s at *
          clear hrow hA HA
          go_wp2_with fail
          go_quiet (fail)
          go_wp2
          refine ⟨rfl, .tuple #[.int .i64 s, .int .i64 x, .int .i64 0], ?_, by rw [HA2.out]; rfl, B1.out.trans ((below_drewN K.out _).mono B1.out.size)⟩
          simp [results, Try.results94, go_sem]
    · have HA := Lib.hid (findA_none hk 0 k (fun _ => by rw [← HN.out]; exact hin) (fun e => by omega))
      have hc : k < 0 ∨ (¬ k < 0 ∧ (n : Int) ≤ k) := by omega
      clear hin
      rcases hc with i1 | ⟨i1, i2⟩
      all_goals
        go_wp2
        refine ⟨rfl, .tuple #[.int .i64 0, .int .i64 0, .int .i64 2], ?_, by rw [HA.out]; rfl, B1.out.trans (K2.out.mono B1.out.size)⟩
        simp [results, Try.results94, go_sem]
  · have HA := Lib.hid (findA_bad hk (0, k))
    go_wp2
    refine ⟨rfl, .tuple #[.int .i64 0, .int .i64 0, .int .i64 (chk C)], ?_, by rw [HA.out]; rfl, B1.out.trans (K2.out.mono B1.out.size)⟩
    simp [results, Try.results94, go_sem]
theorem rown_ok (v1 v2 v3 : Value) (C : Cf) (k : Int) (w : World) (h : CfAt w v1 v2 v3 C) : Calls Try.prog 94 #[.agg #[v1, v2, v3], .int .i64 k] w fun e w' => e = ans3 (findA C (0, k)) ∧ Below w.heap.size w w' := by
  have hp := h.ps
  obtain ⟨a, c, rfl, _, _, _⟩ := hp
  exact rown_in _ c a v2 v3 C rfl k w h
end Go.Proofs.Ytnapodeiigkebaa
