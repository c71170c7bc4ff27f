/- The contracts of the document's own answers, layer 7: Traps, Chan. Conditions: the configuration's lists lie in memory. -/
import Derived.Test.YtnapodeiigkebaaP9
namespace Go.Proofs.Ytnapodeiigkebaa
open Go.RowKit
set_option maxRecDepth 100000

theorem ans3_tuple (a b c : Int) : ans3 (a, b, c) = .returned (.tuple #[.int .i64 a, .int .i64 b, .int .i64 c]) := rfl
set_option maxHeartbeats 4000000 in
theorem rtraps_in (n c1 : Nat) (a1 : Option Addr) (v2 v3 : Value) (C : Cf) (hn : n = C.1.length) (k : Int) (w : World) (h : CfAt w (.slice a1 n c1) v2 v3 C) : Calls Try.prog 71 #[.agg #[.slice a1 n c1, v2, v3], .int .i64 k] w fun e w' => e = ans3 (findA C (1, k)) ∧ Below w.heap.size w w' := by
  obtain ⟨w1, hw1⟩ : ∃ w1, w1 = w.alloc (.cells #[.slice a1 n c1, v2, v3] 26) := ⟨_, rfl⟩
  have hb1 : Below w.heap.size w w1 := by rw [hw1]; exact (Below.refl _ _).alloc (Nat.le_refl _) _
  have hx : CBox w1 w.heap.size (.slice a1 n c1) v2 v3 := by rw [hw1]; exact CBox.new w _ _ _
  have HC := Lib.hid (h.below hb1)
  have X1 := Lib.hid hx
  have B1 := Lib.hid hb1
  have HN := Lib.hid hn
  have c0 := hx.c0
  have c1' := hx.c1
  have c2 := hx.c2
  clear h hx hb1 hn
  go_enter Try.func71, Try.ntmps71
  go_wp2_with fail
  rw [← hw1]
  clear hw1
  refine (rown_ok _ v2 v3 C k w1 HC.out).mono ?_
  rintro e w2 ⟨rfl, hb⟩
  have K2 := Lib.hid hb
  clear hb c0 c1' c2
  by_cases hk : chk C = 0
  · have hm := (chk_zero hk).1
    by_cases hin : 0 ≤ k ∧ k < n
    · obtain ⟨i1, i2⟩ := hin
      obtain ⟨j, rfl⟩ := Int.eq_ofNat_of_zero_le i1
      have hjn : j < n := by omega
      rw [findA_own hk j (by rw [← HN.out]; exact hjn), ans3_tuple]
      have hA := findA_traps hk j (by rw [← HN.out]; exact hjn)
      obtain ⟨⟨p1, p2⟩, -⟩ := mayB_parts hm
      obtain ⟨s0, s1⟩ := partS_le hm j
      have e0 := (X1.out.below K2.out).c0
      obtain ⟨-, b, o, x, y, rfl, hbl, hrow, g0, g1⟩ := (show RowsAt 2 w1 (.slice a1 n c1) C.1 from HC.out.ps).two K2.out j (by omega)
      have hx := partF_le (C.1.getD j []) (p2 _ (getD_mem (by have := HN.out; omega)))
      rw [hrow] at hx hA ⊢
      obtain ⟨⟨x1, x2⟩, ⟨y1, y2⟩, -⟩ := hx
      simp only [List.getD_cons_zero, List.getD_cons_succ] at x1 x2 y1 y2 hA ⊢
      obtain ⟨q, hq⟩ : ∃ q, (y + 3 - 1) / 3 = q := ⟨_, rfl⟩
      rw [show (y + 2) / 3 = q by rw [← hq, show y + 3 - 1 = y + 2 by omega]] at hA
      have q0 : 0 ≤ q := by omega
      have q1 : q ≤ 10 := by omega
      have HUP := Lib.hid fun w => up_is y 3 q (by omega) (by omega) (Or.inl rfl) hq w
      have HA := Lib.hid hA
      generalize partS C.1 j = s at *
      clear p1 p2 hrow hq hA
      go_wp2_with (go_at_call 33; refine (HUP.out _).mono ?_; rintro e w' ⟨rfl, rfl⟩)
      refine ⟨rfl, .tuple #[.int .i64 (s + x), .int .i64 q, .int .i64 0], ?_, by rw [HA.out]; rfl, B1.out.trans (K2.out.mono B1.out.size)⟩
      simp [results, Try.results71, go_sem]
    · have HA := Lib.hid (findA_none hk 1 k (fun _ => by rw [← HN.out]; exact hin) (fun e => by omega))
      rw [findA_none hk 0 k (fun _ => by rw [← HN.out]; exact hin) (fun e => by omega), ans3_tuple]
      clear hin
      go_wp2
      refine ⟨rfl, .tuple #[.int .i64 0, .int .i64 0, .int .i64 2], ?_, by rw [HA.out]; rfl, B1.out.trans (K2.out.mono B1.out.size)⟩
      simp [results, Try.results71, go_sem]
  · have HA := Lib.hid (findA_bad hk (1, k))
    rw [findA_bad hk, ans3_tuple]
    go_wp2
    refine ⟨rfl, .tuple #[.int .i64 0, .int .i64 0, .int .i64 (chk C)], ?_, by rw [HA.out]; rfl, B1.out.trans (K2.out.mono B1.out.size)⟩
    simp [results, Try.results71, go_sem]
theorem rtraps_ok (v1 v2 v3 : Value) (C : Cf) (k : Int) (w : World) (h : CfAt w v1 v2 v3 C) : Calls Try.prog 71 #[.agg #[v1, v2, v3], .int .i64 k] w fun e w' => e = ans3 (findA C (1, k)) ∧ Below w.heap.size w w' := by
  have hp := h.ps
  obtain ⟨a, c, rfl, _, _, _⟩ := hp
  exact rtraps_in _ c a v2 v3 C rfl k w h
set_option maxHeartbeats 4000000 in
theorem rchan_in (n m c1 c3 : Nat) (a1 a3 : Option Addr) (v2 : Value) (C : Cf) (hn : n = C.1.length) (hm' : m = C.2.2.length) (k : Int) (w : World) (h : CfAt w (.slice a1 n c1) v2 (.slice a3 m c3) C) : Calls Try.prog 47 #[.agg #[.slice a1 n c1, v2, .slice a3 m c3], .int .i64 k] w fun e w' => e = ans3 (findA C (2, k)) ∧ Below w.heap.size w w' := by
  obtain ⟨w1, hw1⟩ : ∃ w1, w1 = w.alloc (.cells #[.slice a1 n c1, v2, .slice a3 m c3] 26) := ⟨_, rfl⟩
  have hb1 : Below w.heap.size w w1 := by rw [hw1]; exact (Below.refl _ _).alloc (Nat.le_refl _) _
  have hx : CBox w1 w.heap.size (.slice a1 n c1) v2 (.slice a3 m c3) := by rw [hw1]; exact CBox.new w _ _ _
  have HC := Lib.hid (h.below hb1)
  have X1 := Lib.hid hx
  have B1 := Lib.hid hb1
  have HN := Lib.hid hn
  have HM := Lib.hid hm'
  have c0 := hx.c0
  have c1' := hx.c1
  have c2 := hx.c2
  clear h hx hb1 hn hm'
  go_enter Try.func47, Try.ntmps47
  go_wp2_with fail
  rw [← hw1]
  clear hw1
  refine (rcheck_ok _ v2 _ C w1 HC.out).mono ?_
  rintro e w2 ⟨rfl, hb⟩
  have K2 := Lib.hid hb
  clear hb c0 c1' c2
  by_cases hk : chk C = 0
  · have hm := (chk_zero hk).1
    have e2 := (X1.out.below K2.out).c2
    rw [hk]
    by_cases hin : 0 ≤ k ∧ k < m
    · obtain ⟨i1, i2⟩ := hin
      obtain ⟨j, rfl⟩ := Int.eq_ofNat_of_zero_le i1
      have hjm : j < m := by omega
      have HA := Lib.hid (findA_chan hk j (by rw [← HM.out]; exact hjm))
      have hn1 : 1 ≤ n := by
        have h0 := hm
        simp only [mayB, Bool.and_eq_true, inB, decide_eq_true_eq] at h0
        have := h0.1.1.1
        rw [HN.out]; omega
      have HT := Lib.hid (findA_traps hk (n - 1) (by rw [← HN.out]; omega))
      have HS := Lib.hid (partS_succ C.1 (n - 1) (by rw [← HN.out]; omega))
      obtain ⟨⟨p1, p2⟩, q1, q2⟩ := mayB_parts hm
      have PP := Lib.hid p2
      have QQ := Lib.hid q2
      have hn8 : n ≤ 8 := by rw [HN.out]; exact p1
      have hm16 : m ≤ 16 := by rw [HM.out]; exact q1
      clear p1 p2 q1 q2
      have i3 : ¬ (m : Int) ≤ (j : Int) := by omega
      have e0 := (X1.out.below K2.out).c0
      have e1 := (X1.out.below K2.out).c1
      go_wp2_with fail
      rw [show ((n : Int) - 1) = ((n - 1 : Nat) : Int) by omega]
      refine (rtraps_ok _ v2 _ C _ w2 (HC.out.below K2.out)).mono ?_
      rintro e w3 ⟨rfl, hb⟩
      have K3 := Lib.hid (K2.out.trans (hb.mono K2.out.size))
      rw [HT.out, ans3_tuple]
      have hpb := partF_le (C.1.getD (n - 1) []) (PP.out _ (getD_mem (by have := HN.out; omega)))
      have hs1 := partS_le hm (n - 1)
      have hsn := partS_le hm n
      have HSN : Hid (partS C.1 (n - 1) + (C.1.getD (n - 1) []).getD 0 0 + ((C.1.getD (n - 1) []).getD 1 0 + 2) / 3 = partS C.1 n) := Lib.hid (by
        have := HS.out
        rw [show n - 1 + 1 = n by omega] at this
        rw [this]; unfold partF; omega)
      have ht00 : 0 ≤ ((C.1.getD (n - 1) []).getD 1 0 + 2) / 3 := by omega
      generalize (C.1.getD (n - 1) []).getD 0 0 = x0 at *
      generalize ((C.1.getD (n - 1) []).getD 1 0 + 2) / 3 = t0 at *
      have ht0 : 0 ≤ t0 ∧ t0 ≤ 3000 := by have := HSN.out; omega
      have hadd : partS C.1 (n - 1) + x0 + t0 = partS C.1 n := HSN.out
      obtain ⟨z, hz⟩ : ∃ z, z = partS C.1 n := ⟨_, rfl⟩
      obtain ⟨z', hz'⟩ : ∃ z', z' = partS C.1 (n - 1) + x0 := ⟨_, rfl⟩
      rw [← hz'] at hadd ⊢
      rw [← hz] at hadd hsn
      have hz0 : 0 ≤ z' ∧ z' ≤ 3000 := by omega
      have HZ : Hid (partS C.1 C.1.length = z) := Lib.hid (by rw [hz, HN.out])
      clear hb e0 e1 e2 HT HS HSN hpb hs1 hz hz'
      go_wp2_with fail
      go_loopw [11, 12] (fun s i wr => ∃ l : Nat, i = .int .i64 (l : Int) ∧ l ≤ j ∧ s = .int .i64 (z + chanS C.2.2 l) ∧ Below w1.heap.size w1 wr) (fun _ i _ => (j - (intOf i).toNat))
      case atStart => exact ⟨0, rfl, Nat.zero_le _, by simp [chanS], K3.out⟩
      case round =>
        obtain ⟨l, rfl, hl, rfl, hB⟩ := hrel
        have K := Lib.hid hB
        clear hB hadd
        have e2 := (X1.out.below K.out).c2
        obtain ⟨s0, s1⟩ := chanS_le hm l
        by_cases hlt : l < j
        · obtain ⟨-, b, o, x, y, u, v, rfl, hbl, hrow, g0, g1, g2, g3⟩ := (show RowsAt 4 w1 (.slice a3 m c3) C.2.2 from HC.out.hs).four K.out l (by omega)
          have hx := chanF_le _ (C.2.2.getD l []) (QQ.out _ (getD_mem (by have := HM.out; omega)))
          have hnext := chanS_succ C.2.2 l (by have := HM.out; omega)
          rw [hrow] at hx hnext
          obtain ⟨⟨u1, u2⟩, ⟨v1, v2'⟩, ⟨p1, p2⟩, -⟩ := hx
          simp only [List.getD_cons_zero, List.getD_cons_succ] at u1 u2 v1 v2' p1 p2
          obtain ⟨r, hr⟩ : ∃ r, u * (v + 1) = r := ⟨_, rfl⟩
          rw [hr] at p1 p2
          obtain ⟨q, hq⟩ : ∃ q, (r + 32 - 1) / 32 = q := ⟨_, rfl⟩
          have q0 : 0 ≤ q := by omega
          have q1 : q ≤ 10 := by omega
          have hF : chanF [x, y, u, v] = q := by rw [← hq, ← hr, show u * (v + 1) + 32 - 1 = u * (v + 1) + 31 by omega]; rfl
          rw [hF] at hnext
          have HUP := Lib.hid fun w => up_same r 32 q (by omega) (by omega) (Or.inr rfl) hq w
          have HNX := Lib.hid hnext
          generalize chanS C.2.2 l = s at *
          clear hrow hF hnext hq
          go_wp2_with fail
          go_quiet ((go_at_call 33; exact Calls.quiet_of_same (HUP.out _)))
          go_wp2
          go_roundw
          case rel => exact ⟨l + 1, by go_num, by omega, by rw [HNX.out]; go_num, below_drewN K.out _⟩
          case measure => simp [intOf]; omega
        · obtain rfl : l = j := by omega
          obtain ⟨-, b, o, x, y, u, v, rfl, hbl, hrow, g0, g1, g2, g3⟩ := (show RowsAt 4 w1 (.slice a3 m c3) C.2.2 from HC.out.hs).four K.out l hjm
          have hx := chanF_le _ (C.2.2.getD l []) (QQ.out _ (getD_mem (by have := HM.out; omega)))
          have hA := HA.out
          rw [hrow] at hA hx
          rw [HZ.out] at hA
          obtain ⟨⟨u1, u2⟩, ⟨v1, v2'⟩, ⟨p1, p2⟩, -⟩ := hx
          simp only [List.getD_cons_zero, List.getD_cons_succ] at u1 u2 v1 v2' p1 p2
          obtain ⟨r, hr⟩ : ∃ r, u * (v + 1) = r := ⟨_, rfl⟩
          rw [hr] at p1 p2
          obtain ⟨q, hq⟩ : ∃ q, (r + 32 - 1) / 32 = q := ⟨_, rfl⟩
          have q0 : 0 ≤ q := by omega
          have q1 : q ≤ 10 := by omega
          have hF : chanF [x, y, u, v] = q := by rw [← hq, ← hr, show u * (v + 1) + 32 - 1 = u * (v + 1) + 31 by omega]; rfl
          rw [hF] at hA
          have HUP := Lib.hid fun w => up_same r 32 q (by omega) (by omega) (Or.inr rfl) hq w
          have HA2 := Lib.hid hA
          generalize chanS C.2.2 l = s at *
          clear hrow hA HA hF hq
          go_wp2_with fail
          go_quiet ((go_at_call 33; exact Calls.quiet_of_same (HUP.out _)))
          go_wp2
          refine ⟨rfl, .tuple #[.int .i64 (z + s), .int .i64 q, .int .i64 0], ?_, by rw [HA2.out]; rfl, B1.out.trans ((below_drewN K.out _).mono B1.out.size)⟩
          simp [results, Try.results47, go_sem]
    · have HA := Lib.hid (findA_none hk 2 k (fun e => by omega) (fun _ => by rw [← HM.out]; exact hin))
      have hc : k < 0 ∨ (¬ k < 0 ∧ (m : Int) ≤ k) := by omega
      clear hin
      rcases hc with i1 | ⟨i1, i2⟩
      all_goals
        go_wp2
        refine ⟨rfl, .tuple #[.int .i64 0, .int .i64 0, .int .i64 2], ?_, by rw [HA.out]; rfl, B1.out.trans (K2.out.mono B1.out.size)⟩
        simp [results, Try.results47, go_sem]
  · have HA := Lib.hid (findA_bad hk (2, k))
    go_wp2
    refine ⟨rfl, .tuple #[.int .i64 0, .int .i64 0, .int .i64 (chk C)], ?_, by rw [HA.out]; rfl, B1.out.trans (K2.out.mono B1.out.size)⟩
    simp [results, Try.results47, go_sem]
theorem rchan_ok (v1 v2 v3 : Value) (C : Cf) (k : Int) (w : World) (h : CfAt w v1 v2 v3 C) : Calls Try.prog 47 #[.agg #[v1, v2, v3], .int .i64 k] w fun e w' => e = ans3 (findA C (2, k)) ∧ Below w.heap.size w w' := by
  have hp := h.ps
  obtain ⟨a, c, rfl, _, _, _⟩ := hp
  have hh := h.hs
  obtain ⟨a', c', rfl, _, _, _⟩ := hh
  exact rchan_in _ _ c c' a a' v2 C rfl rfl k w h
end Go.Proofs.Ytnapodeiigkebaa
