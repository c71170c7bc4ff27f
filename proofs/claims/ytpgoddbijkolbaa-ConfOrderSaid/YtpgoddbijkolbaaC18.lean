/- The contract of the document's own Same, layer 6. Condition: the configurations' lists lie in memory. Written by gen/gen_c18.py. -/
import Derived.Test.YtpgoddbijkolbaaC10
import Derived.Test.YtpgoddbijkolbaaC16
namespace Go.Proofs.Ytpgoddbijkolbaa
open Go.RowKit
set_option maxRecDepth 100000

theorem same_parts (P W H P' W' H' : List Row) : decide ((P, W, H) = (P', W', H')) = (decide (P = P') && (decide (W = W') && decide (H = H'))) := by
  by_cases h1 : P = P' <;> by_cases h2 : W = W' <;> by_cases h3 : H = H' <;> simp [h1, h2, h3]
theorem ne_len {S U : List Row} {n m : Nat} (hn : n = S.length) (hm : m = U.length) (h : n ≠ m) : decide (S = U) = false := decide_eq_false fun e => h (by rw [hn, hm, e])
set_option maxHeartbeats 8000000 in
theorem rsame_in (a1 a2 a3 b1 b2 b3 : Option Addr) (n m k c1 c2 c3 n' m' k' e1 e2 e3 : Nat) (P W H P' W' H' : List Row) (hn : n = P.length) (hm : m = W.length) (hk : k = H.length) (hn' : n' = P'.length) (hm' : m' = W'.length) (hk' : k' = H'.length) (w : World)
    (h : CfAt w (.slice a1 n c1) (.slice a2 m c2) (.slice a3 k c3) (P, W, H)) (h' : CfAt w (.slice b1 n' e1) (.slice b2 m' e2) (.slice b3 k' e3) (P', W', H')) (hl1 : n ≤ 1000) (hl2 : m ≤ 1000) (hl3 : k ≤ 1000) :
    Calls Try.prog 18 #[.agg #[.slice a1 n c1, .slice a2 m c2, .slice a3 k c3], .agg #[.slice b1 n' e1, .slice b2 m' e2, .slice b3 k' e3]] w fun e w' => e = .returned (.bool (decide ((P, W, H) = (P', W', H')))) ∧ Below w.heap.size w w' := by
  obtain ⟨w1, hw1⟩ : ∃ w1, w1 = (w.alloc (.cells #[.slice a1 n c1, .slice a2 m c2, .slice a3 k c3] 26)).alloc (.cells #[.slice b1 n' e1, .slice b2 m' e2, .slice b3 k' e3] 26) := ⟨_, rfl⟩
  have hb1 : Below w.heap.size w w1 := by rw [hw1]; exact below_two w _ _
  have HX : CBox w1 w.heap.size (.slice a1 n c1) (.slice a2 m c2) (.slice a3 k c3) := by rw [hw1]; exact (CBox.new w _ _ _).below ((Below.refl _ _).alloc (Nat.le_refl _) _)
  have HY : CBox w1 (w.heap.size + 1) (.slice b1 n' e1) (.slice b2 m' e2) (.slice b3 k' e3) := by rw [hw1]; exact heap_alloc2_new w _ _
  have HC := Lib.hid (h.below hb1)
  have HD := Lib.hid (h'.below hb1)
  have X1 := Lib.hid HX
  have Y1 := Lib.hid HY
  have B1 := Lib.hid hb1
  have HM := Lib.hid (same_parts P W H P' W' H')
  by_cases hnn : n = n'
  rotate_left
  · have E := Lib.hid (ne_len hn hn' hnn)
    have hnn' : ¬ (n : Int) = (n' : Int) := by omega
    clear h h' hb1 HX HY hw1 hn hm hk hn' hm' hk'
    go_enter Try.func18, Try.ntmps18
    go_wp2
    go_ret
    exact ⟨ret_bool (by rw [HM.out, E.out]; rfl), below_two w _ _⟩
  by_cases hmm : m = m'
  rotate_left
  · have E := Lib.hid (ne_len hm hm' hmm)
    have hmm' : ¬ (m : Int) = (m' : Int) := by omega
    clear h h' hb1 HX HY hw1 hn hm hk hn' hm' hk'
    go_enter Try.func18, Try.ntmps18
    go_wp2
    go_ret
    exact ⟨ret_bool (by rw [HM.out, E.out]; simp), below_two w _ _⟩
  by_cases hkk : k = k'
  rotate_left
  · have E := Lib.hid (ne_len hk hk' hkk)
    have hkk' : ¬ (k : Int) = (k' : Int) := by omega
    clear h h' hb1 HX HY hw1 hn hm hk hn' hm' hk'
    go_enter Try.func18, Try.ntmps18
    go_wp2
    go_ret
    exact ⟨ret_bool (by rw [HM.out, E.out]; simp), below_two w _ _⟩
  have HN := Lib.hid hn
  have HMM := Lib.hid hm
  have HK := Lib.hid hk
  have HN' : Hid (n = P'.length) := Lib.hid (hnn.trans hn')
  have HMM' : Hid (m = W'.length) := Lib.hid (hmm.trans hm')
  have HK' : Hid (k = H'.length) := Lib.hid (hkk.trans hk')
  have QP := neq_part
  have QW := neq_win
  have QH := neq_chan
  have NQP := Lib.hid QP
  have NQW := Lib.hid QW
  have NQH := Lib.hid QH
  clear h h' hb1 hn hm hk hn' hm' hk' QP QW QH
  subst hnn hmm hkk
  have x0 := HX.c0
  have y0 := HY.c0
  have x1 := HX.c1
  have y1 := HY.c1
  have x2 := HX.c2
  have y2 := HY.c2
  clear HX HY
  go_enter Try.func18, Try.ntmps18
  go_wp2_with fail
  rw [← hw1]
  clear hw1 x1 y1 x2 y2
  go_loopw [5] (fun i wr => EqRel w1 P P' n i wr) (fun i _ => (n - (intOf i).toNat))
  case atStart => exact ⟨0, rfl, Nat.zero_le _, Below.refl _ _, by simp⟩
  case round =>
    obtain ⟨i0, rfl, hi, hB, hall⟩ := hrel
    have KR0 := Lib.hid hB
    have ALL := Lib.hid hall
    clear hB hall x0 y0
    have x0 := (X1.out.below KR0.out).c0
    have y0 := (Y1.out.below KR0.out).c0
    by_cases hlt' : i0 < n
    · obtain ⟨hSn, b, o, x, y, rfl, hbl, hrow, g0, g1⟩ := (show RowsAt 2 w1 (.slice a1 n c1) P from HC.out.ps).two KR0.out i0 hlt'
      obtain ⟨hSn', b', o', x', y', rfl, hbl', hrow', h0, h1⟩ := (show RowsAt 2 w1 (.slice b1 n e1) P' from HD.out.ps).two KR0.out i0 hlt'
      have ROW := Lib.hid hrow
      have ROW' := Lib.hid hrow'
      have SN := Lib.hid hSn
      have SN' := Lib.hid hSn'
      have hq := NQP.out x y x' y'
      obtain ⟨r, hr⟩ : ∃ r, r = decide ([x, y] = [x', y']) := ⟨_, rfl⟩
      rw [← hr] at hq
      have RR := Lib.hid hr
      clear hr hrow hrow' hSn hSn'
      cases r with
      | true =>
        rw [Bool.not_true] at hq
        have e9 : P.getD i0 [] = P'.getD i0 [] := by rw [ROW.out, ROW'.out]; exact of_decide_eq_true RR.out.symm
        have ALL1 := Lib.hid (take_eq (show i0 < P.length by have := SN.out; omega) (show i0 < P'.length by have := SN'.out; omega) ALL.out e9)
        clear e9
        go_wp2_with fail
        go_region_held3 (fun w' => w'.cell? ⟨w.heap.size, 0, none⟩ = some (.slice (some ⟨b, o, none⟩) n c1) ∧ w'.cell? ⟨w.heap.size + 1, 0, none⟩ = some (.slice (some ⟨b', o', none⟩) n e1) ∧ w'.cell? ⟨b, o + i0 * 2, none⟩ = some (.int .i64 x) ∧ w'.cell? ⟨b, o + i0 * 2 + 1, none⟩ = some (.int .i64 y) ∧ w'.cell? ⟨b', o' + i0 * 2, none⟩ = some (.int .i64 x') ∧ w'.cell? ⟨b', o' + i0 * 2 + 1, none⟩ = some (.int .i64 y')) (go_keep) (fail)
        go_wp2
        go_roundw
        case rel => exact ⟨i0 + 1, by go_num, by omega, KR0.out.drew, ALL1.out⟩
        case measure => simp [intOf]; omega
      | false =>
        rw [Bool.not_false] at hq
        have e9 : decide (P = P') = false := by
          refine decide_eq_false fun e => ?_
          have h1 := ROW.out
          rw [e, ROW'.out] at h1
          exact of_decide_eq_false RR.out.symm h1.symm
        have E9 := Lib.hid e9
        clear e9
        go_wp2_with fail
        go_region_held3 (fun w' => w'.cell? ⟨w.heap.size, 0, none⟩ = some (.slice (some ⟨b, o, none⟩) n c1) ∧ w'.cell? ⟨w.heap.size + 1, 0, none⟩ = some (.slice (some ⟨b', o', none⟩) n e1) ∧ w'.cell? ⟨b, o + i0 * 2, none⟩ = some (.int .i64 x) ∧ w'.cell? ⟨b, o + i0 * 2 + 1, none⟩ = some (.int .i64 y) ∧ w'.cell? ⟨b', o' + i0 * 2, none⟩ = some (.int .i64 x') ∧ w'.cell? ⟨b', o' + i0 * 2 + 1, none⟩ = some (.int .i64 y')) (go_keep) (fail)
        go_wp2
        go_ret
        exact ⟨ret_bool (by rw [HM.out, E9.out]; rfl), B1.out.trans (KR0.out.drew.mono B1.out.size)⟩
    · obtain rfl : n = i0 := by omega
      have E0 : Hid (decide (P = P') = true) := Lib.hid (decide_eq_true (by have := ALL.out; rwa [show P.take n = P by rw [HN.out, List.take_length], show P'.take n = P' by rw [HN'.out, List.take_length]] at this))
      have x1 := (X1.out.below KR0.out).c1
      have y1 := (Y1.out.below KR0.out).c1
      clear hlt' ALL
      go_wp2_with fail
      go_loopw [6] (fun i wr => EqRel w1 W W' m i wr) (fun i _ => (m - (intOf i).toNat))
      case atStart => exact ⟨0, rfl, Nat.zero_le _, KR0.out, by simp⟩
      case round =>
        obtain ⟨i1, rfl, hi, hB, hall⟩ := hrel
        have KR1 := Lib.hid hB
        have ALL := Lib.hid hall
        clear hB hall x1 y1
        have x1 := (X1.out.below KR1.out).c1
        have y1 := (Y1.out.below KR1.out).c1
        by_cases hlt' : i1 < m
        · obtain ⟨hSn, b, o, x, y, rfl, hbl, hrow, g0, g1⟩ := (show RowsAt 2 w1 (.slice a2 m c2) W from HC.out.ws).two KR1.out i1 hlt'
          obtain ⟨hSn', b', o', x', y', rfl, hbl', hrow', h0, h1⟩ := (show RowsAt 2 w1 (.slice b2 m e2) W' from HD.out.ws).two KR1.out i1 hlt'
          have ROW := Lib.hid hrow
          have ROW' := Lib.hid hrow'
          have SN := Lib.hid hSn
          have SN' := Lib.hid hSn'
          have hq := NQW.out x y x' y'
          obtain ⟨r, hr⟩ : ∃ r, r = decide ([x, y] = [x', y']) := ⟨_, rfl⟩
          rw [← hr] at hq
          have RR := Lib.hid hr
          clear hr hrow hrow' hSn hSn'
          cases r with
          | true =>
            rw [Bool.not_true] at hq
            have e9 : W.getD i1 [] = W'.getD i1 [] := by rw [ROW.out, ROW'.out]; exact of_decide_eq_true RR.out.symm
            have ALL1 := Lib.hid (take_eq (show i1 < W.length by have := SN.out; omega) (show i1 < W'.length by have := SN'.out; omega) ALL.out e9)
            clear e9
            go_wp2_with fail
            go_region_held3 (fun w' => w'.cell? ⟨w.heap.size, 1, none⟩ = some (.slice (some ⟨b, o, none⟩) m c2) ∧ w'.cell? ⟨w.heap.size + 1, 1, none⟩ = some (.slice (some ⟨b', o', none⟩) m e2) ∧ w'.cell? ⟨b, o + i1 * 2, none⟩ = some (.int .i64 x) ∧ w'.cell? ⟨b, o + i1 * 2 + 1, none⟩ = some (.int .i64 y) ∧ w'.cell? ⟨b', o' + i1 * 2, none⟩ = some (.int .i64 x') ∧ w'.cell? ⟨b', o' + i1 * 2 + 1, none⟩ = some (.int .i64 y')) (go_keep) (fail)
            go_wp2
            go_roundw
            case rel => exact ⟨i1 + 1, by go_num, by omega, KR1.out.drew, ALL1.out⟩
            case measure => simp [intOf]; omega
          | false =>
            rw [Bool.not_false] at hq
            have e9 : decide (W = W') = false := by
              refine decide_eq_false fun e => ?_
              have h1 := ROW.out
              rw [e, ROW'.out] at h1
              exact of_decide_eq_false RR.out.symm h1.symm
            have E9 := Lib.hid e9
            clear e9
            go_wp2_with fail
            go_region_held3 (fun w' => w'.cell? ⟨w.heap.size, 1, none⟩ = some (.slice (some ⟨b, o, none⟩) m c2) ∧ w'.cell? ⟨w.heap.size + 1, 1, none⟩ = some (.slice (some ⟨b', o', none⟩) m e2) ∧ w'.cell? ⟨b, o + i1 * 2, none⟩ = some (.int .i64 x) ∧ w'.cell? ⟨b, o + i1 * 2 + 1, none⟩ = some (.int .i64 y) ∧ w'.cell? ⟨b', o' + i1 * 2, none⟩ = some (.int .i64 x') ∧ w'.cell? ⟨b', o' + i1 * 2 + 1, none⟩ = some (.int .i64 y')) (go_keep) (fail)
            go_wp2
            go_ret
            exact ⟨ret_bool (by rw [HM.out, E0.out, E9.out]; rfl), B1.out.trans (KR1.out.drew.mono B1.out.size)⟩
        · obtain rfl : m = i1 := by omega
          have E1 : Hid (decide (W = W') = true) := Lib.hid (decide_eq_true (by have := ALL.out; rwa [show W.take m = W by rw [HMM.out, List.take_length], show W'.take m = W' by rw [HMM'.out, List.take_length]] at this))
          have x2 := (X1.out.below KR1.out).c2
          have y2 := (Y1.out.below KR1.out).c2
          clear hlt' ALL
          go_wp2_with fail
          go_loopw [7] (fun i wr => EqRel w1 H H' k i wr) (fun i _ => (k - (intOf i).toNat))
          case atStart => exact ⟨0, rfl, Nat.zero_le _, KR1.out, by simp⟩
          case round =>
            obtain ⟨i2, rfl, hi, hB, hall⟩ := hrel
            have KR2 := Lib.hid hB
            have ALL := Lib.hid hall
            clear hB hall x2 y2
            have x2 := (X1.out.below KR2.out).c2
            have y2 := (Y1.out.below KR2.out).c2
            by_cases hlt' : i2 < k
            · obtain ⟨hSn, b, o, x, y, z, t, rfl, hbl, hrow, g0, g1, g2, g3⟩ := (show RowsAt 4 w1 (.slice a3 k c3) H from HC.out.hs).four KR2.out i2 hlt'
              obtain ⟨hSn', b', o', x', y', z', t', rfl, hbl', hrow', h0, h1, h2, h3⟩ := (show RowsAt 4 w1 (.slice b3 k e3) H' from HD.out.hs).four KR2.out i2 hlt'
              have ROW := Lib.hid hrow
              have ROW' := Lib.hid hrow'
              have SN := Lib.hid hSn
              have SN' := Lib.hid hSn'
              have hq := NQH.out x y z t x' y' z' t'
              obtain ⟨r, hr⟩ : ∃ r, r = decide ([x, y, z, t] = [x', y', z', t']) := ⟨_, rfl⟩
              rw [← hr] at hq
              have RR := Lib.hid hr
              clear hr hrow hrow' hSn hSn'
              cases r with
              | true =>
                rw [Bool.not_true] at hq
                have e9 : H.getD i2 [] = H'.getD i2 [] := by rw [ROW.out, ROW'.out]; exact of_decide_eq_true RR.out.symm
                have ALL1 := Lib.hid (take_eq (show i2 < H.length by have := SN.out; omega) (show i2 < H'.length by have := SN'.out; omega) ALL.out e9)
                clear e9
                go_wp2_with fail
                go_region_held3 (fun w' => w'.cell? ⟨w.heap.size, 2, none⟩ = some (.slice (some ⟨b, o, none⟩) k c3) ∧ w'.cell? ⟨w.heap.size + 1, 2, none⟩ = some (.slice (some ⟨b', o', none⟩) k e3) ∧ w'.cell? ⟨b, o + i2 * 4, none⟩ = some (.int .i64 x) ∧ w'.cell? ⟨b, o + i2 * 4 + 1, none⟩ = some (.int .i64 y) ∧ w'.cell? ⟨b, o + i2 * 4 + 2, none⟩ = some (.int .i64 z) ∧ w'.cell? ⟨b, o + i2 * 4 + 3, none⟩ = some (.int .i64 t) ∧ w'.cell? ⟨b', o' + i2 * 4, none⟩ = some (.int .i64 x') ∧ w'.cell? ⟨b', o' + i2 * 4 + 1, none⟩ = some (.int .i64 y') ∧ w'.cell? ⟨b', o' + i2 * 4 + 2, none⟩ = some (.int .i64 z') ∧ w'.cell? ⟨b', o' + i2 * 4 + 3, none⟩ = some (.int .i64 t')) (go_keep) (fail)
                go_wp2
                go_roundw
                case rel => exact ⟨i2 + 1, by go_num, by omega, KR2.out.drew, ALL1.out⟩
                case measure => simp [intOf]; omega
              | false =>
                rw [Bool.not_false] at hq
                have e9 : decide (H = H') = false := by
                  refine decide_eq_false fun e => ?_
                  have h1 := ROW.out
                  rw [e, ROW'.out] at h1
                  exact of_decide_eq_false RR.out.symm h1.symm
                have E9 := Lib.hid e9
                clear e9
                go_wp2_with fail
                go_region_held3 (fun w' => w'.cell? ⟨w.heap.size, 2, none⟩ = some (.slice (some ⟨b, o, none⟩) k c3) ∧ w'.cell? ⟨w.heap.size + 1, 2, none⟩ = some (.slice (some ⟨b', o', none⟩) k e3) ∧ w'.cell? ⟨b, o + i2 * 4, none⟩ = some (.int .i64 x) ∧ w'.cell? ⟨b, o + i2 * 4 + 1, none⟩ = some (.int .i64 y) ∧ w'.cell? ⟨b, o + i2 * 4 + 2, none⟩ = some (.int .i64 z) ∧ w'.cell? ⟨b, o + i2 * 4 + 3, none⟩ = some (.int .i64 t) ∧ w'.cell? ⟨b', o' + i2 * 4, none⟩ = some (.int .i64 x') ∧ w'.cell? ⟨b', o' + i2 * 4 + 1, none⟩ = some (.int .i64 y') ∧ w'.cell? ⟨b', o' + i2 * 4 + 2, none⟩ = some (.int .i64 z') ∧ w'.cell? ⟨b', o' + i2 * 4 + 3, none⟩ = some (.int .i64 t')) (go_keep) (fail)
                go_wp2
                go_ret
                exact ⟨ret_bool (by rw [HM.out, E0.out, E1.out, E9.out]; rfl), B1.out.trans (KR2.out.drew.mono B1.out.size)⟩
            · obtain rfl : k = i2 := by omega
              have E2 : Hid (decide (H = H') = true) := Lib.hid (decide_eq_true (by have := ALL.out; rwa [show H.take k = H by rw [HK.out, List.take_length], show H'.take k = H' by rw [HK'.out, List.take_length]] at this))
              clear hlt' ALL
              go_wp2
              go_ret
              exact ⟨ret_bool (by rw [HM.out, E0.out, E1.out, E2.out]; rfl), B1.out.trans (KR2.out.mono B1.out.size)⟩
theorem rsame_ok (v1 v2 v3 u1 u2 u3 : Value) (C D : Cf) (w : World) (h : CfAt w v1 v2 v3 C) (k : CfAt w u1 u2 u3 D) : Calls Try.prog 18 #[.agg #[v1, v2, v3], .agg #[u1, u2, u3]] w fun e w' => e = .returned (.bool (decide (C = D))) ∧ Below w.heap.size w w' := by
  obtain ⟨P, W, H⟩ := C
  obtain ⟨P', W', H'⟩ := D
  have h1 := h.ps
  obtain ⟨a1, c1, rfl, t1, _, _⟩ := h1
  have h2 := h.ws
  obtain ⟨a2, c2, rfl, t2, _, _⟩ := h2
  have h3 := h.hs
  obtain ⟨a3, c3, rfl, t3, _, _⟩ := h3
  have k1 := k.ps
  obtain ⟨b1, e1, rfl, _, _, _⟩ := k1
  have k2 := k.ws
  obtain ⟨b2, e2, rfl, _, _, _⟩ := k2
  have k3 := k.hs
  obtain ⟨b3, e3, rfl, _, _, _⟩ := k3
  exact rsame_in a1 a2 a3 b1 b2 b3 _ _ _ c1 c2 c3 _ _ _ e1 e2 e3 P W H P' W' H' rfl rfl rfl rfl rfl rfl w h k t1 t2 t3
end Go.Proofs.Ytpgoddbijkolbaa
