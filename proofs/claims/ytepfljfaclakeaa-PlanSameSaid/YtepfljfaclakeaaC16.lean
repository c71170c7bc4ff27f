/- The contracts of the document's own Frames and Check, layer 6. Condition: the configuration's lists lie in memory. -/
import Derived.Test.YtepfljfaclakeaaC15
import Derived.Test.YtepfljfaclakeaaC6
namespace Go.Proofs.Ytepfljfaclakeaa
open Go.RowKit
set_option maxRecDepth 100000

theorem RowsAt.isSlice {k : Nat} {w : World} {v : Value} {S : List Row} (h : RowsAt k w v S) : ∃ a n c, v = .slice a n c := by
  obtain ⟨a, c, rfl, _⟩ := h
  exact ⟨_, _, _, rfl⟩
theorem rnumbers_ok (v1 v2 v3 : Value) (C : Cf) (w : World) (h : CfAt w v1 v2 v3 C) : Calls Try.prog 28 #[.agg #[v1, v2, v3]] w fun e w' => e = .returned (.bool (mayB C)) ∧ Below w.heap.size w w' := by
  obtain ⟨P, W, H⟩ := C
  have hps := h.ps
  obtain ⟨a, c, rfl, t1, _, _⟩ := hps
  have hws := h.ws
  obtain ⟨a', c', rfl, t2, _, _⟩ := hws
  have hhs := h.hs
  obtain ⟨a'', c'', rfl, t3, _, _⟩ := hhs
  exact rnumbers_in a a' a'' _ _ _ c c' c'' P W H rfl rfl rfl t1 t2 t3 w h
theorem up_ok (n k : Int) (h0 : 0 ≤ n) (h1 : n ≤ 1000000) (hk : k = 3 ∨ k = 32) (w : World) : Calls Try.prog 25 #[.int .i64 n, .int .i64 k] w fun e w' => e = .returned (.int .i64 ((n + k - 1) / k)) ∧ w = w' := by
  obtain ⟨q, hq⟩ : ∃ q, q = n / k := ⟨_, rfl⟩
  obtain ⟨r, hr⟩ : ∃ r, r = n % k := ⟨_, rfl⟩
  have hd : n.tdiv k = q := by rw [hq]; exact Int.tdiv_eq_ediv_of_nonneg h0
  have hm : n.tmod k = r := by rw [hr]; exact Int.tmod_eq_emod_of_nonneg h0
  have hk0 : ¬ k = 0 := by omega
  have hq0 : 0 ≤ q := by rw [hq]; rcases hk with rfl | rfl <;> omega
  have hq1 : q ≤ 1000000 := by rw [hq]; rcases hk with rfl | rfl <;> omega
  by_cases hr0 : 0 < r
  · have e : (n + k - 1) / k = q + 1 := by rw [hq]; rw [hr] at hr0; rcases hk with rfl | rfl <;> omega
    rw [e]
    clear hq hr hk e
    go_enter Try.func25, Try.ntmps25
    go_wp2
    go_ret
    exact ⟨rfl, rfl⟩
  · have e : (n + k - 1) / k = q := by rw [hq]; rw [hr] at hr0; rcases hk with rfl | rfl <;> omega
    rw [e]
    clear hq hr hk e
    go_enter Try.func25, Try.ntmps25
    go_wp2
    go_ret
    exact ⟨rfl, rfl⟩
set_option maxHeartbeats 2000000 in
theorem rframes_in (a1 a3 : Option Addr) (n c1 m c3 : Nat) (v2 : Value) (P W H : List Row) (hn : n = P.length) (hm : m = H.length) (w : World) (h : CfAt w (.slice a1 n c1) v2 (.slice a3 m c3) (P, W, H)) :
    Calls Try.prog 29 #[.agg #[.slice a1 n c1, v2, .slice a3 m c3]] w fun e w' => e = .returned (.int .i64 (framesA (P, W, H))) ∧ Below w.heap.size w w' := by
  obtain ⟨w1, hw1⟩ : ∃ w1, w1 = w.alloc (.cells #[.slice a1 n c1, v2, .slice a3 m c3] 26) := ⟨_, rfl⟩
  have hb1 : Below w.heap.size w w1 := by rw [hw1]; exact (Below.refl _ _).alloc (Nat.le_refl _) _
  have HX : CBox w1 w.heap.size (.slice a1 n c1) v2 (.slice a3 m c3) := by rw [hw1]; exact CBox.new w _ _ _
  have HC := Lib.hid (h.below hb1)
  have X1 := Lib.hid HX
  have B1 := Lib.hid hb1
  have d0 := HX.c0
  have d1 := HX.c1
  have d2 := HX.c2
  have HN := Lib.hid hn
  have HM := Lib.hid hm
  clear h hb1 HX hn hm
  go_enter Try.func29, Try.ntmps29
  go_wp2_with fail
  rw [← hw1]
  clear hw1
  refine (rnumbers_ok _ _ _ (P, W, H) w1 HC.out).mono ?_
  rintro e w2 ⟨rfl, hb⟩
  have K2 := Lib.hid hb
  clear hb d0 d1 d2
  cases hmay : mayB (P, W, H) with
  | false =>
    go_wp2
    go_ret
    exact ⟨by rw [show framesA (P, W, H) = 0 by unfold framesA; rw [hmay]; rfl]; rfl, B1.out.trans (K2.out.mono B1.out.size)⟩
  | true =>
    obtain ⟨⟨p1, p2⟩, q1, q2⟩ := mayB_parts hmay
    have ht : n ≤ 8 := by have := HN.out; simp only at p1; omega
    have ht3 : m ≤ 16 := by have := HM.out; simp only at q1; omega
    have PP : Hid (∀ T ∈ P, partB T = true) := Lib.hid p2
    have HH : Hid (∀ T ∈ H, chanB n T = true) := Lib.hid (by rw [HN.out]; exact q2)
    have HA : Hid (framesA (P, W, H) = framesC (P, W, H)) := Lib.hid (by unfold framesA; rw [if_pos hmay])
    clear p1 p2 q1 q2 hmay
    have d0 := (X1.out.below K2.out).c0
    go_wp2_with fail
    go_loopw [3, 4] (fun s i wr => FrRel w1 0 partF P n s i wr) (fun _ i _ => (n - (intOf i).toNat))
    case atStart => exact ⟨0, rfl, Nat.zero_le _, by simp, K2.out⟩
    case round =>
      obtain ⟨j, rfl, hj, rfl, hB⟩ := hrel
      have K := Lib.hid hB
      clear hB d0
      have d0 := (X1.out.below K.out).c0
      have hsum := sum_le partF 300 (P.take j) (take_mem fun T hT => (partF_le T (PP.out T hT)).2.2)
      have hlen : ((P.take j).length : Int) * (300 : Nat) ≤ 2400 := by
        have : (P.take j).length ≤ 8 := by rw [List.length_take]; omega
        have : ((P.take j).length : Int) ≤ 8 := by exact_mod_cast this
        omega
      obtain ⟨s, hs⟩ : ∃ s, s = ((P.take j).map partF).sum := ⟨_, rfl⟩
      rw [← hs] at hsum ⊢
      have SS := Lib.hid hs
      have s0 : 0 ≤ s := hsum.1
      have s1 : s ≤ 2400 := Int.le_trans hsum.2 hlen
      rw [Int.zero_add]
      clear hs hsum hlen
      by_cases hlt' : j < n
      · obtain ⟨hnP, b, o, x, y, rfl, hbl, hrow, g0, g1⟩ := (show RowsAt 2 w1 (.slice a1 n c1) P from HC.out.ps).two K.out j hlt'
        have hx := partF_le (P.getD j []) (PP.out _ (getD_mem (by omega)))
        have hnext := sum_take partF P j (by omega)
        rw [hrow] at hx hnext
        rw [← SS.out] at hnext
        obtain ⟨⟨x1, x2⟩, ⟨y1, y2⟩, -⟩ := hx
        simp only [List.getD_cons_zero, List.getD_cons_succ] at x1 x2 y1 y2
        rw [show partF [x, y] = x + (y + 2) / 3 from rfl] at hnext
        have HNX := Lib.hid hnext
        have hp := fun w => up_ok y 3 (by omega) (by omega) (Or.inl rfl) w
        obtain ⟨q, hq⟩ : ∃ q, q = (y + 3 - 1) / 3 := ⟨_, rfl⟩
        rw [← hq] at hp
        have q0 : 0 ≤ q := by omega
        have q1 : q ≤ 10 := by omega
        have HQ : Hid (q = (y + 2) / 3) := Lib.hid (by rw [hq, show y + 3 - 1 = y + 2 by omega])
        have HPC := Lib.hid hp
        clear hrow hnext hp hq hnP
        go_wp2_with fail
        go_quiet ((go_at_call 25; exact Calls.quiet_of_same ((HPC.out _).mono fun _ _ h => ⟨h.1, h.2.symm⟩)))
        go_wp2
        go_roundw
        case rel => exact ⟨j + 1, by go_num, by omega, by rw [HNX.out, HQ.out]; go_num, below_drewN K.out _⟩
        case measure => simp [intOf]; omega
      · obtain rfl : j = n := by omega
        have SE : Hid (s = (P.map partF).sum) := Lib.hid (by rw [SS.out, HN.out, List.take_length])
        have d2 := (X1.out.below K.out).c2
        clear hlt' SS
        go_wp2_with fail
        go_loopw [3, 5] (fun z i wr => FrRel w1 s chanF H m z i wr) (fun _ i _ => (m - (intOf i).toNat))
        case atStart => exact ⟨0, rfl, Nat.zero_le _, by simp, K.out⟩
        case round =>
          obtain ⟨i, rfl, hi, rfl, hB⟩ := hrel
          have K' := Lib.hid hB
          clear hB d2 d0
          have d2 := (X1.out.below K'.out).c2
          have hsum := sum_le chanF 300 (H.take i) (take_mem fun T hT => (chanF_le _ T (HH.out T hT)).2.2.2)
          have hlen : ((H.take i).length : Int) * (300 : Nat) ≤ 4800 := by
            have : (H.take i).length ≤ 16 := by rw [List.length_take]; omega
            have : ((H.take i).length : Int) ≤ 16 := by exact_mod_cast this
            omega
          obtain ⟨z, hz⟩ : ∃ z, z = ((H.take i).map chanF).sum := ⟨_, rfl⟩
          rw [← hz] at hsum ⊢
          have ZZ := Lib.hid hz
          have z0 : 0 ≤ z := hsum.1
          have z1 : z ≤ 4800 := Int.le_trans hsum.2 hlen
          clear hz hsum hlen
          by_cases hlt' : i < m
          · obtain ⟨hmH, b, o, x, y, u, v, rfl, hbl, hrow, g0, g1, g2, g3⟩ := (show RowsAt 4 w1 (.slice a3 m c3) H from HC.out.hs).four K'.out i hlt'
            have hx := chanF_le _ (H.getD i []) (HH.out _ (getD_mem (by omega)))
            have hnext := sum_take chanF H i (by omega)
            rw [hrow] at hx hnext
            rw [← ZZ.out] at hnext
            obtain ⟨⟨u1, u2⟩, ⟨v1, v2⟩, ⟨p1, p2⟩, -⟩ := hx
            simp only [List.getD_cons_zero, List.getD_cons_succ] at u1 u2 v1 v2 p1 p2
            rw [show chanF [x, y, u, v] = (u * (v + 1) + 31) / 32 from rfl] at hnext
            have HNX := Lib.hid hnext
            have hp := fun w => up_ok (u * (v + 1)) 32 p1 (by omega) (Or.inr rfl) w
            obtain ⟨r, hr⟩ : ∃ r, r = u * (v + 1) := ⟨_, rfl⟩
            rw [← hr] at hp p1 p2 HNX
            obtain ⟨q, hq⟩ : ∃ q, q = (r + 32 - 1) / 32 := ⟨_, rfl⟩
            rw [← hq] at hp
            have q0 : 0 ≤ q := by omega
            have q1 : q ≤ 10 := by omega
            have HQ : Hid (q = (r + 31) / 32) := Lib.hid (by rw [hq, show r + 32 - 1 = r + 31 by omega])
            have HPC := Lib.hid hp
            have hr2 : u * (v + 1) = r := hr.symm
            clear hrow hnext hp hq hr hmH
            go_wp2_with fail
            go_quiet ((go_at_call 25; exact Calls.quiet_of_same ((HPC.out _).mono fun _ _ h => ⟨h.1, h.2.symm⟩)))
            go_wp2
            go_roundw
            case rel => exact ⟨i + 1, by go_num, by omega, by rw [HNX.out, HQ.out]; go_num, below_drewN K'.out _⟩
            case measure => simp [intOf]; omega
          · obtain rfl : i = m := by omega
            have ZE : Hid (z = (H.map chanF).sum) := Lib.hid (by rw [ZZ.out, HM.out, List.take_length])
            clear hlt' ZZ
            go_wp2
            go_ret
            exact ⟨by rw [HA.out, SE.out, ZE.out]; rfl, B1.out.trans (K'.out.mono B1.out.size)⟩
theorem rframes_ok (v1 v2 v3 : Value) (C : Cf) (w : World) (h : CfAt w v1 v2 v3 C) : Calls Try.prog 29 #[.agg #[v1, v2, v3]] w fun e w' => e = .returned (.int .i64 (framesA C)) ∧ Below w.heap.size w w' := by
  obtain ⟨P, W, H⟩ := C
  have hps := h.ps
  obtain ⟨a, c, rfl, t1, _, _⟩ := hps
  have hhs := h.hs
  obtain ⟨a'', c'', rfl, t3, _, _⟩ := hhs
  exact rframes_in a a'' _ c _ c'' v2 P W H rfl rfl w h
set_option maxHeartbeats 1000000 in
theorem rcheck_ok (v1 v2 v3 : Value) (C : Cf) (w : World) (h : CfAt w v1 v2 v3 C) : Calls Try.prog 19 #[.agg #[v1, v2, v3]] w fun e w' => e = .returned (.int .i64 (chk C)) ∧ Below w.heap.size w w' := by
  obtain ⟨w1, hw1⟩ : ∃ w1, w1 = w.alloc (.cells #[v1, v2, v3] 26) := ⟨_, rfl⟩
  have hb1 : Below w.heap.size w w1 := by rw [hw1]; exact (Below.refl _ _).alloc (Nat.le_refl _) _
  have HX : CBox w1 w.heap.size v1 v2 v3 := by rw [hw1]; exact CBox.new w _ _ _
  have HC := Lib.hid (h.below hb1)
  have X1 := Lib.hid HX
  have B1 := Lib.hid hb1
  obtain ⟨a1, n1, m1, rfl⟩ := h.ps.isSlice
  obtain ⟨a2, n2, m2, rfl⟩ := h.ws.isSlice
  obtain ⟨a3, n3, m3, rfl⟩ := h.hs.isSlice
  clear h hb1 HX
  go_enter Try.func19, Try.ntmps19
  go_wp2_with fail
  rw [← hw1]
  clear hw1
  refine (rnumbers_ok _ _ _ C w1 HC.out).mono ?_
  rintro e w2 ⟨rfl, hb⟩
  have K2 := Lib.hid hb
  clear hb
  cases hm : mayB C with
  | false =>
    go_wp2
    go_ret
    exact ⟨by rw [show chk C = 2 by unfold chk; rw [hm]; rfl]; rfl, B1.out.trans (K2.out.mono B1.out.size)⟩
  | true =>
    have d0 := (X1.out.below K2.out).c0
    have d1 := (X1.out.below K2.out).c1
    have d2 := (X1.out.below K2.out).c2
    go_wp2_with fail
    refine (rframes_ok _ _ _ C w2 (HC.out.below K2.out)).mono ?_
    rintro e w3 ⟨rfl, hb⟩
    have K3 := Lib.hid (K2.out.trans (hb.mono K2.out.size))
    rw [show framesA C = framesC C by unfold framesA; rw [if_pos hm]]
    clear hb
    by_cases hle : framesC C ≤ 1024
    · have hd : ¬ 1024 < framesC C := by omega
      go_wp2
      go_ret
      exact ⟨by rw [show chk C = 0 by unfold chk; rw [hm]; simp [hle]]; rfl, B1.out.trans (K3.out.mono B1.out.size)⟩
    · have hd : 1024 < framesC C := by omega
      go_wp2
      go_ret
      exact ⟨by rw [show chk C = 3 by unfold chk; rw [hm]; simp [hle]]; rfl, B1.out.trans (K3.out.mono B1.out.size)⟩
end Go.Proofs.Ytepfljfaclakeaa
