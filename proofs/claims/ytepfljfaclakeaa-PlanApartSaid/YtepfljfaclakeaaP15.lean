/- The walk of PlanApart. Condition: the configuration lies as it came in. Written by gen/gen_p15.py. -/
import Derived.Test.YtepfljfaclakeaaP13
namespace Go.Proofs.Ytepfljfaclakeaa
open Go.RowKit
set_option maxRecDepth 100000

theorem frames7_is (v1 v2 v3 : Value) (C : Cf) (n : Int) (hn : framesA C = n) (w : World) (h : CfAt w v1 v2 v3 C) : Calls Try.prog 22 #[.agg #[v1, v2, v3]] w fun e w' => e = .returned (.int .i64 n) ∧ Below w.heap.size w w' := hn ▸ framesOf_ok v1 v2 v3 C w h
set_option maxHeartbeats 8000000 in
theorem planApart_walk (v : Value) (C : Cf) (W : World) (hC : ConfIn W v C) : Calls Try.prog 5 #[v] W fun e w' => e = .returned (.bool true) ∧ Below W.heap.size W w' := by
  obtain ⟨aa1, na1, ma1, aa2, na2, ma2, aa3, na3, ma3, rfl⟩ := hC.slices
  obtain ⟨w1, hw1⟩ : ∃ w1, w1 = W.alloc (.cells #[.slice aa1 na1 ma1, .slice aa2 na2 ma2, .slice aa3 na3 ma3] 26) := ⟨_, rfl⟩
  have hb1 : Below W.heap.size W w1 := by rw [hw1]; exact (Below.refl _ _).alloc (Nat.le_refl _) _
  have K := Lib.hid hb1
  have IA := Lib.hid (hC.below hb1)
  have XA : Hid (CBox w1 W.heap.size (.slice aa1 na1 ma1) (.slice aa2 na2 ma2) (.slice aa3 na3 ma3)) := Lib.hid (by rw [hw1]; exact CBox.new W _ _ _)
  have x0 := XA.out.c0
  have x1 := XA.out.c1
  have x2 := XA.out.c2
  clear hC hb1
  by_cases la : longC C
  · have LA := Lib.hid (long7_yes _ C w1 IA.out la)
    clear la
    go_enter Try.func5, Try.ntmps5
    go_wp2_with fail
    rw [← hw1]
    clear hw1
    refine LA.out.mono ?_
    rintro e w2 ⟨rfl, hb⟩
    have K2 := Lib.hid (K.out.trans (hb.mono K.out.size))
    clear hb
    go_wp2_with fail
    refine (awake7_ok _).mono ?_
    rintro e w3 ⟨rfl, hb⟩
    have K3 := Lib.hid (K2.out.trans (hb.mono K2.out.size))
    clear hb
    go_wp2
    go_ret
    exact ⟨rfl, K3.out⟩
  have VA := Lib.hid (show VarAt w1 W.heap.size _ _ _ C from ⟨XA.out, IA.out.at_ la⟩)
  have LA := Lib.hid (long7_no _ _ _ C w1 VA.out.cf la)
  clear la IA XA
  obtain ⟨c, hc⟩ : ∃ c, chk C = c := ⟨_, rfl⟩
  have HCK := Lib.hid hc
  go_enter Try.func5, Try.ntmps5
  go_wp2_with fail
  rw [← hw1]
  clear hw1
  obtain ⟨ba, hba⟩ : ∃ ba, ba = W.heap.size := ⟨_, rfl⟩
  rw [← hba] at VA x0 x1 x2 ⊢
  clear hba
  refine (LA.out).mono ?_
  rintro e w9 ⟨rfl, hb⟩
  have VA := Lib.hid (VA.out.below hb); have K := Lib.hid (K.out.trans (hb.mono K.out.size)); clear hb; have x0 := VA.out.box.c0; have x1 := VA.out.box.c1; have x2 := VA.out.box.c2
  go_wp2_with fail
  refine (check_is _ _ _ C c HCK.out _ VA.out.cf).mono ?_
  rintro e w9 ⟨rfl, hb⟩
  have VA := Lib.hid (VA.out.below hb); have K := Lib.hid (K.out.trans (hb.mono K.out.size)); clear hb; have x0 := VA.out.box.c0; have x1 := VA.out.box.c1; have x2 := VA.out.box.c2
  by_cases h0 : c = 0
  rotate_left
  · go_wp2_with (go_at_call 9; refine (awake7_ok _).mono ?_; rintro e w9 ⟨rfl, hb⟩; have K := Lib.hid (K.out.trans (hb.mono K.out.size)); clear hb)
    go_ret
    exact ⟨rfl, K.out⟩
  subst h0
  clear LA HCK
  have hm := (chk_zero hc).1
  obtain ⟨⟨pn, pp⟩, hn, hh⟩ := mayB_parts hm
  have PP := Lib.hid pp
  have HH := Lib.hid hh
  have NP : Hid (na1 = C.1.length) := Lib.hid (by obtain ⟨_, _, e, _⟩ := VA.out.cf.ps; exact (Value.slice.inj e).2.1)
  have NH : Hid (na3 = C.2.2.length) := Lib.hid (by obtain ⟨_, _, e, _⟩ := VA.out.cf.hs; exact (Value.slice.inj e).2.1)
  have n8 : na1 ≤ 8 := by rw [NP.out]; exact pn
  have n16 : na3 ≤ 16 := by rw [NH.out]; exact hn
  obtain ⟨wv, hwv⟩ : ∃ wv, wv = w9 := ⟨_, rfl⟩
  rw [← hwv] at VA K x0 x1 x2 ⊢
  clear hwv pp hh pn hn
  go_wp2_with fail
  clear x0 x1 x2
  go_loopw [3, 4] (fun s i wr => ∃ j : Nat, i = .int .i64 (j : Int) ∧ j ≤ na1 ∧ s = .int .i64 (partS C.1 j) ∧ Below wv.heap.size wv wr) (fun _ i _ => (na1 - (intOf i).toNat))
  case atStart => exact ⟨0, rfl, Nat.zero_le _, rfl, Below.refl _ _⟩
  case round =>
    obtain ⟨j, rfl, hj, rfl, hB⟩ := hrel
    have KB := Lib.hid hB
    clear hB
    have x0 := (VA.out.below KB.out).box.c0
    obtain ⟨s0, s1⟩ := partS_le hm j
    by_cases hlt : j < na1
    · obtain ⟨-, b, o, x, y, rfl, -, hrow, g0, g1⟩ := VA.out.cf.ps.two (Below.refl _ _) j hlt
      have hbl : b < wv.heap.size := block_lt_of_cell g0
      have hx := partF_le (C.1.getD j []) (PP.out _ (getD_mem (by have := NP.out; omega)))
      have h1 := findA_own hc j (by rw [← NP.out]; exact hlt)
      have h2 := findA_traps hc j (by rw [← NP.out]; exact hlt)
      have hnext := partS_succ C.1 j (by have := NP.out; omega)
      rw [hrow] at hx h1 h2 hnext
      obtain ⟨⟨q1, q2⟩, ⟨y1, y2⟩, -⟩ := hx
      simp only [List.getD_cons_zero, List.getD_cons_succ] at q1 q2 y1 y2 h1 h2
      have hF : partF [x, y] = x + (y + 2) / 3 := rfl
      rw [hF] at hnext
      obtain ⟨t, ht⟩ : ∃ t, t = (y + 2) / 3 := ⟨_, rfl⟩
      rw [← ht] at h2 hnext
      have r1 : ¬ t * 3 < y := by omega
      have r2 : ¬ y ≤ (t - 1) * 3 := by omega
      have r3 : 0 ≤ t := by omega
      have r4 : t ≤ 10 := by omega
      have H1 := Lib.hid h1
      have H2 := Lib.hid h2
      have HNX := Lib.hid hnext
      have G0 := Lib.hid g0
      have G1 := Lib.hid g1
      have HBL := Lib.hid hbl
      have V0 := VA
      generalize partS C.1 j = z at *
      clear hrow h1 h2 hnext hF ht g0 g1 hbl
      have x1 := (VA.out.below KB.out).box.c1
      have x2 := (VA.out.below KB.out).box.c2
      go_wp2_with (first
        | (go_at_call 10; refine (own_is _ _ _ C _ _ _ _ H1.out _ (VA.out.below KB.out).cf).mono ?_; rintro e w9 ⟨rfl, hb⟩; have KB := Lib.hid (KB.out.trans (hb.mono KB.out.size)); clear hb; have x0 := (VA.out.below KB.out).box.c0; have x1 := (VA.out.below KB.out).box.c1; have x2 := (VA.out.below KB.out).box.c2)
        | (go_at_call 12; refine (traps_is _ _ _ C _ _ _ _ H2.out _ (VA.out.below KB.out).cf).mono ?_; rintro e w9 ⟨rfl, hb⟩; have KB := Lib.hid (KB.out.trans (hb.mono KB.out.size)); clear hb; have x0 := (VA.out.below KB.out).box.c0; have x1 := (VA.out.below KB.out).box.c1; have x2 := (VA.out.below KB.out).box.c2; have g0 := (KB.out.cell (p := ⟨b, o + j * 2, none⟩) HBL.out).trans G0.out; have g1 := (KB.out.cell (p := ⟨b, o + j * 2 + 1, none⟩) HBL.out).trans G1.out))
      go_roundw
      case rel => exact ⟨j + 1, by go_num, by omega, by rw [HNX.out]; go_num, KB.out⟩
      case measure => simp [intOf]; omega
    · obtain rfl : j = na1 := by omega
      have hfr : framesA C = partS C.1 j + chanS C.2.2 na3 := by rw [show framesA C = framesC C by unfold framesA; rw [if_pos hm], framesC_sums, ← NP.out, ← NH.out]
      have HFR := Lib.hid hfr
      obtain ⟨z, hz⟩ : ∃ z, z = partS C.1 j := ⟨_, rfl⟩
      have hNPZ : partS C.1 C.1.length = z := by rw [hz, ← NP.out]
      have NPZ := Lib.hid hNPZ
      rw [← hz] at HFR s0 s1 ⊢
      clear hfr hNPZ hz hlt
      have x2 := (VA.out.below KB.out).box.c2
      go_wp2_with fail
      clear x0 x2
      go_loopw [3, 11] (fun s i wr => ∃ k : Nat, i = .int .i64 (k : Int) ∧ k ≤ na3 ∧ s = .int .i64 (z + chanS C.2.2 k) ∧ Below wv.heap.size wv wr) (fun _ i _ => (na3 - (intOf i).toNat))
      case atStart => exact ⟨0, rfl, Nat.zero_le _, by simp [chanS], KB.out⟩
      case round =>
        obtain ⟨k, rfl, hk', rfl, hB⟩ := hrel
        have KB := Lib.hid hB
        clear hB
        have x2 := (VA.out.below KB.out).box.c2
        obtain ⟨s2, s3⟩ := chanS_le hm k
        by_cases hlt : k < na3
        · obtain ⟨-, b, o, x, y, u, v, rfl, -, hrow, g0, g1, g2, g3⟩ := VA.out.cf.hs.four (Below.refl _ _) k hlt
          have hbl : b < wv.heap.size := block_lt_of_cell g0
          have hx := chanF_le _ (C.2.2.getD k []) (HH.out _ (getD_mem (by have := NH.out; omega)))
          have h1 := findA_chan hc k (by rw [← NH.out]; exact hlt)
          have hnext := chanS_succ C.2.2 k (by have := NH.out; omega)
          rw [hrow] at hx h1 hnext
          rw [NPZ.out] at h1
          obtain ⟨⟨u1, u2⟩, ⟨v1, v2'⟩, ⟨p1, p2⟩, -⟩ := hx
          simp only [List.getD_cons_zero, List.getD_cons_succ] at u1 u2 v1 v2' p1 p2
          have hF : chanF [x, y, u, v] = (u * (v + 1) + 31) / 32 := rfl
          rw [hF] at h1 hnext
          obtain ⟨r, hr⟩ : ∃ r, u * (v + 1) = r := ⟨_, rfl⟩
          rw [hr] at p1 p2 h1 hnext
          obtain ⟨t, ht⟩ : ∃ t, t = (r + 31) / 32 := ⟨_, rfl⟩
          rw [← ht] at h1 hnext
          have r1 : ¬ t * 32 < r := by omega
          have r2 : ¬ r ≤ (t - 1) * 32 := by
            have hv : 0 < r := by rw [← hr]; exact Int.mul_pos (by omega) (by omega)
            omega
          have r3 : 0 ≤ t := by omega
          have r4 : t ≤ 10 := by omega
          have H1 := Lib.hid h1
          have HNX := Lib.hid hnext
          have G2 := Lib.hid g2
          have G3 := Lib.hid g3
          have HBL := Lib.hid hbl
          generalize chanS C.2.2 k = zz at *
          clear hrow h1 hnext hF ht g0 g1 g2 g3 hbl
          have x0 := (VA.out.below KB.out).box.c0
          have x1 := (VA.out.below KB.out).box.c1
          go_wp2_with (go_at_call 14; refine (chan_is _ _ _ C _ _ _ _ H1.out _ (VA.out.below KB.out).cf).mono ?_; rintro e w9 ⟨rfl, hb⟩; have KB := Lib.hid (KB.out.trans (hb.mono KB.out.size)); clear hb; have x0 := (VA.out.below KB.out).box.c0; have x1 := (VA.out.below KB.out).box.c1; have x2 := (VA.out.below KB.out).box.c2; have g2 := (KB.out.cell (p := ⟨b, o + k * 4 + 2, none⟩) HBL.out).trans G2.out; have g3 := (KB.out.cell (p := ⟨b, o + k * 4 + 3, none⟩) HBL.out).trans G3.out)
          go_quiet (fail)
          go_wp2
          go_roundw
          case rel => exact ⟨k + 1, by go_num, by omega, by rw [HNX.out]; go_num, below_drewN KB.out _⟩
          case measure => simp [intOf]; omega
        · obtain rfl : k = na3 := by omega
          obtain ⟨f, hf⟩ : ∃ f, f = z + chanS C.2.2 k := ⟨_, rfl⟩
          rw [← hf] at HFR ⊢
          have x0 := (VA.out.below KB.out).box.c0
          have x1 := (VA.out.below KB.out).box.c1
          clear hf
          go_wp2_with fail
          refine (frames7_is _ _ _ C f HFR.out _ (VA.out.below KB.out).cf).mono ?_
          rintro e w9 ⟨rfl, hb⟩
          have K := Lib.hid (K.out.trans ((KB.out.trans (hb.mono KB.out.size)).mono K.out.size))
          clear hb
          go_wp2_with (go_at_call 9; refine (awake7_ok _).mono ?_; rintro e w9 ⟨rfl, hb⟩; have K := Lib.hid (K.out.trans (hb.mono K.out.size)); clear hb)
          go_ret
          exact ⟨rfl, K.out⟩
end Go.Proofs.Ytepfljfaclakeaa
