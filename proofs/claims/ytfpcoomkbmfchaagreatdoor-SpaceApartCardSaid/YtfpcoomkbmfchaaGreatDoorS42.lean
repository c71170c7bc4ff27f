/- The walk of the law SpaceGuard. Condition: the listed tables lie as laid. -/
import Derived.Test.YtfpcoomkbmfchaaGreatDoorHT
import Derived.Test.YtfpcoomkbmfchaaGreatDoorGNL
namespace Go.Proofs.YtfpcoomkbmfchaaGreatDoor
open Go.RowKit Go.Maps
set_option maxRecDepth 100000

theorem LaidN.awake {W : World} (hL : LaidN W) (V : World) (hb : Below W.heap.size W V) : Calls Tryz.prog 27 #[] V fun e w' => e = .returned (.bool true) ∧ Below V.heap.size V w' := awake16 V (hL.lq.below hb) (hL.lw.below hb)
theorem guard_far (va x v : Int) (f : Bool) (W : World) (h : 128 ≤ va) (hL : LaidN W) : Calls Tryz.prog 9 #[.int .u32 va, .int .u32 x, .int .u32 v, .bool f] W fun e w' => e = .returned (.bool true) ∧ Below W.heap.size W w' := by
  have AW := Lib.hid (hL.awake W (Below.refl _ _))
  have d0 : decide (128 ≤ va) = true := decide_eq_true h
  clear hL
  go_enter Tryz.func9, Tryz.ntmps9
  go_wp2_with fail
  refine AW.out.mono ?_
  rintro e w1 ⟨rfl, hb⟩
  have B := Lib.hid hb
  clear hb
  go_wp2_with fail
  go_ret
  exact ⟨rfl, B.out⟩
set_option maxHeartbeats 8000000 in
theorem guard_in (va x v : Int) (f : Bool) (W : World) (h : va < 128) (h0 : 0 ≤ va) (hx : 0 ≤ x ∧ x < 4294967296) (hv : 0 ≤ v ∧ v < 4294967296) (hL : LaidN W) : Calls Tryz.prog 9 #[.int .u32 va, .int .u32 x, .int .u32 v, .bool f] W fun e w' => e = .returned (.bool true) ∧ Below W.heap.size W w' := by
  have MD := Lib.hid (madeS_ok 40 W (by decide) (by decide) hL.lq hL.lw)
  have AW := Lib.hid hL.awake
  have d0 : decide (128 ≤ va) = false := decide_eq_false (by omega)
  have AT : Hid (∀ d, atD [(0, 4, d)] ((va / 32).toNat : Int) = some d) := Lib.hid fun d => area_at1 (by omega)
  have RG := Lib.hid (show 0 ≤ va ∧ va < 32768 from by omega)
  have q1 : (x == x) = true := by simp
  have q2 : (v == v) = true := by simp
  clear hL h
  cases f
  all_goals
    go_enter Tryz.func9, Tryz.ntmps9
    go_wp2_with fail
    refine (show Calls Tryz.prog 28 #[.int .i64 40] W _ from MD.out).mono ?_
    rintro e w1 ⟨I, rfl, hf⟩
    have H1 := Lib.hid hf.hv
    clear hf
    go_wp2_with fail
    refine (H1.out.open_ (i := 1) (by decide)).mono ?_
    rintro e w2 ⟨rfl, hk, s, hs, h⟩
    have H2 : Hid (Hv W w2 I 40 [(1, 0, 40, 1)] (putG G0 1 s) (fun _ _ => false) (fun _ _ _ => 0)) := Lib.hid h
    have S2 := Lib.hid hs
    clear hk hs h
    go_wp2_with fail
    refine (H2.out.grow1 (putG_same _ _ _) S2.out (x := 0) (y := 4) (by unfold FitD; omega) true).mono ?_
    rintro e w3 ⟨rfl, hk, s3, hs, h⟩
    rw [putG_putG] at h
    have H3 := Lib.hid h
    have S3 := Lib.hid hs
    clear hk hs h
    go_wp2_with fail
    refine (H3.out.store2 (putG_same _ _ _) RG.out hx (by rw [S3.out, AT.out]) (by decide)).mono ?_
    rintro e w4 ⟨rfl, hk, h⟩
    obtain ⟨pr4, hpr4⟩ : ∃ p, p = orP (fun _ _ => false) 1 [(va / 32).toNat] := ⟨_, rfl⟩
    obtain ⟨rd4, hrd4⟩ : ∃ p, p = stR (fun _ _ _ => 0) 1 va x := ⟨_, rfl⟩
    have H4 : Hid (Hv W w4 I 40 [(1, 0, 40, 3)] (putG G0 1 s3) pr4 rd4) := Lib.hid (by rw [hpr4, hrd4]; exact h)
    have P4 : Hid (pr4 1 (va / 32).toNat = true) := Lib.hid (by rw [hpr4]; exact orP_in (by simp))
    have R4 : Hid (rd4 1 (va / 32).toNat (va % 32).toNat = x) := Lib.hid (by rw [hrd4]; exact stR_at _ _ _ _)
    clear hk h hpr4 hrd4
    go_wp2_with fail
  all_goals
    first
      | (
        refine (H4.out.carve 2 1 10).mono ?_
        rintro e w5 ⟨rfl, hk, h⟩
        have H5 : Hid (Hv W w5 I 40 [(1, 0, 40, 3), (2, 1, 10, 0)] (putG G0 1 s3) pr4 rd4) := Lib.hid h
        rw [show openEU [(1, 0, 40, 3)] 2 1 10 = 0 by decide]
        clear hk h
        go_wp2_with fail
        refine (H5.out.fork 1 2 (forkE0_zero (by decide) (putG_same _ _ _) (by decide) (by rw [putG_other _ _ _ (by decide)])) (putG_same _ _ _) (by decide)).mono ?_
        rintro e w6 ⟨rfl, hk, t, ht, h⟩
        obtain ⟨G6, hG6⟩ : ∃ G, G = putG (putG G0 1 s3) 2 t := ⟨_, rfl⟩
        obtain ⟨L6, hL6⟩ : ∃ L, L = chargeL [((1 : Int), (0 : Int), (40 : Int), (3 : Int)), (2, 1, 10, 0)] 2 (usedN [((1 : Int), (0 : Int), (40 : Int), (3 : Int)), (2, 1, 10, 0)] 1 : Int) := ⟨_, rfl⟩
        obtain ⟨p6, hp6⟩ : ∃ p, p = fkP pr4 1 2 := ⟨_, rfl⟩
        obtain ⟨r6, hr6⟩ : ∃ p, p = fkR rd4 1 2 := ⟨_, rfl⟩
        have H6 : Hid (Hv W w6 I 40 L6 G6 p6 r6) := Lib.hid (by rw [hG6, hL6, hp6, hr6]; exact h)
        have A6 : Hid ((G6 1 = some s3 ∧ p6 1 (va / 32).toNat = true) ∧ r6 1 (va / 32).toNat (va % 32).toNat = x) := Lib.hid (by rw [hG6, hp6, hr6]; exact ⟨⟨by rw [putG_other _ _ _ (by decide)]; exact putG_same _ _ _, P4.out⟩, R4.out⟩)
        have B6 : Hid ((G6 2 = some t ∧ t.ar = [(0, 4, true)]) ∧ p6 2 (va / 32).toNat = true ∧ r6 2 (va / 32).toNat (va % 32).toNat = x) := Lib.hid (by rw [hG6, hp6, hr6]; exact ⟨⟨putG_same _ _ _, ht.trans S3.out⟩, P4.out, R4.out⟩)
        clear hk ht h hG6 hL6 hp6 hr6
        go_wp2_with fail)
      | (
        obtain ⟨w6, hw6⟩ : ∃ w, w = w4 := ⟨_, rfl⟩
        rw [← hw6]
        obtain ⟨G6, hG6⟩ : ∃ G, G = putG G0 1 s3 := ⟨_, rfl⟩
        obtain ⟨L6, hL6⟩ : ∃ L, L = [((1 : Int), (0 : Int), (40 : Int), (3 : Int))] := ⟨_, rfl⟩
        obtain ⟨p6, hp6⟩ : ∃ p, p = pr4 := ⟨_, rfl⟩
        obtain ⟨r6, hr6⟩ : ∃ p, p = rd4 := ⟨_, rfl⟩
        have H6 : Hid (Hv W w6 I 40 L6 G6 p6 r6) := Lib.hid (by rw [hw6, hG6, hL6, hp6, hr6]; exact H4.out)
        have A6 : Hid ((G6 1 = some s3 ∧ p6 1 (va / 32).toNat = true) ∧ r6 1 (va / 32).toNat (va % 32).toNat = x) := Lib.hid (by rw [hG6, hp6, hr6]; exact ⟨⟨putG_same _ _ _, P4.out⟩, R4.out⟩)
        have B6 : Hid (G6 2 = none) := Lib.hid (by rw [hG6, putG_other _ _ _ (by decide)])
        clear hw6 hG6 hL6 hp6 hr6)
  all_goals
    refine (H6.out.protect1 A6.out.1.1 S3.out (by unfold FitD; omega) false).mono ?_
    rintro e w7 ⟨rfl, hk, s7, hs, h⟩
    have H7 := Lib.hid h
    have S7 := Lib.hid hs
    clear hk hs h
    go_wp2_with fail
    refine (H7.out.store (putG_same _ _ _) va v (by have := RG.out; omega) hv (er := 8) (reach_may RG.out.2 (by rw [S7.out, AT.out]; decide) (by decide))).mono ?_
    rintro e w8 ⟨rfl, hk, hn, _⟩
    have H8 := Lib.hid (hn (by decide))
    clear hk hn
    go_wp2_with fail
    refine (H8.out.load0 (putG_same _ _ _) RG.out (by rw [S7.out, AT.out]) A6.out.1.2 A6.out.2).mono ?_
    rintro e w9 ⟨rfl, hk, h⟩
    have H9 := Lib.hid h
    clear hk h
    go_wp2_with fail
    refine (H9.out.protect1 (putG_same _ _ _) S7.out (by unfold FitD; omega) true).mono ?_
    rintro e w10 ⟨rfl, hk, s10, hs, h⟩
    rw [putG_putG] at h
    have H10 := Lib.hid h
    have S10 := Lib.hid hs
    clear hk hs h
    go_wp2_with fail
    refine (H10.out.store0 (putG_same _ _ _) RG.out hv (by rw [S10.out, AT.out]) A6.out.1.2).mono ?_
    rintro e w11 ⟨rfl, hk, h⟩
    have H11 := Lib.hid h
    clear hk h
    go_wp2_with fail
    refine (H11.out.load0 (putG_same _ _ _) RG.out (by rw [S10.out, AT.out]) A6.out.1.2 (stR_at _ _ _ _)).mono ?_
    rintro e w12 ⟨rfl, hk, h⟩
    have H12 := Lib.hid h
    clear hk h
    go_wp2_with fail
  all_goals
    first
      | (
        refine (H12.out.loadBad 2 va (er := 4) (findSE_none (by decide) (by rw [putG_other _ _ _ (by decide)]; exact B6.out)) (by decide)).mono ?_
        rintro e w13 ⟨rfl, hb⟩
        have H13 := Lib.hid (H12.out.step hb)
        clear hb)
      | (
        refine (H12.out.load0 (i := 2) (s := t) (x := x) (by rw [putG_other _ _ _ (by decide)]; exact B6.out.1.1) RG.out (by rw [B6.out.1.2, AT.out]) B6.out.2.1 (by rw [stR_far _ _ _ (by decide)]; exact B6.out.2.2)).mono ?_
        rintro e w13 ⟨rfl, hk, h⟩
        have H13 := Lib.hid h
        clear hk h)
  all_goals
    go_wp2_with fail
    refine (AW.out _ H13.out.below).mono ?_
    rintro e w14 ⟨rfl, hb⟩
    have B14 := Lib.hid (H13.out.below.trans (hb.mono H13.out.below.size))
    clear hb
    go_wp2_with fail
    go_ret
    exact ⟨rfl, B14.out⟩
theorem spaceGuard_walk (va x v : Int) (f : Bool) (W : World) (hva : 0 ≤ va ∧ va ≤ 4294967295) (hx : 0 ≤ x ∧ x ≤ 4294967295) (hv : 0 ≤ v ∧ v ≤ 4294967295) (hL : LaidN W) : Calls Tryz.prog 9 #[.int .u32 va, .int .u32 x, .int .u32 v, .bool f] W fun e w' => e = .returned (.bool true) ∧ Below W.heap.size W w' := by
  by_cases h : 128 ≤ va
  · exact guard_far va x v f W h hL
  · exact guard_in va x v f W (by omega) hva.1 (by omega) (by omega) hL
end Go.Proofs.YtfpcoomkbmfchaaGreatDoor
