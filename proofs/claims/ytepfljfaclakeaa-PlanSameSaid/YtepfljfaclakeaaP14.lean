/- The walk of PlanSame. Condition: the configurations lie as they came in. Written by gen/gen_p14.py. -/
import Derived.Test.YtepfljfaclakeaaP13
namespace Go.Proofs.Ytepfljfaclakeaa
open Go.RowKit
set_option maxRecDepth 100000

theorem turnA_wins {A B : Cf} (hA : chk A = 0) (hB : chk B = 0) (h : A.2.1 = B.2.1) (t : Int) : turnA A t = turnA B t := by
  have e : winL A = winL B := by unfold winL; rw [h]
  unfold turnA majorA
  rw [if_pos hA, if_pos hB, if_pos hA, if_pos hB, e, h]
theorem findA_own_same {A B : Cf} (hA : chk A = 0) (hB : chk B = 0) (h1 : A.1 = B.1) (h2 : A.2.2 = B.2.2) (k : Int × Int) : findA A k = findA B k := by
  have e : ownL A = ownL B := by unfold ownL; rw [h1, h2]
  unfold findA
  rw [if_pos hA, if_pos hB, e]
set_option maxHeartbeats 8000000 in
theorem planSame_walk (va : Value) (A : Cf) (vb : Value) (B : Cf) (t k : Int) (W : World) (hA : ConfIn W va A) (hB : ConfIn W vb B) (ht : 0 ≤ t ∧ t ≤ 18446744073709551615) (_hk : -9223372036854775808 ≤ k ∧ k ≤ 9223372036854775807) : Calls Try.prog 7 #[va, vb, .int .u64 t, .int .i64 k] W fun e w' => e = .returned (.bool true) ∧ Below W.heap.size W w' := by
  obtain ⟨t1, -⟩ := ht
  obtain ⟨aa1, na1, ma1, aa2, na2, ma2, aa3, na3, ma3, rfl⟩ := hA.slices
  obtain ⟨ab1, nb1, mb1, ab2, nb2, mb2, ab3, nb3, mb3, rfl⟩ := hB.slices
  obtain ⟨w1, hw1⟩ : ∃ w1, w1 = (W.alloc (.cells #[.slice aa1 na1 ma1, .slice aa2 na2 ma2, .slice aa3 na3 ma3] 26)).alloc (.cells #[.slice ab1 nb1 mb1, .slice ab2 nb2 mb2, .slice ab3 nb3 mb3] 26) := ⟨_, rfl⟩
  have hb1 : Below W.heap.size W w1 := by rw [hw1]; exact below_two _ _ _
  have K := Lib.hid hb1
  have IA := Lib.hid (hA.below hb1)
  have IB := Lib.hid (hB.below hb1)
  have XA : Hid (CBox w1 W.heap.size (.slice aa1 na1 ma1) (.slice aa2 na2 ma2) (.slice aa3 na3 ma3)) := Lib.hid (by rw [hw1]; exact (CBox.new W _ _ _).below ((Below.refl _ _).alloc (Nat.le_refl _) _))
  have XB : Hid (CBox w1 (W.heap.size + 1) (.slice ab1 nb1 mb1) (.slice ab2 nb2 mb2) (.slice ab3 nb3 mb3)) := Lib.hid (by rw [hw1]; exact heap_alloc2_new W _ _)
  have x0 := XA.out.c0
  have x1 := XA.out.c1
  have x2 := XA.out.c2
  have y0 := XB.out.c0
  have y1 := XB.out.c1
  have y2 := XB.out.c2
  clear hA hB hb1
  by_cases la : longC A
  · have LA := Lib.hid (long7_yes _ A w1 IA.out la)
    clear la
    go_enter Try.func7, Try.ntmps7
    go_wp2_with fail
    rw [← hw1]
    clear hw1
    refine LA.out.mono ?_
    rintro e w2 ⟨rfl, hb⟩
    have K := Lib.hid (K.out.trans (hb.mono K.out.size))
    clear hb
    go_wp2_with (go_at_call 9; refine (awake7_ok _).mono ?_; rintro e w9 ⟨rfl, hb⟩; have K := Lib.hid (K.out.trans (hb.mono K.out.size)); clear hb)
    go_ret
    exact ⟨rfl, K.out⟩
  have VA := Lib.hid (show VarAt w1 W.heap.size _ _ _ A from ⟨XA.out, IA.out.at_ la⟩)
  have LA := Lib.hid (long7_no _ _ _ A w1 VA.out.cf la)
  by_cases lb : longC B
  · have LB := Lib.hid (fun w hb => long7_yes (.agg #[.slice ab1 nb1 mb1, .slice ab2 nb2 mb2, .slice ab3 nb3 mb3]) B w (IB.out.below hb) lb)
    clear la lb
    go_enter Try.func7, Try.ntmps7
    go_wp2_with fail
    rw [← hw1]
    clear hw1
    refine LA.out.mono ?_
    rintro e w2 ⟨rfl, hb⟩
    have K := Lib.hid (K.out.trans (hb.mono K.out.size))
    have LB2 := Lib.hid (LB.out w2 hb)
    have y0 := (XB.out.below hb).c0
    have y1 := (XB.out.below hb).c1
    have y2 := (XB.out.below hb).c2
    clear hb
    go_wp2_with fail
    refine LB2.out.mono ?_
    rintro e w2 ⟨rfl, hb⟩
    have K := Lib.hid (K.out.trans (hb.mono K.out.size))
    clear hb
    go_wp2_with (go_at_call 9; refine (awake7_ok _).mono ?_; rintro e w9 ⟨rfl, hb⟩; have K := Lib.hid (K.out.trans (hb.mono K.out.size)); clear hb)
    go_ret
    exact ⟨rfl, K.out⟩
  have VB := Lib.hid (show VarAt w1 (W.heap.size + 1) _ _ _ B from ⟨XB.out, IB.out.at_ lb⟩)
  have LB := Lib.hid (show ∀ w, CfAt w (.slice ab1 nb1 mb1) (.slice ab2 nb2 mb2) (.slice ab3 nb3 mb3) B → _ from fun w h => long7_no _ _ _ B w h lb)
  clear la lb IA IB XA XB
  obtain ⟨c1, hc1⟩ : ∃ c, chk A = c := ⟨_, rfl⟩
  obtain ⟨c2, hc2⟩ : ∃ c, chk B = c := ⟨_, rfl⟩
  obtain ⟨c3, hc3⟩ : ∃ c, chk (B.1, A.2.1, B.2.2) = c := ⟨_, rfl⟩
  have C1 := Lib.hid hc1
  have C2 := Lib.hid hc2
  have C3 := Lib.hid hc3
  have fresh : ∀ (w : World), VarAt w W.heap.size (.slice aa1 na1 ma1) (.slice aa2 na2 ma2) (.slice aa3 na3 ma3) A → VarAt w (W.heap.size + 1) (.slice ab1 nb1 mb1) (.slice ab2 nb2 mb2) (.slice ab3 nb3 mb3) B → CfAt w (.slice ab1 nb1 mb1) (.slice aa2 na2 ma2) (.slice ab3 nb3 mb3) (B.1, A.2.1, B.2.2) :=
    fun w ha hb => ⟨hb.cf.ps, ha.cf.ws, hb.cf.hs⟩
  have FR := Lib.hid fresh
  clear fresh
  go_enter Try.func7, Try.ntmps7
  go_wp2_with fail
  rw [← hw1]
  clear hw1
  refine LA.out.mono ?_
  rintro e w9 ⟨rfl, hb⟩
  have VA := Lib.hid (VA.out.below hb); have VB := Lib.hid (VB.out.below hb); have K := Lib.hid (K.out.trans (hb.mono K.out.size)); clear hb; have x0 := VA.out.box.c0; have x1 := VA.out.box.c1; have x2 := VA.out.box.c2; have y0 := VB.out.box.c0; have y1 := VB.out.box.c1; have y2 := VB.out.box.c2
  go_wp2_with fail
  refine (LB.out _ VB.out.cf).mono ?_
  rintro e w9 ⟨rfl, hb⟩
  have VA := Lib.hid (VA.out.below hb); have VB := Lib.hid (VB.out.below hb); have K := Lib.hid (K.out.trans (hb.mono K.out.size)); clear hb; have x0 := VA.out.box.c0; have x1 := VA.out.box.c1; have x2 := VA.out.box.c2; have y0 := VB.out.box.c0; have y1 := VB.out.box.c1; have y2 := VB.out.box.c2
  have p1 : W.heap.size < w9.heap.size := lt_of_block VA.out.box
  have p2 : W.heap.size + 1 < w9.heap.size := lt_of_block VB.out.box
  obtain ⟨wc, hwc⟩ : ∃ wc, wc = w9.alloc (.cells #[.slice ab1 nb1 mb1, .slice aa2 na2 ma2, .slice ab3 nb3 mb3] 26) := ⟨_, rfl⟩
  have hbc : Below w9.heap.size w9 wc := by rw [hwc]; exact (Below.refl _ _).alloc (Nat.le_refl _) _
  have VC : Hid (VarAt wc w9.heap.size _ _ _ (B.1, A.2.1, B.2.2)) := Lib.hid (by rw [hwc]; exact VarAt.new (FR.out _ VA.out VB.out))
  go_wp2_with fail
  rw [← hwc]
  clear hwc p1 p2 FR
  have hb := hbc
  clear hbc
  have VA := Lib.hid (VA.out.below hb); have VB := Lib.hid (VB.out.below hb); have K := Lib.hid (K.out.trans (hb.mono K.out.size)); clear hb; have x0 := VA.out.box.c0; have x1 := VA.out.box.c1; have x2 := VA.out.box.c2; have y0 := VB.out.box.c0; have y1 := VB.out.box.c1; have y2 := VB.out.box.c2
  generalize w9.heap.size = bc at *
  generalize W.heap.size + 1 = bb at *
  obtain ⟨ba, hba⟩ : ∃ ba, ba = W.heap.size := ⟨_, rfl⟩
  rw [← hba] at VA x0 x1 x2 ⊢
  clear hba
  clear LA LB
  refine (check_is _ _ _ A c1 C1.out _ VA.out.cf).mono ?_
  rintro e w9 ⟨rfl, hb⟩
  have VA := Lib.hid (VA.out.below hb); have VB := Lib.hid (VB.out.below hb); have K := Lib.hid (K.out.trans (hb.mono K.out.size)); have VC := Lib.hid (VC.out.below hb); clear hb; have z0 := VC.out.box.c0; have z1 := VC.out.box.c1; have z2 := VC.out.box.c2; have x0 := VA.out.box.c0; have x1 := VA.out.box.c1; have x2 := VA.out.box.c2; have y0 := VB.out.box.c0; have y1 := VB.out.box.c1; have y2 := VB.out.box.c2
  by_cases h1 : c1 = 0
  rotate_left
  · go_wp2_with (go_at_call 9; refine (awake7_ok _).mono ?_; rintro e w9 ⟨rfl, hb⟩; have K := Lib.hid (K.out.trans (hb.mono K.out.size)); clear hb)
    go_ret
    exact ⟨rfl, K.out⟩
  subst h1
  go_wp2_with fail
  refine (check_is _ _ _ B c2 C2.out _ VB.out.cf).mono ?_
  rintro e w9 ⟨rfl, hb⟩
  have VA := Lib.hid (VA.out.below hb); have VB := Lib.hid (VB.out.below hb); have K := Lib.hid (K.out.trans (hb.mono K.out.size)); have VC := Lib.hid (VC.out.below hb); clear hb; have z0 := VC.out.box.c0; have z1 := VC.out.box.c1; have z2 := VC.out.box.c2; have x0 := VA.out.box.c0; have x1 := VA.out.box.c1; have x2 := VA.out.box.c2; have y0 := VB.out.box.c0; have y1 := VB.out.box.c1; have y2 := VB.out.box.c2
  by_cases h2 : c2 = 0
  rotate_left
  · go_wp2_with (go_at_call 9; refine (awake7_ok _).mono ?_; rintro e w9 ⟨rfl, hb⟩; have K := Lib.hid (K.out.trans (hb.mono K.out.size)); clear hb)
    go_ret
    exact ⟨rfl, K.out⟩
  subst h2
  go_wp2_with fail
  refine (check_is _ _ _ _ c3 C3.out _ VC.out.cf).mono ?_
  rintro e w9 ⟨rfl, hb⟩
  have VA := Lib.hid (VA.out.below hb); have VB := Lib.hid (VB.out.below hb); have K := Lib.hid (K.out.trans (hb.mono K.out.size)); have VC := Lib.hid (VC.out.below hb); clear hb; have z0 := VC.out.box.c0; have z1 := VC.out.box.c1; have z2 := VC.out.box.c2; have x0 := VA.out.box.c0; have x1 := VA.out.box.c1; have x2 := VA.out.box.c2; have y0 := VB.out.box.c0; have y1 := VB.out.box.c1; have y2 := VB.out.box.c2
  by_cases h3 : c3 = 0
  rotate_left
  · go_wp2_with (go_at_call 9; refine (awake7_ok _).mono ?_; rintro e w9 ⟨rfl, hb⟩; have K := Lib.hid (K.out.trans (hb.mono K.out.size)); clear hb)
    go_ret
    exact ⟨rfl, K.out⟩
  subst h3
  obtain ⟨p, q, r, hT⟩ : ∃ a b c, turnA A t = (a, b, c) := ⟨_, _, _, rfl⟩
  have hr : r = 0 := by rw [← hc1, ← turnA_err A t, hT]
  subst hr
  have hT2 := (turnA_wins (B := (B.1, A.2.1, B.2.2)) hc1 hc3 rfl t).symm.trans hT
  obtain ⟨x, y, z, hO⟩ : ∃ a b c, findA B (0, k) = (a, b, c) := ⟨_, _, _, rfl⟩
  have hO2 := (findA_own_same (B := (B.1, A.2.1, B.2.2)) hc2 hc3 rfl rfl (0, k)).symm.trans hO
  have T1 := Lib.hid hT
  have T2 := Lib.hid hT2
  have O1 := Lib.hid hO
  have O2 := Lib.hid hO2
  clear hc1 hc2 hc3 hT hT2 hO hO2
  go_wp2_with fail
  refine (turn_is _ _ _ A t p q 0 t1 T1.out _ VA.out.cf).mono ?_
  rintro e w9 ⟨rfl, hb⟩
  have VA := Lib.hid (VA.out.below hb); have VB := Lib.hid (VB.out.below hb); have K := Lib.hid (K.out.trans (hb.mono K.out.size)); have VC := Lib.hid (VC.out.below hb); clear hb; have z0 := VC.out.box.c0; have z1 := VC.out.box.c1; have z2 := VC.out.box.c2; have x0 := VA.out.box.c0; have x1 := VA.out.box.c1; have x2 := VA.out.box.c2; have y0 := VB.out.box.c0; have y1 := VB.out.box.c1; have y2 := VB.out.box.c2
  go_wp2_with fail
  refine (turn_is _ _ _ _ t p q 0 t1 T2.out _ VC.out.cf).mono ?_
  rintro e w9 ⟨rfl, hb⟩
  have VA := Lib.hid (VA.out.below hb); have VB := Lib.hid (VB.out.below hb); have K := Lib.hid (K.out.trans (hb.mono K.out.size)); have VC := Lib.hid (VC.out.below hb); clear hb; have z0 := VC.out.box.c0; have z1 := VC.out.box.c1; have z2 := VC.out.box.c2; have x0 := VA.out.box.c0; have x1 := VA.out.box.c1; have x2 := VA.out.box.c2; have y0 := VB.out.box.c0; have y1 := VB.out.box.c1; have y2 := VB.out.box.c2
  go_wp2_with fail
  refine (own_is _ _ _ B k x y z O1.out _ VB.out.cf).mono ?_
  rintro e w9 ⟨rfl, hb⟩
  have VA := Lib.hid (VA.out.below hb); have VB := Lib.hid (VB.out.below hb); have K := Lib.hid (K.out.trans (hb.mono K.out.size)); have VC := Lib.hid (VC.out.below hb); clear hb; have z0 := VC.out.box.c0; have z1 := VC.out.box.c1; have z2 := VC.out.box.c2; have x0 := VA.out.box.c0; have x1 := VA.out.box.c1; have x2 := VA.out.box.c2; have y0 := VB.out.box.c0; have y1 := VB.out.box.c1; have y2 := VB.out.box.c2
  go_wp2_with fail
  refine (own_is _ _ _ _ k x y z O2.out _ VC.out.cf).mono ?_
  rintro e w9 ⟨rfl, hb⟩
  have VA := Lib.hid (VA.out.below hb); have VB := Lib.hid (VB.out.below hb); have K := Lib.hid (K.out.trans (hb.mono K.out.size)); have VC := Lib.hid (VC.out.below hb); clear hb; have z0 := VC.out.box.c0; have z1 := VC.out.box.c1; have z2 := VC.out.box.c2; have x0 := VA.out.box.c0; have x1 := VA.out.box.c1; have x2 := VA.out.box.c2; have y0 := VB.out.box.c0; have y1 := VB.out.box.c1; have y2 := VB.out.box.c2
  go_wp2_with (go_at_call 9; refine (awake7_ok _).mono ?_; rintro e w9 ⟨rfl, hb⟩; have K := Lib.hid (K.out.trans (hb.mono K.out.size)); clear hb)
  go_ret
  exact ⟨rfl, K.out⟩
end Go.Proofs.Ytepfljfaclakeaa
