/- The walks of PlanFrames, PlanTurn. Condition: the configuration lies as it came in. Written by gen/gen_p13.py. -/
import Derived.Test.YtepfljfaclakeaaP12
namespace Go.Proofs.Ytepfljfaclakeaa
open Go.RowKit
set_option maxRecDepth 100000

theorem own_is (v1 v2 v3 : Value) (C : Cf) (k a b c : Int) (he : findA C (0, k) = (a, b, c)) (w : World) (h : CfAt w v1 v2 v3 C) : Calls Try.prog 10 #[.agg #[v1, v2, v3], .int .i64 k] w fun e w' => e = .returned (.tuple #[.int .i64 a, .int .i64 b, .int .i64 c]) ∧ Below w.heap.size w w' := by
  have := own_ok v1 v2 v3 C k w h
  rwa [he] at this
theorem rown_is (v1 v2 v3 : Value) (C : Cf) (k a b c : Int) (he : findA C (0, k) = (a, b, c)) (w : World) (h : CfAt w v1 v2 v3 C) : Calls Try.prog 11 #[.agg #[v1, v2, v3], .int .i64 k] w fun e w' => e = .returned (.tuple #[.int .i64 a, .int .i64 b, .int .i64 c]) ∧ Below w.heap.size w w' := by
  have := rown_ok v1 v2 v3 C k w h
  rwa [he] at this
theorem traps_is (v1 v2 v3 : Value) (C : Cf) (k a b c : Int) (he : findA C (1, k) = (a, b, c)) (w : World) (h : CfAt w v1 v2 v3 C) : Calls Try.prog 12 #[.agg #[v1, v2, v3], .int .i64 k] w fun e w' => e = .returned (.tuple #[.int .i64 a, .int .i64 b, .int .i64 c]) ∧ Below w.heap.size w w' := by
  have := traps_ok v1 v2 v3 C k w h
  rwa [he] at this
theorem rtraps_is (v1 v2 v3 : Value) (C : Cf) (k a b c : Int) (he : findA C (1, k) = (a, b, c)) (w : World) (h : CfAt w v1 v2 v3 C) : Calls Try.prog 13 #[.agg #[v1, v2, v3], .int .i64 k] w fun e w' => e = .returned (.tuple #[.int .i64 a, .int .i64 b, .int .i64 c]) ∧ Below w.heap.size w w' := by
  have := rtraps_ok v1 v2 v3 C k w h
  rwa [he] at this
theorem chan_is (v1 v2 v3 : Value) (C : Cf) (k a b c : Int) (he : findA C (2, k) = (a, b, c)) (w : World) (h : CfAt w v1 v2 v3 C) : Calls Try.prog 14 #[.agg #[v1, v2, v3], .int .i64 k] w fun e w' => e = .returned (.tuple #[.int .i64 a, .int .i64 b, .int .i64 c]) ∧ Below w.heap.size w w' := by
  have := chan_ok v1 v2 v3 C k w h
  rwa [he] at this
theorem rchan_is (v1 v2 v3 : Value) (C : Cf) (k a b c : Int) (he : findA C (2, k) = (a, b, c)) (w : World) (h : CfAt w v1 v2 v3 C) : Calls Try.prog 15 #[.agg #[v1, v2, v3], .int .i64 k] w fun e w' => e = .returned (.tuple #[.int .i64 a, .int .i64 b, .int .i64 c]) ∧ Below w.heap.size w w' := by
  have := rchan_ok v1 v2 v3 C k w h
  rwa [he] at this
theorem turn_is (v1 v2 v3 : Value) (C : Cf) (t a b c : Int) (ht : 0 ≤ t) (he : turnA C t = (a, b, c)) (w : World) (h : CfAt w v1 v2 v3 C) : Calls Try.prog 16 #[.agg #[v1, v2, v3], .int .u64 t] w fun e w' => e = .returned (.tuple #[.int .i64 a, .int .i64 b, .int .i64 c]) ∧ Below w.heap.size w w' := by
  have := turn_ok v1 v2 v3 C t ht w h
  rwa [he] at this
theorem rturn_is (v1 v2 v3 : Value) (C : Cf) (t a b c : Int) (ht : 0 ≤ t) (he : turnA C t = (a, b, c)) (w : World) (h : CfAt w v1 v2 v3 C) : Calls Try.prog 17 #[.agg #[v1, v2, v3], .int .u64 t] w fun e w' => e = .returned (.tuple #[.int .i64 a, .int .i64 b, .int .i64 c]) ∧ Below w.heap.size w w' := by
  have := rturn_ok v1 v2 v3 C t ht w h
  rwa [he] at this
theorem major_is (v1 v2 v3 : Value) (C : Cf) (a c : Int) (ha : majorA C = a) (hc : chk C = c) (w : World) (h : CfAt w v1 v2 v3 C) : Calls Try.prog 18 #[.agg #[v1, v2, v3]] w fun e w' => e = .returned (.tuple #[.int .i64 a, .int .i64 c]) ∧ Below w.heap.size w w' := by
  have := major_ok v1 v2 v3 C w h
  rwa [ha, hc] at this
theorem rcheck_is (v1 v2 v3 : Value) (C : Cf) (c : Int) (hc : chk C = c) (w : World) (h : CfAt w v1 v2 v3 C) : Calls Try.prog 19 #[.agg #[v1, v2, v3]] w fun e w' => e = .returned (.int .i64 c) ∧ Below w.heap.size w w' := hc ▸ rcheck_ok v1 v2 v3 C w h
theorem check_is (v1 v2 v3 : Value) (C : Cf) (c : Int) (hc : chk C = c) (w : World) (h : CfAt w v1 v2 v3 C) : Calls Try.prog 21 #[.agg #[v1, v2, v3]] w fun e w' => e = .returned (.int .i64 c) ∧ Below w.heap.size w w' := hc ▸ check_ok v1 v2 v3 C w h
theorem turnA_err (C : Cf) (t : Int) : (turnA C t).2.2 = chk C := by
  unfold turnA
  split
  · rename_i h; exact h.symm
  · rfl
theorem majorA_bad {C : Cf} (h : chk C ≠ 0) : majorA C = 0 := by unfold majorA; rw [if_neg h]
theorem majorA_row {C : Cf} (h : chk C = 0) : majorA C = ((rowL (winL C)).length : Int) := by
  unfold majorA
  rw [if_pos h, rowL_length (winL C) (winL_pos (chk_zero h).1)]
set_option maxHeartbeats 4000000 in
theorem planFrames_walk (v : Value) (C : Cf) (k : Int) (W : World) (hC : ConfIn W v C) (_hk : -9223372036854775808 ≤ k ∧ k ≤ 9223372036854775807) : Calls Try.prog 3 #[v, .int .i64 k] W fun e w' => e = .returned (.bool true) ∧ Below W.heap.size W w' := by
  obtain ⟨aa1, na1, ma1, aa2, na2, ma2, aa3, na3, ma3, rfl⟩ := hC.slices
  obtain ⟨w1, hw1⟩ : ∃ w1, w1 = W.alloc (.cells #[.slice aa1 na1 ma1, .slice aa2 na2 ma2, .slice aa3 na3 ma3] 26) := ⟨_, rfl⟩
  have hb1 : Below W.heap.size W w1 := by rw [hw1]; exact (Below.refl _ _).alloc (Nat.le_refl _) _
  have K := Lib.hid hb1
  have IA := Lib.hid (hC.below hb1)
  have XA : Hid (CBox w1 W.heap.size (.slice aa1 na1 ma1) (.slice aa2 na2 ma2) (.slice aa3 na3 ma3)) := Lib.hid (by rw [hw1]; exact CBox.new W _ _ _)
  have x0 := XA.out.c0
  have x1 := XA.out.c1
  have x2 := XA.out.c2
  clear hC hb1
  by_cases la : longC C
  · have LA := Lib.hid (long7_yes _ C w1 IA.out la)
    clear la
    go_enter Try.func3, Try.ntmps3
    go_wp2_with fail
    rw [← hw1]
    clear hw1
    refine LA.out.mono ?_
    rintro e w2 ⟨rfl, hb⟩
    have K2 := Lib.hid (K.out.trans (hb.mono K.out.size))
    clear hb
    go_wp2_with fail
    refine (awake7_ok _).mono ?_
    rintro e w3 ⟨rfl, hb⟩
    have K3 := Lib.hid (K2.out.trans (hb.mono K2.out.size))
    clear hb
    go_wp2
    go_ret
    exact ⟨rfl, K3.out⟩
  have VA := Lib.hid (show VarAt w1 W.heap.size _ _ _ C from ⟨XA.out, IA.out.at_ la⟩)
  have LA := Lib.hid (long7_no _ _ _ C w1 VA.out.cf la)
  clear la IA XA
  obtain ⟨a1, b1, c1, h1⟩ : ∃ a b c, findA C (0, k) = (a, b, c) := ⟨_, _, _, rfl⟩
  obtain ⟨a2, b2, c2, h2⟩ : ∃ a b c, findA C (1, k) = (a, b, c) := ⟨_, _, _, rfl⟩
  obtain ⟨a3, b3, c3, h3⟩ : ∃ a b c, findA C (2, k) = (a, b, c) := ⟨_, _, _, rfl⟩
  have H1 := Lib.hid h1
  have H2 := Lib.hid h2
  have H3 := Lib.hid h3
  clear h1 h2 h3
  go_enter Try.func3, Try.ntmps3
  go_wp2_with fail
  rw [← hw1]
  clear hw1
  obtain ⟨ba, hba⟩ : ∃ ba, ba = W.heap.size := ⟨_, rfl⟩
  rw [← hba] at VA x0 x1 x2 ⊢
  clear hba
  refine (LA.out).mono ?_
  rintro e w9 ⟨rfl, hb⟩
  have VA := Lib.hid (VA.out.below hb); have K := Lib.hid (K.out.trans (hb.mono K.out.size)); clear hb; have x0 := VA.out.box.c0; have x1 := VA.out.box.c1; have x2 := VA.out.box.c2
  go_wp2_with (first
    | (go_at_call 10; refine (own_is _ _ _ C k a1 b1 c1 H1.out _ VA.out.cf).mono ?_; rintro e w9 ⟨rfl, hb⟩; have VA := Lib.hid (VA.out.below hb); have K := Lib.hid (K.out.trans (hb.mono K.out.size)); clear hb; have x0 := VA.out.box.c0; have x1 := VA.out.box.c1; have x2 := VA.out.box.c2)
    | (go_at_call 11; refine (rown_is _ _ _ C k a1 b1 c1 H1.out _ VA.out.cf).mono ?_; rintro e w9 ⟨rfl, hb⟩; have VA := Lib.hid (VA.out.below hb); have K := Lib.hid (K.out.trans (hb.mono K.out.size)); clear hb; have x0 := VA.out.box.c0; have x1 := VA.out.box.c1; have x2 := VA.out.box.c2)
    | (go_at_call 12; refine (traps_is _ _ _ C k a2 b2 c2 H2.out _ VA.out.cf).mono ?_; rintro e w9 ⟨rfl, hb⟩; have VA := Lib.hid (VA.out.below hb); have K := Lib.hid (K.out.trans (hb.mono K.out.size)); clear hb; have x0 := VA.out.box.c0; have x1 := VA.out.box.c1; have x2 := VA.out.box.c2)
    | (go_at_call 13; refine (rtraps_is _ _ _ C k a2 b2 c2 H2.out _ VA.out.cf).mono ?_; rintro e w9 ⟨rfl, hb⟩; have VA := Lib.hid (VA.out.below hb); have K := Lib.hid (K.out.trans (hb.mono K.out.size)); clear hb; have x0 := VA.out.box.c0; have x1 := VA.out.box.c1; have x2 := VA.out.box.c2)
    | (go_at_call 14; refine (chan_is _ _ _ C k a3 b3 c3 H3.out _ VA.out.cf).mono ?_; rintro e w9 ⟨rfl, hb⟩; have VA := Lib.hid (VA.out.below hb); have K := Lib.hid (K.out.trans (hb.mono K.out.size)); clear hb; have x0 := VA.out.box.c0; have x1 := VA.out.box.c1; have x2 := VA.out.box.c2)
    | (go_at_call 15; refine (rchan_is _ _ _ C k a3 b3 c3 H3.out _ VA.out.cf).mono ?_; rintro e w9 ⟨rfl, hb⟩; have VA := Lib.hid (VA.out.below hb); have K := Lib.hid (K.out.trans (hb.mono K.out.size)); clear hb; have x0 := VA.out.box.c0; have x1 := VA.out.box.c1; have x2 := VA.out.box.c2)
    | (go_at_call 9; refine (awake7_ok _).mono ?_; rintro e w9 ⟨rfl, hb⟩; have K := Lib.hid (K.out.trans (hb.mono K.out.size)); clear hb))
  go_ret
  exact ⟨rfl, K.out⟩
set_option maxHeartbeats 4000000 in
theorem planTurn_walk (v : Value) (C : Cf) (t : Int) (W : World) (hC : ConfIn W v C) (ht : 0 ≤ t ∧ t ≤ 18446744073709551615) : Calls Try.prog 4 #[v, .int .u64 t] W fun e w' => e = .returned (.bool true) ∧ Below W.heap.size W w' := by
  obtain ⟨aa1, na1, ma1, aa2, na2, ma2, aa3, na3, ma3, rfl⟩ := hC.slices
  obtain ⟨w1, hw1⟩ : ∃ w1, w1 = W.alloc (.cells #[.slice aa1 na1 ma1, .slice aa2 na2 ma2, .slice aa3 na3 ma3] 26) := ⟨_, rfl⟩
  have hb1 : Below W.heap.size W w1 := by rw [hw1]; exact (Below.refl _ _).alloc (Nat.le_refl _) _
  have K := Lib.hid hb1
  have IA := Lib.hid (hC.below hb1)
  have XA : Hid (CBox w1 W.heap.size (.slice aa1 na1 ma1) (.slice aa2 na2 ma2) (.slice aa3 na3 ma3)) := Lib.hid (by rw [hw1]; exact CBox.new W _ _ _)
  have x0 := XA.out.c0
  have x1 := XA.out.c1
  have x2 := XA.out.c2
  clear hC hb1
  by_cases la : longC C
  · have LA := Lib.hid (long7_yes _ C w1 IA.out la)
    clear la
    go_enter Try.func4, Try.ntmps4
    go_wp2_with fail
    rw [← hw1]
    clear hw1
    refine LA.out.mono ?_
    rintro e w2 ⟨rfl, hb⟩
    have K2 := Lib.hid (K.out.trans (hb.mono K.out.size))
    clear hb
    go_wp2_with fail
    refine (awake7_ok _).mono ?_
    rintro e w3 ⟨rfl, hb⟩
    have K3 := Lib.hid (K2.out.trans (hb.mono K2.out.size))
    clear hb
    go_wp2
    go_ret
    exact ⟨rfl, K3.out⟩
  have VA := Lib.hid (show VarAt w1 W.heap.size _ _ _ C from ⟨XA.out, IA.out.at_ la⟩)
  have LA := Lib.hid (long7_no _ _ _ C w1 VA.out.cf la)
  clear la IA XA
  obtain ⟨a, b, c, h1⟩ : ∃ a b c, turnA C t = (a, b, c) := ⟨_, _, _, rfl⟩
  have hc : chk C = c := by rw [← turnA_err C t, h1]
  obtain ⟨m, hm⟩ : ∃ m, majorA C = m := ⟨_, rfl⟩
  obtain ⟨t1, t2⟩ := ht
  have H1 := Lib.hid h1
  have HC := Lib.hid hc
  have HM := Lib.hid hm
  by_cases h0 : c = 0
  · subst h0
    have hrow := majorA_row hc
    rw [hm] at hrow
    obtain ⟨q, hq⟩ : ∃ q, (rowL (winL C)).length = q := ⟨_, rfl⟩
    rw [hq] at hrow
    subst hrow
    have HR := Lib.hid hq
    clear h1 hc hm hq
    go_enter Try.func4, Try.ntmps4
    go_wp2_with fail
    rw [← hw1]
    clear hw1
    obtain ⟨ba, hba⟩ : ∃ ba, ba = W.heap.size := ⟨_, rfl⟩
    rw [← hba] at VA x0 x1 x2 ⊢
    clear hba
    refine (LA.out).mono ?_
    rintro e w9 ⟨rfl, hb⟩
    have VA := Lib.hid (VA.out.below hb); have K := Lib.hid (K.out.trans (hb.mono K.out.size)); clear hb; have x0 := VA.out.box.c0; have x1 := VA.out.box.c1; have x2 := VA.out.box.c2
    go_wp2_with (first
      | (go_at_call 16; refine (turn_is _ _ _ C t a b _ t1 H1.out _ VA.out.cf).mono ?_; rintro e w9 ⟨rfl, hb⟩; have VA := Lib.hid (VA.out.below hb); have K := Lib.hid (K.out.trans (hb.mono K.out.size)); clear hb; have x0 := VA.out.box.c0; have x1 := VA.out.box.c1; have x2 := VA.out.box.c2)
      | (go_at_call 17; refine (rturn_is _ _ _ C t a b _ t1 H1.out _ VA.out.cf).mono ?_; rintro e w9 ⟨rfl, hb⟩; have VA := Lib.hid (VA.out.below hb); have K := Lib.hid (K.out.trans (hb.mono K.out.size)); clear hb; have x0 := VA.out.box.c0; have x1 := VA.out.box.c1; have x2 := VA.out.box.c2)
      | (go_at_call 18; refine (major_is _ _ _ C _ _ HM.out HC.out _ VA.out.cf).mono ?_; rintro e w9 ⟨rfl, hb⟩; have VA := Lib.hid (VA.out.below hb); have K := Lib.hid (K.out.trans (hb.mono K.out.size)); clear hb; have x0 := VA.out.box.c0; have x1 := VA.out.box.c1; have x2 := VA.out.box.c2)
      | (go_at_call 19; refine (rcheck_is _ _ _ C _ HC.out _ VA.out.cf).mono ?_; rintro e w9 ⟨rfl, hb⟩; have VA := Lib.hid (VA.out.below hb); have K := Lib.hid (K.out.trans (hb.mono K.out.size)); clear hb; have x0 := VA.out.box.c0; have x1 := VA.out.box.c1; have x2 := VA.out.box.c2)
      | (go_at_call 20; refine (row_ok _ _ _ C HC.out _ VA.out.cf).mono ?_; rintro e w9 ⟨vr, rfl, ⟨g, cr, rfl, -, -⟩, hb⟩; rw [HR.out]; have VA := Lib.hid (VA.out.below hb); have K := Lib.hid (K.out.trans (hb.mono K.out.size)); clear hb; have x0 := VA.out.box.c0; have x1 := VA.out.box.c1; have x2 := VA.out.box.c2)
      | (go_at_call 9; refine (awake7_ok _).mono ?_; rintro e w9 ⟨rfl, hb⟩; have K := Lib.hid (K.out.trans (hb.mono K.out.size)); clear hb))
    go_ret
    exact ⟨rfl, K.out⟩
  · have hz := majorA_bad (C := C) (by rw [hc]; exact h0)
    rw [hm] at hz
    subst hz
    clear h1 hc hm
    go_enter Try.func4, Try.ntmps4
    go_wp2_with fail
    rw [← hw1]
    clear hw1
    obtain ⟨ba, hba⟩ : ∃ ba, ba = W.heap.size := ⟨_, rfl⟩
    rw [← hba] at VA x0 x1 x2 ⊢
    clear hba
    refine (LA.out).mono ?_
    rintro e w9 ⟨rfl, hb⟩
    have VA := Lib.hid (VA.out.below hb); have K := Lib.hid (K.out.trans (hb.mono K.out.size)); clear hb; have x0 := VA.out.box.c0; have x1 := VA.out.box.c1; have x2 := VA.out.box.c2
    go_wp2_with (first
      | (go_at_call 16; refine (turn_is _ _ _ C t a b _ t1 H1.out _ VA.out.cf).mono ?_; rintro e w9 ⟨rfl, hb⟩; have VA := Lib.hid (VA.out.below hb); have K := Lib.hid (K.out.trans (hb.mono K.out.size)); clear hb; have x0 := VA.out.box.c0; have x1 := VA.out.box.c1; have x2 := VA.out.box.c2)
      | (go_at_call 17; refine (rturn_is _ _ _ C t a b _ t1 H1.out _ VA.out.cf).mono ?_; rintro e w9 ⟨rfl, hb⟩; have VA := Lib.hid (VA.out.below hb); have K := Lib.hid (K.out.trans (hb.mono K.out.size)); clear hb; have x0 := VA.out.box.c0; have x1 := VA.out.box.c1; have x2 := VA.out.box.c2)
      | (go_at_call 18; refine (major_is _ _ _ C _ _ HM.out HC.out _ VA.out.cf).mono ?_; rintro e w9 ⟨rfl, hb⟩; have VA := Lib.hid (VA.out.below hb); have K := Lib.hid (K.out.trans (hb.mono K.out.size)); clear hb; have x0 := VA.out.box.c0; have x1 := VA.out.box.c1; have x2 := VA.out.box.c2)
      | (go_at_call 19; refine (rcheck_is _ _ _ C _ HC.out _ VA.out.cf).mono ?_; rintro e w9 ⟨rfl, hb⟩; have VA := Lib.hid (VA.out.below hb); have K := Lib.hid (K.out.trans (hb.mono K.out.size)); clear hb; have x0 := VA.out.box.c0; have x1 := VA.out.box.c1; have x2 := VA.out.box.c2)
      | (go_at_call 9; refine (awake7_ok _).mono ?_; rintro e w9 ⟨rfl, hb⟩; have K := Lib.hid (K.out.trans (hb.mono K.out.size)); clear hb))
    go_ret
    exact ⟨rfl, K.out⟩
end Go.Proofs.Ytepfljfaclakeaa
