/- The walks of ConfPut and ConfGet. Condition: the configurations lie as they came in. Written by gen/gen_c22.py. -/
import Derived.Test.YtpgoddbijkolbaaC17
import Derived.Test.YtpgoddbijkolbaaC18
import Derived.Test.YtpgoddbijkolbaaC20
import Derived.Test.YtpgoddbijkolbaaC21
namespace Go.Proofs.Ytpgoddbijkolbaa
open Go.RowKit
set_option maxRecDepth 100000

theorem put_is (v1 v2 v3 : Value) (C : Cf) (l : List UInt8) (c : Int) (hl : putL C = l) (hc : chk C = c) (w : World) (h : CfAt w v1 v2 v3 C) : Calls Try.prog 11 #[.agg #[v1, v2, v3]] w fun e w' => e = .returned (.tuple #[strV l, .int .i64 c]) ∧ Below w.heap.size w w' := by
  subst hl hc; exact put_conf v1 v2 v3 C w h
theorem check_is (v1 v2 v3 : Value) (C : Cf) (c : Int) (hc : chk C = c) (w : World) (h : CfAt w v1 v2 v3 C) : Calls Try.prog 13 #[.agg #[v1, v2, v3]] w fun e w' => e = .returned (.int .i64 c) ∧ Below w.heap.size w w' := by
  subst hc; exact check_ok v1 v2 v3 C w h
theorem rput_is (v1 v2 v3 : Value) (C : Cf) (l : List UInt8) (c : Int) (hl : putL C = l) (hc : chk C = c) (w : World) (h : CfAt w v1 v2 v3 C) : Calls Try.prog 12 #[.agg #[v1, v2, v3]] w fun e w' => e = .returned (.tuple #[strV l, .int .i64 c]) ∧ Below w.heap.size w w' := by
  subst hl hc; exact rput_conf v1 v2 v3 C w h
theorem rcheck_is (v1 v2 v3 : Value) (C : Cf) (c : Int) (hc : chk C = c) (w : World) (h : CfAt w v1 v2 v3 C) : Calls Try.prog 14 #[.agg #[v1, v2, v3]] w fun e w' => e = .returned (.int .i64 c) ∧ Below w.heap.size w w' := by
  subst hc; exact rcheck_ok v1 v2 v3 C w h
theorem rframes_is (v1 v2 v3 : Value) (C : Cf) (n : Int) (hn : framesA C = n) (w : World) (h : CfAt w v1 v2 v3 C) : Calls Try.prog 16 #[.agg #[v1, v2, v3]] w fun e w' => e = .returned (.int .i64 n) ∧ Below w.heap.size w w' := by
  subst hn; exact rframes_ok v1 v2 v3 C w h
theorem rsame_is (v1 v2 v3 u1 u2 u3 : Value) (C D : Cf) (r : Bool) (hr : decide (C = D) = r) (w : World) (h : CfAt w v1 v2 v3 C) (k : CfAt w u1 u2 u3 D) : Calls Try.prog 18 #[.agg #[v1, v2, v3], .agg #[u1, u2, u3]] w fun e w' => e = .returned (.bool r) ∧ Below w.heap.size w w' := by
  subst hr; exact rsame_ok v1 v2 v3 u1 u2 u3 C D w h k
theorem RowsIn.below {k : Nat} {w w' : World} {v : Value} {S : List Row} (h : RowsIn k w v S) (hb : Below w.heap.size w w') : RowsIn k w' v S := by
  obtain ⟨a, c, rfl, hT, hS⟩ := h
  refine ⟨a, c, rfl, hT, ?_⟩
  rcases hS with hS | ⟨b, o, rfl, hlt, hc⟩
  · exact Or.inl hS
  · exact Or.inr ⟨b, o, rfl, Nat.lt_of_lt_of_le hlt hb.size, fun i hi j hj => (hb.cell (p := ⟨b, o + i * k + j, none⟩) hlt).trans (hc i hi j hj)⟩
theorem ConfIn.below {w w' : World} {v : Value} {C : Cf} (h : ConfIn w v C) (hb : Below w.heap.size w w') : ConfIn w' v C := by
  obtain ⟨v1, v2, v3, rfl, h1, h2, h3⟩ := h.parts
  exact ⟨v1, v2, v3, rfl, h1.below hb, h2.below hb, h3.below hb⟩
theorem ConfIn.slices {w : World} {v : Value} {C : Cf} (h : ConfIn w v C) : ∃ a1 n1 m1 a2 n2 m2 a3 n3 m3, v = .agg #[.slice a1 n1 m1, .slice a2 n2 m2, .slice a3 n3 m3] := by
  obtain ⟨v1, v2, v3, rfl, ⟨_, _, rfl, _⟩, ⟨_, _, rfl, _⟩, ⟨_, _, rfl, _⟩⟩ := h.parts
  exact ⟨_, _, _, _, _, _, _, _, _, rfl⟩
theorem ConfIn.at_ {w : World} {v1 v2 v3 : Value} {C : Cf} (h : ConfIn w (.agg #[v1, v2, v3]) C) (hl : ¬ longC C) : CfAt w v1 v2 v3 C := by
  obtain ⟨u1, u2, u3, e, h⟩ := h.cf hl
  simp at e
  obtain ⟨rfl, rfl, rfl⟩ := e
  exact h

set_option maxHeartbeats 8000000 in
theorem confPut_walk (v : Value) (A : Cf) (u : Value) (B : Cf) (W : World) (hA : ConfIn W v A) (hB : ConfIn W u B) : Calls Try.prog 3 #[v, u] W fun e w' => e = .returned (.bool true) ∧ Below W.heap.size W w' := by
  obtain ⟨aa1, na1, ma1, aa2, na2, ma2, aa3, na3, ma3, rfl⟩ := hA.slices
  obtain ⟨ab1, nb1, mb1, ab2, nb2, mb2, ab3, nb3, mb3, rfl⟩ := hB.slices
  obtain ⟨w1, hw1⟩ : ∃ w1, w1 = (W.alloc (.cells #[.slice aa1 na1 ma1, .slice aa2 na2 ma2, .slice aa3 na3 ma3] 26)).alloc (.cells #[.slice ab1 nb1 mb1, .slice ab2 nb2 mb2, .slice ab3 nb3 mb3] 26) := ⟨_, rfl⟩
  have hb1 : Below W.heap.size W w1 := by rw [hw1]; exact below_two W _ _
  have K := Lib.hid hb1
  have IA := Lib.hid (hA.below hb1)
  have IB := Lib.hid (hB.below hb1)
  have XA : Hid (CBox w1 W.heap.size (.slice aa1 na1 ma1) (.slice aa2 na2 ma2) (.slice aa3 na3 ma3)) := Lib.hid (by rw [hw1]; exact (CBox.new W _ _ _).below ((Below.refl _ _).alloc (Nat.le_refl _) _))
  have XB : Hid (CBox w1 (W.heap.size + 1) (.slice ab1 nb1 mb1) (.slice ab2 nb2 mb2) (.slice ab3 nb3 mb3)) := Lib.hid (by rw [hw1]; exact heap_alloc2_new W _ _)
  clear hA hB hb1
  by_cases la : longC A
  · have LA := Lib.hid (long_yes _ A w1 IA.out la)
    clear la
    go_enter Try.func3, Try.ntmps3
    go_wp2_with fail
    rw [← hw1]
    clear hw1
    refine LA.out.mono ?_
    rintro e w2 ⟨rfl, hb⟩
    have K2 := Lib.hid (K.out.trans (hb.mono K.out.size))
    clear hb
    go_wp2_with fail
    refine (awake_conf _).mono ?_
    rintro e w3 ⟨rfl, hb⟩
    have K3 := Lib.hid (K2.out.trans (hb.mono K2.out.size))
    clear hb
    go_wp2
    go_ret
    exact ⟨rfl, K3.out⟩
  have VA := Lib.hid (show VarAt w1 W.heap.size _ _ _ A from ⟨XA.out, IA.out.at_ la⟩)
  have LA := Lib.hid (long_no _ _ _ A w1 VA.out.cf la)
  by_cases lb : longC B
  · clear la
    have y0 := XB.out.c0
    go_enter Try.func3, Try.ntmps3
    go_wp2_with fail
    rw [← hw1]
    clear hw1
    refine LA.out.mono ?_
    rintro e w2 ⟨rfl, hb⟩
    have K2 := Lib.hid (K.out.trans (hb.mono K.out.size))
    have LB := Lib.hid (long_yes _ B w2 (IB.out.below hb) lb)
    have XB2 := Lib.hid (XB.out.below hb)
    have y0 := XB2.out.c0
    have y1 := XB2.out.c1
    have y2 := XB2.out.c2
    clear hb lb
    go_wp2_with fail
    refine LB.out.mono ?_
    rintro e w3 ⟨rfl, hb⟩
    have K3 := Lib.hid (K2.out.trans (hb.mono K2.out.size))
    clear hb
    go_wp2_with fail
    refine (awake_conf _).mono ?_
    rintro e w4 ⟨rfl, hb⟩
    have K4 := Lib.hid (K3.out.trans (hb.mono K3.out.size))
    clear hb
    go_wp2
    go_ret
    exact ⟨rfl, K4.out⟩
  have VB := Lib.hid (show VarAt w1 (W.heap.size + 1) _ _ _ B from ⟨XB.out, IB.out.at_ lb⟩)
  have HLB := Lib.hid (show ∀ w, CfAt w (.slice ab1 nb1 mb1) (.slice ab2 nb2 mb2) (.slice ab3 nb3 mb3) B → Calls Try.prog 9 #[.agg #[.slice ab1 nb1 mb1, .slice ab2 nb2 mb2, .slice ab3 nb3 mb3]] w fun e w' => e = .returned (.bool false) ∧ Below w.heap.size w w' from fun w h => long_no _ _ _ B w h lb)
  clear la lb IA IB XA XB
  obtain ⟨l, hl⟩ : ∃ l, putL A = l := ⟨_, rfl⟩
  obtain ⟨c, hc⟩ : ∃ c, chk A = c := ⟨_, rfl⟩
  obtain ⟨f, hf⟩ : ∃ f, framesA A = f := ⟨_, rfl⟩
  obtain ⟨s, hs⟩ : ∃ s, decide (A = B) = s := ⟨_, rfl⟩
  have PL := Lib.hid hl
  have PC := Lib.hid hc
  have PF := Lib.hid hf
  have PS := Lib.hid hs
  have el : (l == l) = true := by simp
  have ec : (c == c) = true := by simp
  have ef : (f == f) = true := by simp
  have es : (s == s) = true := by simp
  clear hl hc hf hs
  go_enter Try.func3, Try.ntmps3
  go_wp2_with fail
  rw [← hw1]
  clear hw1
  generalize W.heap.size + 1 = bb at *
  obtain ⟨ba, hba⟩ : ∃ ba, ba = W.heap.size := ⟨_, rfl⟩
  rw [← hba] at VA ⊢
  clear hba
  refine (LA.out).mono ?_
  rintro e w9 ⟨rfl, hb⟩
  have VA := Lib.hid (VA.out.below hb); have VB := Lib.hid (VB.out.below hb); have K := Lib.hid (K.out.trans (hb.mono K.out.size)); clear hb; have x0 := VA.out.box.c0; have x1 := VA.out.box.c1; have x2 := VA.out.box.c2; have y0 := VB.out.box.c0; have y1 := VB.out.box.c1; have y2 := VB.out.box.c2
  go_wp2_with fail
  refine (HLB.out _ VB.out.cf).mono ?_
  rintro e w9 ⟨rfl, hb⟩
  have VA := Lib.hid (VA.out.below hb); have VB := Lib.hid (VB.out.below hb); have K := Lib.hid (K.out.trans (hb.mono K.out.size)); clear hb; have x0 := VA.out.box.c0; have x1 := VA.out.box.c1; have x2 := VA.out.box.c2; have y0 := VB.out.box.c0; have y1 := VB.out.box.c1; have y2 := VB.out.box.c2
  go_wp2_with fail
  refine (put_is _ _ _ A l c PL.out PC.out _ VA.out.cf).mono ?_
  rintro e w9 ⟨rfl, hb⟩
  have VA := Lib.hid (VA.out.below hb); have VB := Lib.hid (VB.out.below hb); have K := Lib.hid (K.out.trans (hb.mono K.out.size)); clear hb; have x0 := VA.out.box.c0; have x1 := VA.out.box.c1; have x2 := VA.out.box.c2; have y0 := VB.out.box.c0; have y1 := VB.out.box.c1; have y2 := VB.out.box.c2
  go_wp2_with fail
  refine (rput_is _ _ _ A l c PL.out PC.out _ VA.out.cf).mono ?_
  rintro e w9 ⟨rfl, hb⟩
  have VA := Lib.hid (VA.out.below hb); have VB := Lib.hid (VB.out.below hb); have K := Lib.hid (K.out.trans (hb.mono K.out.size)); clear hb; have x0 := VA.out.box.c0; have x1 := VA.out.box.c1; have x2 := VA.out.box.c2; have y0 := VB.out.box.c0; have y1 := VB.out.box.c1; have y2 := VB.out.box.c2
  go_wp2_with fail
  have VA := Lib.hid (VA.out.below (Below.refl _ _).drew)
  have VB := Lib.hid (VB.out.below (Below.refl _ _).drew)
  have K := Lib.hid K.out.drew
  go_region_held3 (fun w' => (w'.cell? ⟨ba, 0, none⟩ = some (.slice aa1 na1 ma1) ∧ w'.cell? ⟨ba, 1, none⟩ = some (.slice aa2 na2 ma2) ∧ w'.cell? ⟨ba, 2, none⟩ = some (.slice aa3 na3 ma3)) ∧ (w'.cell? ⟨bb, 0, none⟩ = some (.slice ab1 nb1 mb1) ∧ w'.cell? ⟨bb, 1, none⟩ = some (.slice ab2 nb2 mb2) ∧ w'.cell? ⟨bb, 2, none⟩ = some (.slice ab3 nb3 mb3))) (go_keep)
    (first
      | (go_at_call 13; refine (check_is _ _ _ A c PC.out _ VA.out.cf).mono ?_; rintro e w9 ⟨rfl, hb⟩; have VA := Lib.hid (VA.out.below hb); have VB := Lib.hid (VB.out.below hb); have K := Lib.hid (K.out.trans (hb.mono K.out.size)); clear hb; have x0 := VA.out.box.c0; have x1 := VA.out.box.c1; have x2 := VA.out.box.c2; have y0 := VB.out.box.c0; have y1 := VB.out.box.c1; have y2 := VB.out.box.c2)
      | (go_at_call 14; refine (rcheck_is _ _ _ A c PC.out _ VA.out.cf).mono ?_; rintro e w9 ⟨rfl, hb⟩; have VA := Lib.hid (VA.out.below hb); have VB := Lib.hid (VB.out.below hb); have K := Lib.hid (K.out.trans (hb.mono K.out.size)); clear hb; have x0 := VA.out.box.c0; have x1 := VA.out.box.c1; have x2 := VA.out.box.c2; have y0 := VB.out.box.c0; have y1 := VB.out.box.c1; have y2 := VB.out.box.c2)
      | (go_at_call 15; refine (frames_is _ _ _ A f PF.out _ VA.out.cf).mono ?_; rintro e w9 ⟨rfl, hb⟩; have VA := Lib.hid (VA.out.below hb); have VB := Lib.hid (VB.out.below hb); have K := Lib.hid (K.out.trans (hb.mono K.out.size)); clear hb; have x0 := VA.out.box.c0; have x1 := VA.out.box.c1; have x2 := VA.out.box.c2; have y0 := VB.out.box.c0; have y1 := VB.out.box.c1; have y2 := VB.out.box.c2)
      | (go_at_call 16; refine (rframes_is _ _ _ A f PF.out _ VA.out.cf).mono ?_; rintro e w9 ⟨rfl, hb⟩; have VA := Lib.hid (VA.out.below hb); have VB := Lib.hid (VB.out.below hb); have K := Lib.hid (K.out.trans (hb.mono K.out.size)); clear hb; have x0 := VA.out.box.c0; have x1 := VA.out.box.c1; have x2 := VA.out.box.c2; have y0 := VB.out.box.c0; have y1 := VB.out.box.c1; have y2 := VB.out.box.c2)
      | (go_at_call 17; refine (same_is _ _ _ _ _ _ A B s PS.out _ VA.out.cf VB.out.cf).mono ?_; rintro e w9 ⟨rfl, hb⟩; have VA := Lib.hid (VA.out.below hb); have VB := Lib.hid (VB.out.below hb); have K := Lib.hid (K.out.trans (hb.mono K.out.size)); clear hb; have x0 := VA.out.box.c0; have x1 := VA.out.box.c1; have x2 := VA.out.box.c2; have y0 := VB.out.box.c0; have y1 := VB.out.box.c1; have y2 := VB.out.box.c2)
      | (go_at_call 18; refine (rsame_is _ _ _ _ _ _ A B s PS.out _ VA.out.cf VB.out.cf).mono ?_; rintro e w9 ⟨rfl, hb⟩; have VA := Lib.hid (VA.out.below hb); have VB := Lib.hid (VB.out.below hb); have K := Lib.hid (K.out.trans (hb.mono K.out.size)); clear hb; have x0 := VA.out.box.c0; have x1 := VA.out.box.c1; have x2 := VA.out.box.c2; have y0 := VB.out.box.c0; have y1 := VB.out.box.c1; have y2 := VB.out.box.c2)
      | (go_at_call 10; refine (awake_conf _).mono ?_; rintro e w9 ⟨rfl, hb⟩; have VA := Lib.hid (VA.out.below hb); have VB := Lib.hid (VB.out.below hb); have K := Lib.hid (K.out.trans (hb.mono K.out.size)); clear hb; have x0 := VA.out.box.c0; have x1 := VA.out.box.c1; have x2 := VA.out.box.c2; have y0 := VB.out.box.c0; have y1 := VB.out.box.c1; have y2 := VB.out.box.c2))
  go_wp2
  go_ret
  exact ⟨rfl, K.out⟩
set_option maxHeartbeats 4000000 in
theorem confGet_walk (s : ByteArray) (W : World) (hs : s.size ≤ maxLen) : Calls Try.prog 4 #[.string s] W fun e w' => e = .returned (.bool true) ∧ Below W.heap.size W w' := by
  obtain ⟨l, rfl⟩ : ∃ l : List UInt8, s = ⟨l.toArray⟩ := ⟨s.data.toList, by cases s; simp⟩
  have hsz : (ByteArray.mk l.toArray).size = l.length := by simp [ByteArray.size]
  rw [hsz] at hs
  unfold maxLen at hs
  by_cases hl : l.length ≤ 2000
  · have hl2 : ¬ (2000 : Int) < (l.length : Int) := by omega
    obtain ⟨x, hx⟩ : ∃ x, getE l = x := ⟨_, rfl⟩
    have HX := Lib.hid hx
    have ex : (x == x) = true := by simp
    clear hx
    go_enter Try.func4, Try.ntmps4
    go_wp2_with fail
    refine (get_conf l (by unfold maxLen; omega) W).mono ?_
    rintro e w1 ⟨t1, t2, t3, rfl, hC, hb⟩
    rw [HX.out]
    have K1 := Lib.hid hb
    obtain ⟨a1, n1, m1, rfl⟩ := hC.ps.isSlice
    obtain ⟨a2, n2, m2, rfl⟩ := hC.ws.isSlice
    obtain ⟨a3, n3, m3, rfl⟩ := hC.hs.isSlice
    have V1 := Lib.hid (VarAt.new hC)
    have KA := Lib.hid (K1.out.alloc K1.out.size (.cells #[.slice a1 n1 m1, .slice a2 n2 m2, .slice a3 n3 m3] 26))
    clear hb hC
    go_wp2_with fail
    obtain ⟨b1, hb1⟩ : ∃ b, b = w1.heap.size := ⟨_, rfl⟩
    rw [← hb1] at V1 ⊢
    generalize w1.alloc (.cells #[.slice a1 n1 m1, .slice a2 n2 m2, .slice a3 n3 m3] 26) = w2 at *
    clear hb1
    refine (rget_conf l hl w2).mono ?_
    rintro e w3 ⟨t1, t2, t3, rfl, hC, hb⟩
    rw [HX.out]
    have K3 := Lib.hid (KA.out.trans (hb.mono KA.out.size))
    have V1 := Lib.hid (V1.out.below hb)
    obtain ⟨a1', n1', m1', rfl⟩ := hC.ps.isSlice
    obtain ⟨a2', n2', m2', rfl⟩ := hC.ws.isSlice
    obtain ⟨a3', n3', m3', rfl⟩ := hC.hs.isSlice
    have V2 := Lib.hid (VarAt.new hC)
    have hA2 : Below w3.heap.size w3 (w3.alloc (.cells #[.slice a1' n1' m1', .slice a2' n2' m2', .slice a3' n3' m3'] 26)) := (Below.refl _ _).alloc (Nat.le_refl _) _
    have V1 := Lib.hid (V1.out.below hA2)
    have KB := Lib.hid (K3.out.trans (hA2.mono K3.out.size))
    have x0 := V1.out.box.c0
    have x1 := V1.out.box.c1
    have x2 := V1.out.box.c2
    clear hb hC hA2
    go_wp2_with fail
    refine (rsame_is _ _ _ _ _ _ (getC l) (getC l) true (decide_eq_true rfl) _ V1.out.cf V2.out.cf).mono ?_
    rintro e w4 ⟨rfl, hb⟩
    have K4 := Lib.hid (KB.out.trans (hb.mono KB.out.size))
    clear hb
    go_wp2_with fail
    refine (awake_conf _).mono ?_
    rintro e w5 ⟨rfl, hb⟩
    have K5 := Lib.hid (K4.out.trans (hb.mono K4.out.size))
    clear hb
    go_wp2
    go_ret
    exact ⟨rfl, K5.out⟩
  · have hl2 : (2000 : Int) < (l.length : Int) := by omega
    go_enter Try.func4, Try.ntmps4
    go_wp2_with fail
    refine (awake_conf _).mono ?_
    rintro e w1 ⟨rfl, hb⟩
    have K1 := Lib.hid hb
    clear hb
    go_wp2
    go_ret
    exact ⟨rfl, K1.out⟩
end Go.Proofs.Ytpgoddbijkolbaa
