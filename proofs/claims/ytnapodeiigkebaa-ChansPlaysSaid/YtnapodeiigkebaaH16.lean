/- The walk of ChansEnds, where all is well. Condition: the configuration lies as it came in. -/
import Derived.Test.YtnapodeiigkebaaH15
namespace Go.Proofs.Ytnapodeiigkebaa
open Go.RowKit
set_option maxRecDepth 100000

theorem OwnMem.late {W w w' : World} {mp fb n : Nat} {L : List Int} (hb : Below W.heap.size W w) (h : OwnMem w w' mp fb n L) : OwnMem W w' mp fb n L := ⟨h.st, hb.trans (h.below.mono hb.size), Nat.le_trans hb.size h.lm, Nat.le_trans hb.size h.lf⟩
/-- A configuration that may be: its channels' cells, and a channel's numbers. -/
theorem chanH_cells {C : Cf} {W : World} {v1 v2 v3 : Value} (CF : CfAt W v1 v2 v3 C) (hk : chk C = 0) (i : Nat) (hi : i < C.2.2.length) : ∃ (cb co cc : Nat) (a b : Int) (c d : Nat), v3 = .slice (some ⟨cb, co, none⟩) C.2.2.length cc ∧ C.2.2.getD i [] = [a, b, (c : Int), (d : Int)] ∧ a ≠ b ∧ (1 ≤ c ∧ c ≤ 8) ∧ (1 ≤ d ∧ d ≤ 8) ∧
    ∀ V, Below W.heap.size W V → V.cell? ⟨cb, co + i * 4, none⟩ = some (.int .i64 a) ∧ V.cell? ⟨cb, co + i * 4 + 1, none⟩ = some (.int .i64 b) ∧ V.cell? ⟨cb, co + i * 4 + 2, none⟩ = some (.int .i64 (c : Int)) ∧ V.cell? ⟨cb, co + i * 4 + 3, none⟩ = some (.int .i64 (d : Int)) := by
  have hm := (chk_zero hk).1
  obtain ⟨aa, cc, rfl, hl3, h4, hcells⟩ := CF.hs
  obtain ⟨cb, co, rfl, hlt, hcell⟩ := hcells.resolve_left (by intro e; rw [e] at hi; simp at hi)
  obtain ⟨a, b, c, d, hT, hc, hd⟩ := chanB_nat (chan_row hm i hi) (h4 _ (getD_mem hi))
  have hr := chan_row hm i hi
  rw [hT] at hr
  refine ⟨cb, co, cc, a, b, c, d, rfl, hT, ?_, hc, hd, fun V hV => ?_⟩
  · unfold chanB at hr
    simp only [Bool.and_eq_true, Bool.not_eq_true', beq_eq_false_iff_ne, List.getD_cons_zero, List.getD_cons_succ] at hr
    exact hr.2.2.1
  · have h := fun j hj => (hV.cell (p := ⟨cb, co + i * 4 + j, none⟩) hlt).trans (hcell i hi j hj)
    rw [hT] at h
    exact ⟨h 0 (by decide), h 1 (by decide), h 2 (by decide), h 3 (by decide)⟩
set_option maxHeartbeats 4000000 in
theorem ends_in {v1 v2 v3 : Value} {C : Cf} {W : World} (CF : CfAt W v1 v2 v3 C) (hl : ¬ longC C) (hk : chk C = 0) (i : Nat) (hi : i < C.2.2.length) (part : Int) :
    Calls Try.prog 7 #[.agg #[v1, v2, v3], .int .i64 (i : Int), .int .i64 part] W fun e w' => e = .returned (.bool true) ∧ Below W.heap.size W w' := by
  obtain ⟨cb, co, cc, a, b, c, d, rfl, hT, hab, hc, hd, hRC⟩ := chanH_cells CF hk i hi
  have RC := Lib.hid hRC
  have V1 := Lib.hid (CvH.new CF)
  have LA := Lib.hid fun V (h : CvH W V v1 v2 (.slice (some ⟨cb, co, none⟩) C.2.2.length cc) C) => long20_no _ _ _ C V h.conf hl
  have KA := Lib.hid fun V (h : CvH W V v1 v2 (.slice (some ⟨cb, co, none⟩) C.2.2.length cc) C) => check_ok _ _ _ C V h.conf
  have FA := Lib.hid fun V (h : CvH W V v1 v2 (.slice (some ⟨cb, co, none⟩) C.2.2.length cc) C) => framesOf_ok _ _ _ C V h.conf
  obtain ⟨f1, f2⟩ := framesC_pos hk
  obtain ⟨N, hN⟩ := Int.eq_ofNat_of_zero_le (show 0 ≤ framesC C by omega)
  have fa : framesA C = (N : Int) := by unfold framesA; rw [if_pos (chk_zero hk).1, hN]
  rw [fa] at FA
  rw [hk] at KA
  have NM := Lib.hid fun V => new_ok N V (by omega) (by omega)
  have NW := Lib.hid fun V mp fb (hM : OwnMem W V mp fb N (List.replicate (N * 32) 0)) (h : CvH W V v1 v2 (.slice (some ⟨cb, co, none⟩) C.2.2.length cc) C) => newH_ok hM.st (zeros_wd _) h.conf hk (by rw [hN]; exact Int.le_refl _)
  obtain ⟨e1, n1, e2, n2, e3, n3, Q1, Q2, Q3, h1, h2, h3, h4, h5, h6, h7, h8, h9, hcs, hn2a, hn2b⟩ := ends_nums hi hT hab hc hd.1 part
  have E1 := Lib.hid h1
  have E2 := Lib.hid h2
  have E3 := Lib.hid h3
  have E4 := Lib.hid h4
  have E5 := Lib.hid h5
  have E6 := Lib.hid h6
  have E7 := Lib.hid h7
  have E8 := Lib.hid h8
  have E9 := Lib.hid h9
  have CFh := Lib.hid CF
  obtain ⟨n, hn⟩ : ∃ n, n = C.2.2.length := ⟨_, rfl⟩
  rw [← hn] at hi V1 LA KA FA NW CFh ⊢
  have d0 : decide ((i : Int) < 0) = false := decide_eq_false (by omega)
  have d1 : decide ((n : Int) ≤ (i : Int)) = false := decide_eq_false (by omega)
  have d2 : decide (n ≤ i) = false := decide_eq_false (by omega)
  clear h1 h2 h3 h4 h5 h6 h7 h8 h9 CF hl hk hT hRC hab fa hN f1 f2 hn
  have z1 : ((c : Int) - 1 == (c : Int)) = false := by simp; omega
  have z2 : ((c : Int) == (c : Int) - 1) = false := by simp; omega
  have z3 : ¬ (c : Int) - 1 = (c : Int) := by omega
  have z4 : ¬ (c : Int) = (c : Int) - 1 := by omega
  have hcases : ((part == a) = true ∧ (part == b) = false ∧ e1 = 0 ∧ n1 = (c : Int) - 1 ∧ e3 = 8 ∧ n3 = n2) ∨ ((part == a) = false ∧ (part == b) = true ∧ e1 = 8 ∧ n1 = (c : Int) ∧ e3 = 0 ∧ n3 = n2 + 1) ∨ ((part == a) = false ∧ (part == b) = false ∧ e1 = 8 ∧ n1 = (c : Int) ∧ e3 = 8 ∧ n3 = n2) := by
    simpa using hcs
  clear hcs
  rcases hcases with ⟨g0, g1, rfl, rfl, rfl, rfl⟩ | ⟨g0, g1, rfl, rfl, rfl, rfl⟩ | ⟨g0, g1, rfl, rfl, rfl, rfl⟩
  all_goals
    go_enter Try.func7, Try.ntmps7
    go_wp2_with (first
      | (go_at_call 8; refine (LA.out _ V1.out).mono ?_; rintro e w2 ⟨rfl, hb⟩; have V2 := Lib.hid (V1.out.step hb); have x0 := V2.out.box.c0; have x1 := V2.out.box.c1; have x2 := V2.out.box.c2; clear hb)
      | (go_at_call 26; refine (KA.out _ V2.out).mono ?_; rintro e w3 ⟨rfl, hb⟩; have V3 := Lib.hid (V2.out.step hb); have x0 := V3.out.box.c0; have x1 := V3.out.box.c1; have x2 := V3.out.box.c2; clear hb)
      | (go_at_call 27; refine (FA.out _ V3.out).mono ?_; rintro e w4 ⟨rfl, hb⟩; have V4 := Lib.hid (V3.out.step hb); clear hb)
      | (go_at_call 10; refine (NM.out _).mono ?_; intro e w5 hp; obtain ⟨mp, fb, rfl, hm⟩ := OwnMem.new hp; have V5 := Lib.hid (V4.out.step hm.below); have M5 := Lib.hid (OwnMem.late V4.out.below hm); have x0 := V5.out.box.c0; have x1 := V5.out.box.c1; have x2 := V5.out.box.c2; clear hm hp))
    refine (NW.out _ _ _ M5.out V5.out).mono ?_
    rintro e w6 ⟨X, rfl, hX⟩
    have HX : Hid (X.H = C.2.2) := Lib.hid hX.2.1
    have L6 : Hid (LwH W w6 v1 v2 (.slice (some ⟨cb, co, none⟩) n cc) C X (fun _ => 0) (List.replicate (N * 32) 0) Q0) := Lib.hid ⟨OwnH.made M5.out hX, V5.out.box.below hX.2.2.2.2.2.2.2.2.2, CFh.out⟩
    have x2 := L6.out.box.c2
    obtain ⟨y0, y1, y2, y3⟩ := RC.out _ L6.out.own.below
    obtain ⟨xb, hxb⟩ : ∃ xb, xb = X.xb := ⟨_, rfl⟩
    have XB := Lib.hid hxb
    rw [← hxb]
    clear hX hxb
    obtain ⟨w7, hw7⟩ : ∃ w7, w7 = w6.alloc (.cells #[.int .i64 a, .int .i64 b, .int .i64 (c : Int), .int .i64 (d : Int)] 47) := ⟨_, rfl⟩
    obtain ⟨kb, hkb⟩ : ∃ kb, kb = w6.heap.size := ⟨_, rfl⟩
    have K7 : Hid (w7.heap[kb]? = some (.cells #[.int .i64 a, .int .i64 b, .int .i64 (c : Int), .int .i64 (d : Int)] 47 (0, 0))) := Lib.hid (by rw [hw7, hkb]; exact heap_alloc_new w6 _)
    have L7 := Lib.hid (L6.out.step (show Below w6.heap.size w6 w7 by rw [hw7]; exact below_step1 _ _))
    have K7b := Lib.hid (below_block (below_step1 w7 (.cells (wordsV [5]) 57)) K7.out)
    have S7 := L7.out.own.sendAt part i _ [5] 1 (kb + 1) rfl (by rw [hw7, hkb]; simp) (by decide) (Eq.trans (by rw [HX.out]) E1.out) (Eq.trans (by rw [HX.out]) E2.out)
    rw [← XB.out] at S7
    have S7 := Lib.hid S7
    have HW := Lib.hid hw7
    have HK := Lib.hid hkb
    clear hw7 hkb
    go_wp2_with fail
    rw [← HW.out, ← HK.out]
    refine S7.out.mono ?_
    rintro e w8 ⟨rfl, L8, ho, hon⟩
    have K8 := Lib.hid (L7.out.own.st.keepBox hon K7.out (by decide) (by decide) (by decide))
    have O8 := Lib.hid ho
    have R8 := ho.room i (Eq.trans (by rw [HX.out]) E3.out)
    rw [← XB.out] at R8
    have R8 := Lib.hid R8
    obtain ⟨k0, k1, k2, k3, -⟩ := box4 K8.out
    clear ho hon S7
    go_wp2_with fail
    refine R8.out.mono ?_
    rintro e w9 ⟨rfl, ho, hb⟩
    have K9 := Lib.hid (below_block hb K8.out)
    have O9 := Lib.hid ho
    obtain ⟨k0, k1, k2, k3, -⟩ := box4 K9.out
    have S9 := ho.sendAt a i _ [6] 1 _ rfl rfl (by decide) (Eq.trans (by rw [HX.out]) E4.out) (Eq.trans (by rw [HX.out]) E5.out)
    rw [← XB.out] at S9
    have S9 := Lib.hid S9
    clear ho hb R8
    go_wp2_with fail
    refine S9.out.mono ?_
    rintro e w10 ⟨rfl, L10, ho, hon⟩
    have K10 := Lib.hid (O9.out.st.keepBox hon K9.out (by decide) (by decide) (by decide))
    have R10 := ho.room i (Eq.trans (by rw [HX.out]) E6.out)
    rw [← XB.out] at R10
    have R10 := Lib.hid R10
    clear ho hon S9 k0 k1 k2 k3
    go_wp2_with fail
    refine R10.out.mono ?_
    rintro e w11 ⟨rfl, ho, hb⟩
    have K11 := Lib.hid (below_block hb K10.out)
    have O11 := Lib.hid ho
    have S11 := ho.recv part i (Eq.trans (by rw [HX.out]) E7.out) rfl (Eq.trans (by rw [HX.out]) E8.out)
    rw [← XB.out] at S11
    have S11 := Lib.hid S11
    clear ho hb R10
    go_wp2_with fail
    refine S11.out.mono ?_
    rintro e w12 ⟨u, f12, rfl, -, ho, hon⟩
    have K12 := Lib.hid (O11.out.st.keepBox hon K11.out (by decide) (by decide) (by decide))
    have R12 := ho.room i (Eq.trans (by rw [HX.out]) E9.out)
    rw [← XB.out] at R12
    have R12 := Lib.hid R12
    clear ho hon S11
    go_wp2_with fail
    refine R12.out.mono ?_
    rintro e w13 ⟨rfl, ho, hb⟩
    have O13 := Lib.hid ho
    obtain ⟨k0, k1, k2, k3, -⟩ := box4 (below_block hb K12.out)
    clear ho hb R12
    go_wp2_with (go_at_call 9; refine (awake20 _).mono ?_; rintro e w14 ⟨rfl, hb⟩; have B14 := Lib.hid ((O13.out.step hb).below); clear hb)
    go_ret
    exact ⟨rfl, B14.out⟩
    all_goals
      rename_i h
      exfalso
      simp [h] at g1
theorem chansEnds_walk (v : Value) (C : Cf) (ch part : Int) (W : World) (hC : ConfIn W v C) (_hc : I64 ch) (_hp : I64 part) : Calls Try.prog 7 #[v, .int .i64 ch, .int .i64 part] W fun e w' => e = .returned (.bool true) ∧ Below W.heap.size W w' := by
  by_cases la : longC C
  · obtain ⟨aa1, na1, ma1, aa2, na2, ma2, aa3, na3, ma3, rfl⟩ := hC.slices
    obtain ⟨w1, hw1⟩ : ∃ w1, w1 = W.alloc (.cells #[.slice aa1 na1 ma1, .slice aa2 na2 ma2, .slice aa3 na3 ma3] 26) := ⟨_, rfl⟩
    have hb1 : Below W.heap.size W w1 := by rw [hw1]; exact below_step1 _ _
    have K := Lib.hid hb1
    have LA := Lib.hid (long20_yes _ C w1 (hC.below hb1) la)
    clear la hC hb1
    go_enter Try.func7, Try.ntmps7
    go_wp2_with fail
    rw [← hw1]
    clear hw1
    refine LA.out.mono ?_
    rintro e w2 ⟨rfl, hb⟩
    have K2 := Lib.hid (K.out.trans (hb.mono K.out.size))
    clear hb
    go_wp2_with fail
    refine (awake20 _).mono ?_
    rintro e w3 ⟨rfl, hb⟩
    have K3 := Lib.hid (K2.out.trans (hb.mono K2.out.size))
    clear hb
    go_wp2
    go_ret
    exact ⟨rfl, K3.out⟩
  obtain ⟨v1, v2, v3, rfl, CF⟩ := hC.cf la
  obtain ⟨aa, cc, e3, -⟩ := CF.hs
  by_cases hk : chk C = 0
  · by_cases h : 0 ≤ ch ∧ ch < C.2.2.length
    · obtain ⟨i, rfl⟩ := Int.eq_ofNat_of_zero_le h.1
      exact ends_in CF la hk i (by omega) part
    · subst e3
      exact ends_out CF la ch part (Or.inr ⟨hk, by omega⟩)
  · subst e3
    exact ends_out CF la ch part (Or.inl hk)
end Go.Proofs.Ytnapodeiigkebaa
