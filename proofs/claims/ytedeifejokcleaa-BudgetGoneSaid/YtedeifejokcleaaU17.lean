/- The walk of BudgetGone. No condition. -/
import Derived.Test.YtedeifejokcleaaU15
namespace Go.Proofs.Ytedeifejokcleaa
open Go.RowKit Go.Maps
set_option maxRecDepth 100000

theorem gone_lists {q a c d : Int} (h1 : openE [(1, 0, q, 0)] 2 1 a = 0) (h2 : openE [(1, 0, q, 0), (2, 1, a, 0)] 3 2 c = 0) (h3 : openE [(1, 0, q, 0), (2, 1, a, 0), (3, 2, c, 0)] 4 2 d = 0) :
    openL [(1, 0, q, 0)] 2 1 a = [(1, 0, q, 0), (2, 1, a, 0)] ∧ openL [(1, 0, q, 0), (2, 1, a, 0)] 3 2 c = [(1, 0, q, 0), (2, 1, a, 0), (3, 2, c, 0)] ∧ openL [(1, 0, q, 0), (2, 1, a, 0), (3, 2, c, 0)] 4 2 d = [(1, 0, q, 0), (2, 1, a, 0), (3, 2, c, 0), (4, 2, d, 0)] := by
  unfold openL
  rw [if_pos h1, if_pos h2, if_pos h3]
  simp [insN]
theorem gone_close (q a c d : Int) : closeE [(1, 0, q, 0), (2, 1, a, 0), (3, 2, c, 0), (4, 2, d, 0)] 2 = 0 ∧ closeL [(1, 0, q, 0), (2, 1, a, 0), (3, 2, c, 0), (4, 2, d, 0)] 2 = [(1, 0, q, 0), (3, 1, c, 0), (4, 1, d, 0)] := by
  have h : closeE [(1, 0, q, 0), (2, 1, a, 0), (3, 2, c, 0), (4, 2, d, 0)] 2 = 0 := by simp [closeE, fitB, atN]
  refine ⟨h, ?_⟩
  unfold closeL
  rw [if_pos h]
  simp [delN, upN, atN, reUp]
set_option maxHeartbeats 4000000 in
theorem budgetGone_walk (q a c d : Int) (W : World) (_ : I64 q) (_ : I64 a) (_ : I64 c) (_ : I64 d) : Calls Try.prog 8 #[.int .i64 q, .int .i64 a, .int .i64 c, .int .i64 d] W fun e w' => e = .returned (.bool true) ∧ Below W.heap.size W w' := by
  cases hn : numB q with
  | false =>
    have NB := Lib.hid (new11_bad q W hn)
    clear hn
    go_enter Try.func8, Try.ntmps8
    go_wp2_with fail
    refine NB.out.mono ?_
    rintro e w1 ⟨rfl, rfl⟩
    go_wp2_with fail
    refine (awake11 _).mono ?_
    rintro e w1 ⟨rfl, hb⟩
    have B1 := Lib.hid hb
    clear hb
    go_wp2
    go_ret
    exact ⟨rfl, B1.out⟩
  | true =>
    have NO := Lib.hid (ob_new (W := W) q (Below.refl _ _) hn)
    clear hn
    obtain ⟨e1, h1⟩ : ∃ e1, openE [(1, 0, q, 0)] 2 1 a = e1 := ⟨_, rfl⟩
    have HE1 := Lib.hid h1
    by_cases c1 : e1 = 0
    · subst c1
      obtain ⟨e2, h2⟩ : ∃ e2, openE [(1, 0, q, 0), (2, 1, a, 0)] 3 2 c = e2 := ⟨_, rfl⟩
      have HE2 := Lib.hid h2
      have hl1 : openL [(1, 0, q, 0)] 2 1 a = [(1, 0, q, 0), (2, 1, a, 0)] := by unfold openL; rw [if_pos h1]; simp [insN]
      have HL1 := Lib.hid hl1
      by_cases c2 : e2 = 0
      · subst c2
        obtain ⟨e3, h3⟩ : ∃ e3, openE [(1, 0, q, 0), (2, 1, a, 0), (3, 2, c, 0)] 4 2 d = e3 := ⟨_, rfl⟩
        have HE3 := Lib.hid h3
        have hl2 : openL [(1, 0, q, 0), (2, 1, a, 0)] 3 2 c = [(1, 0, q, 0), (2, 1, a, 0), (3, 2, c, 0)] := by unfold openL; rw [if_pos h2]; simp [insN]
        have HL2 := Lib.hid hl2
        by_cases c3 : e3 = 0
        · subst c3
          have HL3 := Lib.hid (gone_lists h1 h2 h3).2.2
          obtain ⟨hc1, hc2⟩ := gone_close q a c d
          have HC1 := Lib.hid hc1
          have HC2 := Lib.hid hc2
          have ba := (fitB_iff.1 (openE_zero.1 h1).1.1).2
          have bc := (fitB_iff.1 (openE_zero.1 h2).1.1).2
          have bd := (fitB_iff.1 (openE_zero.1 h3).1.1).2
          have la : a ≤ q := by have := (openE_zero.1 h1).2.2.2; simpa [leftL, leftO, leftN, atN, sumUp] using this
          have HF1 : Hid (leftL [(1, 0, q, 0), (2, 1, a, 0), (3, 2, c, 0), (4, 2, d, 0)] 1 = q - a) := Lib.hid (by simp [leftL, leftO, leftN, atN, sumUp])
          have HF2 : Hid (leftL [(1, 0, q, 0), (3, 1, c, 0), (4, 1, d, 0)] 1 = q - c - d) := Lib.hid (by simp [leftL, leftO, leftN, atN, sumUp]; omega)
          have HF3 : Hid (leftL [(1, 0, q, 0), (3, 1, c, 0), (4, 1, d, 0)] 3 = c) := Lib.hid (by simp [leftL, leftO, leftN, atN, sumUp])
          have HF4 : Hid (leftL [(1, 0, q, 0), (3, 1, c, 0), (4, 1, d, 0)] 4 = d) := Lib.hid (by simp [leftL, leftO, leftN, atN, sumUp])
          have bq : q ≤ 65536 ∨ 65536 < q := by omega
          clear h1 h2 h3 hc1 hc2 hl1 hl2
          go_enter Try.func8, Try.ntmps8
          go_wp2_with fail
          refine NO.out.mono ?_
          rintro e w1 ⟨b, rfl, h, -⟩
          have H1 := Lib.hid h
          have hq := (h.good.ok _ (List.mem_singleton.2 rfl)).2.2.1
          simp only at hq
          have x1 : IntKind.i64.wrap (q - a + a) = q := (IntWalk.i64_in _ (by omega)).trans (by omega)
          have x2 : IntKind.i64.wrap (q - c) = q - c := IntWalk.i64_in _ (by omega)
          have x3 : IntKind.i64.wrap (q - c - d) = q - c - d := IntWalk.i64_in _ (by omega)
          clear h bq
          go_wp2_with fail
          refine (ob_open H1.out 2 1 a HE1.out).mono ?_
          rw [HL1.out]
          rintro e w2 ⟨rfl, h, -⟩
          have H2 := Lib.hid h
          clear h
          go_wp2_with fail
          refine (ob_open H2.out 3 2 c HE2.out).mono ?_
          rw [HL2.out]
          rintro e w3 ⟨rfl, h, -⟩
          have H3 := Lib.hid h
          clear h
          go_wp2_with fail
          refine (ob_open H3.out 4 2 d HE3.out).mono ?_
          rw [HL3.out]
          rintro e w4 ⟨rfl, h, -⟩
          have H4 := Lib.hid h
          clear h
          go_wp2_with fail
          refine (ob_left H4.out 1 HF1.out).mono ?_
          rintro e w5 ⟨rfl, hb⟩
          have H5 := Lib.hid (H4.out.step hb)
          clear hb
          go_wp2_with fail
          refine (ob_close H5.out 2 HC1.out).mono ?_
          rw [HC2.out]
          rintro e w6 ⟨rfl, h, -⟩
          have H6 := Lib.hid h
          clear h
          go_wp2_with fail
          refine (ob_all H6.out).mono ?_
          rintro e w7 ⟨v, rfl, ho, hb⟩
          have H7 := Lib.hid (H6.out.step hb)
          obtain ⟨-, hz⟩ | ⟨g, cp, rfl, hnc, hcm, hgl, hcs⟩ := row_all ho
          · cases hz
          have CS := Lib.hid hcs
          clear ho hb hcs
          simp only [List.length_cons, List.length_nil, Nat.reduceAdd] at hnc ⊢
          go_wp2_with fail
          refine (ob_left H7.out 1 HF2.out).mono ?_
          rintro e w8 ⟨rfl, hb⟩
          have H8 := Lib.hid (H7.out.step hb)
          have y4 := CS.out w8 hb 4 _ rfl
          have y5 := CS.out w8 hb 5 _ rfl
          have y6 := CS.out w8 hb 6 _ rfl
          have y7 := CS.out w8 hb 7 _ rfl
          have y8 := CS.out w8 hb 8 _ rfl
          have y9 := CS.out w8 hb 9 _ rfl
          have y10 := CS.out w8 hb 10 _ rfl
          have y11 := CS.out w8 hb 11 _ rfl
          rw [Addr.add_mid, Nat.zero_add] at y4 y5 y6 y7 y8 y9 y10 y11
          clear hb
          go_wp2_with fail
          refine (ob_left H8.out 3 HF3.out).mono ?_
          rintro e w9 ⟨rfl, hb⟩
          have H9 := Lib.hid (H8.out.step hb)
          clear hb y4 y5 y6 y7 y8 y9 y10 y11
          go_wp2_with fail
          refine (ob_left H9.out 4 HF4.out).mono ?_
          rintro e w10 ⟨rfl, hb⟩
          have H10 := Lib.hid (H9.out.step hb)
          clear hb
          go_wp2_with fail
          refine (awake11 _).mono ?_
          rintro e w11 ⟨rfl, hb⟩
          have B11 := Lib.hid (H10.out.below.trans (hb.mono H10.out.below.size))
          clear hb
          go_wp2
          go_ret
          exact ⟨rfl, B11.out⟩
        · have d3 : (e3 != 0) = true := by simpa using c3
          clear h1 h2 h3 hl1 hl2 c3
          go_enter Try.func8, Try.ntmps8
          go_wp2_with fail
          refine NO.out.mono ?_
          rintro e w1 ⟨b, rfl, h, -⟩
          have H1 := Lib.hid h
          clear h
          go_wp2_with fail
          refine (ob_open H1.out 2 1 a HE1.out).mono ?_
          rw [HL1.out]
          rintro e w2 ⟨rfl, h, -⟩
          have H2 := Lib.hid h
          clear h
          go_wp2_with fail
          refine (ob_open H2.out 3 2 c HE2.out).mono ?_
          rw [HL2.out]
          rintro e w3 ⟨rfl, h, -⟩
          have H3 := Lib.hid h
          clear h
          go_wp2_with fail
          refine (ob_open H3.out 4 2 d HE3.out).mono ?_
          rintro e w4 ⟨rfl, h, -⟩
          have H4 := Lib.hid h.below
          clear h
          go_wp2_with fail
          refine (awake11 _).mono ?_
          rintro e w11 ⟨rfl, hb⟩
          have B11 := Lib.hid (H4.out.trans (hb.mono H4.out.size))
          clear hb
          go_wp2
          go_ret
          exact ⟨rfl, B11.out⟩
      · have d2 : (e2 != 0) = true := by simpa using c2
        clear h1 h2 hl1 c2
        go_enter Try.func8, Try.ntmps8
        go_wp2_with fail
        refine NO.out.mono ?_
        rintro e w1 ⟨b, rfl, h, -⟩
        have H1 := Lib.hid h
        clear h
        go_wp2_with fail
        refine (ob_open H1.out 2 1 a HE1.out).mono ?_
        rw [HL1.out]
        rintro e w2 ⟨rfl, h, -⟩
        have H2 := Lib.hid h
        clear h
        go_wp2_with fail
        refine (ob_open H2.out 3 2 c HE2.out).mono ?_
        rintro e w3 ⟨rfl, h, -⟩
        have H3 := Lib.hid h.below
        clear h
        go_wp2_with fail
        refine (awake11 _).mono ?_
        rintro e w11 ⟨rfl, hb⟩
        have B11 := Lib.hid (H3.out.trans (hb.mono H3.out.size))
        clear hb
        go_wp2
        go_ret
        exact ⟨rfl, B11.out⟩
    · have d1 : (e1 != 0) = true := by simpa using c1
      clear h1 c1
      go_enter Try.func8, Try.ntmps8
      go_wp2_with fail
      refine NO.out.mono ?_
      rintro e w1 ⟨b, rfl, h, -⟩
      have H1 := Lib.hid h
      clear h
      go_wp2_with fail
      refine (ob_open H1.out 2 1 a HE1.out).mono ?_
      rintro e w2 ⟨rfl, h, -⟩
      have H2 := Lib.hid h.below
      clear h
      go_wp2_with fail
      refine (awake11 _).mono ?_
      rintro e w11 ⟨rfl, hb⟩
      have B11 := Lib.hid (H2.out.trans (hb.mono H2.out.size))
      clear hb
      go_wp2
      go_ret
      exact ⟨rfl, B11.out⟩
end Go.Proofs.Ytedeifejokcleaa
