/- The walk of the law SpaceReach. Condition: the listed tables lie as laid. -/
import Derived.Test.YtfpcoomkbmfchaaGreatDoorS57
import Derived.Test.YtfpcoomkbmfchaaGreatDoorS42
namespace Go.Proofs.YtfpcoomkbmfchaaGreatDoor
open Go.RowKit Go.Maps
set_option maxRecDepth 100000

theorem reach16_far (q x y va n : Int) (d b : Bool) (W : World) (h : q < 4 ∨ 60 < q) (hL : LaidN W) : Calls Tryz.prog 11 #[.int .i64 q, .agg #[.int .i64 x, .int .i64 y, .bool d], .int .u32 va, .int .i64 n, .bool b] W fun e w' => e = .returned (.bool true) ∧ Below W.heap.size W w' := by
  have AW := Lib.hid (hL.awake (W.alloc (.cells #[.int .i64 x, .int .i64 y, .bool d] 23)) ((Below.refl _ _).alloc (Nat.le_refl _) _))
  have A1 : Hid (Below W.heap.size W (W.alloc (.cells #[.int .i64 x, .int .i64 y, .bool d] 23))) := Lib.hid ((Below.refl _ _).alloc (Nat.le_refl _) _)
  clear hL
  have h3 : decide (q < 4) = true ∨ (decide (q < 4) = false ∧ decide (60 < q) = true) := by
    by_cases h1 : q < 4
    · exact Or.inl (decide_eq_true h1)
    · exact Or.inr ⟨decide_eq_false h1, decide_eq_true (by omega)⟩
  clear h
  rcases h3 with d0 | ⟨d0, d1⟩
  all_goals
    go_enter Tryz.func11, Tryz.ntmps11
    go_wp2_with fail
    refine AW.out.mono ?_
    rintro e w1 ⟨rfl, hb⟩
    have B := Lib.hid (A1.out.trans (hb.mono A1.out.size))
    clear hb
    go_wp2_with fail
    go_ret
    exact ⟨rfl, B.out⟩
theorem lenA_nil {G : Int → Option Pc} {s : Pc} (h : G 1 = some s) (hs : s.ar = []) : lenA G 1 = 0 := by
  unfold lenA
  rw [h]
  simp [hs]
/-- What Reach answers: it is refused, or all is touched. -/
theorem Hv.reaches {W0 w : World} {I : SIx} {q : Nat} {G : Int → Option Pc} {rd : Int → Nat → Nat → Int} {u : Int} (h : Hv W0 w I q (oneL q u) G (fun _ _ => false) rd) {s : Pc} (hG : G 1 = some s) (va n : Int) (hva : 0 ≤ va ∧ va ≤ 4294967295) (hn : I64 n) (wr : Bool) :
    (Calls Tryz.prog 20 #[.pointer (some ⟨I.ss, 0, none⟩), .int .i64 1, .int .u32 va, .int .i64 n, .bool wr] w fun e w' => (∃ er, er ≠ 0 ∧ e = .returned (.int .i64 er)) ∧ Hv W0 w' I q (oneL q u) G (fun _ _ => false) rd) ∨ ∃ k : Nat, n = (k : Int) ∧ 1 ≤ k ∧ k ≤ 1024 ∧ reachP s.ar (oneL q u) (fun _ => false) 1 va k wr = 0 := by
  by_cases hk : 1 ≤ n ∧ n ≤ 1024
  · obtain ⟨k, rfl⟩ : ∃ k : Nat, n = (k : Int) := ⟨n.toNat, by omega⟩
    by_cases h0 : reachP s.ar (oneL q u) (fun _ => false) 1 va k wr = 0
    · exact Or.inr ⟨k, rfl, by omega, by omega, h0⟩
    · refine Or.inl ((h.reach hG va (by omega) k (by omega) (by omega) wr rfl).mono ?_)
      rintro e w' ⟨rfl, _, hne, _⟩
      exact ⟨⟨_, h0, rfl⟩, hne h0⟩
  · exact Or.inl (h.reachBad 1 va n hn wr fun hx => hk hx.2.1)
set_option maxHeartbeats 16000000 in
theorem reach16_in (q : Nat) (x y va n : Int) (d wf : Bool) (W : World) (hq : 4 ≤ q ∧ q ≤ 60) (hx : I64 x) (hy : I64 y) (hva : 0 ≤ va ∧ va ≤ 4294967295) (hn : I64 n) (hL : LaidN W) : Calls Tryz.prog 11 #[.int .i64 (q : Int), .agg #[.int .i64 x, .int .i64 y, .bool d], .int .u32 va, .int .i64 n, .bool wf] W fun e w' => e = .returned (.bool true) ∧ Below W.heap.size W w' := by
  have AW := Lib.hid hL.awake
  obtain ⟨w0, hw0⟩ : ∃ w0, w0 = W.alloc (.cells #[.int .i64 x, .int .i64 y, .bool d] 23) := ⟨_, rfl⟩
  have A0 : Hid (Below W.heap.size W w0) := Lib.hid (by rw [hw0]; exact (Below.refl _ _).alloc (Nat.le_refl _) _)
  have AB : Hid (w0.heap[W.heap.size]? = some (.cells #[.int .i64 x, .int .i64 y, .bool d] 23 (0, 0))) := Lib.hid (by rw [hw0]; exact heap_alloc_new W _)
  have MD := Lib.hid (madeS_ok q w0 (by omega) (by omega) (hL.lq.below A0.out) (hL.lw.below A0.out))
  have AC : Hid (∀ V, Below w0.heap.size w0 V → V.cell? ⟨W.heap.size, 0, none⟩ = some (.int .i64 x) ∧ V.cell? ⟨W.heap.size, 1, none⟩ = some (.int .i64 y) ∧ V.cell? ⟨W.heap.size, 2, none⟩ = some (.bool d)) := Lib.hid fun V hb => by
    have := below_block hb AB.out
    exact ⟨by rw [cell_of_row _ _ _ _ _ _ this]; rfl, by rw [cell_of_row _ _ _ _ _ _ this]; rfl, by rw [cell_of_row _ _ _ _ _ _ this]; rfl⟩
  have d0 : decide ((q : Int) < 4) = false := decide_eq_false (by omega)
  have d1 : decide (60 < (q : Int)) = false := decide_eq_false (by omega)
  clear hL
  go_enter Tryz.func11, Tryz.ntmps11
  go_wp2_with fail
  rw [← hw0]
  clear hw0
  refine MD.out.mono ?_
  rintro e w1 ⟨I, rfl, hf⟩
  have H1 := Lib.hid hf.hv
  clear hf d0 d1
  go_wp2_with fail
  refine (H1.out.open_ (i := 1) (by unfold openSE; rw [if_pos (by decide), if_neg (by simp [atN]), if_neg (by simp), left_one, if_neg (by omega)])).mono ?_
  rintro e w2 ⟨rfl, hk, s, hs, h⟩
  have H2 : Hid (Hv w0 w2 I q (oneL q 1) (putG G0 1 s) (fun _ _ => false) (fun _ _ _ => 0)) := Lib.hid (by
    rw [(charge_oneL (q := q) (u := 0) (k := 1) (by omega) (by omega)).2] at h
    exact h)
  have S2 := Lib.hid hs
  clear hk hs h
  obtain ⟨a0, a1, a2⟩ := AC.out w2 H2.out.below
  go_wp2_with fail
  refine (H2.out.grow (putG_same _ _ _) x y d hx hy).mono ?_
  rintro e w3 ⟨er, M, ha, rfl, hk, hz⟩
  rw [S2.out] at ha
  clear a0 a1 a2
  rcases hz with ⟨hne, h⟩ | ⟨rfl, s3, hs, h⟩
  · have H3 := Lib.hid h
    have nz : (er != 0) = true := by simpa using hne
    have e0 := lenA_nil (putG_same G0 1 s) S2.out
    have AR := Lib.hid (h.areas 1)
    rw [e0] at AR
    clear ha hk h hne e0
    go_wp2_with fail
    refine AR.out.mono ?_
    rintro e w4 ⟨p4, c4, rfl, hb⟩
    have B4 := Lib.hid (A0.out.trans ((H3.out.below.trans (hb.mono H3.out.below.size)).mono A0.out.size))
    clear hb
    go_wp2_with fail
    refine (AW.out _ B4.out).mono ?_
    rintro e w5 ⟨rfl, hb⟩
    have B5 := Lib.hid (B4.out.trans (hb.mono B4.out.size))
    clear hb
    go_wp2_with fail
    go_ret
    exact ⟨rfl, B5.out⟩
  · rw [putG_putG] at h
    obtain ⟨hf, rfl⟩ := addD_zero_new ha
    have H3 := Lib.hid h
    have S3 := Lib.hid hs
    have FT := Lib.hid hf
    clear ha hk h hs hf
    rcases H3.out.reaches (putG_same _ _ _) va n hva hn wf with hr | ⟨k, rfl, hk1, hk2, h0⟩
    · have RC := Lib.hid hr
      clear hr
      go_wp2_with fail
      refine RC.out.mono ?_
      rintro e w4 ⟨⟨er, hne, rfl⟩, h⟩
      have H4 := Lib.hid h
      have nz : (er != 0) = true := by simpa using hne
      have b0 : IntKind.i64.wrap ((q : Int) - 1) = (q : Int) - 1 := IntWalk.i64_in _ (by omega)
      have bq : ((q : Int) - 1 == (q : Int) - 1) = true := by simp
      clear h hne
      go_wp2_with fail
      refine (H4.out.mapped 1).mono ?_
      rintro e w5 ⟨v5, rfl, ho, hb⟩
      have el : (pgL fun _ => false) = [] := by unfold pgL; rw [List.filter_eq_nil_iff]; intro p _; decide
      obtain ⟨a5, c5, rfl⟩ := ownsForm ho
      have H5 := Lib.hid (H4.out.step hb)
      rw [show (pgL fun p => (fun _ _ => false : Int → Nat → Bool) 1 p).length = 0 by rw [show (pgL fun p => (fun _ _ => false : Int → Nat → Bool) 1 p) = [] from el]; rfl]
      clear ho hb el
      go_wp2_with fail
      refine (H5.out.left 1 (d := (q : Int) - 1) (by rw [left_one])).mono ?_
      rintro e w6 ⟨rfl, hb⟩
      have B6 := Lib.hid (A0.out.trans ((H5.out.below.trans (hb.mono H5.out.below.size)).mono A0.out.size))
      clear hb
      go_wp2_with fail
      refine (AW.out _ B6.out).mono ?_
      rintro e w7 ⟨rfl, hb⟩
      have B7 := Lib.hid (B6.out.trans (hb.mono B6.out.size))
      clear hb
      go_wp2_with fail
      go_ret
      exact ⟨rfl, B7.out⟩
    · have R0 := Lib.hid h0
      clear h0
      go_wp2_with fail
      refine (H3.out.reach (putG_same _ _ _) va (by omega) k hk1 hk2 wf R0.out).mono ?_
      rintro e w4 ⟨rfl, -, -, hz⟩
      obtain ⟨m, c, u, hp, hm, hc, hmc, hc1, hx1, hx2, hwd, hpg, h, hu, hn0, hr0⟩ := (hz rfl).2.ran hva.1 hk1 S3.out FT.out (putG_same _ _ _) R0.out
      obtain ⟨pr4, hpr4⟩ : ∃ p, p = orP (fun _ _ => false) 1 (pgs va k) := ⟨_, rfl⟩
      have hpg' : (pgL fun p => pr4 1 p) = span m c := by rw [hpr4]; exact hpg
      rw [← hpr4] at h hu hn0 hr0
      have H4 := Lib.hid h
      have HP := Lib.hid hpg'
      have HU := Lib.hid hu
      have HR := Lib.hid hr0
      have HN0 := Lib.hid hn0
      have FT' := FT.out
      unfold FitD at FT'
      have UI : Hid (∀ V, Hv w0 V I q (oneL q u) (putG G0 1 s3) pr4 (fun _ _ _ => 0) → Calls Tryz.prog 34 #[.pointer (some ⟨I.bb, 0, none⟩), .int .i64 1] V fun e w' => e = .returned (.int .i64 u) ∧ Below V.heap.size V w') := Lib.hid fun V hV => hV.use 1
      have CO : Hid (∀ V v, PgsAt V v (span m c) → Calls Tryz.prog 35 #[v] V fun e w' => e = .returned (.int .i64 u) ∧ Below V.heap.size V w') := Lib.hid fun V v hv => by
        have := costs_ok (pr4 1) (w := V) (v := v) (by rw [show pgL (pr4 1) = span m c from HP.out]; exact hv)
        rwa [← HU.out] at this
      have t1 : va.tdiv 32 = (m : Int) := by rw [Int.tdiv_eq_ediv_of_nonneg hva.1, hm]
      have t2 : (va + (k : Int) - 1).tdiv 32 = (m : Int) + (c : Int) - 1 := by rw [Int.tdiv_eq_ediv_of_nonneg (by omega)]; omega
      have uu : (u != u) = false := by simp
      have lc : ((c : Int) != (m : Int) + (c : Int) - 1 - (m : Int) + 1) = false := by
        rw [show (m : Int) + (c : Int) - 1 - (m : Int) + 1 = (c : Int) by omega]; simp
      clear hz h hpg hpg' hu hn0 hr0 hp hpr4 hm hc
      go_wp2_with fail
      refine (H4.out.mapped 1).mono ?_
      rw [HP.out]
      rintro e w5 ⟨v5, rfl, ho, hb⟩
      have V5 := Lib.hid (PgsAt.of_row ho)
      have H5 := Lib.hid (H4.out.step hb)
      obtain ⟨a5, c5, rfl⟩ := ownsForm ho
      rw [span_length] at V5 ⊢
      clear ho hb
      go_wp2_with fail
      refine (UI.out w5 H5.out).mono ?_
      rintro e w6 ⟨rfl, hb⟩
      have B6 := Lib.hid hb
      have BN := Lib.hid (And.intro hmc (And.intro hx1 (And.intro hx2 FT')))
      have BM := Lib.hid (And.intro hva (And.intro hk1 (And.intro hk2 (And.intro hc1 (And.intro hq hwd)))))
      obtain ⟨z, hz⟩ : ∃ z, z = (m : Int) + (c : Int) - 1 := ⟨_, rfl⟩
      rw [← hz]
      have HZ := Lib.hid hz
      clear hb t1 t2 hmc hx1 hx2 FT' hx hy hn uu lc hz hva hk1 hk2 hc1 hq hwd
      go_wp2_with fail
      refine (CO.out w6 _ (V5.out.keep (KeepB.below B6.out))).mono ?_
      rintro e w7 ⟨rfl, hb⟩
      have B7 := Lib.hid (B6.out.trans (hb.mono B6.out.size))
      have H7 := Lib.hid (H5.out.step B7.out)
      have V7 := Lib.hid (V5.out.keep (KeepB.below B7.out))
      obtain ⟨k0, k1, k2⟩ := AC.out w7 H7.out.below
      obtain ⟨hmc, hx1, hx2, FT'⟩ := BN.out
      obtain ⟨hva, hk1, hk2, hc1, hq, hwd⟩ := BM.out
      have f1 : decide ((m : Int) < x) = false := decide_eq_false (by omega)
      obtain ⟨xy, hxy⟩ : ∃ xy, xy = x + y := ⟨_, rfl⟩
      have f2 : decide (xy ≤ z) = false := decide_eq_false (by have := HZ.out; omega)
      have f3 : IntKind.i64.wrap (x + y) = xy := by rw [hxy]; exact IntWalk.i64_in _ (by omega)
      have wk : wf = false ∨ wf = true ∧ d = true := by
        cases wf with
        | false => exact Or.inl rfl
        | true => exact Or.inr ⟨rfl, hwd rfl⟩
      clear hb hwd hmc hx1 hx2 FT' hxy hva hk1 hk2 hc1 hq
      rcases wk with rfl | ⟨rfl, rfl⟩
      all_goals
        go_wp2_with fail
        go_loopw [19] (fun iv wq => ∃ j : Nat, iv = .int .i64 (j : Int) ∧ j ≤ c ∧ Below w7.heap.size w7 wq) (fun iv _ => (c - (intOf iv).toNat))
        case atStart => exact ⟨0, rfl, Nat.zero_le _, Below.refl _ _⟩
        case round =>
          obtain ⟨j, rfl, hj, hB⟩ := hrel
          have B8 := Lib.hid hB
          clear hB k0 k1 k2 f1 f2 f3
          obtain ⟨hmc, hx1, hx2, FT'⟩ := BN.out
          obtain ⟨hva, hk1, hk2, hc1, hq, hwd⟩ := BM.out
          clear hx1 hx2 FT'
          by_cases hlt : j < c
          · obtain ⟨a8, p8, e8, h8⟩ := V7.out
            rw [span_length] at e8
            injection e8 with e81 e82 e83
            subst e81
            obtain ⟨g, cs, rfl, hg, hcs⟩ := h8.resolve_left (by intro e; have := congrArg List.length e; rw [span_length] at this; simp at this; omega)
            have cj : wr.cell? ⟨g, j, none⟩ = some (.int .i64 ((m + j : Nat) : Int)) := by
              rw [B8.out.cell (p := ⟨g, j, none⟩) (lt_of_block hg), cell_of_row _ _ _ _ _ _ hg, hcs j (by rw [span_length]; exact hlt), span_getD m c j hlt]
            have b0 : IntKind.i64.wrap ((m : Int) + (j : Int)) = ((m + j : Nat) : Int) := by rw [show (m : Int) + (j : Int) = ((m + j : Nat) : Int) by omega]; exact IntWalk.i64_in _ (by omega)
            have bb : (((m + j : Nat) : Int) != ((m + j : Nat) : Int)) = false := by simp
            clear h8 hg hcs
            go_wp2_with fail
            go_roundw
            case rel => exact ⟨j + 1, by go_num, by omega, B8.out⟩
            case measure => simp [intOf]; omega
          · obtain rfl : j = c := by omega
            have H9 := Lib.hid (H7.out.step B8.out)
            have V9 := Lib.hid (V7.out.keep (KeepB.below B8.out))
            clear hlt
            go_wp2_with fail
            refine (H9.out.reach (putG_same _ _ _) va (by omega) k hk1 hk2 _ HR.out).mono ?_
            rintro e w10 ⟨rfl, hk, _, hz⟩
            have h := (hz rfl).2
            have H10 : Hid (Hv w0 w10 I q (oneL q u) (putG G0 1 s3) (orP pr4 1 (pgs va k)) (fun _ _ _ => 0)) := Lib.hid (by
              rwa [HN0.out, show ((0 : Nat) : Int) = 0 from rfl, chargeL_zero] at h)
            have V10 := Lib.hid (V9.out.keep hk)
            have US := Lib.hid (H10.out.use 1)
            rw [show useI (oneL q u) 1 = u from rfl] at US
            have ue : (u == u) = true := by simp
            clear hk hz h
            go_wp2_with fail
            refine US.out.mono ?_
            rintro e w11 ⟨rfl, hb⟩
            have B11 := Lib.hid hb
            clear hb
            go_wp2_with fail
            refine (CO.out w11 _ (V10.out.keep (KeepB.below B11.out))).mono ?_
            rintro e w12 ⟨rfl, hb⟩
            have B12 := Lib.hid (B11.out.trans (hb.mono B11.out.size))
            have B13 := Lib.hid (A0.out.trans ((H10.out.step B12.out).below.mono A0.out.size))
            clear hb
            go_wp2_with fail
            refine (AW.out _ B13.out).mono ?_
            rintro e w14 ⟨rfl, hb⟩
            have B14 := Lib.hid (B13.out.trans (hb.mono B13.out.size))
            clear hb
            go_wp2_with fail
            go_ret
            exact ⟨rfl, B14.out⟩
theorem spaceReach_walk (q x y : Int) (d : Bool) (va n : Int) (wf : Bool) (W : World) (hq : -9223372036854775808 ≤ q ∧ q ≤ 9223372036854775807) (hxy : I64 x ∧ I64 y) (hva : 0 ≤ va ∧ va ≤ 4294967295) (hn : -9223372036854775808 ≤ n ∧ n ≤ 9223372036854775807) (hL : LaidN W) : Calls Tryz.prog 11 #[.int .i64 q, .agg #[.int .i64 x, .int .i64 y, .bool d], .int .u32 va, .int .i64 n, .bool wf] W fun e w' => e = .returned (.bool true) ∧ Below W.heap.size W w' := by
  by_cases h : q < 4 ∨ 60 < q
  · exact reach16_far q x y va n d wf W h hL
  · obtain ⟨k, rfl⟩ : ∃ k : Nat, q = (k : Int) := ⟨q.toNat, by omega⟩
    exact reach16_in k x y va n d wf W (by omega) hxy.1 hxy.2 hva hn hL
end Go.Proofs.YtfpcoomkbmfchaaGreatDoor
