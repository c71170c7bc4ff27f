/- The walk of the law SpaceCost, where its condition is met. Condition: the listed tables lie as laid. -/
import Derived.Test.YtfpcoomkbmfchaaGreatDoorHX
import Derived.Test.YtfpcoomkbmfchaaGreatDoorS42
import Derived.Test.YtfpcoomkbmfchaaGreatDoorHY
namespace Go.Proofs.YtfpcoomkbmfchaaGreatDoor
open Go.RowKit Go.Maps
set_option maxRecDepth 100000

set_option maxHeartbeats 16000000 in
theorem cost_in (q : Nat) (L : List Int) (v : Value) (W : World) (hq : 4 ≤ q ∧ q ≤ 60) (hl : L.length ≤ 40) (hv : ArgWs W v L) (hL : LaidN W) : Calls Tryz.prog 7 #[.int .i64 (q : Int), v] W fun e w' => e = .returned (.bool true) ∧ Below W.heap.size W w' := by
  have MD := Lib.hid (madeS_ok q W (by omega) (by omega) hL.lq hL.lw)
  have AW := Lib.hid hL.awake
  obtain ⟨a, c, rfl, hlw, hc⟩ := hv
  obtain ⟨n, hn⟩ : ∃ n, n = L.length := ⟨_, rfl⟩
  have HN := Lib.hid hn
  have HC := Lib.hid hc
  have HW := Lib.hid hlw
  rw [← hn] at hl ⊢
  have d0 : decide (40 < (n : Int)) = false := decide_eq_false (by omega)
  have d1 : decide ((q : Int) < 4) = false := decide_eq_false (by omega)
  have d2 : decide (60 < (q : Int)) = false := decide_eq_false (by omega)
  clear hL hn hc hlw
  go_enter Tryz.func7, Tryz.ntmps7
  go_wp2_with fail
  refine MD.out.mono ?_
  rintro e w1 ⟨I, rfl, hf⟩
  have H1 := Lib.hid hf.hv
  clear hf
  go_wp2_with fail
  refine (H1.out.open_ (i := 1) (by unfold openSE; rw [if_pos (by decide), if_neg (by simp [atN]), if_neg (by simp), left_one, if_neg (by omega)])).mono ?_
  rintro e w2 ⟨rfl, hk, s, hs, h⟩
  have H2 : Hid (Hv W w2 I q (oneL q 1) (putG G0 1 s) (fun _ _ => false) (fun _ _ _ => 0)) := Lib.hid (by
    rw [(charge_oneL (q := q) (u := 0) (k := 1) (by omega) (by omega)).2] at h
    exact h)
  have S2 := Lib.hid hs
  clear hk hs h
  go_wp2_with fail
  refine (H2.out.grow1 (putG_same _ _ _) S2.out (x := 0) (y := 1024) (by unfold FitD; omega) true).mono ?_
  rintro e w3 ⟨rfl, hk, s3, hs, h⟩
  rw [putG_putG] at h
  have H3 := Lib.hid h
  have S3 := Lib.hid hs
  clear hk hs h
  go_wp2_with fail
  go_loopw [9] (fun i wr => ∃ k : Nat, i = .int .i64 (k : Int) ∧ k ≤ n ∧ ∃ u pr rd, Hv W wr I q (oneL q u) (putG G0 1 s3) pr rd) (fun i _ => (n - (intOf i).toNat))
  case atStart => exact ⟨0, rfl, Nat.zero_le _, _, _, _, H3.out⟩
  case round =>
    obtain ⟨k, rfl, hk, u, pr, rd, h⟩ := hrel
    have H4 := Lib.hid h
    clear h
    by_cases hlt : k < n
    · obtain ⟨b, o, rfl, hb, hcs⟩ := HC.out.resolve_left (by intro e; have := HN.out; rw [e] at this; simp at this; omega)
      have CL : Hid (∀ V, Below W.heap.size W V → V.cell? ⟨b, o + k, none⟩ = some (.int .u32 (L.getD k 0))) := Lib.hid fun V hV => (hV.cell (p := ⟨b, o + k, none⟩) hb).trans (hcs k (by have := HN.out; omega))
      have hx : 0 ≤ L.getD k 0 ∧ L.getD k 0 ≤ 4294967295 := HW.out _ (by
        rw [List.getD_eq_getElem?_getD, List.getElem?_eq_getElem (by have := HN.out; omega)]; exact List.getElem_mem _)
      generalize L.getD k 0 = x at CL hx
      obtain ⟨d, hd⟩ : ∃ d, d = (q : Int) - u := ⟨_, rfl⟩
      have HD := Lib.hid hd
      have dd : (d != d) = false := by simp
      clear hb hcs hd
      go_wp2_with fail
      refine (H4.out.left 1 (d := d) (by rw [left_one, HD.out])).mono ?_
      rintro e w5 ⟨rfl, hb5⟩
      have H5 := Lib.hid (H4.out.step hb5)
      have ck := CL.out w5 H5.out.below
      clear hb5
      have UO := Lib.hid (H5.out.useOne (putG_same _ _ _))
      rcases cost_er (q := q) (u := u) (pr := pr) hx.1 with ⟨h1, her⟩ | ⟨h1, h2, her⟩ | ⟨h1, h2, her⟩
      · go_wp2_with fail
        refine (H5.out.store (putG_same _ _ _) x 9 (by omega) (by decide) (er := 7) (by rw [S3.out]; exact her)).mono ?_
        rintro e w6 ⟨rfl, _, hn6, _⟩
        have H6 := Lib.hid (hn6 (by decide))
        have US := Lib.hid (H6.out.use 1)
        rw [show useI (oneL q u) 1 = u from rfl] at US
        have LQ := Lib.hid (show ∀ V, Below w6.heap.size w6 V → Calls Tryz.prog 33 #[.pointer (some ⟨I.bb, 0, none⟩), .int .i64 1] V fun e w' => e = .returned (.int .i64 d) ∧ Below V.heap.size V w' from fun V hb => (H6.out.step hb).left 1 (by rw [left_one, HD.out]))
        have uu : (u != u) = false := by simp
        clear hn6 her ck
        go_wp2_with fail
        refine US.out.mono ?_
        rintro e w7 ⟨rfl, hb⟩
        have B7 := Lib.hid hb
        clear hb
        go_wp2_with fail
        refine ((H6.out.step B7.out).mapped 1).mono ?_
        rintro e w8 ⟨v8, rfl, ho, hb⟩
        have B8 := Lib.hid (B7.out.trans (hb.mono B7.out.size))
        have CO := Lib.hid (costs_ok (pr 1) (PgsAt.of_row ho))
        rw [← UO.out] at CO
        clear ho hb
        go_wp2_with fail
        refine CO.out.mono ?_
        rintro e w9 ⟨rfl, hb⟩
        have B9 := Lib.hid (B8.out.trans (hb.mono B8.out.size))
        clear hb
        go_wp2_with fail
        refine (LQ.out w9 B9.out).mono ?_
        rintro e w10 ⟨rfl, hb⟩
        have B10 := Lib.hid (B9.out.trans (hb.mono B9.out.size))
        clear hb
        go_wp2_with fail
        refine (LQ.out w10 B10.out).mono ?_
        rintro e w11 ⟨rfl, hb⟩
        have H11 := Lib.hid (H6.out.step (B10.out.trans (hb.mono B10.out.size)))
        clear hb
        go_wp2_with fail
        go_roundw
        case rel => exact ⟨k + 1, by go_num, by omega, u, pr, rd, H11.out⟩
        case measure => simp [intOf]; omega
      · have dl : decide (1 < d) = false := decide_eq_false (by have := HD.out; have := need_two (pr 1) (x / 32).toNat; omega)
        go_wp2_with fail
        refine (H5.out.store (putG_same _ _ _) x 9 (by omega) (by decide) (er := 3) (by rw [S3.out]; exact her)).mono ?_
        rintro e w6 ⟨rfl, _, hn6, _⟩
        have H6 := Lib.hid (hn6 (by decide))
        have US := Lib.hid (H6.out.use 1)
        rw [show useI (oneL q u) 1 = u from rfl] at US
        have LQ := Lib.hid (show ∀ V, Below w6.heap.size w6 V → Calls Tryz.prog 33 #[.pointer (some ⟨I.bb, 0, none⟩), .int .i64 1] V fun e w' => e = .returned (.int .i64 d) ∧ Below V.heap.size V w' from fun V hb => (H6.out.step hb).left 1 (by rw [left_one, HD.out]))
        have uu : (u != u) = false := by simp
        clear hn6 her ck
        go_wp2_with fail
        refine US.out.mono ?_
        rintro e w7 ⟨rfl, hb⟩
        have B7 := Lib.hid hb
        clear hb
        go_wp2_with fail
        refine ((H6.out.step B7.out).mapped 1).mono ?_
        rintro e w8 ⟨v8, rfl, ho, hb⟩
        have B8 := Lib.hid (B7.out.trans (hb.mono B7.out.size))
        have CO := Lib.hid (costs_ok (pr 1) (PgsAt.of_row ho))
        rw [← UO.out] at CO
        clear ho hb
        go_wp2_with fail
        refine CO.out.mono ?_
        rintro e w9 ⟨rfl, hb⟩
        have B9 := Lib.hid (B8.out.trans (hb.mono B8.out.size))
        clear hb
        go_wp2_with fail
        refine (LQ.out w9 B9.out).mono ?_
        rintro e w10 ⟨rfl, hb⟩
        have B10 := Lib.hid (B9.out.trans (hb.mono B9.out.size))
        clear hb
        go_wp2_with fail
        refine (LQ.out w10 B10.out).mono ?_
        rintro e w11 ⟨rfl, hb⟩
        have H11 := Lib.hid (H6.out.step (B10.out.trans (hb.mono B10.out.size)))
        clear hb
        go_wp2_with fail
        go_roundw
        case rel => exact ⟨k + 1, by go_num, by omega, u, pr, rd, H11.out⟩
        case measure => simp [intOf]; omega
      · go_wp2_with fail
        refine (H5.out.store (putG_same _ _ _) x 9 (by omega) (by decide) (er := 0) (by rw [S3.out]; exact her)).mono ?_
        rintro e w6 ⟨rfl, _, _, hz6⟩
        have h := (hz6 rfl).2
        rw [pgs_one] at h
        have hn2 := need_two (pr 1) (x / 32).toNat
        rw [(charge_oneL (q := q) (u := u) (k := (needP (pr 1) [(x / 32).toNat] : Int)) (by omega) (by omega)).2] at h
        obtain ⟨u6, hu6⟩ : ∃ u6, u6 = u + (needP (pr 1) [(x / 32).toNat] : Int) := ⟨_, rfl⟩
        obtain ⟨pr6, hpr6⟩ : ∃ p, p = orP pr 1 [(x / 32).toNat] := ⟨_, rfl⟩
        obtain ⟨rd6, hrd6⟩ : ∃ p, p = stR rd 1 x 9 := ⟨_, rfl⟩
        have P6 : Hid (pr6 1 (x / 32).toNat = true) := Lib.hid (by rw [hpr6]; exact orP_in (by simp))
        rw [← hu6, ← hpr6, ← hrd6] at h
        have H6 := Lib.hid h
        have US := Lib.hid (H6.out.use 1)
        rw [show useI (oneL q u6) 1 = u6 from rfl] at US
        have UO6 := Lib.hid (H6.out.useOne (putG_same _ _ _))
        obtain ⟨d6, hd6⟩ : ∃ d6, d6 = (q : Int) - u6 := ⟨_, rfl⟩
        have LQ := Lib.hid (show ∀ V, Below w6.heap.size w6 V → Calls Tryz.prog 33 #[.pointer (some ⟨I.bb, 0, none⟩), .int .i64 1] V fun e w' => e = .returned (.int .i64 d6) ∧ Below V.heap.size V w' from fun V hb => (H6.out.step hb).left 1 (by rw [left_one, hd6]))
        have LQ2 := Lib.hid (show ∀ V rd', Hv W V I q (oneL q u6) (putG G0 1 s3) pr6 rd' → Calls Tryz.prog 33 #[.pointer (some ⟨I.bb, 0, none⟩), .int .i64 1] V fun e w' => e = .returned (.int .i64 d6) ∧ Below V.heap.size V w' from fun V rd' hV => hV.left 1 (by rw [left_one, hd6]))
        have uu : (u6 != u6) = false := by simp
        have dd6 : (d6 != d6) = false := by simp
        clear hz6 h her ck hu6 hpr6 hrd6 hd6 hn2
        go_wp2_with fail
        refine US.out.mono ?_
        rintro e w7 ⟨rfl, hb⟩
        have B7 := Lib.hid hb
        clear hb
        go_wp2_with fail
        refine ((H6.out.step B7.out).mapped 1).mono ?_
        rintro e w8 ⟨v8, rfl, ho, hb⟩
        have B8 := Lib.hid (B7.out.trans (hb.mono B7.out.size))
        have CO := Lib.hid (costs_ok (pr6 1) (PgsAt.of_row ho))
        rw [← UO6.out] at CO
        clear ho hb
        go_wp2_with fail
        refine CO.out.mono ?_
        rintro e w9 ⟨rfl, hb⟩
        have B9 := Lib.hid (B8.out.trans (hb.mono B8.out.size))
        clear hb
        go_wp2_with fail
        refine (LQ.out w9 B9.out).mono ?_
        rintro e w10 ⟨rfl, hb⟩
        have B10 := Lib.hid (B9.out.trans (hb.mono B9.out.size))
        clear hb
        cases hdd : (d != d6)
        all_goals
          go_wp2_with fail
          refine (LQ.out w10 B10.out).mono ?_
          rintro e w11 ⟨rfl, hb⟩
          have H11 := Lib.hid (H6.out.step (B10.out.trans (hb.mono B10.out.size)))
          have ck := CL.out w11 H11.out.below
          clear hb
          go_wp2_with fail
          refine (H11.out.store0 (putG_same _ _ _) ⟨hx.1, h1⟩ (x := 10) (by decide) (by rw [S3.out, area_at1 (by omega)]) P6.out).mono ?_
          rintro e w12 ⟨rfl, _, h⟩
          have H12 := Lib.hid h
          clear h ck
          go_wp2_with fail
          refine (LQ2.out w12 _ H12.out).mono ?_
          rintro e w13 ⟨rfl, hb⟩
          have H13 := Lib.hid (H12.out.step hb)
          clear hb
          go_wp2_with fail
          go_roundw
          case rel => exact ⟨k + 1, by go_num, by omega, u6, pr6, _, H13.out⟩
          case measure => simp [intOf]; omega
    · obtain rfl : k = n := by omega
      go_wp2_with fail
      refine (AW.out _ H4.out.below).mono ?_
      rintro e w5 ⟨rfl, hb⟩
      have B5 := Lib.hid (H4.out.below.trans (hb.mono H4.out.below.size))
      clear hb
      go_wp2_with fail
      go_ret
      exact ⟨rfl, B5.out⟩
theorem cost_far (q : Int) (m c : Nat) (a : Option Addr) (W : World) (h : q < 4 ∨ 60 < q ∨ 40 < m) (hL : LaidN W) : Calls Tryz.prog 7 #[.int .i64 q, .slice a m c] W fun e w' => e = .returned (.bool true) ∧ Below W.heap.size W w' := by
  have AW := Lib.hid (hL.awake W (Below.refl _ _))
  clear hL
  have h3 : decide (q < 4) = true ∨ (decide (q < 4) = false ∧ decide (60 < q) = true) ∨ (decide (q < 4) = false ∧ decide (60 < q) = false ∧ decide (40 < (m : Int)) = true) := by
    by_cases h1 : q < 4
    · exact Or.inl (decide_eq_true h1)
    · by_cases h2 : 60 < q
      · exact Or.inr (Or.inl ⟨decide_eq_false h1, decide_eq_true h2⟩)
      · exact Or.inr (Or.inr ⟨decide_eq_false h1, decide_eq_false h2, decide_eq_true (by omega)⟩)
  clear h
  rcases h3 with d0 | ⟨d0, d1⟩ | ⟨d0, d1, d2⟩
  all_goals
    go_enter Tryz.func7, Tryz.ntmps7
    go_wp2_with fail
    refine AW.out.mono ?_
    rintro e w1 ⟨rfl, hb⟩
    have B := Lib.hid hb
    clear hb
    go_wp2_with fail
    go_ret
    exact ⟨rfl, B.out⟩
theorem spaceCost_walk (q : Int) (v : Value) (L : List Int) (W : World) (hq : -9223372036854775808 ≤ q ∧ q ≤ 9223372036854775807) (hv : ArgWs W v L) (hL : LaidN W) : Calls Tryz.prog 7 #[.int .i64 q, v] W fun e w' => e = .returned (.bool true) ∧ Below W.heap.size W w' := by
  by_cases h : q < 4 ∨ 60 < q ∨ 40 < L.length
  · obtain ⟨a, c, rfl, _⟩ := hv
    exact cost_far q L.length c a W h hL
  · obtain ⟨k, rfl⟩ : ∃ k : Nat, q = (k : Int) := ⟨q.toNat, by omega⟩
    exact cost_in k L v W (by omega) (by omega) hv hL
end Go.Proofs.YtfpcoomkbmfchaaGreatDoor
