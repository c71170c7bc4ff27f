/- The walk of SlotsWhole. No condition. Written by gen/gen_y22.py. -/
import Derived.Test.YtbmiodkdoacbeaaY21
namespace Go.Proofs.Ytbmiodkdoacbeaa
open Go.RowKit Go.Maps
set_option maxRecDepth 100000

structure WholeSt (W : World) (b : Nat) (n : Int) (wr : World) : Prop where
  ex : ∃ L, OT W wr b n (fun _ => False) L ∧ Wh 8 L
theorem head_one {n : Int} {L : List Nd} (hg : GoodY n L) (hw : Wh 8 L) : 0 < L.length ∧ (L.getD 0 default).1 = 1 ∧ (L.getD 0 default).2.1 = 0 ∧ (L.getD 0 default).2.2.1 ≠ 3 := by
  obtain ⟨x, hx, h0, h3⟩ := hw.first
  cases L with
  | nil => simp [atN] at hx
  | cons y r =>
    obtain ⟨h1, h2⟩ := List.pairwise_cons.1 hg.up
    have hy := (hg.ok y (by simp)).1.1
    have hxm := (atN_some hx).1
    have hx1 := (atN_some hx).2
    have e : x = y := by
      rcases List.mem_cons.1 hxm with e | e
      · exact e
      · have := h1 x e; omega
    subst e
    exact ⟨by simp, hx1, h0, h3⟩
theorem at_there {L : List Nd} {i : Int} (h : atN i L ≠ none) : ∃ k : Nat, atIY L i = (k : Int) := by
  cases e : atN i L with
  | none => exact absurd e h
  | some x => exact ⟨_, atIY_some e⟩
theorem getD_memR {L : List Rp} {i : Nat} (h : i < L.length) : L.getD i default ∈ L := by
  rw [List.getD_eq_getElem?_getD, List.getElem?_eq_getElem h]; exact List.getElem_mem _
set_option maxHeartbeats 40000000 in
theorem slotsWhole_walk (n : Int) (v : Value) (S : List (Int × Int × Int)) (W : World) (_ : I64 n) (h : ArgOpsY W v S) : Calls Try.prog 5 #[.int .i64 n, v] W fun e w' => e = .returned (.bool true) ∧ Below W.heap.size W w' := by
  obtain ⟨a, cc, rfl, hS, hc⟩ := h
  obtain ⟨N, hN⟩ : ∃ N, N = S.length := ⟨_, rfl⟩
  rw [← hN] at hc ⊢
  have HSS := Lib.hid hS
  have HCC := Lib.hid hc
  have HNN := Lib.hid hN
  clear hS hc hN
  by_cases h0 : ¬ (1 ≤ n ∧ n ≤ 8)
  · have HB := Lib.hid (newY_bad n W h0)
    clear h0
    go_enter Try.func5, Try.ntmps5
    go_wp2_with fail
    refine HB.out.mono ?_
    rintro e w1 ⟨rfl, rfl⟩
    go_wp2_with fail
    refine (awake13 _).mono ?_
    rintro e w8 ⟨rfl, hb⟩
    have B := Lib.hid hb
    clear hb
    go_wp2
    go_ret
    exact ⟨rfl, B.out⟩
  have h1 : 1 ≤ n ∧ n ≤ 8 := by omega
  clear h0
  by_cases h3 : 200 < N
  · have HB := Lib.hid (ot_new (W := W) n (Below.refl _ _) h1)
    clear h1
    go_enter Try.func5, Try.ntmps5
    go_wp2_with fail
    refine HB.out.mono ?_
    rintro e w1 ⟨b, rfl, h, -⟩
    have H1 := Lib.hid h
    clear h
    go_wp2_with fail
    refine (awake13 _).mono ?_
    rintro e w8 ⟨rfl, hb⟩
    have B := Lib.hid hb
    clear hb
    go_wp2
    go_ret
    exact ⟨rfl, H1.out.below.trans (B.out.mono H1.out.below.size)⟩
  · have HB := Lib.hid (ot_new (W := W) n (Below.refl _ _) h1)
    go_enter Try.func5, Try.ntmps5
    go_wp2_with fail
    refine HB.out.mono ?_
    rintro e w1 ⟨b, rfl, h, -⟩
    have H1 : Hid (WholeSt W b n w1) := Lib.hid ⟨_, h, Wh.begin_⟩
    clear h
    go_wp2_with fail
    go_loopw [7] (fun i wr => ∃ j : Nat, i = .int .i64 (j : Int) ∧ j ≤ N ∧ WholeSt W b n wr) (fun i _ => (N - (intOf i).toNat))
    case atStart => exact ⟨0, rfl, Nat.zero_le _, H1.out⟩
    case round =>
      obtain ⟨j, rfl, hj, hF⟩ := hrel
      obtain ⟨L, hO, hWh⟩ := hF.ex
      clear hF
      have hL8 : L.length ≤ 8 := by have := hO.good.len; have := hO.good.most; omega
      have HO := Lib.hid hO
      have WH := Lib.hid hWh
      clear hO hWh
      by_cases hlt : j < N
      · have hjl : j < S.length := by rw [← HNN.out]; exact hlt
        obtain ⟨bb, oo, rfl, hbl, hcell⟩ := HCC.out.resolve_left (by rintro rfl; simp at hjl)
        obtain ⟨⟨d, pid, c⟩, hx⟩ : ∃ x, S.getD j default = x := ⟨_, rfl⟩
        have hcj := hcell j (by omega)
        have hmem : S.getD j default ∈ S := by rw [List.getD_eq_getElem?_getD, List.getElem?_eq_getElem hjl]; exact List.getElem_mem _
        have hxI := HSS.out _ hmem
        rw [hx] at hcj hxI
        obtain ⟨c0, c1, c2⟩ := hcj
        obtain ⟨hI0, hI1, hI2⟩ := hxI
        simp only at c0 c1 c2 hI0 hI1 hI2
        have k : ∀ w', Below W.heap.size W w' → ∀ i, w'.cell? ⟨bb, i, none⟩ = W.cell? ⟨bb, i, none⟩ := fun w' hb i => hb.cell (p := ⟨bb, i, none⟩) hbl
        have g0 := (k _ HO.out.below _).trans c0
        have g1 := (k _ HO.out.below _).trans c1
        have g2 := (k _ HO.out.below _).trans c2
        obtain ⟨w2, hw2⟩ : ∃ w2, w2 = wr.alloc (.cells #[.int .i64 d, .int .i64 pid, .int .u32 c] 38) := ⟨_, rfl⟩
        have hop : w2.heap[wr.heap.size]? = some (.cells #[.int .i64 d, .int .i64 pid, .int .u32 c] 38 (0, 0)) := by rw [hw2]; exact heap_alloc_new wr _
        have H2 := Lib.hid (HO.out.step (w' := w2) (by rw [hw2]; exact (Below.refl _ _).alloc (Nat.le_refl _) _))
        have OPB := Lib.hid hop
        clear hcell hx hmem c0 c1 c2 k hop
        go_wp2_with fail
        rw [← hw2]
        clear hw2 g0 g1 g2
        refine (ot_all H2.out).mono ?_
        rintro e w3 ⟨v3, rfl, hr3, hb3⟩
        have H3 := Lib.hid (H2.out.more (F' := fun k => v3.ownBlock = some k) hb3 (fun k hk => ⟨Or.inr (hr3.lt k hk).1, (hr3.lt k hk).2⟩))
        have hop3 := below_block hb3 OPB.out
        have d0 : w3.cell? ⟨wr.heap.size, 0, none⟩ = some (.int .i64 d) := by rw [cell_of_row _ _ _ _ _ _ hop3]; rfl
        have d1 : w3.cell? ⟨wr.heap.size, 1, none⟩ = some (.int .i64 pid) := by rw [cell_of_row _ _ _ _ _ _ hop3]; rfl
        have d2 : w3.cell? ⟨wr.heap.size, 2, none⟩ = some (.int .u32 c) := by rw [cell_of_row _ _ _ _ _ _ hop3]; rfl
        have ROW := Lib.hid hr3
        obtain ⟨a3, c3, rfl⟩ := owns_slice hr3
        clear hb3 hop3 hr3
        by_cases e1 : d = 1
        · subst e1
          go_wp2_with fail
          refine (ot_add H3.out pid hI1 rfl rfl rfl).mono ?_
          rintro e w4 ⟨rfl, h, hk⟩
          obtain ⟨L2, hL2⟩ : ∃ L2, L2 = addL n L pid := ⟨_, rfl⟩
          rw [← hL2] at h
          have WH2 : Hid (Wh 8 L2) := Lib.hid (by rw [hL2]; exact WH.out.add HO.out.good pid)
          have H4 := Lib.hid h
          have WAS4 := Lib.hid (PrsAt.of_row (hk.own ROW.out (fun g hg => hg)))
          obtain ⟨R, hR⟩ : ∃ R : List Rp, R = [] := ⟨_, rfl⟩
          have RP4 : Hid (RpsAt w4 (.slice none 0 0) R) := Lib.hid (by rw [hR]; exact ⟨_, _, rfl, Or.inl rfl⟩)
          have RF : Hid (∀ r ∈ R, atN r.2.1 L ≠ none ∧ atN r.2.1 L2 = none ∧ atN r.1 L2 ≠ none) := Lib.hid (by rw [hR]; simp)
          have HRN : Hid (0 = R.length) := Lib.hid (by rw [hR]; rfl)
          clear h hk hL2 hR d0 d1 d2
          go_wp2_with fail
          refine (ot_all H4.out).mono ?_
          rintro e w5 ⟨v5, rfl, hr5, hb5⟩
          have H5 := Lib.hid ((H4.out.step hb5).less (F' := fun _ => False) (fun _ hf => hf.elim))
          have NOW := Lib.hid (PrsAt.of_row hr5)
          obtain ⟨a5, c5, rfl⟩ := owns_slice hr5
          have WAS := Lib.hid (WAS4.out.below hb5)
          have RP := Lib.hid (RP4.out.below hb5)
          have hN2 : L2.length ≤ 8 := by have := H5.out.good.len; have := H5.out.good.most; omega
          obtain ⟨hd0, hd1, hd2, hd3⟩ := head_one H5.out.good WH2.out
          obtain ⟨⟨z0, z1, z2, z3⟩, hz⟩ : ∃ z, L2.getD 0 default = z := ⟨_, rfl⟩
          obtain ⟨b5, rfl, hbl5, n0, n1, n2, n3⟩ := NOW.out.at_ hd0 hz
          rw [hz] at hd1 hd2 hd3
          simp only at hd1 hd2 hd3 n0 n1 n2 n3
          subst hd1 hd2
          have hd3' : (z2 == 3) = false := by simpa using hd3
          obtain ⟨N2, hNN2⟩ : ∃ N2, N2 = L2.length := ⟨_, rfl⟩
          rw [← hNN2] at NOW hN2 hd0 ⊢
          have HN2 := Lib.hid hNN2
          have HEAD := Lib.hid (And.intro n0 (And.intro n1 n2))
          clear hr5 hb5 hNN2 hz hd3 n0 n1 n2 n3
          go_wp2_with fail
          go_loopw [16] (fun i wq => ∃ q : Nat, i = .int .i64 (q : Int) ∧ q ≤ 0 ∧ wq = w5) (fun i _ => (0 - (intOf i).toNat))
          case atStart => exact ⟨0, rfl, Nat.zero_le _, rfl⟩
          case round =>
            obtain ⟨q, rfl, hq, rfl⟩ := hrel
            by_cases hql : q < 0
            · exact absurd hql (Nat.not_lt_zero _)
            · obtain rfl : q = 0 := by omega
              have n0 := HEAD.out.1
              have n1 := HEAD.out.2.1
              have n2 := HEAD.out.2.2
              clear hql
              go_wp2_with fail
              clear n0 n1 n2
              go_loopw [17] (fun i wq => ∃ q : Nat, i = .int .i64 (q : Int) ∧ q ≤ N2 ∧ OT W wq b n (fun _ => False) L2 ∧ PrsAt wq (.slice (some ⟨b5, 0, none⟩) N2 c5) L2) (fun i _ => (N2 - (intOf i).toNat))
              case atStart => exact ⟨0, rfl, Nat.zero_le _, H5.out, NOW.out⟩
              case round =>
                obtain ⟨q, rfl, hq2, hO, hP⟩ := hrel
                have HO := Lib.hid hO
                have HPP := Lib.hid hP
                clear hO
                by_cases hql : q < N2
                · have hqL : q < L2.length := by have := HN2.out; omega
                  obtain ⟨⟨y0, y1, y2, y3⟩, hy⟩ : ∃ y, L2.getD q default = y := ⟨_, rfl⟩
                  obtain ⟨b6, hb6, hbl6, m0, m1, m2, m3⟩ := hP.at_ hqL hy
                  obtain rfl : b5 = b6 := by simpa using hb6
                  have hym : (y0, y1, y2, y3) ∈ L2 := by rw [← hy]; exact getD_memN hqL
                  have RT := Lib.hid (right_ok n L2 _ (y0, y1, y2, y3) _ HO.out.good WH2.out hym hP)
                  unfold prV at RT
                  simp only at m0 m1 m2 m3 RT
                  clear hP hy hym hb6
                  go_wp2_with fail
                  refine RT.out.mono ?_
                  rintro e w7 ⟨rfl, hb⟩
                  have HO2 := Lib.hid (HO.out.step hb)
                  have HP2 := Lib.hid (HPP.out.below hb)
                  clear hb m0 m1 m2 m3
                  go_wp2
                  go_roundw
                  case rel => exact ⟨q + 1, by go_num, by omega, HO2.out, HP2.out⟩
                  case measure => simp [intOf]; omega
                · obtain rfl : q = N2 := by omega
                  clear hP hql
                  go_wp2
                  go_roundw
                  case rel => exact ⟨j + 1, by go_num, by omega, L2, HO.out, WH2.out⟩
                  case measure => simp [intOf]; omega
        by_cases e2 : d = 2
        · subst e2
          go_wp2_with fail
          refine (ot_exit H3.out pid c hI1 hI2 rfl rfl rfl).mono ?_
          rintro e w4 ⟨v4, rfl, r4, h, hk⟩
          obtain ⟨L2, hL2⟩ : ∃ L2, L2 = exitL n L pid c := ⟨_, rfl⟩
          obtain ⟨R, hR⟩ : ∃ R, R = exitR n L pid c := ⟨_, rfl⟩
          rw [← hL2] at h
          rw [← hR] at r4
          have WH2 : Hid (Wh 8 L2) := Lib.hid (by rw [hL2]; exact WH.out.exit_ HO.out.good pid hI2)
          have H4 := Lib.hid h
          have WAS4 := Lib.hid (PrsAt.of_row (hk.own ROW.out (fun g hg => hg)))
          have RP4 := Lib.hid (RpsAt.of_row (base := w3.heap.size) (L := R) r4)
          have RF : Hid (∀ r ∈ R, atN r.2.1 L ≠ none ∧ atN r.2.1 L2 = none ∧ atN r.1 L2 ≠ none) := Lib.hid (by rw [hR, hL2]; exact fun r hr => exit_reaped HO.out.good pid hI2 hr)
          obtain ⟨a4, c4, rfl⟩ := owns_slice (show w4.ownsRow w3.heap.size 58 3 v4 R.length (rpV R) from r4)
          obtain ⟨M, hM⟩ : ∃ M, M = R.length := ⟨_, rfl⟩
          rw [← hM] at RP4 ⊢
          have HRN := Lib.hid hM
          have hM8 : M ≤ 8 := by
            rw [hM, hR]
            unfold exitR
            split
            · have := srvR_length (exitM L pid c) n.toNat
              have := HO.out.good.most
              unfold serveR
              omega
            · simp
          clear h hk hL2 hR d0 d1 d2 r4 hM
          go_wp2_with fail
          refine (ot_all H4.out).mono ?_
          rintro e w5 ⟨v5, rfl, hr5, hb5⟩
          have H5 := Lib.hid ((H4.out.step hb5).less (F' := fun _ => False) (fun _ hf => hf.elim))
          have NOW := Lib.hid (PrsAt.of_row hr5)
          obtain ⟨a5, c5, rfl⟩ := owns_slice hr5
          have WAS := Lib.hid (WAS4.out.below hb5)
          have RP := Lib.hid (RP4.out.below hb5)
          have hN2 : L2.length ≤ 8 := by have := H5.out.good.len; have := H5.out.good.most; omega
          obtain ⟨hd0, hd1, hd2, hd3⟩ := head_one H5.out.good WH2.out
          obtain ⟨⟨z0, z1, z2, z3⟩, hz⟩ : ∃ z, L2.getD 0 default = z := ⟨_, rfl⟩
          obtain ⟨b5, rfl, hbl5, n0, n1, n2, n3⟩ := NOW.out.at_ hd0 hz
          rw [hz] at hd1 hd2 hd3
          simp only at hd1 hd2 hd3 n0 n1 n2 n3
          subst hd1 hd2
          have hd3' : (z2 == 3) = false := by simpa using hd3
          obtain ⟨N2, hNN2⟩ : ∃ N2, N2 = L2.length := ⟨_, rfl⟩
          rw [← hNN2] at NOW hN2 hd0 ⊢
          have HN2 := Lib.hid hNN2
          have HEAD := Lib.hid (And.intro n0 (And.intro n1 n2))
          clear hr5 hb5 hNN2 hz hd3 n0 n1 n2 n3
          go_wp2_with fail
          go_loopw [16] (fun i wq => ∃ q : Nat, i = .int .i64 (q : Int) ∧ q ≤ M ∧ wq = w5) (fun i _ => (M - (intOf i).toNat))
          case atStart => exact ⟨0, rfl, Nat.zero_le _, rfl⟩
          case round =>
            obtain ⟨q, rfl, hq, rfl⟩ := hrel
            by_cases hql : q < M
            · have hqR : q < R.length := by have := HRN.out; omega
              obtain ⟨⟨r0, r1, r2⟩, hr⟩ : ∃ r, R.getD q default = r := ⟨_, rfl⟩
              obtain ⟨br, hbr, hblr, m0, m1, m2⟩ := RP.out.at_ hqR hr
              obtain ⟨f1, f2, f3⟩ := RF.out _ (getD_memR hqR)
              rw [hr] at f1 f2 f3
              simp only at f1 f2 f3 m0 m1 m2
              obtain ⟨k1, hk1⟩ := at_there f1
              obtain ⟨k3, hk3⟩ := at_there f3
              have A1 := Lib.hid (ratY L _ r1 _ (by omega) WAS.out hk1)
              have A2 := Lib.hid (ratY L2 _ r1 _ (by have := HN2.out; omega) NOW.out (atIY_none f2))
              have A3 := Lib.hid (ratY L2 _ r0 _ (by have := HN2.out; omega) NOW.out hk3)
              clear f1 f2 f3 hk1 hk3 hr
              subst hbr
              go_wp2_with fail
              refine A1.out.mono ?_
              rintro e wa ⟨rfl, rfl⟩
              go_wp2_with fail
              refine A2.out.mono ?_
              rintro e wa ⟨rfl, rfl⟩
              go_wp2_with fail
              refine A3.out.mono ?_
              rintro e wa ⟨rfl, rfl⟩
              go_wp2
              go_roundw
              case rel => exact ⟨q + 1, by go_num, by omega, by trivial⟩
              case measure => simp [intOf]; omega
            · obtain rfl : q = M := by omega
              have n0 := HEAD.out.1
              have n1 := HEAD.out.2.1
              have n2 := HEAD.out.2.2
              clear hql
              go_wp2_with fail
              clear n0 n1 n2
              go_loopw [17] (fun i wq => ∃ q : Nat, i = .int .i64 (q : Int) ∧ q ≤ N2 ∧ OT W wq b n (fun _ => False) L2 ∧ PrsAt wq (.slice (some ⟨b5, 0, none⟩) N2 c5) L2) (fun i _ => (N2 - (intOf i).toNat))
              case atStart => exact ⟨0, rfl, Nat.zero_le _, H5.out, NOW.out⟩
              case round =>
                obtain ⟨q, rfl, hq2, hO, hP⟩ := hrel
                have HO := Lib.hid hO
                have HPP := Lib.hid hP
                clear hO
                by_cases hql : q < N2
                · have hqL : q < L2.length := by have := HN2.out; omega
                  obtain ⟨⟨y0, y1, y2, y3⟩, hy⟩ : ∃ y, L2.getD q default = y := ⟨_, rfl⟩
                  obtain ⟨b6, hb6, hbl6, m0, m1, m2, m3⟩ := hP.at_ hqL hy
                  obtain rfl : b5 = b6 := by simpa using hb6
                  have hym : (y0, y1, y2, y3) ∈ L2 := by rw [← hy]; exact getD_memN hqL
                  have RT := Lib.hid (right_ok n L2 _ (y0, y1, y2, y3) _ HO.out.good WH2.out hym hP)
                  unfold prV at RT
                  simp only at m0 m1 m2 m3 RT
                  clear hP hy hym hb6
                  go_wp2_with fail
                  refine RT.out.mono ?_
                  rintro e w7 ⟨rfl, hb⟩
                  have HO2 := Lib.hid (HO.out.step hb)
                  have HP2 := Lib.hid (HPP.out.below hb)
                  clear hb m0 m1 m2 m3
                  go_wp2
                  go_roundw
                  case rel => exact ⟨q + 1, by go_num, by omega, HO2.out, HP2.out⟩
                  case measure => simp [intOf]; omega
                · obtain rfl : q = N2 := by omega
                  clear hP hql
                  go_wp2
                  go_roundw
                  case rel => exact ⟨j + 1, by go_num, by omega, L2, HO.out, WH2.out⟩
                  case measure => simp [intOf]; omega
        by_cases e3 : d = 3
        · subst e3
          go_wp2_with fail
          refine (ot_wait H3.out pid hI1 rfl rfl rfl).mono ?_
          rintro e w4 ⟨v4, rfl, r4, h, hk⟩
          obtain ⟨L2, hL2⟩ : ∃ L2, L2 = waitL n L pid := ⟨_, rfl⟩
          obtain ⟨R, hR⟩ : ∃ R, R = waitR n L pid := ⟨_, rfl⟩
          rw [← hL2] at h
          rw [← hR] at r4
          have WH2 : Hid (Wh 8 L2) := Lib.hid (by rw [hL2]; exact WH.out.wait_ HO.out.good pid)
          have H4 := Lib.hid h
          have WAS4 := Lib.hid (PrsAt.of_row (hk.own ROW.out (fun g hg => hg)))
          have RP4 := Lib.hid (RpsAt.of_row (base := w3.heap.size) (L := R) r4)
          have RF : Hid (∀ r ∈ R, atN r.2.1 L ≠ none ∧ atN r.2.1 L2 = none ∧ atN r.1 L2 ≠ none) := Lib.hid (by rw [hR, hL2]; exact fun r hr => wait_reaped HO.out.good pid hr)
          obtain ⟨a4, c4, rfl⟩ := owns_slice (show w4.ownsRow w3.heap.size 58 3 v4 R.length (rpV R) from r4)
          obtain ⟨M, hM⟩ : ∃ M, M = R.length := ⟨_, rfl⟩
          rw [← hM] at RP4 ⊢
          have HRN := Lib.hid hM
          have hM8 : M ≤ 8 := by
            rw [hM, hR]
            unfold waitR
            split
            · have := srvR_length (L.map (setSt pid 2)) n.toNat
              have := HO.out.good.most
              unfold serveR
              omega
            · simp
          clear h hk hL2 hR d0 d1 d2 r4 hM
          go_wp2_with fail
          refine (ot_all H4.out).mono ?_
          rintro e w5 ⟨v5, rfl, hr5, hb5⟩
          have H5 := Lib.hid ((H4.out.step hb5).less (F' := fun _ => False) (fun _ hf => hf.elim))
          have NOW := Lib.hid (PrsAt.of_row hr5)
          obtain ⟨a5, c5, rfl⟩ := owns_slice hr5
          have WAS := Lib.hid (WAS4.out.below hb5)
          have RP := Lib.hid (RP4.out.below hb5)
          have hN2 : L2.length ≤ 8 := by have := H5.out.good.len; have := H5.out.good.most; omega
          obtain ⟨hd0, hd1, hd2, hd3⟩ := head_one H5.out.good WH2.out
          obtain ⟨⟨z0, z1, z2, z3⟩, hz⟩ : ∃ z, L2.getD 0 default = z := ⟨_, rfl⟩
          obtain ⟨b5, rfl, hbl5, n0, n1, n2, n3⟩ := NOW.out.at_ hd0 hz
          rw [hz] at hd1 hd2 hd3
          simp only at hd1 hd2 hd3 n0 n1 n2 n3
          subst hd1 hd2
          have hd3' : (z2 == 3) = false := by simpa using hd3
          obtain ⟨N2, hNN2⟩ : ∃ N2, N2 = L2.length := ⟨_, rfl⟩
          rw [← hNN2] at NOW hN2 hd0 ⊢
          have HN2 := Lib.hid hNN2
          have HEAD := Lib.hid (And.intro n0 (And.intro n1 n2))
          clear hr5 hb5 hNN2 hz hd3 n0 n1 n2 n3
          go_wp2_with fail
          go_loopw [16] (fun i wq => ∃ q : Nat, i = .int .i64 (q : Int) ∧ q ≤ M ∧ wq = w5) (fun i _ => (M - (intOf i).toNat))
          case atStart => exact ⟨0, rfl, Nat.zero_le _, rfl⟩
          case round =>
            obtain ⟨q, rfl, hq, rfl⟩ := hrel
            by_cases hql : q < M
            · have hqR : q < R.length := by have := HRN.out; omega
              obtain ⟨⟨r0, r1, r2⟩, hr⟩ : ∃ r, R.getD q default = r := ⟨_, rfl⟩
              obtain ⟨br, hbr, hblr, m0, m1, m2⟩ := RP.out.at_ hqR hr
              obtain ⟨f1, f2, f3⟩ := RF.out _ (getD_memR hqR)
              rw [hr] at f1 f2 f3
              simp only at f1 f2 f3 m0 m1 m2
              obtain ⟨k1, hk1⟩ := at_there f1
              obtain ⟨k3, hk3⟩ := at_there f3
              have A1 := Lib.hid (ratY L _ r1 _ (by omega) WAS.out hk1)
              have A2 := Lib.hid (ratY L2 _ r1 _ (by have := HN2.out; omega) NOW.out (atIY_none f2))
              have A3 := Lib.hid (ratY L2 _ r0 _ (by have := HN2.out; omega) NOW.out hk3)
              clear f1 f2 f3 hk1 hk3 hr
              subst hbr
              go_wp2_with fail
              refine A1.out.mono ?_
              rintro e wa ⟨rfl, rfl⟩
              go_wp2_with fail
              refine A2.out.mono ?_
              rintro e wa ⟨rfl, rfl⟩
              go_wp2_with fail
              refine A3.out.mono ?_
              rintro e wa ⟨rfl, rfl⟩
              go_wp2
              go_roundw
              case rel => exact ⟨q + 1, by go_num, by omega, by trivial⟩
              case measure => simp [intOf]; omega
            · obtain rfl : q = M := by omega
              have n0 := HEAD.out.1
              have n1 := HEAD.out.2.1
              have n2 := HEAD.out.2.2
              clear hql
              go_wp2_with fail
              clear n0 n1 n2
              go_loopw [17] (fun i wq => ∃ q : Nat, i = .int .i64 (q : Int) ∧ q ≤ N2 ∧ OT W wq b n (fun _ => False) L2 ∧ PrsAt wq (.slice (some ⟨b5, 0, none⟩) N2 c5) L2) (fun i _ => (N2 - (intOf i).toNat))
              case atStart => exact ⟨0, rfl, Nat.zero_le _, H5.out, NOW.out⟩
              case round =>
                obtain ⟨q, rfl, hq2, hO, hP⟩ := hrel
                have HO := Lib.hid hO
                have HPP := Lib.hid hP
                clear hO
                by_cases hql : q < N2
                · have hqL : q < L2.length := by have := HN2.out; omega
                  obtain ⟨⟨y0, y1, y2, y3⟩, hy⟩ : ∃ y, L2.getD q default = y := ⟨_, rfl⟩
                  obtain ⟨b6, hb6, hbl6, m0, m1, m2, m3⟩ := hP.at_ hqL hy
                  obtain rfl : b5 = b6 := by simpa using hb6
                  have hym : (y0, y1, y2, y3) ∈ L2 := by rw [← hy]; exact getD_memN hqL
                  have RT := Lib.hid (right_ok n L2 _ (y0, y1, y2, y3) _ HO.out.good WH2.out hym hP)
                  unfold prV at RT
                  simp only at m0 m1 m2 m3 RT
                  clear hP hy hym hb6
                  go_wp2_with fail
                  refine RT.out.mono ?_
                  rintro e w7 ⟨rfl, hb⟩
                  have HO2 := Lib.hid (HO.out.step hb)
                  have HP2 := Lib.hid (HPP.out.below hb)
                  clear hb m0 m1 m2 m3
                  go_wp2
                  go_roundw
                  case rel => exact ⟨q + 1, by go_num, by omega, HO2.out, HP2.out⟩
                  case measure => simp [intOf]; omega
                · obtain rfl : q = N2 := by omega
                  clear hP hql
                  go_wp2
                  go_roundw
                  case rel => exact ⟨j + 1, by go_num, by omega, L2, HO.out, WH2.out⟩
                  case measure => simp [intOf]; omega
        · have q1 : (d == 1) = false := by simpa using e1
          have q2 : (d == 2) = false := by simpa using e2
          have q3 : (d == 3) = false := by simpa using e3
          obtain ⟨L2, hL2⟩ : ∃ L2, L2 = L := ⟨_, rfl⟩
          obtain ⟨w4, hw4⟩ : ∃ w4, w4 = w3 := ⟨_, rfl⟩
          have WH2 : Hid (Wh 8 L2) := Lib.hid (by rw [hL2]; exact WH.out)
          have H4 : Hid (OT W w3 b n _ L2) := Lib.hid (by rw [hL2]; exact H3.out)
          have WAS4 := Lib.hid (PrsAt.of_row ROW.out)
          obtain ⟨R, hR⟩ : ∃ R : List Rp, R = [] := ⟨_, rfl⟩
          have RP4 : Hid (RpsAt w3 (.slice none 0 0) R) := Lib.hid (by rw [hR]; exact ⟨_, _, rfl, Or.inl rfl⟩)
          have RF : Hid (∀ r ∈ R, atN r.2.1 L ≠ none ∧ atN r.2.1 L2 = none ∧ atN r.1 L2 ≠ none) := Lib.hid (by rw [hR]; simp)
          have HRN : Hid (0 = R.length) := Lib.hid (by rw [hR]; rfl)
          clear hL2 hR e1 e2 e3 d1 d2 hw4
          go_wp2_with fail
          refine (ot_all H4.out).mono ?_
          rintro e w5 ⟨v5, rfl, hr5, hb5⟩
          have H5 := Lib.hid ((H4.out.step hb5).less (F' := fun _ => False) (fun _ hf => hf.elim))
          have NOW := Lib.hid (PrsAt.of_row hr5)
          obtain ⟨a5, c5, rfl⟩ := owns_slice hr5
          have WAS := Lib.hid (WAS4.out.below hb5)
          have RP := Lib.hid (RP4.out.below hb5)
          have hN2 : L2.length ≤ 8 := by have := H5.out.good.len; have := H5.out.good.most; omega
          obtain ⟨hd0, hd1, hd2, hd3⟩ := head_one H5.out.good WH2.out
          obtain ⟨⟨z0, z1, z2, z3⟩, hz⟩ : ∃ z, L2.getD 0 default = z := ⟨_, rfl⟩
          obtain ⟨b5, rfl, hbl5, n0, n1, n2, n3⟩ := NOW.out.at_ hd0 hz
          rw [hz] at hd1 hd2 hd3
          simp only at hd1 hd2 hd3 n0 n1 n2 n3
          subst hd1 hd2
          have hd3' : (z2 == 3) = false := by simpa using hd3
          obtain ⟨N2, hNN2⟩ : ∃ N2, N2 = L2.length := ⟨_, rfl⟩
          rw [← hNN2] at NOW hN2 hd0 ⊢
          have HN2 := Lib.hid hNN2
          have HEAD := Lib.hid (And.intro n0 (And.intro n1 n2))
          clear hr5 hb5 hNN2 hz hd3 n0 n1 n2 n3
          go_wp2_with fail
          go_loopw [16] (fun i wq => ∃ q : Nat, i = .int .i64 (q : Int) ∧ q ≤ 0 ∧ wq = w5) (fun i _ => (0 - (intOf i).toNat))
          case atStart => exact ⟨0, rfl, Nat.zero_le _, rfl⟩
          case round =>
            obtain ⟨q, rfl, hq, rfl⟩ := hrel
            by_cases hql : q < 0
            · exact absurd hql (Nat.not_lt_zero _)
            · obtain rfl : q = 0 := by omega
              have n0 := HEAD.out.1
              have n1 := HEAD.out.2.1
              have n2 := HEAD.out.2.2
              clear hql
              go_wp2_with fail
              clear n0 n1 n2
              go_loopw [17] (fun i wq => ∃ q : Nat, i = .int .i64 (q : Int) ∧ q ≤ N2 ∧ OT W wq b n (fun _ => False) L2 ∧ PrsAt wq (.slice (some ⟨b5, 0, none⟩) N2 c5) L2) (fun i _ => (N2 - (intOf i).toNat))
              case atStart => exact ⟨0, rfl, Nat.zero_le _, H5.out, NOW.out⟩
              case round =>
                obtain ⟨q, rfl, hq2, hO, hP⟩ := hrel
                have HO := Lib.hid hO
                have HPP := Lib.hid hP
                clear hO
                by_cases hql : q < N2
                · have hqL : q < L2.length := by have := HN2.out; omega
                  obtain ⟨⟨y0, y1, y2, y3⟩, hy⟩ : ∃ y, L2.getD q default = y := ⟨_, rfl⟩
                  obtain ⟨b6, hb6, hbl6, m0, m1, m2, m3⟩ := hP.at_ hqL hy
                  obtain rfl : b5 = b6 := by simpa using hb6
                  have hym : (y0, y1, y2, y3) ∈ L2 := by rw [← hy]; exact getD_memN hqL
                  have RT := Lib.hid (right_ok n L2 _ (y0, y1, y2, y3) _ HO.out.good WH2.out hym hP)
                  unfold prV at RT
                  simp only at m0 m1 m2 m3 RT
                  clear hP hy hym hb6
                  go_wp2_with fail
                  refine RT.out.mono ?_
                  rintro e w7 ⟨rfl, hb⟩
                  have HO2 := Lib.hid (HO.out.step hb)
                  have HP2 := Lib.hid (HPP.out.below hb)
                  clear hb m0 m1 m2 m3
                  go_wp2
                  go_roundw
                  case rel => exact ⟨q + 1, by go_num, by omega, HO2.out, HP2.out⟩
                  case measure => simp [intOf]; omega
                · obtain rfl : q = N2 := by omega
                  clear hP hql
                  go_wp2
                  go_roundw
                  case rel => exact ⟨j + 1, by go_num, by omega, L2, HO.out, WH2.out⟩
                  case measure => simp [intOf]; omega
      · obtain rfl : j = N := by omega
        clear hlt
        go_wp2_with fail
        refine (awake13 _).mono ?_
        rintro e w8 ⟨rfl, hb⟩
        have B := Lib.hid (HO.out.below.trans (hb.mono HO.out.below.size))
        clear hb
        go_wp2
        go_ret
        exact ⟨rfl, B.out⟩
end Go.Proofs.Ytbmiodkdoacbeaa
