/- The walk of SlotsPlays. No condition. -/
import Derived.Test.YtbmiodkdoacbeaaY29
import Derived.Test.YtbmiodkdoacbeaaOY
import Derived.BigRegion
import Derived.BigQuiet
import Derived.Deep.DeepCutAuto
import Derived.Deep.CutRange
import Derived.Deep.RegionWith
namespace Go.Proofs.Ytbmiodkdoacbeaa
open Go.RowKit Go.Maps
set_option maxRecDepth 100000

set_option maxHeartbeats 2000000 in
theorem slotsPlays_far (q : Int) (n c : Nat) (a : Option Addr) (W : World) (h : 200 < n) : Calls Try.prog 3 #[.int .i64 q, .slice a n c] W fun e w' => e = .returned (.bool true) ∧ Below W.heap.size W w' := by
  have d1 : decide ((200 : Int) < (n : Int)) = true := decide_eq_true (by omega)
  go_enter Try.func3, Try.ntmps3
  go_wp2_with fail
  refine (awake13 _).mono ?_
  rintro e w1 ⟨rfl, hb⟩
  have B1 := Lib.hid hb
  clear hb
  go_wp2
  go_ret
  exact ⟨rfl, B1.out⟩
set_option maxHeartbeats 2000000 in
theorem slotsPlays_bad (q : Int) (n c : Nat) (a : Option Addr) (W : World) (h : n ≤ 200) (hq : ¬ (1 ≤ q ∧ q ≤ 8)) : Calls Try.prog 3 #[.int .i64 q, .slice a n c] W fun e w' => e = .returned (.bool true) ∧ Below W.heap.size W w' := by
  have d1 : decide ((200 : Int) < (n : Int)) = false := decide_eq_false (by omega)
  have NB := Lib.hid (newY_bad q W hq)
  have RB := Lib.hid (rnewY_bad q W hq)
  clear hq
  go_enter Try.func3, Try.ntmps3
  go_wp2_with fail
  refine NB.out.mono ?_
  rintro e w1 ⟨rfl, rfl⟩
  go_wp2_with fail
  refine RB.out.mono ?_
  rintro e w1 ⟨rfl, hb⟩
  have B0 := Lib.hid (hb.alloc hb.size (.cells #[.int .i64 0, .slice none 0 0] 30))
  clear hb
  go_wp2_with fail
  go_loopw [9] (fun i wr => i = .int .i64 0 ∧ Below W.heap.size W wr) (fun i _ => (1 - (intOf i).toNat))
  case atStart => exact ⟨rfl, B0.out⟩
  case round =>
    obtain ⟨rfl, hb⟩ := hrel
    have BR := Lib.hid hb
    clear hb
    rcases (show n = 0 ∨ 0 < n by omega) with rfl | h0
    · clear d1 h
      go_wp2_with fail
      refine (awake13 _).mono ?_
      rintro e w1 ⟨rfl, hb⟩
      have B1 := Lib.hid (BR.out.trans (hb.mono BR.out.size))
      clear hb
      go_wp2
      go_ret
      exact ⟨rfl, B1.out⟩
    · have d2 : decide ((0 : Int) < (n : Int)) = true := decide_eq_true (by omega)
      go_wp2_with fail
      refine (awake13 _).mono ?_
      rintro e w1 ⟨rfl, hb⟩
      have B1 := Lib.hid (BR.out.trans (hb.mono BR.out.size))
      clear hb
      go_wp2
      go_ret
      exact ⟨rfl, B1.out⟩
theorem playYL_good {n : Int} {L : List Nd} (h : GoodY n L) (d pid : Int) {c : Int} (hc : 0 ≤ c ∧ c ≤ 4294967295) : GoodY n (playYL n L d pid c) := by
  unfold playYL
  split
  · exact h.add _
  split
  · exact h.exit _ hc
  split
  · exact h.wait _
  exact h
set_option maxHeartbeats 16000000 in
theorem slotsPlays_in (n : Int) (S : List (Int × Int × Int)) (N cc : Nat) (a : Option Addr) (W : World) (hN : N = S.length) (h : N ≤ 200) (hq : 1 ≤ n ∧ n ≤ 8) (hv : ArgOpsY W (.slice a N cc) S) : Calls Try.prog 3 #[.int .i64 n, .slice a N cc] W fun e w' => e = .returned (.bool true) ∧ Below W.heap.size W w' := by
  have d1 : decide ((200 : Int) < (N : Int)) = false := decide_eq_false (by omega)
  obtain ⟨a', cc', heq, hS, hc⟩ := hv
  obtain ⟨ea, ec⟩ : a = a' ∧ cc = cc' := by injection heq with e1 e2 e3; exact ⟨e1, e3⟩
  subst ea ec
  have HSS := Lib.hid hS
  have HCC := Lib.hid hc
  have HNN := Lib.hid hN
  have HB := Lib.hid (ot_new (W := W) n (Below.refl _ _) hq)
  have RO := Lib.hid (fun w => rnewY_ok n w hq)
  have HQ := Lib.hid hq
  clear hS hc hN hq heq
  go_enter Try.func3, Try.ntmps3
  go_wp2_with fail
  refine HB.out.mono ?_
  rintro e w1 ⟨b, rfl, h1, -⟩
  have H1 := Lib.hid h1
  clear h1
  go_wp2_with fail
  refine (RO.out w1).mono ?_
  rintro e w2 ⟨v, rfl, ho, hb⟩
  obtain ⟨va, vc, rfl⟩ := owns_slice ho
  have P2 : Hid (MidY W (w2.alloc (.cells #[.int .i64 n, .slice va 1 vc] 30)) b n w2.heap.size [(1, 0, 1, 0)] [(1, 0, 1, 0)]) := Lib.hid ⟨⟨_, ⟨heap_alloc_new w2 _, own_base (own_step ho ((Below.refl _ _).alloc (Nat.le_refl _) _)) H1.out.below.size, by have := H1.out.below.size; have := hb.size; simp; omega⟩, H1.out.more (hb.alloc hb.size _) fun k hk => ⟨Or.inr (by
      rcases hk with rfl | e
      · exact hb.size
      · exact (ho.lt k e).1), by
      rcases hk with rfl | e
      · simp
      · have := (ho.lt k e).2; simp; omega⟩⟩, Nat.le_trans H1.out.below.size hb.size⟩
  clear ho hb
  go_wp2_with fail
  go_loopw [9] (fun i wr => ∃ (j : Nat) (L : List Nd), i = .int .i64 (j : Int) ∧ j ≤ N ∧ MidY W wr b n w2.heap.size L L) (fun i _ => (N - (intOf i).toNat))
  case atStart => exact ⟨0, _, rfl, Nat.zero_le _, P2.out⟩
  case round =>
    obtain ⟨j, L, rfl, hj, hP⟩ := hrel
    have PP := Lib.hid hP
    clear hP P2
    generalize w2.heap.size = rb at *
    by_cases hlt : j < N
    · have hjl : j < S.length := by rw [← HNN.out]; exact hlt
      obtain ⟨bb, oo, rfl, hbl, hcell⟩ := HCC.out.resolve_left (by rintro rfl; simp at hjl)
      obtain ⟨⟨d, pid, c⟩, hx⟩ : ∃ x, S.getD j default = x := ⟨_, rfl⟩
      have hcj := hcell j (by omega)
      have hmem : S.getD j default ∈ S := by rw [List.getD_eq_getElem?_getD, List.getElem?_eq_getElem hjl]; exact List.getElem_mem _
      have hxI := HSS.out _ hmem
      rw [hx] at hcj hxI
      obtain ⟨c0, c1, c2⟩ := hcj
      obtain ⟨hI0, hI1, hI2⟩ := hxI
      simp only at c0 c1 c2 hI0 hI1 hI2
      have CB : Hid (∀ V, Below W.heap.size W V → V.cell? ⟨bb, oo + j * 3, none⟩ = some (.int .i64 d) ∧ V.cell? ⟨bb, oo + j * 3 + 1, none⟩ = some (.int .i64 pid) ∧ V.cell? ⟨bb, oo + j * 3 + 2, none⟩ = some (.int .u32 c)) := Lib.hid fun V hV =>
        ⟨(hV.cell (p := ⟨bb, oo + j * 3, none⟩) hbl).trans c0, (hV.cell (p := ⟨bb, oo + j * 3 + 1, none⟩) hbl).trans c1, (hV.cell (p := ⟨bb, oo + j * 3 + 2, none⟩) hbl).trans c2⟩
      have hGL := playYL_good PP.out.good d pid hI2
      obtain ⟨L2, hL2⟩ : ∃ L2, L2 = playYL n L d pid c := ⟨_, rfl⟩
      have PL : Hid (∀ V, MidY W V b n rb L L → Calls Try.prog 12 #[.pointer (some ⟨b, 0, none⟩), .pointer (some ⟨rb, 0, none⟩), .agg #[.int .i64 d, .int .i64 pid, .int .u32 c]] V fun e w' => e = .returned (.bool true) ∧ MidY W w' b n rb L2 L2) := Lib.hid fun V hV => by
        rw [hL2]
        exact playY13 hV d pid c hI1 hI2
      rw [← hL2] at hGL
      have GL2 := Lib.hid hGL
      have hl8 : Hid (L2.length ≤ 1000) := Lib.hid (by have := hGL.len; have := hGL.most; omega)
      have HI1 := Lib.hid hI1
      have hlt2 : (j : Int) < (N : Int) := by omega
      clear hcell hx hmem c0 c1 c2 hGL hL2 hI0 hI1 hI2
      go_upto_region 10 with fail
      go_cut [61] from 37 to 104 (fun v wx => v = .bool false ∧ MidY W wx b n rb L2 L2)
      case first =>
        have P1 := Lib.hid (PP.out.step (Below.refl _ _).drew)
        obtain ⟨y0, y1, y2⟩ := CB.out wr PP.out.below
        go_region_with (first
          | (go_at_call 12; refine (PL.out _ P1.out).mono ?_; rintro e w5 ⟨rfl, h5⟩; have P5 := Lib.hid h5; obtain ⟨v5, t5, -⟩ := h5.ex; have T5 := Lib.hid t5; obtain ⟨-, q5, -, -⟩ := t5.cells; clear h5 t5)
          | (go_at_call 14; refine (ot_all P5.out.ot).mono ?_; rintro e w6 ⟨v6, rfl, ho, hb⟩; have P6 := Lib.hid (P5.out.step hb); have N6 := Lib.hid (PrsAt.of_row ho); have N5 := Lib.hid ((PrsAt.of_row T5.out.row).below hb); obtain ⟨-, q6, -, -⟩ := (T5.out.below hb).cells; clear hb ho)
          | (go_at_call 13; refine (sameY L2 _ _ w6 hl8.out N6.out N5.out).mono ?_; rintro e w7 ⟨rfl, hb⟩; have P7 := Lib.hid (P6.out.step hb); clear hb))
        all_goals
          go_wp2_with fail
          go_meet
          case rel => exact ⟨rfl, P7.out⟩
      case rest =>
        obtain ⟨rfl, h5⟩ := hcut
        obtain ⟨w5, hw5⟩ : ∃ w5, w5 = wc := ⟨_, rfl⟩
        rw [← hw5] at h5 ⊢
        clear hw5
        have P5 := Lib.hid h5
        clear h5
        obtain ⟨y0, y1, y2⟩ := CB.out w5 P5.out.below
        cases hp : atN pid L2 with
        | none =>
          have GET : Hid (Calls Try.prog 15 #[.pointer (some ⟨b, 0, none⟩), .int .i64 pid] w5 fun e w' => e = .returned (.tuple #[.agg #[.int .i64 0, .int .i64 0, .int .i64 0, .int .u32 0], .bool false]) ∧ Below w5.heap.size w5 w') := Lib.hid (ot_get P5.out.ot pid HI1.out (g := (0, 0, 0, 0)) (is := false) (by unfold getP; rw [hp]; rfl) (by rw [hp]; rfl))
          have AI : Hid (∀ v V, PrsAt V v L2 → Calls Try.prog 16 #[v, .int .i64 pid] V fun e w' => e = .returned (.int .i64 (-1)) ∧ V = w') := Lib.hid fun v V hV => ratY L2 v pid V hl8.out hV (atIY_none hp)
          clear hp
          go_wp2_with fail
          refine GET.out.mono ?_
          rintro e w6 ⟨rfl, hb⟩
          obtain ⟨wp, hwp⟩ : ∃ wp, wp = w6.alloc (.cells #[.int .i64 0, .int .i64 0, .int .i64 0, .int .u32 0] 42) := ⟨_, rfl⟩
          have P6 := Lib.hid (P5.out.step (w' := wp) (by rw [hwp]; exact hb.alloc hb.size _))
          have XP : Hid (wp.heap[w6.heap.size]? = some (.cells #[.int .i64 0, .int .i64 0, .int .i64 0, .int .u32 0] 42 (0, 0))) := Lib.hid (by rw [hwp]; exact heap_alloc_new w6 _)
          have HWP := Lib.hid hwp
          clear hb hwp y0 y1 y2
          go_wp2_with fail
          rw [← HWP.out]
          generalize w6.heap.size = pb at *
          clear HWP
          obtain ⟨v5, t6, -⟩ := P6.out.ex
          have T6 := Lib.hid t6
          have SS : Hid (∀ V, Below wp.heap.size wp V → V.cell? ⟨bb, oo + j * 3 + 1, none⟩ = some (.int .i64 pid) ∧ V.cell? ⟨rb, 1, none⟩ = some v5) := Lib.hid fun V hV => ⟨(CB.out V (P6.out.below.trans (hV.mono P6.out.below.size))).2.1, (T6.out.below hV).cells.2.1⟩
          have SP : Hid (∀ V, Below wp.heap.size wp V → V.cell? ⟨pb, 0, none⟩ = some (.int .i64 0) ∧ V.cell? ⟨pb, 1, none⟩ = some (.int .i64 0) ∧ V.cell? ⟨pb, 2, none⟩ = some (.int .i64 0) ∧ V.cell? ⟨pb, 3, none⟩ = some (.int .u32 0)) := Lib.hid fun V hV => by
            have hx := below_block hV XP.out
            have e0 : V.cell? ⟨pb, 0, none⟩ = some (.int .i64 0) := by rw [cell_of_row _ _ _ _ _ _ hx]; rfl
            have e1 : V.cell? ⟨pb, 1, none⟩ = some (.int .i64 0) := by rw [cell_of_row _ _ _ _ _ _ hx]; rfl
            have e2 : V.cell? ⟨pb, 2, none⟩ = some (.int .i64 0) := by rw [cell_of_row _ _ _ _ _ _ hx]; rfl
            have e3 : V.cell? ⟨pb, 3, none⟩ = some (.int .u32 0) := by rw [cell_of_row _ _ _ _ _ _ hx]; rfl
            exact ⟨e0, e1, e2, e3⟩
          have AT : Hid (∀ V, Below wp.heap.size wp V → Calls Try.prog 16 #[v5, .int .i64 pid] V fun e w' => e = .returned (.int .i64 (-1)) ∧ V = w') := Lib.hid fun V hV => AI.out _ V (PrsAt.of_row (T6.out.below hV).row)
          have DD : Hid (Below wp.heap.size wp wp.drew) := Lib.hid (Below.refl _ _).drew
          obtain ⟨s1, s2⟩ := SS.out wp (Below.refl _ _)
          clear t6
          go_region_held3 (fun V => V.cell? ⟨bb, oo + j * 3 + 1, none⟩ = some (.int .i64 pid) ∧ V.cell? ⟨rb, 1, none⟩ = some v5) (first | with_reducible exact SS.out _ DD.out) (first | (go_at_call 16; refine (AT.out _ DD.out).mono ?_; rintro e w9 ⟨rfl, rfl⟩))
          clear s1 s2
          obtain ⟨p0, p1, p2, p3⟩ := SP.out wp (Below.refl _ _)
          go_wp2_with fail
          go_quiet (fail)
          all_goals
            go_wp2_with fail
            go_roundw
            case rel => exact ⟨j + 1, L2, by go_num, by omega, P6.out.step (by first | exact (Below.refl _ _).drew | exact (Below.refl _ _).drew.drew | exact (Below.refl _ _).drewN _ | (refine ⟨rfl, rfl, rfl, Nat.le_refl _, fun _ _ => rfl⟩))⟩
            case measure => simp [intOf]; omega
        | some x =>
          obtain ⟨x0, x1, x2, x3⟩ := x
          obtain ⟨hpl, hpx⟩ := pos_at hp
          obtain ⟨q, hq⟩ : ∃ q, posN pid L2 = q := ⟨_, rfl⟩
          rw [hq] at hpl hpx
          have GET : Hid (Calls Try.prog 15 #[.pointer (some ⟨b, 0, none⟩), .int .i64 pid] w5 fun e w' => e = .returned (.tuple #[.agg #[.int .i64 x0, .int .i64 x1, .int .i64 x2, .int .u32 x3], .bool true]) ∧ Below w5.heap.size w5 w') := Lib.hid (ot_get P5.out.ot pid HI1.out (g := (x0, x1, x2, x3)) (is := true) (by unfold getP; rw [hp]; rfl) (by rw [hp]; rfl))
          have AI : Hid (∀ v V, PrsAt V v L2 → Calls Try.prog 16 #[v, .int .i64 pid] V fun e w' => e = .returned (.int .i64 (q : Int)) ∧ V = w') := Lib.hid fun v V hV => ratY L2 v pid V hl8.out hV ((atIY_some hp).trans (by rw [hq]))
          clear hp hq
          go_wp2_with fail
          refine GET.out.mono ?_
          rintro e w6 ⟨rfl, hb⟩
          obtain ⟨wp, hwp⟩ : ∃ wp, wp = w6.alloc (.cells #[.int .i64 x0, .int .i64 x1, .int .i64 x2, .int .u32 x3] 42) := ⟨_, rfl⟩
          have P6 := Lib.hid (P5.out.step (w' := wp) (by rw [hwp]; exact hb.alloc hb.size _))
          have XP : Hid (wp.heap[w6.heap.size]? = some (.cells #[.int .i64 x0, .int .i64 x1, .int .i64 x2, .int .u32 x3] 42 (0, 0))) := Lib.hid (by rw [hwp]; exact heap_alloc_new w6 _)
          have HWP := Lib.hid hwp
          clear hb hwp y0 y1 y2
          go_wp2_with fail
          rw [← HWP.out]
          generalize w6.heap.size = pb at *
          clear HWP
          obtain ⟨v5, t6, -⟩ := P6.out.ex
          obtain ⟨m, hm⟩ : ∃ m, m = L2.length := ⟨_, rfl⟩
          obtain ⟨-, h0⟩ | ⟨g5, c5, rfl, hnc, hcm, hg0, -⟩ := row_allY t6.row
          · omega
          have HMM := Lib.hid hm
          rw [← hm] at t6 hnc
          have qm : (q : Int) < (m : Int) := by omega
          have qc : (m : Int) ≤ (c5 : Int) := by omega
          have q0 : (0 : Int) ≤ (q : Int) := by omega
          have dq : decide ((0 : Int) ≤ (q : Int)) = true := decide_eq_true q0
          have T6 := Lib.hid t6
          have SS : Hid (∀ V, Below wp.heap.size wp V → V.cell? ⟨bb, oo + j * 3 + 1, none⟩ = some (.int .i64 pid) ∧ V.cell? ⟨rb, 1, none⟩ = some (.slice (some ⟨g5, 0, none⟩) m c5)) := Lib.hid fun V hV => ⟨(CB.out V (P6.out.below.trans (hV.mono P6.out.below.size))).2.1, (T6.out.below hV).cells.2.1⟩
          have SP : Hid (∀ V, Below wp.heap.size wp V → (V.cell? ⟨pb, 0, none⟩ = some (.int .i64 x0) ∧ V.cell? ⟨pb, 1, none⟩ = some (.int .i64 x1) ∧ V.cell? ⟨pb, 2, none⟩ = some (.int .i64 x2) ∧ V.cell? ⟨pb, 3, none⟩ = some (.int .u32 x3)) ∧ V.cell? ⟨rb, 1, none⟩ = some (.slice (some ⟨g5, 0, none⟩) m c5) ∧ (V.cell? ⟨g5, q * 4, none⟩ = some (.int .i64 x0) ∧ V.cell? ⟨g5, q * 4 + 1, none⟩ = some (.int .i64 x1) ∧ V.cell? ⟨g5, q * 4 + 2, none⟩ = some (.int .i64 x2) ∧ V.cell? ⟨g5, q * 4 + 3, none⟩ = some (.int .u32 x3))) := Lib.hid fun V hV => by
            have hx := below_block hV XP.out
            have e0 : V.cell? ⟨pb, 0, none⟩ = some (.int .i64 x0) := by rw [cell_of_row _ _ _ _ _ _ hx]; rfl
            have e1 : V.cell? ⟨pb, 1, none⟩ = some (.int .i64 x1) := by rw [cell_of_row _ _ _ _ _ _ hx]; rfl
            have e2 : V.cell? ⟨pb, 2, none⟩ = some (.int .i64 x2) := by rw [cell_of_row _ _ _ _ _ _ hx]; rfl
            have e3 : V.cell? ⟨pb, 3, none⟩ = some (.int .u32 x3) := by rw [cell_of_row _ _ _ _ _ _ hx]; rfl
            obtain ⟨b2, hb2, -, k0, k1, k2, k3⟩ := (PrsAt.of_row (T6.out.below hV).row).at_ hpl hpx
            obtain rfl : g5 = b2 := by simpa using hb2
            exact ⟨⟨e0, e1, e2, e3⟩, (T6.out.below hV).cells.2.1, k0, k1, k2, k3⟩
          have AT : Hid (∀ V, Below wp.heap.size wp V → Calls Try.prog 16 #[(.slice (some ⟨g5, 0, none⟩) m c5), .int .i64 pid] V fun e w' => e = .returned (.int .i64 (q : Int)) ∧ V = w') := Lib.hid fun V hV => AI.out _ V (PrsAt.of_row (T6.out.below hV).row)
          have DD : Hid (Below wp.heap.size wp wp.drew) := Lib.hid (Below.refl _ _).drew
          obtain ⟨s1, s2⟩ := SS.out wp (Below.refl _ _)
          clear t6 hpl hpx hm
          go_region_held3 (fun V => V.cell? ⟨bb, oo + j * 3 + 1, none⟩ = some (.int .i64 pid) ∧ V.cell? ⟨rb, 1, none⟩ = some (.slice (some ⟨g5, 0, none⟩) m c5)) (first | with_reducible exact SS.out _ DD.out) (first | (go_at_call 16; refine (AT.out _ DD.out).mono ?_; rintro e w9 ⟨rfl, rfl⟩))
          clear s1 s2
          obtain ⟨⟨p0, p1, p2, p3⟩, p4, k0, k1, k2, k3⟩ := SP.out wp (Below.refl _ _)
          go_wp2_with fail
          go_quiet (fail)
          all_goals
            go_wp2_with fail
            go_roundw
            case rel => exact ⟨j + 1, L2, by go_num, by omega, P6.out.step (by first | exact (Below.refl _ _).drew | exact (Below.refl _ _).drew.drew | exact (Below.refl _ _).drewN _ | (refine ⟨rfl, rfl, rfl, Nat.le_refl _, fun _ _ => rfl⟩))⟩
            case measure => simp [intOf]; omega
    · obtain rfl : j = N := by omega
      have d2 : decide ((j : Int) < (j : Int)) = false := decide_eq_false (by omega)
      clear hlt
      go_wp2_with fail
      refine (awake13 _).mono ?_
      rintro e w9 ⟨rfl, hb⟩
      have B9 := Lib.hid (PP.out.below.trans (hb.mono PP.out.below.size))
      clear hb
      go_wp2
      go_ret
      exact ⟨rfl, B9.out⟩
theorem slotsPlays_walk (n : Int) (v : Value) (S : List (Int × Int × Int)) (W : World) (_ : I64 n) (hv : ArgOpsY W v S) : Calls Try.prog 3 #[.int .i64 n, v] W fun e w' => e = .returned (.bool true) ∧ Below W.heap.size W w' := by
  have hv' := hv
  obtain ⟨a, c, rfl, _⟩ := hv
  by_cases h : S.length ≤ 200
  · by_cases hq : 1 ≤ n ∧ n ≤ 8
    · exact slotsPlays_in n S _ c a W rfl h hq hv'
    · exact slotsPlays_bad n _ c a W h hq
  · exact slotsPlays_far n _ c a W (by omega)
end Go.Proofs.Ytbmiodkdoacbeaa
