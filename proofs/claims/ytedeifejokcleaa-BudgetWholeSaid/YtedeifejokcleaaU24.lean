/- The walk of BudgetWhole. No condition. -/
import Derived.Test.YtedeifejokcleaaU23
import Derived.Deep.DeepCutAuto
import Derived.Deep.CutBlock
namespace Go.Proofs.Ytedeifejokcleaa
open Go.RowKit Go.Maps
set_option maxRecDepth 100000

theorem int_at (w : World) (a : Value) (t : TypeId) : ∀ j u, [a][j]? = some u → (w.alloc (.cells #[a] t)).cell? ((⟨w.heap.size, 0, none⟩ : Addr).add j) = some u := fun j u hu => by
  rw [Addr.add_mid, Nat.zero_add, cell_of_row _ _ _ _ _ _ (heap_alloc_new w _)]
  simpa using hu
theorem intInfo : (Try.prog.info? 3).map (fun i => (i.zero, i.size, i.bytes)) = some (some (.int .i64 0), 1, 8) := by kernel_rfl
set_option maxHeartbeats 2000000 in
theorem whole11_out (q : Int) (n c : Nat) (a : Option Addr) (W : World) (h : 200 < n) (hq : numB q = true) : Calls Try.prog 5 #[.int .i64 q, .slice a n c] W fun e w' => e = .returned (.bool true) ∧ Below W.heap.size W w' := by
  have NO := Lib.hid (ob_new (W := W) q (Below.refl _ _) hq)
  clear hq
  go_enter Try.func5, Try.ntmps5
  go_wp2_with fail
  refine NO.out.mono ?_
  rintro e w1 ⟨b, rfl, h, -⟩
  have H1 := Lib.hid h.below
  clear h
  go_wp2_with fail
  refine (awake11 _).mono ?_
  rintro e w2 ⟨rfl, hb⟩
  have B2 := Lib.hid (H1.out.trans (hb.mono H1.out.size))
  clear hb
  go_wp2
  go_ret
  exact ⟨rfl, B2.out⟩
theorem whole11_bad (q : Int) (n c : Nat) (a : Option Addr) (W : World) (hq : numB q = false) : Calls Try.prog 5 #[.int .i64 q, .slice a n c] W fun e w' => e = .returned (.bool true) ∧ Below W.heap.size W w' := by
  have NB := Lib.hid (new11_bad q W hq)
  clear hq
  go_enter Try.func5, Try.ntmps5
  go_wp2_with fail
  refine NB.out.mono ?_
  rintro e w1 ⟨rfl, rfl⟩
  go_wp2_with fail
  refine (awake11 _).mono ?_
  rintro e w1 ⟨rfl, hb⟩
  have B1 := Lib.hid hb
  clear hb
  go_wp2
  go_ret
  exact ⟨rfl, B1.out⟩
set_option maxHeartbeats 16000000 in
theorem whole11_in (q : Int) (S : List Op11) (n c : Nat) (a : Option Addr) (W : World) (hn : n = S.length) (h : n ≤ 200) (hq : numB q = true) (hv : ArgOps11 W (.slice a n c) S) : Calls Try.prog 5 #[.int .i64 q, .slice a n c] W fun e w' => e = .returned (.bool true) ∧ Below W.heap.size W w' := by
  obtain ⟨ii, hi, hi0, hi1, hi2⟩ := info_parts intInfo
  have NO := Lib.hid (ob_new (W := W) q (Below.refl _ _) hq)
  have T1 := Lib.hid (Tree.one (q := q) (by simpa [numB] using hq))
  have HV := Lib.hid hv
  have HN := Lib.hid hn
  clear hq hv hn
  go_enter Try.func5, Try.ntmps5
  go_wp2_with fail
  refine NO.out.mono ?_
  rintro e w1 ⟨b, rfl, h1, -⟩
  have H1 := Lib.hid h1
  clear h1
  go_wp2_with fail
  go_loopw [7] (fun i wr => ∃ (j : Nat) (L : List Nd), i = .int .i64 (j : Int) ∧ j ≤ n ∧ OB W wr b (fun _ => False) L ∧ Tree q L) (fun i _ => (n - (intOf i).toNat))
  case atStart => exact ⟨0, _, rfl, Nat.zero_le _, H1.out, T1.out⟩
  case round =>
    obtain ⟨j, L, rfl, hj, hO, hT⟩ := hrel
    obtain ⟨V0, rfl⟩ : ∃ V0, V0 = wr := ⟨_, rfl⟩
    have OO := Lib.hid hO
    have TT := Lib.hid hT
    clear hO hT
    by_cases hlt : j < n
    · have hjl : j < S.length := by rw [← HN.out]; exact hlt
      obtain ⟨⟨d, id, up, k⟩, hx⟩ : ∃ y, S.getD j default = y := ⟨_, rfl⟩
      obtain ⟨g, o, rfl, h64, hc⟩ := HV.out.at_ hjl hx
      obtain ⟨y0, y1, y2, y3⟩ := hc _ OO.out.below
      have hlt2 : (j : Int) < (n : Int) := by omega
      obtain ⟨w0, hw0⟩ : ∃ w0, w0 = V0.alloc (.cells #[.int .i64 d, .int .i64 id, .int .i64 up, .int .i64 k] 34) := ⟨_, rfl⟩
      have B0 : Hid (Below V0.heap.size V0 w0) := Lib.hid (by rw [hw0]; exact (Below.refl _ _).alloc (Nat.le_refl _) _)
      have X0 : Hid (w0.heap[V0.heap.size]? = some (.cells #[.int .i64 d, .int .i64 id, .int .i64 up, .int .i64 k] 34 (0, 0))) := Lib.hid (by rw [hw0]; exact heap_alloc_new V0 _)
      have O0 := Lib.hid (OO.out.step B0.out)
      clear hx hc h64
      go_wp2_with fail
      rw [← hw0]
      clear hw0 y0 y1 y2 y3
      refine (ob_all O0.out).mono ?_
      rintro e w3 ⟨vw, rfl, ho, hb⟩
      have B3 := Lib.hid (B0.out.trans (hb.mono B0.out.size))
      have X3 := Lib.hid (below_block hb X0.out)
      have O3 := Lib.hid (O0.out.step hb)
      have R3 := Lib.hid (own_base ho (Nat.le_trans B0.out.size (Nat.le_refl _)))
      have N3 := Lib.hid (NdsAt.of_row ho)
      clear ho hb
      obtain ⟨m, hm⟩ : ∃ m, m = L.length := ⟨_, rfl⟩
      have HM := Lib.hid hm
      have hm8 : m ≤ 8 := by rw [hm]; exact TT.out.good.len
      obtain ⟨aw, cw, rfl⟩ := N3.out.form
      rw [← hm] at N3 R3 ⊢
      clear hm
      go_wp2_with fail
      go_loopw [10, 11] (fun lv kv wr2 => ∃ t : Nat, kv = .int .i64 (t : Int) ∧ t ≤ m ∧ wr2.ownsRow w3.heap.size 3 1 lv t (lftV L (L.take t)) ∧ Below w3.heap.size w3 wr2) (fun _ kv _ => (m - (intOf kv).toNat))
      case atStart => exact ⟨0, rfl, Nat.zero_le _, World.ownsRow_nil _ _ _ _, Below.refl _ _⟩
      case round =>
        obtain ⟨t, rfl, ht, hR, hB⟩ := hrel
        have RL := Lib.hid hR
        have BL := Lib.hid hB
        obtain ⟨al, cl, rfl⟩ := owns_slice hR
        clear hR hB
        by_cases hlt3 : t < m
        · as_aux_lemma =>
            have htl : t < L.length := by rw [← HM.out]; exact hlt3
            obtain ⟨⟨x0, x1, x2, x3⟩, hx⟩ : ∃ y, L.getD t default = y := ⟨_, rfl⟩
            obtain ⟨bw, rfl, hbl, y0, -, -, -⟩ := (N3.out.below BL.out).at_ htl hx
            simp only at y0
            have hin : (x0, x1, x2, x3) ∈ L := by rw [← hx]; exact getD_memN htl
            obtain ⟨df, hdf⟩ : ∃ df, leftN L (x0, x1, x2, x3) = df := ⟨_, rfl⟩
            have hlf : leftL L x0 = df := by rw [← hdf]; exact leftL_in TT.out.good.up hin
            have HLF := Lib.hid hlf
            have SN : Hid (lftV L (L.take (t + 1)) = lftV L (L.take t) ++ [.int .i64 df]) := Lib.hid (by rw [take_snoc htl, lftV_snoc, hx, hdf])
            clear hx hin hdf hlf
            go_wp2_with fail
            refine (ob_left (O3.out.step BL.out) x0 HLF.out).mono ?_
            rintro e w5 ⟨rfl, hb⟩
            have B5 := Lib.hid (BL.out.trans (hb.mono BL.out.size))
            have RC := Lib.hid ((own_step RL.out hb).alloc (.cells #[.int .i64 df] 3))
            have BC : Hid (Below w3.heap.size w3 (w5.alloc (.cells #[.int .i64 df] 3))) := Lib.hid (B5.out.alloc B5.out.size _)
            have NEWS := Lib.hid (int_at w5 (.int .i64 df) 3)
            clear hb y0
            go_wp2_with (at_builtin; refine wpList_append_own _ rfl (.tmp 50) (.tmp 58) 47 rfl w3.heap.size 3 ii (.int .i64 0) 1 8 Try.underlying47 hi hi0 hi1 hi2 rfl (by decide) _ t _ rfl RC.out ⟨w5.heap.size, 0, none⟩ 1 1 [.int .i64 df] rfl rfl NEWS.out (by simp [Value.oneCell']) (by unfold maxLen; omega) (by omega) BC.out.size ?_; intro v7 w7 ho hg _; have B7 := Lib.hid (BC.out.grown hg BC.out.size (fun k hk => (RC.out.lt k hk).1)); have O7 := Lib.hid ho; clear ho hg)
            go_roundw
            case rel => exact ⟨t + 1, by go_num, by omega, by rw [SN.out]; exact O7.out, B7.out⟩
            case measure => simp [intOf]; omega
        · obtain rfl : t = m := by omega
          clear hlt3
          have BV := Lib.hid (B3.out.trans (BL.out.mono B3.out.size))
          have WS : Hid (WhSt W wr b V0.heap.size (.slice aw t cw) (.slice al t cl) L L d id up k) := Lib.hid (by
            have r1 := own_step R3.out BL.out
            have r2 := own_base RL.out B3.out.size
            refine ⟨OO.out.more BV.out fun g hg => ?_, below_block BL.out X3.out, ?_, ?_⟩
            · have hlt0 : V0.heap.size < wr.heap.size := lt_of_block (below_block BL.out X3.out)
              rcases hg with rfl | hg | hg
              · exact ⟨Or.inr (Nat.le_refl _), hlt0⟩
              · exact ⟨Or.inr (r1.lt g hg).1, (r1.lt g hg).2⟩
              · exact ⟨Or.inr (r2.lt g hg).1, (r2.lt g hg).2⟩
            · rw [← HM.out]
              exact own_base r1 OO.out.below.size
            · rw [HM.out, List.take_length, ← HM.out] at r2
              rw [← HM.out]
              exact own_base r2 OO.out.below.size)
          clear BL RL B3 X3 O3 R3
          have NW : Hid (∀ V, Below wr.heap.size wr V → NdsAt V (.slice aw t cw) L) := Lib.hid fun V hV => by
            have h1 := NdsAt.of_row (own_step WS.out.was hV)
            exact h1
          obtain ⟨z0, z1, z2, z3, -⟩ := box4 WS.out.box
          obtain ⟨ki, hki⟩ : ∃ ki, atI L id = ki := ⟨_, rfl⟩
          have AT := Lib.hid (rat11 L (.slice aw t cw) id wr (Nat.le_trans TT.out.good.len (by decide)) (NW.out _ (Below.refl _ _)) hki)
          have HKI := Lib.hid hki
          clear hki
          go_wp2_with fail
          refine AT.out.mono ?_
          rintro e w5 ⟨rfl, rfl⟩
          go_upto_if 65 with fail
          go_cut [12] (fun uu wx => ∃ uv0, uu = .int .i64 uv0 ∧ wx = wr ∧ ∀ x, atN id L = some x → x.2.1 = uv0)
          case first =>
            as_aux_lemma =>
              cases ha : atN id L with
              | none =>
                obtain rfl : ki = -1 := by rw [← HKI.out]; exact atI_none ha
                have HA := Lib.hid ha
                clear ha
                go_wp2_with fail
                go_meet
                case rel => exact ⟨0, rfl, rfl, fun x hx => by rw [HA.out] at hx; cases hx⟩
              | some x =>
                obtain ⟨hpl, hpx⟩ := pos_at ha
                obtain ⟨kk, hkk⟩ : ∃ kk, posN id L = kk := ⟨_, rfl⟩
                obtain rfl : ki = (kk : Int) := by rw [← HKI.out, atI_some ha, hkk]
                rw [hkk] at hpl hpx
                have hdk : decide ((0 : Int) ≤ (kk : Int)) = true := decide_eq_true (by omega)
                obtain ⟨bw0, hbw0, -, -, p1, -, -⟩ := (NW.out _ (Below.refl _ _)).at_ hpl hpx
                subst hbw0
                have hkt : (kk : Int) < (t : Int) := by have := HM.out; omega
                have HA := Lib.hid ha
                clear ha hpl hpx hkk
                go_wp2_with fail
                go_meet
                case rel => exact ⟨_, rfl, rfl, fun y hy => by rw [HA.out] at hy; cases hy; rfl⟩
          case rest =>
            obtain ⟨uv0, rfl, rfl, huv0⟩ := hcut
            have HUV := Lib.hid huv0
            clear huv0 HKI AT
            go_upto_block 4 with fail
            go_cut [12, 14] (fun uu ff wx => ∃ (uv er : Int) (L' : List Nd), uu = .int .i64 uv ∧ ff = .int .i64 er ∧ WhSt W wx b V0.heap.size (.slice aw t cw) (.slice al t cl) L L' d id up k ∧ Tree q L' ∧ (er ≠ 0 → L' = L) ∧ ∀ i, i ≠ id → i ≠ uv → leftL L' i = leftL L i)
            case first =>
              as_aux_lemma =>
                by_cases c1 : d = 1
                · as_aux_lemma =>
                    subst c1
                    obtain ⟨er, her⟩ : ∃ er, openE L id up k = er := ⟨_, rfl⟩
                    have HER := Lib.hid her
                    have STY := Lib.hid (fun hne : er ≠ 0 => openL_stay her hne)
                    clear her
                    go_wp2_with (go_at_call 17; refine (ob_open WS.out.ob id up k HER.out).mono ?_; rintro e w6 ⟨rfl, h, hk⟩; have W6 := Lib.hid (WS.out.turn h hk); clear h hk z0 z1 z2 z3; obtain ⟨z0, z1, z2, z3, -⟩ := box4 W6.out.box)
                    go_meet
                    case rel => exact ⟨up, er, _, rfl, rfl, W6.out, TT.out.open id up k, STY.out, fun i h1 h2 => open_far id up k i h1 h2⟩
                by_cases c2 : d = 2
                · as_aux_lemma =>
                    subst c2
                    obtain ⟨er, her⟩ : ∃ er, closeE L id = er := ⟨_, rfl⟩
                    have HER := Lib.hid her
                    have STY := Lib.hid (fun hne : er ≠ 0 => closeL_stay her hne)
                    clear her
                    go_wp2_with (go_at_call 18; refine (ob_close WS.out.ob id HER.out).mono ?_; rintro e w6 ⟨rfl, h, hk⟩; have W6 := Lib.hid (WS.out.turn h hk); clear h hk z0 z1 z2 z3; obtain ⟨z0, z1, z2, z3, -⟩ := box4 W6.out.box)
                    go_meet
                    case rel => exact ⟨uv0, er, _, rfl, rfl, W6.out, TT.out.close id, STY.out, fun i h1 h2 => close_far TT.out id i h1 (fun x hx => by rw [HUV.out x hx]; exact h2)⟩
                by_cases c3 : d = 3
                · as_aux_lemma =>
                    subst c3
                    obtain ⟨er, her⟩ : ∃ er, chargeE L id k = er := ⟨_, rfl⟩
                    have HER := Lib.hid her
                    have STY := Lib.hid (fun hne : er ≠ 0 => chargeL_stay her hne)
                    clear her
                    go_wp2_with (go_at_call 19; refine (ob_charge WS.out.ob id k HER.out).mono ?_; rintro e w6 ⟨rfl, h, hk⟩; have W6 := Lib.hid (WS.out.turn h hk); clear h hk z0 z1 z2 z3; obtain ⟨z0, z1, z2, z3, -⟩ := box4 W6.out.box)
                    go_meet
                    case rel => exact ⟨0, er, _, rfl, rfl, W6.out, TT.out.charge id k, STY.out, fun i h1 _ => charge_far id k i h1⟩
                by_cases c4 : d = 4
                · as_aux_lemma =>
                    subst c4
                    obtain ⟨er, her⟩ : ∃ er, refundE L id k = er := ⟨_, rfl⟩
                    have HER := Lib.hid her
                    have STY := Lib.hid (fun hne : er ≠ 0 => refundL_stay her hne)
                    clear her
                    go_wp2_with (go_at_call 20; refine (ob_refund WS.out.ob id k HER.out).mono ?_; rintro e w6 ⟨rfl, h, hk⟩; have W6 := Lib.hid (WS.out.turn h hk); clear h hk z0 z1 z2 z3; obtain ⟨z0, z1, z2, z3, -⟩ := box4 W6.out.box)
                    go_meet
                    case rel => exact ⟨0, er, _, rfl, rfl, W6.out, TT.out.refund id k, STY.out, fun i h1 _ => refund_far id k i h1⟩
                have d1 : (d == 1) = false := by simpa using c1
                have d2 : (d == 2) = false := by simpa using c2
                have d3 : (d == 3) = false := by simpa using c3
                have d4 : (d == 4) = false := by simpa using c4
                go_wp2_with fail
                go_meet
                case rel => exact ⟨uv0, 0, L, rfl, rfl, WS.out, TT.out, fun _ => rfl, fun _ _ _ => rfl⟩
            case rest =>
              obtain ⟨uv, er, L', rfl, rfl, hW, hT', hst, hfar⟩ := hcut
              have WC := Lib.hid hW
              have TL := Lib.hid hT'
              have FAR := Lib.hid hfar
              clear hW hT' hfar z0 z1 z2 z3
              have HST := Lib.hid hst
              clear hst
              go_upto_region 31 with fail
              go_cut [115] (fun vv wx => vv = .bool false ∧ WhSt W wx b V0.heap.size (.slice aw t cw) (.slice al t cl) L L' d id up k)
              case first =>
                as_aux_lemma =>
                  by_cases he : er = 0
                  · subst he
                    go_wp2_with fail
                    go_meet
                    case rel => exact ⟨rfl, WC.out⟩
                  · have de : (er != 0) = true := by simpa using he
                    have EQ := Lib.hid (HST.out he)
                    clear he
                    go_wp2_with fail
                    refine (ob_all WC.out.ob).mono ?_
                    rintro e w6 ⟨v6, rfl, ho, hb⟩
                    have W6 := Lib.hid (WC.out.step hb)
                    have N6 := Lib.hid (NdsAt.of_row ho)
                    rw [EQ.out] at N6
                    clear ho hb
                    go_wp2_with fail
                    refine (same11 L v6 (.slice aw t cw) w6 (Nat.le_trans TT.out.good.len (by decide)) N6.out (NdsAt.of_row W6.out.was)).mono ?_
                    rintro e w7 ⟨rfl, hb⟩
                    have W7 := Lib.hid (W6.out.step hb)
                    clear hb
                    go_wp2_with fail
                    go_meet
                    case rel => exact ⟨rfl, W7.out⟩
              case rest =>
                obtain ⟨rfl, hW⟩ := hcut
                have WD := Lib.hid hW
                clear hW WC
                go_wp2_with fail
                go_loopw [15] (fun tv wr3 => ∃ s : Nat, tv = .int .i64 (s : Int) ∧ s ≤ t ∧ WhSt W wr3 b V0.heap.size (.slice aw t cw) (.slice al t cl) L L' d id up k) (fun tv _ => (t - (intOf tv).toNat))
                case atStart => exact ⟨0, rfl, Nat.zero_le _, WD.out⟩
                case round =>
                  obtain ⟨s, rfl, hs, hW3⟩ := hrel
                  have W3 := Lib.hid hW3
                  clear hW3
                  by_cases hlt4 : s < t
                  · as_aux_lemma =>
                      have hsl : s < L.length := by rw [← HM.out]; exact hlt4
                      obtain ⟨⟨x0, x1, x2, x3⟩, hx⟩ : ∃ y, L.getD s default = y := ⟨_, rfl⟩
                      obtain ⟨bw, rfl, hbl, q0, -, -, -⟩ := NdsAt.at_ (NdsAt.of_row W3.out.was) hsl hx
                      have hin : (x0, x1, x2, x3) ∈ L := by rw [← hx]; exact getD_memN hsl
                      obtain ⟨df, hdf⟩ : ∃ df, leftN L (x0, x1, x2, x3) = df := ⟨_, rfl⟩
                      have hlf : leftL L x0 = df := by rw [← hdf]; exact leftL_in TT.out.good.up hin
                      have hlv := lftV_get (L := L) hsl
                      rw [hx, hdf] at hlv
                      obtain ⟨-, hz⟩ | ⟨bl, c9, hle, -, -, hbl2, hcs⟩ := row_all W3.out.left
                      · have := HM.out; omega
                      injection hle with e1 e2 e3
                      subst e1
                      have hl0 := hcs wr (Below.refl _ _) _ _ hlv
                      rw [Addr.add_mid, Nat.zero_add] at hl0
                      obtain ⟨z0, z1, z2, z3, -⟩ := box4 W3.out.box
                      have hbx : V0.heap.size < wr.heap.size := lt_of_block W3.out.box
                      simp only at q0
                      have hst2 : (s : Int) < (t : Int) := by omega
                      have CF : Hid (∀ V, Below wr.heap.size wr V → V.cell? ⟨bw, s * 4, none⟩ = some (.int .i64 x0) ∧ V.cell? ⟨V0.heap.size, 1, none⟩ = some (.int .i64 id) ∧ V.cell? ⟨bl, s, none⟩ = some (.int .i64 df)) := Lib.hid fun V hV => ⟨(hV.cell (p := ⟨bw, _, none⟩) hbl).trans q0, (hV.cell (p := ⟨_, 1, none⟩) hbx).trans z1, (hV.cell (p := ⟨bl, _, none⟩) hbl2).trans hl0⟩
                      have HLF := Lib.hid hlf
                      clear hx hin hdf hlf hlv hcs e2 e3 z0 z2 z3
                      by_cases c1 : x0 = id
                      · have e1 : (x0 != id) = false := by simp [c1]
                        clear c1
                        go_wp2_with fail
                        go_quiet (fail)
                        go_wp2_with fail
                        go_roundw
                        case rel => exact ⟨s + 1, by go_num, by omega, W3.out.step (below_drewN (Below.refl _ _) _)⟩
                        case measure => simp [intOf]; omega
                      · have e1 : (x0 != id) = true := by simpa using c1
                        by_cases c2 : x0 = uv
                        · have e2 : (x0 != uv) = false := by simp [c2]
                          clear c1 c2
                          go_wp2_with fail
                          go_quiet (fail)
                          go_wp2_with fail
                          go_roundw
                          case rel => exact ⟨s + 1, by go_num, by omega, W3.out.step (below_drewN (Below.refl _ _) _)⟩
                          case measure => simp [intOf]; omega
                        · have e2 : (x0 != uv) = true := by simpa using c2
                          have HL2 : Hid (leftL L' x0 = df) := Lib.hid (by rw [FAR.out x0 c1 c2]; exact HLF.out)
                          have D3 : Hid (Below wr.heap.size wr wr.drew) := Lib.hid (Below.refl _ _).drew
                          clear c1 c2
                          go_wp2_with fail
                          go_region_held3 (fun V => V.cell? ⟨bw, s * 4, none⟩ = some (.int .i64 x0) ∧ V.cell? ⟨V0.heap.size, 1, none⟩ = some (.int .i64 id) ∧ V.cell? ⟨bl, s, none⟩ = some (.int .i64 df)) (first | with_reducible exact CF.out _ D3.out | with_reducible exact CF.out w9 B9.out)
                            (first
                              | (go_at_call 13; refine (ob_left (W3.out.step D3.out).ob x0 HL2.out).mono ?_; rintro e w9 ⟨rfl, hb⟩; have B9 := Lib.hid (D3.out.trans (hb.mono D3.out.size)); clear hb))
                          clear q0 z1 hl0
                          go_wp2_with fail
                          go_roundw
                          case rel => exact ⟨s + 1, by go_num, by omega, W3.out.step B9.out⟩
                          case measure => simp [intOf]; omega
                  · obtain rfl : s = t := by omega
                    clear hlt4
                    go_wp2_with fail
                    refine (ob_all W3.out.ob).mono ?_
                    rintro e w8 ⟨vn, rfl, ho, hb⟩
                    have O8 := Lib.hid (W3.out.ob.step hb)
                    have N8 := Lib.hid (NdsAt.of_row ho)
                    clear ho hb
                    obtain ⟨m8, hm8'⟩ : ∃ m8, m8 = L'.length := ⟨_, rfl⟩
                    have HM8 := Lib.hid hm8'
                    have hm88 : m8 ≤ 8 := by rw [hm8']; exact TL.out.good.len
                    obtain ⟨an, cn, rfl⟩ := N8.out.form
                    rw [← hm8'] at N8 ⊢
                    have hq := TL.out.quota
                    clear hm8'
                    go_wp2_with fail
                    go_loopw [16, 18] (fun nv kv wr4 => ∃ s : Nat, kv = .int .i64 (s : Int) ∧ nv = .int .i64 (sumF (fun n => n.2.2.2 + leftN L' n) (L'.take s)) ∧ s ≤ m8 ∧ Below w8.heap.size w8 wr4) (fun _ kv _ => (m8 - (intOf kv).toNat))
                    case atStart => exact ⟨0, rfl, rfl, Nat.zero_le _, Below.refl _ _⟩
                    case round =>
                      obtain ⟨r, rfl, rfl, hr, hB⟩ := hrel
                      have B4 := Lib.hid hB
                      clear hB
                      by_cases hlt5 : r < m8
                      · as_aux_lemma =>
                          have hrl : r < L'.length := by rw [← HM8.out]; exact hlt5
                          obtain ⟨⟨x0, x1, x2, x3⟩, hx⟩ : ∃ y, L'.getD r default = y := ⟨_, rfl⟩
                          obtain ⟨bn, rfl, hbl, q0, -, -, q3⟩ := N8.out.at_ hrl hx
                          have hin : (x0, x1, x2, x3) ∈ L' := by rw [← hx]; exact getD_memN hrl
                          obtain ⟨df, hdf⟩ : ∃ df, leftN L' (x0, x1, x2, x3) = df := ⟨_, rfl⟩
                          have hlf : leftL L' x0 = df := by rw [← hdf]; exact leftL_in TL.out.good.up hin
                          have hd0 : 0 ≤ df := by rw [← hdf]; exact TL.out.left _ hin
                          have hx0 := (TL.out.good.ok _ hin).2.2.2
                          have hp1 := sumF_part TL.out r
                          have hp2 := sumF_part TL.out (r + 1)
                          have hsn : sumF (fun n => n.2.2.2 + leftN L' n) (L'.take (r + 1)) = sumF (fun n => n.2.2.2 + leftN L' n) (L'.take r) + (x3 + df) := by
                            rw [take_snoc hrl, sumF_append, hx]
                            simp only [sumF, hdf]
                            omega
                          simp only at q0 q3 hx0
                          obtain ⟨acc, hacc⟩ : ∃ acc, sumF (fun n => n.2.2.2 + leftN L' n) (L'.take r) = acc := ⟨_, rfl⟩
                          have SN : Hid (sumF (fun n => n.2.2.2 + leftN L' n) (L'.take (r + 1)) = acc + x3 + df) := Lib.hid (by rw [hsn, hacc]; omega)
                          rw [hacc] at hp1 ⊢
                          rw [SN.out] at hp2
                          have wa1 : IntKind.i64.wrap (acc + x3) = acc + x3 := IntWalk.i64_in _ (by omega)
                          have wa2 : IntKind.i64.wrap (acc + x3 + df) = acc + x3 + df := IntWalk.i64_in _ (by omega)
                          have hrt : (r : Int) < (m8 : Int) := by omega
                          have CF : Hid (∀ V, Below w8.heap.size w8 V → V.cell? ⟨bn, r * 4 + 3, none⟩ = some (.int .i64 x3) ∧ V.cell? ⟨bn, r * 4, none⟩ = some (.int .i64 x0)) := Lib.hid fun V hV => ⟨(hV.cell (p := ⟨bn, _, none⟩) hbl).trans q3, (hV.cell (p := ⟨bn, _, none⟩) hbl).trans q0⟩
                          have HLF := Lib.hid hlf
                          obtain ⟨p3, p0⟩ := CF.out wr B4.out
                          clear hx hin hdf hlf hsn hacc q0 q3
                          go_wp2_with fail
                          refine (ob_left (O8.out.step B4.out) x0 HLF.out).mono ?_
                          rintro e w10 ⟨rfl, hb⟩
                          have B10 := Lib.hid (B4.out.trans (hb.mono B4.out.size))
                          clear hb p3 p0
                          obtain ⟨p3, p0⟩ := CF.out w10 B10.out
                          have D10 : Hid (Below w8.heap.size w8 w10.drew) := Lib.hid B10.out.drew
                          go_wp2_with fail
                          go_region_held3 (fun V => V.cell? ⟨bn, r * 4 + 3, none⟩ = some (.int .i64 x3) ∧ V.cell? ⟨bn, r * 4, none⟩ = some (.int .i64 x0)) (first | with_reducible exact CF.out _ D10.out | with_reducible exact CF.out w11 B11.out)
                            (first
                              | (go_at_call 13; refine (ob_left (O8.out.step D10.out) x0 HLF.out).mono ?_; rintro e w11 ⟨rfl, hb⟩; have B11 := Lib.hid (D10.out.trans (hb.mono D10.out.size)); clear hb))
                          clear p3 p0
                          go_wp2_with fail
                          go_roundw
                          case rel => exact ⟨r + 1, by go_num, by rw [SN.out], by omega, B11.out⟩
                          case measure => simp [intOf]; omega
                      · obtain rfl : r = m8 := by omega
                        have htot : sumF (fun n => n.2.2.2 + leftN L' n) (L'.take r) = q := by rw [HM8.out, List.take_length]; exact TL.out.total
                        rw [htot]
                        have O12 := Lib.hid ((O8.out.step B4.out).less (F' := fun _ => False) (fun _ h => h.elim))
                        clear hlt5 htot
                        go_wp2_with fail
                        go_roundw
                        case rel => exact ⟨j + 1, L', by go_num, by omega, O12.out, TL.out⟩
                        case measure => simp [intOf]; omega
    · obtain rfl : j = n := by omega
      clear hlt
      go_wp2_with fail
      refine (awake11 _).mono ?_
      rintro e w9 ⟨rfl, hb⟩
      have B9 := Lib.hid (OO.out.below.trans (hb.mono OO.out.below.size))
      clear hb
      go_wp2
      go_ret
      exact ⟨rfl, B9.out⟩
theorem budgetWhole_walk (q : Int) (v : Value) (S : List Op11) (W : World) (_ : I64 q) (hv : ArgOps11 W v S) : Calls Try.prog 5 #[.int .i64 q, v] W fun e w' => e = .returned (.bool true) ∧ Below W.heap.size W w' := by
  have hv' := hv
  obtain ⟨a, c, rfl, _⟩ := hv
  cases hq : numB q with
  | false => exact whole11_bad q _ c a W hq
  | true =>
    by_cases h : S.length ≤ 200
    · exact whole11_in q S _ c a W rfl h hq hv'
    · exact whole11_out q _ c a W (by omega) hq
end Go.Proofs.Ytedeifejokcleaa
