/- The walk of ChansApart, where all is well. Condition: the configuration and the script lie as they came in. Written by gen/gen_h25.py. -/
import Derived.Test.YtnapodeiigkebaaH24
namespace Go.Proofs.Ytnapodeiigkebaa
open Go.RowKit
set_option maxRecDepth 100000

set_option maxHeartbeats 4000000 in
theorem apart_in {v1 v2 v3 : Value} {C : Cf} {W : World} (CF : CfAt W v1 v2 v3 C) (hl : ¬ longC C) (hk : chk C = 0) (v : Value) (S : List Op20) (hS : ArgOps20 W v S) (hS60 : S.length ≤ 60) (only : Int) :
    Calls Try.prog 4 #[.agg #[v1, v2, v3], v, .int .i64 only] W fun e w' => e = .returned (.bool true) ∧ Below W.heap.size W w' := by
  obtain ⟨la, lc, rfl, hI, hS2⟩ := hS
  have SL := Lib.hid fun (j : Nat) (hj : j < S.length) => show ∃ lb lo u, la = some ⟨lb, lo, none⟩ ∧ (∀ V, Below W.heap.size W V → V.cell? ⟨lb, lo + j * 4, none⟩ = some (.int .i64 (S.getD j default).1) ∧ V.cell? ⟨lb, lo + j * 4 + 1, none⟩ = some (.int .i64 (S.getD j default).2.1) ∧ V.cell? ⟨lb, lo + j * 4 + 2, none⟩ = some (.int .i64 (S.getD j default).2.2.1) ∧ V.cell? ⟨lb, lo + j * 4 + 3, none⟩ = some u) ∧ ArgMs W u (S.getD j default).2.2.2 from by
    obtain ⟨lb, lo, rfl, hlt, hc⟩ := hS2.resolve_left (by rintro rfl; simp at hj)
    obtain ⟨u, h0, h1, h2, h3, h4⟩ := hc j hj
    exact ⟨lb, lo, u, rfl, fun V hV => ⟨(hV.cell (p := ⟨lb, lo + j * 4, none⟩) hlt).trans h0, (hV.cell (p := ⟨lb, lo + j * 4 + 1, none⟩) hlt).trans h1, (hV.cell (p := ⟨lb, lo + j * 4 + 2, none⟩) hlt).trans h2, (hV.cell (p := ⟨lb, lo + j * 4 + 3, none⟩) hlt).trans h3⟩, h4⟩
  have V1 := Lib.hid (CvH.new CF)
  have LA := Lib.hid fun V (h : CvH W V v1 v2 v3 C) => long20_no _ _ _ C V h.conf hl
  have KA := Lib.hid fun V (h : CvH W V v1 v2 v3 C) => rcheck_ok _ _ _ C V h.conf
  rw [hk] at KA
  obtain ⟨f1, f2⟩ := framesC_pos hk
  have NM := Lib.hid fun V => new_ok 1024 V (by decide) (by decide)
  have NW := Lib.hid fun V mp fb (hM : OwnMem W V mp fb 1024 (List.replicate (1024 * 32) 0)) (h : CvH W V v1 v2 v3 C) => newH_ok hM.st (zeros_wd _) h.conf hk (by omega)
  have CFh := Lib.hid CF
  have HK := Lib.hid hk
  obtain ⟨ns, hns⟩ : ∃ ns, ns = S.length := ⟨_, rfl⟩
  rw [← hns] at hS60 SL ⊢
  have d3 : decide (60 < ns) = false := decide_eq_false (by omega)
  clear CF hl hk f1 f2 hS2 hns hI
  go_enter Try.func4, Try.ntmps4
  go_wp2_with (first
    | (go_at_call 8; refine (LA.out _ V1.out).mono ?_; rintro e w2 ⟨rfl, hb⟩; have V2 := Lib.hid (V1.out.step hb); have x0 := V2.out.box.c0; have x1 := V2.out.box.c1; have x2 := V2.out.box.c2; clear hb)
    | (go_at_call 12; refine (KA.out _ V2.out).mono ?_; rintro e w3 ⟨rfl, hb⟩; have V3 := Lib.hid (V2.out.step hb); clear hb))
  refine (NM.out _).mono ?_
  intro e w4 hp
  obtain ⟨mp, fb, rfl, hm⟩ := OwnMem.new hp
  have V4 := Lib.hid (V3.out.step hm.below)
  have M4 := Lib.hid (OwnMem.late V3.out.below hm)
  clear hm hp
  go_wp2_with fail
  refine (NM.out _).mono ?_
  intro e w5 hp
  obtain ⟨mp2, fb2, rfl, hm⟩ := OwnMem.new hp
  have V5 := Lib.hid (V4.out.step hm.below)
  have M5 := Lib.hid (M4.out.step hm.below)
  have M5b := Lib.hid (OwnMem.late V4.out.below hm)
  have DK : Hid ((mp < w4.heap.size ∧ fb < w4.heap.size) ∧ w4.heap.size ≤ mp2 ∧ w4.heap.size ≤ fb2) := Lib.hid ⟨⟨lt_of_block M4.out.st.box, lt_of_block M4.out.st.row⟩, hm.lm, hm.lf⟩
  have x0 := V5.out.box.c0
  have x1 := V5.out.box.c1
  have x2 := V5.out.box.c2
  clear hm hp
  go_wp2_with fail
  refine (NW.out _ _ _ M5.out V5.out).mono ?_
  rintro e w6 ⟨X, rfl, hX⟩
  have NX := Lib.hid hX
  have b6 := hX.2.2.2.2.2.2.2.2.2
  have V6 := Lib.hid (V5.out.step b6)
  have M6b := Lib.hid (M5b.out.step b6)
  have x0 := V6.out.box.c0
  have x1 := V6.out.box.c1
  have x2 := V6.out.box.c2
  clear hX b6
  go_wp2_with fail
  refine (NW.out _ _ _ M6b.out V6.out).mono ?_
  rintro e w7 ⟨Y, rfl, hY⟩
  have A7 := Lib.hid (ApSt.start M5.out M5b.out DK.out NX.out hY (V6.out.step hY.2.2.2.2.2.2.2.2.2).box CFh.out)
  have HX : Hid (X.H = C.2.2 ∧ X.fr = frC C ∧ X.mp = mp ∧ X.n = 1024) := Lib.hid ⟨NX.out.2.1, NX.out.2.2.1, NX.out.2.2.2.1, NX.out.2.2.2.2.2.1⟩
  have HY : Hid (Y.H = C.2.2) := Lib.hid hY.2.1
  obtain ⟨xb, hxb⟩ : ∃ xb, xb = X.xb := ⟨_, rfl⟩
  obtain ⟨yb, hyb⟩ : ∃ yb, yb = Y.xb := ⟨_, rfl⟩
  have XB := Lib.hid hxb
  have YB := Lib.hid hyb
  rw [← hxb, ← hyb]
  clear hxb hyb hY x0 x1 x2 NX V1 V2 V3 V4 V5 V6 M4 M5 M5b M6b DK LA KA NM NW
  go_wp2_with fail
  go_loopw [15] (fun q wr => ∃ (j : Nat) (L : List Int), q = .int .i64 (j : Int) ∧ j ≤ 1024 ∧ ApSt W wr v1 v2 v3 C X Y L Q0 Q0 ∧ NineTo L j) (fun q _ => (1024 - (intOf q).toNat))
  case atStart => exact ⟨0, _, rfl, Nat.zero_le _, A7.out, NineTo.zero⟩
  case round =>
    obtain ⟨j, L, rfl, hj, h, hN⟩ := hrel
    have AJ := Lib.hid h
    have NJ := Lib.hid hN
    clear h hN
    by_cases hlt : j < 1024
    · have WJ := AJ.out.write HX.out.2.2.2 j hlt NJ.out
      rw [HX.out.2.2.1] at WJ
      have WJ := Lib.hid WJ
      have g0 : (j : Int) < 1024 := by omega
      go_wp2_with fail
      refine WJ.out.mono ?_
      rintro e w8 ⟨rfl, L', ha, hN⟩
      have A8 := Lib.hid ha
      have N8 := Lib.hid hN
      clear ha hN
      go_wp2
      go_roundw
      case rel => exact ⟨j + 1, L', by go_num, by omega, A8.out, N8.out⟩
      case measure => simp [intOf]; omega
    · obtain rfl : j = 1024 := by omega
      have NL : Hid (∀ k, k < 32768 → ¬ X.inW k → L.getD k 0 = nineH k) := Lib.hid fun k hk _ => by rw [NJ.out k hk, if_pos (by omega)]
      clear NJ
      rw [show ((1024 : Nat) : Int) = 1024 from rfl]
      go_wp2_with fail
      go_loopw [16] (fun q wr => ∃ (t : Nat) (L : List Int) (Qx Qy : Msgs), q = .int .i64 (t : Int) ∧ t ≤ ns ∧ ApSt W wr v1 v2 v3 C X Y L Qx Qy ∧ SameQ C.2.2 only Qx Qy ∧ ∀ k, k < 32768 → ¬ X.inW k → L.getD k 0 = nineH k) (fun q _ => (ns - (intOf q).toNat))
      case atStart => exact ⟨0, L, Q0, Q0, rfl, Nat.zero_le _, AJ.out, fun _ => rfl, NL.out⟩
      case round =>
        obtain ⟨t, L, Qx, Qy, rfl, ht, h, hq, hN⟩ := hrel
        have AT := Lib.hid h
        have SQ := Lib.hid hq
        have NL := Lib.hid hN
        clear h hq hN
        by_cases hlt2 : t < ns
        · obtain ⟨lb, lo, u, rfl, hcell, hu⟩ := SL.out t hlt2
          generalize S.getD t default = o at hcell hu
          obtain ⟨od, op, oc, M⟩ := o
          simp only at hcell hu
          obtain ⟨ua, uc, rfl, -, -, -, hw, hrow⟩ := hu
          obtain ⟨c0, c1, c2, c3⟩ := hcell _ AT.out.below
          have HU : Hid (RowAt W (.slice ua M.length uc) M) := Lib.hid ⟨ua, uc, rfl, hrow⟩
          have HW2 := Lib.hid hw
          obtain ⟨m, hm⟩ : ∃ m, m = M.length := ⟨_, rfl⟩
          have HM := Lib.hid hm
          rw [← hm] at HU c3
          clear hcell hw hrow hm
          obtain ⟨wb, hwb⟩ : ∃ wb, wb = wr.alloc (.cells #[.int .i64 od, .int .i64 op, .int .i64 oc, .slice ua m uc] 45) := ⟨_, rfl⟩
          obtain ⟨ob, hob⟩ : ∃ ob, ob = wr.heap.size := ⟨_, rfl⟩
          have AB : Hid (ApSt W wb v1 v2 v3 C X Y L Qx Qy) := Lib.hid (AT.out.step (by rw [hwb]; exact below_step1 _ _))
          have OB : Hid (wb.heap[ob]? = some (.cells #[.int .i64 od, .int .i64 op, .int .i64 oc, .slice ua m uc] 45 (0, 0))) := Lib.hid (by rw [hwb, hob]; exact heap_alloc_new wr _)
          have HWB := Lib.hid hwb
          have HOB := Lib.hid hob
          clear hwb hob
          by_cases hbig : 100 < m
          · have g0 : decide (100 < m) = true := decide_eq_true hbig
            go_wp2_with fail
            rw [← HWB.out]
            refine (awake20 _).mono ?_
            rintro e w9 ⟨rfl, hb⟩
            have B9 := Lib.hid (AB.out.below.trans (hb.mono AB.out.below.size))
            clear hb
            go_wp2
            go_ret
            exact ⟨rfl, B9.out⟩
          have g0 : decide (100 < m) = false := decide_eq_false hbig
          by_cases h1 : od = 1
          · subst h1
            by_cases hne : oc = only
            · subst hne
              have SX := AB.out.sendX op oc M ua uc (by rw [← HM.out]; exact HU.out.below AB.out.below) HW2.out
              rw [HX.out.1, ← XB.out, ← HM.out] at SX
              obtain ⟨er, her⟩ : ∃ er, er = sendE C.2.2 Qx op oc m := ⟨_, rfl⟩
              rw [← her] at SX
              have SX := Lib.hid SX
              have HE := Lib.hid her
              clear her
              go_wp2_with fail
              rw [← HWB.out, ← HOB.out]
              refine SX.out.mono ?_
              rintro e w8 ⟨rfl, ho, L', ha, hk⟩
              have A8 := Lib.hid ha
              have NL8 := Lib.hid hk
              have O8 := Lib.hid (AB.out.boxX ho OB.out (by decide) (by decide) (by decide))
              obtain ⟨k0, k1, k2, k3, -⟩ := box4 O8.out
              clear ha hk ho SX
              have SY := A8.out.sendY op oc M ua uc (by rw [← HM.out]; exact HU.out.below A8.out.below) HW2.out
              rw [HY.out, ← YB.out, ← HM.out, ← SQ.out.send op m, ← HE.out] at SY
              have SY := Lib.hid SY
              go_wp2_with fail
              refine SY.out.mono ?_
              rintro e w9 ⟨rfl, ho, ha⟩
              have A9 := Lib.hid ha
              have SM := Lib.hid (same_yes (.slice none 0 0) (.slice none 0 0) [] w9 (by decide) ⟨none, 0, rfl, Or.inl rfl⟩ ⟨none, 0, rfl, Or.inl rfl⟩)
              clear ha ho SY k0 k1 k2 k3
              go_wp2_with (go_at_call 24; refine SM.out.mono ?_; rintro e w10 ⟨rfl, hb⟩; have A10 := Lib.hid (A9.out.step hb); clear hb)
              go_roundw
              case rel => exact ⟨t + 1, L', _, _, by go_num, by omega, A10.out, SQ.out.sent op M, fun k hk hw => by rw [NL8.out k hw]; exact NL.out k hk hw⟩
              case measure => simp [intOf]; omega
            · have SX := AB.out.sendX op oc M ua uc (by rw [← HM.out]; exact HU.out.below AB.out.below) HW2.out
              rw [HX.out.1, ← XB.out, ← HM.out] at SX
              obtain ⟨er, her⟩ : ∃ er, er = sendE C.2.2 Qx op oc m := ⟨_, rfl⟩
              rw [← her] at SX
              have SX := Lib.hid SX
              clear her
              go_wp2_with fail
              rw [← HWB.out, ← HOB.out]
              refine SX.out.mono ?_
              rintro e w8 ⟨rfl, ho, L', ha, hk⟩
              have A8 := Lib.hid ha
              have NL8 := Lib.hid hk
              have O8 := Lib.hid (AB.out.boxX ho OB.out (by decide) (by decide) (by decide))
              obtain ⟨k0, k1, k2, k3, -⟩ := box4 O8.out
              clear ha hk ho SX
              go_wp2
              go_roundw
              case rel => exact ⟨t + 1, L', _, Qy, by go_num, by omega, A8.out, (SQ.out.other hne op).1 M, fun k hk hw => by rw [NL8.out k hw]; exact NL.out k hk hw⟩
              case measure => simp [intOf]; omega
          have g1 : (od == 1) = false := by simpa using h1
          by_cases hne : oc = only
          · subst hne
            obtain ⟨fx, ox⟩ := AB.out.x
            have h8 := ox.st.headLen op oc
            rw [HX.out.1] at h8
            clear ox
            have RX := AB.out.recvX op oc
            rw [HX.out.1, ← XB.out] at RX
            obtain ⟨er, her⟩ : ∃ er, er = recvE C.2.2 Qx op oc := ⟨_, rfl⟩
            obtain ⟨M1, hM1⟩ : ∃ M1, M1 = recvM C.2.2 Qx op oc := ⟨_, rfl⟩
            rw [← her, ← hM1] at RX
            rw [← hM1] at h8
            have RX := Lib.hid RX
            have H8 := Lib.hid h8
            have HE := Lib.hid her
            have HE1 := Lib.hid hM1
            clear her hM1 h8
            go_wp2_with fail
            rw [← HWB.out, ← HOB.out]
            refine RX.out.mono ?_
            rintro e w8 ⟨u1, rfl, hm1, ho, ha⟩
            have A8 := Lib.hid ha
            have O8 := Lib.hid (AB.out.boxX ho OB.out (by decide) (by decide) (by decide))
            obtain ⟨k0, k1, k2, k3, -⟩ := box4 O8.out
            have MM := Lib.hid hm1
            obtain ⟨a1, q1, rfl⟩ := hm1.form
            have RY := A8.out.recvY op oc
            rw [HY.out, ← YB.out, ← (SQ.out.recv op).1, ← (SQ.out.recv op).2, ← HE.out, ← HE1.out] at RY
            have RY := Lib.hid RY
            clear ha ho hm1 RX
            go_wp2_with fail
            refine RY.out.mono ?_
            rintro e w9 ⟨u2, rfl, hm2, ho, ha⟩
            have A9 := Lib.hid ha
            have SM := Lib.hid (same_yes _ u2 M1 w9 (by have := H8.out; omega) (A8.out.msgY ho MM.out).row hm2.row)
            clear ha ho hm2 RY k0 k1 k2 k3
            go_wp2_with (go_at_call 24; refine SM.out.mono ?_; rintro e w10 ⟨rfl, hb⟩; have A10 := Lib.hid (A9.out.step hb); clear hb)
            go_roundw
            case rel => exact ⟨t + 1, L, _, _, by go_num, by omega, A10.out, SQ.out.got op, NL.out⟩
            case measure => simp [intOf]; omega
          · obtain ⟨fx, ox⟩ := AB.out.x
            have h8 := ox.st.headLen op oc
            rw [HX.out.1] at h8
            clear ox
            have RX := AB.out.recvX op oc
            rw [HX.out.1, ← XB.out] at RX
            obtain ⟨er, her⟩ : ∃ er, er = recvE C.2.2 Qx op oc := ⟨_, rfl⟩
            obtain ⟨M1, hM1⟩ : ∃ M1, M1 = recvM C.2.2 Qx op oc := ⟨_, rfl⟩
            rw [← her, ← hM1] at RX
            rw [← hM1] at h8
            have RX := Lib.hid RX
            have H8 := Lib.hid h8
            clear her hM1 h8
            go_wp2_with fail
            rw [← HWB.out, ← HOB.out]
            refine RX.out.mono ?_
            rintro e w8 ⟨u1, rfl, hm1, ho, ha⟩
            have A8 := Lib.hid ha
            have O8 := Lib.hid (AB.out.boxX ho OB.out (by decide) (by decide) (by decide))
            obtain ⟨k0, k1, k2, k3, -⟩ := box4 O8.out
            clear ha ho hm1 RX
            go_wp2
            go_roundw
            case rel => exact ⟨t + 1, L, _, Qy, by go_num, by omega, A8.out, (SQ.out.other hne op).2, NL.out⟩
            case measure => simp [intOf]; omega
        · obtain rfl : ns = t := by omega
          obtain ⟨ff, ox⟩ := AT.out.x
          have hmem := ox.st.mem
          rw [HX.out.2.2.1, HX.out.2.2.2] at hmem
          have UT := Lib.hid (untouched_ok hmem (AT.out.cf.below AT.out.below) HK.out (fun i k hi hk h => by rw [NL.out _ (by omega) (inW_not HK.out HX.out.1 HX.out.2.1 i k hk h)]; exact nineH_at))
          have x0 := AT.out.box.c0
          have x1 := AT.out.box.c1
          have x2 := AT.out.box.c2
          clear ox hmem hlt2
          go_wp2_with (first
            | (go_at_call 25; refine UT.out.mono ?_; rintro e w9 ⟨rfl, hb⟩; have B9 := Lib.hid (AT.out.below.trans (hb.mono AT.out.below.size)); clear hb)
            | (go_at_call 9; refine (awake20 _).mono ?_; rintro e w10 ⟨rfl, hb⟩; have B10 := Lib.hid (B9.out.trans (hb.mono B9.out.size)); clear hb))
          go_ret
          exact ⟨rfl, B10.out⟩
end Go.Proofs.Ytnapodeiigkebaa
