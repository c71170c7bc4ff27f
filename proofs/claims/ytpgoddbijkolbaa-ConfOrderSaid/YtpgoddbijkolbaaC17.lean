/- The contracts of the document's own Bytes and Put, layer 6. Condition: the configuration's lists lie in memory. Written by gen/gen_c17.py. -/
import Derived.Test.YtpgoddbijkolbaaC16
import Derived.Test.YtpgoddbijkolbaaC9
namespace Go.Proofs.Ytpgoddbijkolbaa
open Go.RowKit
set_option maxRecDepth 100000

/-- A number's bytes, if it fits. -/
def EncN (n : Nat) (k : Int) (l : List UInt8) : Prop := (k = 1 ∨ k = 2) ∧ okPut n k ∧ l = bytesOf n k.toNat
theorem EncN.one {n : Nat} (h : n < 256) : EncN n 1 (bytesOf n 1) := ⟨Or.inl rfl, ⟨⟨by decide, by decide⟩, by simpa using h⟩, rfl⟩
theorem EncN.two {n : Nat} (h : n < 65536) : EncN n 2 (bytesOf n 2) := ⟨Or.inr rfl, ⟨⟨by decide, by decide⟩, by simpa using h⟩, rfl⟩
theorem rnum_g (n : Nat) (k : Int) (l : List UInt8) (h : EncN n k l) (w : World) : Calls Try.prog 52 #[.int .i64 (n : Int), .int .i64 k] w fun e w' => e = .returned (strV l) ∧ Below w.heap.size w w' := by
  obtain ⟨hk, hp, rfl⟩ := h
  have hn4 : n < 4294967296 := by
    have := hp.2
    rcases hk with rfl | rfl
    · have : n < 256 := by simpa using this
      omega
    · have : n < 65536 := by simpa using this
      omega
  have HP := Lib.hid (rput_yes n k hp)
  clear hp hk
  go_enter Try.func52, Try.ntmps52
  go_wp2_with fail
  refine (HP.out w).mono ?_
  rintro e w1 ⟨rfl, hb⟩
  have B := Lib.hid hb
  clear hb
  go_wp2
  go_ret
  exact ⟨rfl, B.out⟩
def BytRel (w : World) (ws : List Nat) (pre : List UInt8) (S : List Row) (n : Nat) (s i : Value) (wr : World) : Prop := ∃ j : Nat, i = .int .i64 (j : Int) ∧ j ≤ n ∧ s = strV (pre ++ encS ws (S.take j)) ∧ Below w.heap.size w wr
set_option maxHeartbeats 4000000 in
theorem rbytes_in (a1 a2 a3 : Option Addr) (n m k c1 c2 c3 : Nat) (P W H : List Row) (hn : n = P.length) (hm : m = W.length) (hk : k = H.length) (hf : fitsC (P, W, H)) (w : World) (h : CfAt w (.slice a1 n c1) (.slice a2 m c2) (.slice a3 k c3) (P, W, H)) :
    Calls Try.prog 26 #[.agg #[.slice a1 n c1, .slice a2 m c2, .slice a3 k c3]] w fun e w' => e = .returned (strV (encC (P, W, H))) ∧ Below w.heap.size w w' := by
  obtain ⟨w1, hw1⟩ : ∃ w1, w1 = w.alloc (.cells #[.slice a1 n c1, .slice a2 m c2, .slice a3 k c3] 26) := ⟨_, rfl⟩
  have hb1 : Below w.heap.size w w1 := by rw [hw1]; exact (Below.refl _ _).alloc (Nat.le_refl _) _
  have HX : CBox w1 w.heap.size (.slice a1 n c1) (.slice a2 m c2) (.slice a3 k c3) := by rw [hw1]; exact CBox.new w _ _ _
  have HC := Lib.hid (h.below hb1)
  have X1 := Lib.hid HX
  have B1 := Lib.hid hb1
  obtain ⟨⟨l1, f1⟩, ⟨l2, f2⟩, ⟨l3, f3⟩⟩ := hf
  simp only at l1 f1 l2 f2 l3 f3
  rw [← hn] at l1
  rw [← hm] at l2
  rw [← hk] at l3
  have F1 := Lib.hid f1
  have F2 := Lib.hid f2
  have F3 := Lib.hid f3
  have HN := Lib.hid hn
  have HM := Lib.hid hm
  have HK := Lib.hid hk
  have L1 : Hid ((encL pw P).length ≤ 1100) := Lib.hid (encL_len pw P ⟨by rw [← hn]; exact l1, f1⟩ (by decide))
  have L2 : Hid ((encL ww W).length ≤ 1100) := Lib.hid (encL_len ww W ⟨by rw [← hm]; exact l2, f2⟩ (by decide))
  have hn1 := EncN.one l1
  have ha0 := str_add magic (bytesOf n 1) (by simp [bytesOf_length, magic])
  clear h hb1 HX hn hm hk f1 f2 f3
  go_enter Try.func26, Try.ntmps26
  go_wp2_with fail
  rw [← hw1]
  clear hw1
  refine (rnum_g _ _ _ hn1 _).mono ?_
  rintro e w2 ⟨rfl, hb⟩
  have K1 := Lib.hid hb
  have e0 := (X1.out.below K1.out).c0
  rw [magic] at ha0
  clear hb hn1
  go_wp2_with fail
  go_loopw [3, 4] (fun s i wr => BytRel w1 pw (magic ++ bytesOf n 1) P n s i wr) (fun _ i _ => (n - (intOf i).toNat))
  case atStart => exact ⟨0, rfl, Nat.zero_le _, by simp [encS, magic], K1.out⟩
  case round =>
    obtain ⟨i0, rfl, hi, rfl, hB⟩ := hrel
    have K := Lib.hid hB.drew
    have KR := Lib.hid hB
    clear hB e0
    have e0 := (X1.out.below KR.out).c0
    by_cases hlt' : i0 < n
    · obtain ⟨hSn, b, o, x, y, rfl, hbl, hrow, g0, g1⟩ := (show RowsAt 2 w1 (.slice a1 n c1) P from HC.out.ps).two (Below.refl _ _) i0 hlt'
      have hfr := F1.out _ (getD_mem (show i0 < P.length by omega))
      have henc := encS_take pw P i0 (by omega)
      rw [hrow] at hfr henc
      obtain ⟨u0, p0, u1, p1, -⟩ := hfr
      obtain ⟨x, rfl⟩ := Int.eq_ofNat_of_zero_le u0
      have E0 : EncN x 2 (bytesOf x 2) := EncN.two (by omega)
      have C0 := Lib.hid g0
      obtain ⟨y, rfl⟩ := Int.eq_ofNat_of_zero_le u1
      have E1 : EncN y 1 (bytesOf y 1) := EncN.one (by omega)
      have C1 := Lib.hid g1
      have hlen := encS_len pw (P.take i0)
      have hlen2 : (P.take i0).length ≤ 256 := by rw [List.length_take]; omega
      have hlen3 : (encS pw (P.take i0)).length ≤ 4 * 256 := Nat.le_trans hlen (Nat.mul_le_mul (by decide) hlen2)
      obtain ⟨acc, hacc⟩ : ∃ acc, acc = (magic ++ bytesOf n 1) ++ encS pw (P.take i0) := ⟨_, rfl⟩
      have hal : acc.length ≤ 10000 := by
        rw [hacc]
        have : magic.length = 3 := rfl
        simp only [List.length_append, bytesOf_length]
        omega
      have HACC : Hid ((magic ++ bytesOf n 1) ++ encS pw (P.take (i0 + 1)) = acc ++ bytesOf x 2 ++ bytesOf y 1) := Lib.hid (by rw [henc, hacc]; simp [encR, List.append_assoc])
      rw [← hacc]
      have s0 := str_add (acc) (bytesOf x 2) (by simp only [bytesOf_length]; omega)
      have s1 := str_add (acc ++ bytesOf x 2) (bytesOf y 1) (by simp only [List.length_append, bytesOf_length]; omega)
      have g0 := (KR.out.cell (p := ⟨b, o + i0 * 2, none⟩) hbl).trans C0.out
      have g1 := (KR.out.cell (p := ⟨b, o + i0 * 2 + 1, none⟩) hbl).trans C1.out
      clear hrow hSn henc hacc hlen hlen2 hlen3
      go_wp2_with fail
      go_region_held3 (fun w' => w'.cell? ⟨w.heap.size, 0, none⟩ = some (.slice (some ⟨b, o, none⟩) n c1) ∧ w'.cell? ⟨b, o + i0 * 2, none⟩ = some (.int .i64 (x : Int)) ∧ w'.cell? ⟨b, o + i0 * 2 + 1, none⟩ = some (.int .i64 (y : Int))) (go_keep)
        (first
          | (go_at_call 52; refine (rnum_g _ _ _ (by assumption) _).mono ?_; rintro e w2 ⟨rfl, hb⟩; have K := Lib.hid (K.out.trans (hb.mono K.out.size)); clear hb; have e0 := (X1.out.below K.out).c0; have g0 := (K.out.cell (p := ⟨b, o + i0 * 2, none⟩) hbl).trans C0.out; have g1 := (K.out.cell (p := ⟨b, o + i0 * 2 + 1, none⟩) hbl).trans C1.out))
      go_wp2
      go_roundw
      case rel => exact ⟨i0 + 1, by go_num, by omega, by rw [HACC.out]; simp [List.append_assoc], K.out⟩
      case measure => simp [intOf]; omega
    · obtain rfl : n = i0 := by omega
      have hS : P.take n = P := by rw [HN.out, List.take_length]
      rw [hS]
      have hpre : (magic ++ bytesOf n 1) ++ encS pw P = magic ++ encL pw P := by simp only [encL, HN.out, List.append_assoc]
      rw [hpre]
      obtain ⟨pr1, hpr⟩ : ∃ pr, pr = magic ++ encL pw P := ⟨_, rfl⟩
      rw [← hpr]
      have PR1 := Lib.hid hpr
      have prl1 : pr1.length ≤ 1200 := by
        rw [hpr]
        have := L1.out
        have := L2.out
        have : magic.length = 3 := rfl
        simp only [List.length_append]
        omega
      have e1 := (X1.out.below KR.out).c1
      have E0 := EncN.one l2
      have s0 := str_add pr1 (bytesOf m 1) (by simp only [bytesOf_length]; omega)
      clear hpr
      clear hlt' hS hpre
      go_wp2_with fail
      refine (rnum_g _ _ _ E0 _).mono ?_
      rintro e w3 ⟨rfl, hb⟩
      have K2 := Lib.hid (KR.out.trans (hb.mono KR.out.size))
      have e1 := (X1.out.below K2.out).c1
      clear hb
      go_wp2_with fail
      go_loopw [3, 5] (fun s i wr => BytRel w1 ww (pr1 ++ bytesOf m 1) W m s i wr) (fun _ i _ => (m - (intOf i).toNat))
      case atStart => exact ⟨0, rfl, Nat.zero_le _, by simp [encS], K2.out⟩
      case round =>
        obtain ⟨i1, rfl, hi, rfl, hB⟩ := hrel
        have K := Lib.hid hB.drew
        have KR := Lib.hid hB
        clear hB e1
        have e1 := (X1.out.below KR.out).c1
        by_cases hlt' : i1 < m
        · obtain ⟨hSn, b, o, x, y, rfl, hbl, hrow, g0, g1⟩ := (show RowsAt 2 w1 (.slice a2 m c2) W from HC.out.ws).two (Below.refl _ _) i1 hlt'
          have hfr := F2.out _ (getD_mem (show i1 < W.length by omega))
          have henc := encS_take ww W i1 (by omega)
          rw [hrow] at hfr henc
          obtain ⟨u0, p0, u1, p1, -⟩ := hfr
          obtain ⟨x, rfl⟩ := Int.eq_ofNat_of_zero_le u0
          have E0 : EncN x 1 (bytesOf x 1) := EncN.one (by omega)
          have C0 := Lib.hid g0
          obtain ⟨y, rfl⟩ := Int.eq_ofNat_of_zero_le u1
          have E1 : EncN y 1 (bytesOf y 1) := EncN.one (by omega)
          have C1 := Lib.hid g1
          have hlen := encS_len ww (W.take i1)
          have hlen2 : (W.take i1).length ≤ 256 := by rw [List.length_take]; omega
          have hlen3 : (encS ww (W.take i1)).length ≤ 4 * 256 := Nat.le_trans hlen (Nat.mul_le_mul (by decide) hlen2)
          obtain ⟨acc, hacc⟩ : ∃ acc, acc = (pr1 ++ bytesOf m 1) ++ encS ww (W.take i1) := ⟨_, rfl⟩
          have hal : acc.length ≤ 10000 := by
            rw [hacc]
            skip
            simp only [List.length_append, bytesOf_length]
            omega
          have HACC : Hid ((pr1 ++ bytesOf m 1) ++ encS ww (W.take (i1 + 1)) = acc ++ bytesOf x 1 ++ bytesOf y 1) := Lib.hid (by rw [henc, hacc]; simp [encR, List.append_assoc])
          rw [← hacc]
          have s0 := str_add (acc) (bytesOf x 1) (by simp only [bytesOf_length]; omega)
          have s1 := str_add (acc ++ bytesOf x 1) (bytesOf y 1) (by simp only [List.length_append, bytesOf_length]; omega)
          have g0 := (KR.out.cell (p := ⟨b, o + i1 * 2, none⟩) hbl).trans C0.out
          have g1 := (KR.out.cell (p := ⟨b, o + i1 * 2 + 1, none⟩) hbl).trans C1.out
          clear hrow hSn henc hacc hlen hlen2 hlen3
          go_wp2_with fail
          go_region_held3 (fun w' => w'.cell? ⟨w.heap.size, 1, none⟩ = some (.slice (some ⟨b, o, none⟩) m c2) ∧ w'.cell? ⟨b, o + i1 * 2, none⟩ = some (.int .i64 (x : Int)) ∧ w'.cell? ⟨b, o + i1 * 2 + 1, none⟩ = some (.int .i64 (y : Int))) (go_keep)
            (first
              | (go_at_call 52; refine (rnum_g _ _ _ (by assumption) _).mono ?_; rintro e w2 ⟨rfl, hb⟩; have K := Lib.hid (K.out.trans (hb.mono K.out.size)); clear hb; have e1 := (X1.out.below K.out).c1; have g0 := (K.out.cell (p := ⟨b, o + i1 * 2, none⟩) hbl).trans C0.out; have g1 := (K.out.cell (p := ⟨b, o + i1 * 2 + 1, none⟩) hbl).trans C1.out))
          go_wp2
          go_roundw
          case rel => exact ⟨i1 + 1, by go_num, by omega, by rw [HACC.out]; simp [List.append_assoc], K.out⟩
          case measure => simp [intOf]; omega
        · obtain rfl : m = i1 := by omega
          have hS : W.take m = W := by rw [HM.out, List.take_length]
          rw [hS]
          have hpre : (pr1 ++ bytesOf m 1) ++ encS ww W = pr1 ++ encL ww W := by simp only [encL, HM.out, List.append_assoc]
          rw [hpre]
          obtain ⟨pr2, hpr⟩ : ∃ pr, pr = pr1 ++ encL ww W := ⟨_, rfl⟩
          rw [← hpr]
          have PR2 := Lib.hid hpr
          have prl2 : pr2.length ≤ 2400 := by
            rw [hpr]
            have := L1.out
            have := L2.out
            have : magic.length = 3 := rfl
            simp only [List.length_append]
            omega
          have e2 := (X1.out.below KR.out).c2
          have E0 := EncN.one l3
          have s0 := str_add pr2 (bytesOf k 1) (by simp only [bytesOf_length]; omega)
          clear hpr
          clear hlt' hS hpre
          go_wp2_with fail
          refine (rnum_g _ _ _ E0 _).mono ?_
          rintro e w4 ⟨rfl, hb⟩
          have K3 := Lib.hid (KR.out.trans (hb.mono KR.out.size))
          have e2 := (X1.out.below K3.out).c2
          clear hb
          go_wp2_with fail
          go_loopw [3, 6] (fun s i wr => BytRel w1 cw (pr2 ++ bytesOf k 1) H k s i wr) (fun _ i _ => (k - (intOf i).toNat))
          case atStart => exact ⟨0, rfl, Nat.zero_le _, by simp [encS], K3.out⟩
          case round =>
            obtain ⟨i2, rfl, hi, rfl, hB⟩ := hrel
            have K := Lib.hid hB.drew
            have KR := Lib.hid hB
            clear hB e2
            have e2 := (X1.out.below KR.out).c2
            by_cases hlt' : i2 < k
            · obtain ⟨hSn, b, o, x, y, z, t, rfl, hbl, hrow, g0, g1, g2, g3⟩ := (show RowsAt 4 w1 (.slice a3 k c3) H from HC.out.hs).four (Below.refl _ _) i2 hlt'
              have hfr := F3.out _ (getD_mem (show i2 < H.length by omega))
              have henc := encS_take cw H i2 (by omega)
              rw [hrow] at hfr henc
              obtain ⟨u0, p0, u1, p1, u2, p2, u3, p3, -⟩ := hfr
              obtain ⟨x, rfl⟩ := Int.eq_ofNat_of_zero_le u0
              have E0 : EncN x 1 (bytesOf x 1) := EncN.one (by omega)
              have C0 := Lib.hid g0
              obtain ⟨y, rfl⟩ := Int.eq_ofNat_of_zero_le u1
              have E1 : EncN y 1 (bytesOf y 1) := EncN.one (by omega)
              have C1 := Lib.hid g1
              obtain ⟨z, rfl⟩ := Int.eq_ofNat_of_zero_le u2
              have E2 : EncN z 1 (bytesOf z 1) := EncN.one (by omega)
              have C2 := Lib.hid g2
              obtain ⟨t, rfl⟩ := Int.eq_ofNat_of_zero_le u3
              have E3 : EncN t 1 (bytesOf t 1) := EncN.one (by omega)
              have C3 := Lib.hid g3
              have hlen := encS_len cw (H.take i2)
              have hlen2 : (H.take i2).length ≤ 256 := by rw [List.length_take]; omega
              have hlen3 : (encS cw (H.take i2)).length ≤ 4 * 256 := Nat.le_trans hlen (Nat.mul_le_mul (by decide) hlen2)
              obtain ⟨acc, hacc⟩ : ∃ acc, acc = (pr2 ++ bytesOf k 1) ++ encS cw (H.take i2) := ⟨_, rfl⟩
              have hal : acc.length ≤ 10000 := by
                rw [hacc]
                skip
                simp only [List.length_append, bytesOf_length]
                omega
              have HACC : Hid ((pr2 ++ bytesOf k 1) ++ encS cw (H.take (i2 + 1)) = acc ++ bytesOf x 1 ++ bytesOf y 1 ++ bytesOf z 1 ++ bytesOf t 1) := Lib.hid (by rw [henc, hacc]; simp [encR, List.append_assoc])
              rw [← hacc]
              have s0 := str_add (acc) (bytesOf x 1) (by simp only [bytesOf_length]; omega)
              have s1 := str_add (acc ++ bytesOf x 1) (bytesOf y 1) (by simp only [List.length_append, bytesOf_length]; omega)
              have s2 := str_add (acc ++ (bytesOf x 1 ++ bytesOf y 1)) (bytesOf z 1) (by simp only [List.length_append, bytesOf_length]; omega)
              have s3 := str_add (acc ++ (bytesOf x 1 ++ (bytesOf y 1 ++ bytesOf z 1))) (bytesOf t 1) (by simp only [List.length_append, bytesOf_length]; omega)
              have g0 := (KR.out.cell (p := ⟨b, o + i2 * 4, none⟩) hbl).trans C0.out
              have g1 := (KR.out.cell (p := ⟨b, o + i2 * 4 + 1, none⟩) hbl).trans C1.out
              have g2 := (KR.out.cell (p := ⟨b, o + i2 * 4 + 2, none⟩) hbl).trans C2.out
              have g3 := (KR.out.cell (p := ⟨b, o + i2 * 4 + 3, none⟩) hbl).trans C3.out
              clear hrow hSn henc hacc hlen hlen2 hlen3
              go_wp2_with fail
              obtain ⟨wx, hwx⟩ : ∃ wx, wx = wr.alloc (.cells #[.int .i64 (x : Int), .int .i64 (y : Int), .int .i64 (z : Int), .int .i64 (t : Int)] 46) := ⟨_, rfl⟩
              have KX : Hid (Below w1.heap.size w1 wx) := Lib.hid (by rw [hwx]; exact KR.out.alloc KR.out.size _)
              have blt : wr.heap.size < wx.heap.size := by rw [hwx]; simp
              have b0 : wx.cell? ⟨wr.heap.size, 0, none⟩ = some (.int .i64 (x : Int)) := by rw [hwx, cell_of_row _ _ _ _ _ _ (heap_alloc_new wr _)]; rfl
              have b1 : wx.cell? ⟨wr.heap.size, 1, none⟩ = some (.int .i64 (y : Int)) := by rw [hwx, cell_of_row _ _ _ _ _ _ (heap_alloc_new wr _)]; rfl
              have b2 : wx.cell? ⟨wr.heap.size, 2, none⟩ = some (.int .i64 (z : Int)) := by rw [hwx, cell_of_row _ _ _ _ _ _ (heap_alloc_new wr _)]; rfl
              have b3 : wx.cell? ⟨wr.heap.size, 3, none⟩ = some (.int .i64 (t : Int)) := by rw [hwx, cell_of_row _ _ _ _ _ _ (heap_alloc_new wr _)]; rfl
              have D0 := Lib.hid b0
              have D1 := Lib.hid b1
              have D2 := Lib.hid b2
              have D3 := Lib.hid b3
              rw [← hwx]
              clear hwx
              have KQ : Hid (Below wx.heap.size wx wx.drew) := Lib.hid (Below.refl _ _).drew
              go_region_held3 (fun w' => w'.cell? ⟨wr.heap.size, 0, none⟩ = some (.int .i64 (x : Int)) ∧ w'.cell? ⟨wr.heap.size, 1, none⟩ = some (.int .i64 (y : Int)) ∧ w'.cell? ⟨wr.heap.size, 2, none⟩ = some (.int .i64 (z : Int)) ∧ w'.cell? ⟨wr.heap.size, 3, none⟩ = some (.int .i64 (t : Int))) (go_keep)
                (first
                  | (go_at_call 52; refine (rnum_g _ _ _ (by assumption) _).mono ?_; rintro e w2 ⟨rfl, hb⟩; have KQ := Lib.hid (KQ.out.trans (hb.mono KQ.out.size)); clear hb; have b0 := (show w2.cell? ⟨wr.heap.size, 0, none⟩ = _ from (KQ.out.cell (p := ⟨wr.heap.size, 0, none⟩) blt).trans D0.out); have b1 := (show w2.cell? ⟨wr.heap.size, 1, none⟩ = _ from (KQ.out.cell (p := ⟨wr.heap.size, 1, none⟩) blt).trans D1.out); have b2 := (show w2.cell? ⟨wr.heap.size, 2, none⟩ = _ from (KQ.out.cell (p := ⟨wr.heap.size, 2, none⟩) blt).trans D2.out); have b3 := (show w2.cell? ⟨wr.heap.size, 3, none⟩ = _ from (KQ.out.cell (p := ⟨wr.heap.size, 3, none⟩) blt).trans D3.out)))
              go_wp2
              go_roundw
              case rel => exact ⟨i2 + 1, by go_num, by omega, by rw [HACC.out]; simp [List.append_assoc], KX.out.trans (KQ.out.mono KX.out.size)⟩
              case measure => simp [intOf]; omega
            · obtain rfl : k = i2 := by omega
              have hS : H.take k = H := by rw [HK.out, List.take_length]
              rw [hS]
              have hpre : (pr2 ++ bytesOf k 1) ++ encS cw H = encC (P, W, H) := by rw [PR2.out, PR1.out]; simp only [encC, encL, List.append_assoc, HK.out]
              rw [hpre]
              clear hlt' hS hpre
              go_wp2
              go_ret
              exact ⟨rfl, B1.out.trans (KR.out.mono B1.out.size)⟩
theorem rbytes_ok (v1 v2 v3 : Value) (C : Cf) (hf : fitsC C) (w : World) (h : CfAt w v1 v2 v3 C) : Calls Try.prog 26 #[.agg #[v1, v2, v3]] w fun e w' => e = .returned (strV (encC C)) ∧ Below w.heap.size w w' := by
  obtain ⟨P, W, H⟩ := C
  have hps := h.ps
  obtain ⟨a, c, rfl, t1, _, _⟩ := hps
  have hws := h.ws
  obtain ⟨a', c', rfl, t2, _, _⟩ := hws
  have hhs := h.hs
  obtain ⟨a'', c'', rfl, t3, _, _⟩ := hhs
  exact rbytes_in a a' a'' _ _ _ c c' c'' P W H rfl rfl rfl hf w h
theorem rput_conf (v1 v2 v3 : Value) (C : Cf) (w : World) (h : CfAt w v1 v2 v3 C) : Calls Try.prog 12 #[.agg #[v1, v2, v3]] w fun e w' => e = .returned (.tuple #[strV (putL C), .int .i64 (chk C)]) ∧ Below w.heap.size w w' := by
  obtain ⟨w1, hw1⟩ : ∃ w1, w1 = w.alloc (.cells #[v1, v2, v3] 26) := ⟨_, rfl⟩
  have hb1 : Below w.heap.size w w1 := by rw [hw1]; exact (Below.refl _ _).alloc (Nat.le_refl _) _
  have HX : CBox w1 w.heap.size v1 v2 v3 := by rw [hw1]; exact CBox.new w _ _ _
  have HC := Lib.hid (h.below hb1)
  have X1 := Lib.hid HX
  have B1 := Lib.hid hb1
  obtain ⟨a1, n1, m1, rfl⟩ := h.ps.isSlice
  obtain ⟨a2, n2, m2, rfl⟩ := h.ws.isSlice
  obtain ⟨a3, n3, m3, rfl⟩ := h.hs.isSlice
  have HS := Lib.hid h.shape
  clear h hb1 HX
  go_enter Try.func12, Try.ntmps12
  go_wp2_with fail
  rw [← hw1]
  clear hw1
  refine (rcheck_ok _ _ _ C w1 HC.out).mono ?_
  rintro e w2 ⟨rfl, hb⟩
  have K2 := Lib.hid hb
  clear hb
  by_cases hk : chk C = 0
  · rw [hk]
    have HF := Lib.hid (mayB_fits HS.out (chk_zero hk).1)
    have d0 := (X1.out.below K2.out).c0
    have d1 := (X1.out.below K2.out).c1
    have d2 := (X1.out.below K2.out).c2
    have EK := Lib.hid hk
    clear hk
    go_wp2_with fail
    refine (rbytes_ok _ _ _ C HF.out w2 (HC.out.below K2.out)).mono ?_
    rintro e w3 ⟨rfl, hb⟩
    have K3 := Lib.hid (K2.out.trans (hb.mono K2.out.size))
    clear hb
    go_wp2
    go_ret2
    exact ⟨by rw [putL_yes EK.out, EK.out]; rfl, B1.out.trans (K3.out.mono B1.out.size)⟩
  · have hd : ¬ chk C = 0 := hk
    go_wp2
    go_ret2
    exact ⟨by rw [putL_no hk]; rfl, B1.out.trans (K2.out.mono B1.out.size)⟩
end Go.Proofs.Ytpgoddbijkolbaa
