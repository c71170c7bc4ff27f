/- The walk of the law SpaceThree. Condition: the listed tables lie as laid. -/
import Derived.Test.YtfpcoomkbmfchaaGreatDoorHV
import Derived.Test.YtfpcoomkbmfchaaGreatDoorS42
namespace Go.Proofs.YtfpcoomkbmfchaaGreatDoor
open Go.RowKit Go.Maps
set_option maxRecDepth 100000

theorem three_far (va a x d : Int) (W : World) (h : 128 ≤ va) (hL : LaidN W) : Calls Tryz.prog 10 #[.int .u32 va, .int .u32 a, .int .u32 x, .int .u32 d] W fun e w' => e = .returned (.bool true) ∧ Below W.heap.size W w' := by
  have AW := Lib.hid (hL.awake W (Below.refl _ _))
  have d0 : decide (128 ≤ va) = true := decide_eq_true h
  clear hL
  go_enter Tryz.func10, Tryz.ntmps10
  go_wp2_with fail
  refine AW.out.mono ?_
  rintro e w1 ⟨rfl, hb⟩
  have B := Lib.hid hb
  clear hb
  go_wp2_with fail
  go_ret
  exact ⟨rfl, B.out⟩
theorem KeepB.cellOf {w w' : World} (h : KeepB w w') {g : Nat} {cs : Array Value} {t : TypeId} {z : Nat × Nat} (hb : w.heap[g]? = some (.cells cs t z)) (ht : notMov t) (i : Nat) {v : Value} (hv : w.cell? ⟨g, i, none⟩ = some v) : w'.cell? ⟨g, i, none⟩ = some v :=
  (World.cell?_of_block (w := w) (a := ⟨g, i, none⟩) ((h.box hb ht).trans hb.symm)).trans hv
theorem lenA_none {G : Int → Option Pc} {i : Int} (h : G i = none) : lenA G i = 0 := by unfold lenA; rw [h]; split <;> rfl
/-- three: a space that was closed is none. -/
theorem three_ok {W0 w : World} {I : SIx} {q : Nat} {Lb : List Nd} {G : Int → Option Pc} {pr : Int → Nat → Bool} {rd : Int → Nat → Nat → Int} (h : Hv W0 w I q Lb G pr rd) (hG : G 2 = none) : Calls Tryz.prog 36 #[.pointer (some ⟨I.ss, 0, none⟩)] w fun e w' => e = .returned (.bool true) ∧ Below w.heap.size w w' := by
  have LB := Lib.hid (h.loadBad 2 0 (er := 4) (findSE_none (by decide) hG) (by decide))
  have AR := Lib.hid (show ∀ V, Below w.heap.size w V → Calls Tryz.prog 21 #[.pointer (some ⟨I.ss, 0, none⟩), .int .i64 2] V fun e w' => ∃ a c, e = .returned (.slice a 0 c) ∧ Below V.heap.size V w' from fun V hb => by have := (h.step hb).areas 2; rwa [lenA_none hG] at this)
  clear h hG
  go_enter Tryz.func36, Tryz.ntmps36
  go_wp2_with fail
  refine LB.out.mono ?_
  rintro e w1 ⟨rfl, hb⟩
  have B1 := Lib.hid hb
  clear hb
  go_wp2_with fail
  refine (AR.out w1 B1.out).mono ?_
  rintro e w2 ⟨a, c, rfl, hb⟩
  have B2 := Lib.hid (B1.out.trans (hb.mono B1.out.size))
  clear hb
  go_wp2_with fail
  go_ret
  exact ⟨rfl, B2.out⟩
set_option maxHeartbeats 16000000 in
theorem three_in (va a x d : Int) (W : World) (h : va < 128) (h0 : 0 ≤ va) (ha : 0 ≤ a ∧ a < 4294967296) (hx : 0 ≤ x ∧ x < 4294967296) (hd : 0 ≤ d ∧ d < 4294967296) (hL : LaidN W) : Calls Tryz.prog 10 #[.int .u32 va, .int .u32 a, .int .u32 x, .int .u32 d] W fun e w' => e = .returned (.bool true) ∧ Below W.heap.size W w' := by
  have MD := Lib.hid (madeS_ok 60 W (by decide) (by decide) hL.lq hL.lw)
  have AW := Lib.hid hL.awake
  have d0 : decide (128 ≤ va) = false := decide_eq_false (by omega)
  have AT : Hid (∀ d, atD [(0, 4, d)] ((va / 32).toNat : Int) = some d) := Lib.hid fun d => area_at1 (by omega)
  have RG := Lib.hid (show 0 ≤ va ∧ va < 32768 from by omega)
  have q1 : (x == x) = true := by simp
  have q2 : (a == a) = true := by simp
  have q3 : (d == d) = true := by simp
  clear hL h
  go_enter Tryz.func10, Tryz.ntmps10
  go_wp2_with fail
  refine (show Calls Tryz.prog 28 #[.int .i64 60] W _ from MD.out).mono ?_
  rintro e w1 ⟨I, rfl, hf⟩
  have H1 := Lib.hid hf.hv
  clear hf
  go_wp2_with fail
  refine (H1.out.open_ (i := 1) (by decide)).mono ?_
  rintro e w2 ⟨rfl, hk, s, hs, h⟩
  have H2 : Hid (Hv W w2 I 60 [(1, 0, 60, 1)] (putG G0 1 s) (fun _ _ => false) (fun _ _ _ => 0)) := Lib.hid h
  have S2 := Lib.hid hs
  clear hk hs h
  go_wp2_with fail
  refine (H2.out.grow1 (putG_same _ _ _) S2.out (x := 0) (y := 4) (by unfold FitD; omega) true).mono ?_
  rintro e w3 ⟨rfl, hk, s3, hs, h⟩
  rw [putG_putG] at h
  have H3 := Lib.hid h
  have S3 := Lib.hid hs
  clear hk hs h
  go_wp2_with fail
  refine (H3.out.store2 (putG_same _ _ _) RG.out ha (by rw [S3.out, AT.out]) (by decide)).mono ?_
  rintro e w4 ⟨rfl, hk, h⟩
  obtain ⟨pr4, hpr4⟩ : ∃ p, p = orP (fun _ _ => false) 1 [(va / 32).toNat] := ⟨_, rfl⟩
  obtain ⟨rd4, hrd4⟩ : ∃ p, p = stR (fun _ _ _ => 0) 1 va a := ⟨_, rfl⟩
  have H4 : Hid (Hv W w4 I 60 [(1, 0, 60, 3)] (putG G0 1 s3) pr4 rd4) := Lib.hid (by rw [hpr4, hrd4]; exact h)
  have P4 : Hid (pr4 1 (va / 32).toNat = true) := Lib.hid (by rw [hpr4]; exact orP_in (by simp))
  have R4 : Hid (rd4 1 (va / 32).toNat (va % 32).toNat = a) := Lib.hid (by rw [hrd4]; exact stR_at _ _ _ _)
  clear hk h hpr4 hrd4
  go_wp2_with fail
  refine (H4.out.carve 2 1 20).mono ?_
  rintro e w5 ⟨rfl, hk, h⟩
  have H5 : Hid (Hv W w5 I 60 [(1, 0, 60, 3), (2, 1, 20, 0)] (putG G0 1 s3) pr4 rd4) := Lib.hid h
  rw [show openEU [(1, 0, 60, 3)] 2 1 20 = 0 by decide]
  clear hk h
  go_wp2_with fail
  refine (H5.out.fork 1 2 (forkE0_zero (by decide) (putG_same _ _ _) (by decide) (by rw [putG_other _ _ _ (by decide)])) (putG_same _ _ _) (by decide)).mono ?_
  rintro e w6 ⟨rfl, hk, t, ht, h⟩
  have H6 : Hid (Hv W w6 I 60 [(1, 0, 60, 3), (2, 1, 20, 3)] (putG (putG G0 1 s3) 2 t) (fkP pr4 1 2) (fkR rd4 1 2)) := Lib.hid h
  have T6 := Lib.hid (ht.trans S3.out)
  clear hk ht h
  go_wp2_with fail
  refine (H6.out.store0 (putG_same _ _ _) RG.out hx (by rw [T6.out, AT.out]) P4.out).mono ?_
  rintro e w7 ⟨rfl, hk, h⟩
  have H7 := Lib.hid h
  clear hk h
  go_wp2_with fail
  refine (H7.out.carve 3 2 8).mono ?_
  rintro e w8 ⟨rfl, hk, h⟩
  have H8 : Hid (Hv W w8 I 60 [(1, 0, 60, 3), (2, 1, 20, 3), (3, 2, 8, 0)] (putG (putG G0 1 s3) 2 t) (fkP pr4 1 2) (stR (fkR rd4 1 2) 2 va x)) := Lib.hid h
  rw [show openEU [(1, 0, 60, 3), (2, 1, 20, 3)] 3 2 8 = 0 by decide]
  clear hk h
  go_wp2_with fail
  refine (H8.out.fork 2 3 (forkE0_zero (by decide) (putG_same _ _ _) (by decide) (by rw [putG_other _ _ _ (by decide), putG_other _ _ _ (by decide)])) (putG_same _ _ _) (by decide)).mono ?_
  rintro e w9 ⟨rfl, hk, u, hu, h⟩
  obtain ⟨L9, hL9⟩ : ∃ L, L = chargeL [((1 : Int), (0 : Int), (60 : Int), (3 : Int)), (2, 1, 20, 3), (3, 2, 8, 0)] 3 (usedN [((1 : Int), (0 : Int), (60 : Int), (3 : Int)), (2, 1, 20, 3), (3, 2, 8, 0)] 2 : Int) := ⟨_, rfl⟩
  have H9 : Hid (Hv W w9 I 60 L9 (putG (putG (putG G0 1 s3) 2 t) 3 u) (fkP (fkP pr4 1 2) 2 3) (fkR (stR (fkR rd4 1 2) 2 va x) 2 3)) := Lib.hid (by rw [hL9]; exact h)
  have U9 := Lib.hid (hu.trans T6.out)
  clear hk hu h hL9
  go_wp2_with fail
  obtain ⟨w9a, hw9⟩ : ∃ v, v = w9.alloc (.cells #[.int .u32 va] 25) := ⟨_, rfl⟩
  have H9a := Lib.hid (H9.out.step (w' := w9a) (by rw [hw9]; exact (Below.refl _ _).alloc (Nat.le_refl _) _))
  have N9 : Hid (w9a.heap[w9.heap.size]? = some (.cells #[.int .u32 va] 25 (0, 0))) := Lib.hid (by rw [hw9]; exact heap_alloc_new w9 _)
  rw [← hw9]
  clear hw9
  refine (H9a.out.see1 (putG_same _ _ _) RG.out (x := x) (by rw [U9.out, AT.out]) P4.out (stR_at (fkR rd4 1 2) 2 va x) N9.out 1).mono ?_
  rintro e w10 ⟨g1, cp1, rfl, ⟨cs1, hc1, hv1⟩, h, hk⟩
  have H10 := Lib.hid h
  have V1 := Lib.hid hc1
  have X1 := Lib.hid hv1
  clear hk h hc1 hv1
  go_wp2_with fail
  refine (H10.out.store0 (putG_same _ _ _) RG.out hd (by rw [U9.out, AT.out]) P4.out).mono ?_
  rintro e w11 ⟨rfl, hk, h⟩
  have H11 := Lib.hid h
  have K11 := Lib.hid hk
  clear hk h
  go_wp2_with fail
  refine (H11.out.close (i := 2) (s := t) (by rw [putG_other _ _ _ (by decide), putG_same])).mono ?_
  rintro e w12 ⟨rfl, hk, L12, h⟩
  have H12 := Lib.hid h
  have K12 := Lib.hid (K11.out.trans hk)
  clear hk h
  go_wp2_with fail
  obtain ⟨w13, hw13⟩ : ∃ v, v = w12.alloc (.cells #[.int .u32 va] 25) := ⟨_, rfl⟩
  have A13 : Hid (Below w12.heap.size w12 w13) := Lib.hid (by rw [hw13]; exact (Below.refl _ _).alloc (Nat.le_refl _) _)
  have N13 : Hid (w13.heap[w12.heap.size]? = some (.cells #[.int .u32 va] 25 (0, 0))) := Lib.hid (by rw [hw13]; exact heap_alloc_new w12 _)
  rw [← hw13]
  clear hw13
  refine ((H12.out.step A13.out).see1 (i := 1) (s := s3) (by rw [delG_other _ _ (by decide), putG_other _ _ _ (by decide), putG_other _ _ _ (by decide), putG_same]) RG.out (x := a) (by rw [S3.out, AT.out]) P4.out R4.out N13.out 1).mono ?_
  rintro e w14 ⟨g2, cp2, rfl, ⟨cs2, hc2, hv2⟩, h, hk⟩
  have H14 := Lib.hid h
  have V2 := Lib.hid hc2
  have X2 := Lib.hid hv2
  have K14 := Lib.hid ((K12.out.trans (KeepB.below A13.out)).trans hk)
  clear hk h hc2 hv2
  go_wp2_with fail
  obtain ⟨w15, hw15⟩ : ∃ v, v = w14.alloc (.cells #[.int .u32 va] 25) := ⟨_, rfl⟩
  have A15 : Hid (Below w14.heap.size w14 w15) := Lib.hid (by rw [hw15]; exact (Below.refl _ _).alloc (Nat.le_refl _) _)
  have N15 : Hid (w15.heap[w14.heap.size]? = some (.cells #[.int .u32 va] 25 (0, 0))) := Lib.hid (by rw [hw15]; exact heap_alloc_new w14 _)
  rw [← hw15]
  clear hw15
  refine ((H14.out.step A15.out).see1 (i := 3) (s := u) (by rw [delG_other _ _ (by decide), putG_same]) RG.out (x := d) (by rw [U9.out, AT.out]) P4.out (stR_at (fkR (stR (fkR rd4 1 2) 2 va x) 2 3) 3 va d) N15.out 1).mono ?_
  rintro e w16 ⟨g3, cp3, rfl, ⟨cs3, hc3, hv3⟩, h, hk⟩
  have H16 := Lib.hid h
  have K16 := Lib.hid ((KeepB.below A15.out).trans hk)
  have y1 : w16.cell? ⟨g1, 0, none⟩ = some (.int .u32 x) := (K14.out.trans K16.out).cellOf V1.out (by decide) 0 X1.out
  have y2 : w16.cell? ⟨g2, 0, none⟩ = some (.int .u32 a) := K16.out.cellOf V2.out (by decide) 0 X2.out
  have y3 := hv3
  have TH := Lib.hid (three_ok H16.out (delG_same _ _))
  clear hk h hc3 hv3
  go_wp2_with fail
  refine TH.out.mono ?_
  rintro e w17 ⟨rfl, hb⟩
  have B17 := Lib.hid (H16.out.below.trans (hb.mono H16.out.below.size))
  clear hb
  go_wp2_with fail
  refine (AW.out _ B17.out).mono ?_
  rintro e w18 ⟨rfl, hb⟩
  have B18 := Lib.hid (B17.out.trans (hb.mono B17.out.size))
  clear hb
  go_wp2_with fail
  go_ret
  exact ⟨rfl, B18.out⟩
theorem spaceThree_walk (va a x d : Int) (W : World) (hva : 0 ≤ va ∧ va ≤ 4294967295) (ha : 0 ≤ a ∧ a ≤ 4294967295) (hx : 0 ≤ x ∧ x ≤ 4294967295) (hd : 0 ≤ d ∧ d ≤ 4294967295) (hL : LaidN W) : Calls Tryz.prog 10 #[.int .u32 va, .int .u32 a, .int .u32 x, .int .u32 d] W fun e w' => e = .returned (.bool true) ∧ Below W.heap.size W w' := by
  by_cases h : 128 ≤ va
  · exact three_far va a x d W h hL
  · exact three_in va a x d W (by omega) hva.1 (by omega) (by omega) (by omega) hL
end Go.Proofs.YtfpcoomkbmfchaaGreatDoor
