/- The walk of PallocApart. Conditions: the library's table reads as its initialiser lays it; the slice lies as it says. Written by gen/gen_a16.py. -/
import Derived.Test.YtiohnhgoddfebaaDoorA15
namespace Go.Proofs.YtiohnhgoddfebaaDoor
open Go.RowKit
set_option maxRecDepth 100000

theorem apart_far (a b : Int) (q c : Nat) (s : Option Addr) (W : World) (h : a < 2 ∨ (2 ≤ a ∧ 20 < a) ∨ (2 ≤ a ∧ a ≤ 20 ∧ b < 1) ∨ (2 ≤ a ∧ a ≤ 20 ∧ 1 ≤ b ∧ 20 < b) ∨ (2 ≤ a ∧ a ≤ 20 ∧ 1 ≤ b ∧ b ≤ 20 ∧ 200 < q)) (hT : LaidQ W) : Calls Tryd.prog 5 #[.int .i64 a, .int .i64 b, .slice s q c] W fun e w' => e = .returned (.bool true) ∧ Below W.heap.size W w' := by
  have HT := Lib.hid hT
  clear hT
  rcases h with h | ⟨h1, h⟩ | ⟨h1, h2, h⟩ | ⟨h1, h2, h3, h⟩ | ⟨h1, h2, h3, h4, h⟩
  · have d0 : decide (a < 2) = true := decide_eq_true (by omega)
    go_enter Tryd.func5, Tryd.ntmps5
    go_wp2_with (go_at_call 10; refine (awake9 _ HT.out).mono ?_; rintro e w2 ⟨rfl, hb⟩; have B := Lib.hid hb; clear hb)
    go_ret
    exact ⟨rfl, B.out⟩
  · have d0 : decide (a < 2) = false := decide_eq_false (by omega)
    have d1 : decide (20 < a) = true := decide_eq_true (by omega)
    go_enter Tryd.func5, Tryd.ntmps5
    go_wp2_with (go_at_call 10; refine (awake9 _ HT.out).mono ?_; rintro e w2 ⟨rfl, hb⟩; have B := Lib.hid hb; clear hb)
    go_ret
    exact ⟨rfl, B.out⟩
  · have d0 : decide (a < 2) = false := decide_eq_false (by omega)
    have d1 : decide (20 < a) = false := decide_eq_false (by omega)
    have d2 : decide (b < 1) = true := decide_eq_true (by omega)
    go_enter Tryd.func5, Tryd.ntmps5
    go_wp2_with (go_at_call 10; refine (awake9 _ HT.out).mono ?_; rintro e w2 ⟨rfl, hb⟩; have B := Lib.hid hb; clear hb)
    go_ret
    exact ⟨rfl, B.out⟩
  · have d0 : decide (a < 2) = false := decide_eq_false (by omega)
    have d1 : decide (20 < a) = false := decide_eq_false (by omega)
    have d2 : decide (b < 1) = false := decide_eq_false (by omega)
    have d3 : decide (20 < b) = true := decide_eq_true (by omega)
    go_enter Tryd.func5, Tryd.ntmps5
    go_wp2_with (go_at_call 10; refine (awake9 _ HT.out).mono ?_; rintro e w2 ⟨rfl, hb⟩; have B := Lib.hid hb; clear hb)
    go_ret
    exact ⟨rfl, B.out⟩
  · have d0 : decide (a < 2) = false := decide_eq_false (by omega)
    have d1 : decide (20 < a) = false := decide_eq_false (by omega)
    have d2 : decide (b < 1) = false := decide_eq_false (by omega)
    have d3 : decide (20 < b) = false := decide_eq_false (by omega)
    have d4 : decide (200 < q) = true := decide_eq_true (by omega)
    go_enter Tryd.func5, Tryd.ntmps5
    go_wp2_with (go_at_call 10; refine (awake9 _ HT.out).mono ?_; rintro e w2 ⟨rfl, hb⟩; have B := Lib.hid hb; clear hb)
    go_ret
    exact ⟨rfl, B.out⟩
def ApartRel (W : World) (X Y : PIx) (a q : Nat) (iv : Value) (wr : World) : Prop := ∃ (k : Nat) (L K : List Int) (R Q : Nat → Nat), iv = .int .i64 (k : Int) ∧ k ≤ q ∧ Pools W wr X Y L R K Q ∧ Agree a R Q
set_option maxHeartbeats 4000000 in
theorem apart_in (a b : Nat) (S : List (Int × Int)) (v : Value) (W : World) (ha : 2 ≤ a) (ha20 : a ≤ 20) (hb : 1 ≤ b) (hb20 : b ≤ 20) (hS : ArgPairs W v S) (hl : S.length ≤ 200) (hT : LaidQ W) : Calls Tryd.prog 5 #[.int .i64 (a : Int), .int .i64 (b : Int), v] W fun e w' => e = .returned (.bool true) ∧ Below W.heap.size W w' := by
  have HT := Lib.hid hT
  have HS := Lib.hid hS.1
  have HB := Lib.hid hS.2
  obtain ⟨⟨s, c, rfl, _⟩, _⟩ := hS
  obtain ⟨q, hq⟩ : ∃ q, q = S.length := ⟨_, rfl⟩
  rw [← hq] at hl ⊢
  have HQ := Lib.hid hq
  have d0 : decide ((a : Int) < 2) = false := decide_eq_false (by omega)
  have d1 : decide (20 < (a : Int)) = false := decide_eq_false (by omega)
  have d2 : decide ((b : Int) < 1) = false := decide_eq_false (by omega)
  have d3 : decide (20 < (b : Int)) = false := decide_eq_false (by omega)
  have d4 : decide (200 < q) = false := decide_eq_false (by omega)
  have NW := Lib.hid (fun w => new_ok (a + b) w (by omega) (by omega))
  simp only [show ((a + b : Nat) : Int) = (a : Int) + (b : Int) by omega] at NW
  clear hT hq
  go_enter Tryd.func5, Tryd.ntmps5
  go_wp2_with fail
  have hb0 := (Below.refl W.heap.size W).alloc (Nat.le_refl _) (.cells #[.int .i64 0, .int .i64 (a : Int), .int .i64 (a : Int), .int .i64 (b : Int)] 59)
  have LS := Lib.hid (pairs_two (heap_alloc_new W (.cells #[.int .i64 0, .int .i64 (a : Int), .int .i64 (a : Int), .int .i64 (b : Int)] 59)))
  obtain ⟨w0, hw0⟩ : ∃ w0, w0 = W.alloc (.cells #[.int .i64 0, .int .i64 (a : Int), .int .i64 (a : Int), .int .i64 (b : Int)] 59) := ⟨_, rfl⟩
  rw [← hw0] at hb0 LS ⊢
  have B0 := Lib.hid hb0
  clear hw0 hb0
  refine (NW.out w0).mono ?_
  rintro e w1 hp
  obtain ⟨mp, fb, rfl, ho⟩ := OwnMem.new hp
  have M1 := Lib.hid ho
  clear hp ho
  go_wp2_with fail
  refine (NW.out w1).mono ?_
  rintro e w2 hp
  obtain ⟨mp', fb', rfl, ho⟩ := OwnMem.new hp
  have M2 := Lib.hid ho
  clear hp ho
  go_wp2_with fail
  have LS2 := Lib.hid ((LS.out.below M1.out.below).below M2.out.below)
  have M3 := Lib.hid ((M1.out.wider B0.out).step M2.out.below)
  refine (newpool_any mp fb (a + b) _ [(0, (a : Int)), ((a : Int), (b : Int))] _ _ M3.out.st LS2.out).mono ?_
  rintro e w4 hp
  obtain ⟨X, rfl, ho, hP, hX, hb4⟩ := OwnPool.make M3.out HT.out hp (okq_two a b (by omega) hb)
  have O4 := Lib.hid ho
  have HP := Lib.hid (show X.P = P2 a b from hP.trans (natQ_two a b))
  have XK := Lib.hid hX
  have N4 := Lib.hid ((M2.out.step hb4).wider (B0.out.trans (M1.out.below.mono B0.out.size)))
  have LS4 := Lib.hid (LS2.out.below hb4)
  clear hp ho hP hX hb4
  go_wp2_with fail
  refine (newpool_any mp' fb' (a + b) _ [(0, (a : Int)), ((a : Int), (b : Int))] _ _ N4.out.st LS4.out).mono ?_
  rintro e w6 hp
  obtain ⟨Y, rfl, ho, hP, hY, hb6⟩ := OwnPool.make N4.out HT.out hp (okq_two a b (by omega) hb)
  have HPY := Lib.hid (show Y.P = P2 a b from hP.trans (natQ_two a b))
  have D0 : Hid (Pools W w6 X Y (List.replicate ((a + b) * 32) 0) R0 (List.replicate ((a + b) * 32) 0) R0) := Lib.hid ⟨O4.out.step hb6, ho, pools_apart XK.out (fun k e => (hY k e).1) (lt_of_block M1.out.st.box) (lt_of_block M1.out.st.row) M2.out.lm M2.out.lf (lt_of_block M2.out.st.box) (lt_of_block M2.out.st.row) (Nat.le_refl _) (Nat.le_refl _)⟩
  clear hp ho hP hY hb6
  clear M1 M2 M3 N4 O4 XK LS LS2 LS4 NW B0
  go_wp2_with fail
  go_loopw [16] (fun iv wr => ApartRel W X Y a q iv wr) (fun i _ => q - (intOf i).toNat)
  case atStart => exact ⟨0, _, _, R0, R0, rfl, Nat.zero_le _, D0.out, Agree.start a⟩
  case round =>
    obtain ⟨k, L, K, R, Q, rfl, hk, hD, hA⟩ := hrel
    have D := Lib.hid hD
    have AG := Lib.hid hA
    clear hD hA
    by_cases hlt : k < q
    · obtain ⟨bb, o, c', d, x, hsl, hbw, hrow, e0, e1⟩ := pair_cells HS.out k (by rw [← HQ.out]; exact hlt)
      obtain ⟨rfl, rfl⟩ : s = some ⟨bb, o, none⟩ ∧ c' = c := by rw [← HQ.out] at hsl; cases hsl; exact ⟨rfl, rfl⟩
      have y0 := (D.out.one.below.cell (p := ⟨bb, o + k * 2, none⟩) hbw).trans e0
      have y1 := (D.out.one.below.cell (p := ⟨bb, o + k * 2 + 1, none⟩) hbw).trans e1
      have hx : I64 x := by
        have := (HB.out (S.getD k default) (by rw [List.getD_eq_getElem?_getD, List.getElem?_eq_getElem (by rw [← HQ.out]; exact hlt)]; exact List.getElem_mem _)).2
        rw [hrow] at this; exact this
      have HX := Lib.hid hx
      have ST := Lib.hid (ApartSt.start D.out AG.out d x)
      clear hsl e0 e1 hrow hbw
      by_cases d1 : d = 1
      · subst d1
        by_cases x1 : x = 1
        · subst x1
          have H := Lib.hid ST.out.half
          have F := Lib.hid ST.out.half.fit
          clear ST
          obtain ⟨s1, s2⟩ := AG.out.alloc1 b
          obtain ⟨u, hu⟩ : ∃ u, allocA (P2 a b) Q 1 = u := ⟨_, rfl⟩
          obtain ⟨u, e1⟩ := u
          rw [hu] at s1
          have U1 := Lib.hid s1
          have U2 := Lib.hid hu
          have AG2 := Lib.hid s2
          clear s1 s2 hu
          go_wp2_with fail
          refine (H.out.alloc1 HP.out U1.out).mono ?_
          rintro e w10 ⟨rfl, ho⟩
          have H := Lib.hid ho
          have c0 := ho.c0
          have c1 := ho.c1
          clear ho
          clear y0 y1
          go_wp2_with fail
          refine (H.out.alloc2 HPY.out U2.out).mono ?_
          rintro e w10 ⟨rfl, ho⟩
          have H := Lib.hid ho
          clear c0 c1
          have c0 := ho.c0
          have c1 := ho.c1
          clear ho
          have ST := Lib.hid (HalfSt.to (a := a) (R := allocR (P2 a b) R 1) (Q := allocR (P2 a b) Q 1) H.out (AG2.out))
          obtain ⟨l1, hl1⟩ : ∃ l, leftA (P2 a b) (allocR (P2 a b) Q 1) 1 = l := ⟨_, rfl⟩
          have L1 := Lib.hid hl1
          have L0 := Lib.hid (ST.out.agree.left0 b)
          clear hl1
          go_wp2_with fail
          refine (ST.out.left1 HP.out L1.out).mono ?_
          rintro e w20 ⟨rfl, ho⟩
          have ST := Lib.hid ho
          clear ho
          go_wp2_with fail
          refine (ST.out.left2 HPY.out L1.out).mono ?_
          rintro e w21 ⟨rfl, ho⟩
          have ST := Lib.hid ho
          clear ho
          go_wp2_with fail
          refine (ST.out.left2 HPY.out L0.out).mono ?_
          rintro e w22 ⟨rfl, ho⟩
          obtain ⟨L9, K9, hp9⟩ := ho.pools
          have D9 := Lib.hid hp9
          have A9 := Lib.hid ho.agree
          clear ho hp9
          go_wp2
          go_roundw
          case rel => exact ⟨k + 1, L9, K9, _, _, by go_num, by omega, D9.out, A9.out⟩
          case measure => simp [intOf]; omega
        · obtain ⟨u, hu⟩ : ∃ u, allocA (P2 a b) R x = u := ⟨_, rfl⟩
          obtain ⟨u, e1⟩ := u
          have U1 := Lib.hid hu
          have AG2 := Lib.hid (AG.out.allocN b x x1)
          clear hu
          have H := Lib.hid ST.out.half
          have F := Lib.hid ST.out.half.fit
          clear ST
          go_wp2_with fail
          refine (H.out.alloc1 HP.out U1.out).mono ?_
          rintro e w10 ⟨rfl, ho⟩
          have H := Lib.hid ho
          have c0 := ho.c0
          have c1 := ho.c1
          clear ho
          clear y0 y1
          have ST := Lib.hid (HalfSt.to (a := a) (R := allocR (P2 a b) R x) (Q := Q) H.out (AG2.out))
          obtain ⟨l1, hl1⟩ : ∃ l, leftA (P2 a b) (Q) 1 = l := ⟨_, rfl⟩
          have L1 := Lib.hid hl1
          have L0 := Lib.hid (ST.out.agree.left0 b)
          clear hl1
          go_wp2_with fail
          refine (ST.out.left1 HP.out L1.out).mono ?_
          rintro e w20 ⟨rfl, ho⟩
          have ST := Lib.hid ho
          clear ho
          go_wp2_with fail
          refine (ST.out.left2 HPY.out L1.out).mono ?_
          rintro e w21 ⟨rfl, ho⟩
          have ST := Lib.hid ho
          clear ho
          go_wp2_with fail
          refine (ST.out.left2 HPY.out L0.out).mono ?_
          rintro e w22 ⟨rfl, ho⟩
          obtain ⟨L9, K9, hp9⟩ := ho.pools
          have D9 := Lib.hid hp9
          have A9 := Lib.hid ho.agree
          clear ho hp9
          go_wp2
          go_roundw
          case rel => exact ⟨k + 1, L9, K9, _, _, by go_num, by omega, D9.out, A9.out⟩
          case measure => simp [intOf]; omega
      · by_cases d2 : d = 2
        · subst d2
          by_cases xa : (a : Int) ≤ x
          · have g0 : decide ((a : Int) ≤ x) = true := decide_eq_true xa
            have H := Lib.hid ST.out.half
            have F := Lib.hid ST.out.half.fit
            clear ST
            obtain ⟨s1, s2⟩ := AG.out.share (P2 a b) x xa
            obtain ⟨u, hu⟩ : ∃ u, shareE (P2 a b) Q x = u := ⟨_, rfl⟩
            rw [hu] at s1
            have U1 := Lib.hid s1
            have U2 := Lib.hid hu
            have AG2 := Lib.hid s2
            clear s1 s2 hu
            go_wp2_with fail
            refine (H.out.share1 HP.out U1.out HX.out).mono ?_
            rintro e w10 ⟨rfl, ho⟩
            have H := Lib.hid ho
            have c0 := ho.c0
            have c1 := ho.c1
            clear ho
            clear y0 y1
            go_wp2_with fail
            refine (H.out.share2 HPY.out U2.out HX.out).mono ?_
            rintro e w10 ⟨rfl, ho⟩
            have H := Lib.hid ho
            clear c0 c1
            have c0 := ho.c0
            have c1 := ho.c1
            clear ho
            have ST := Lib.hid (HalfSt.to (a := a) (R := shareR (P2 a b) R x) (Q := shareR (P2 a b) Q x) H.out (AG2.out))
            obtain ⟨l1, hl1⟩ : ∃ l, leftA (P2 a b) (shareR (P2 a b) Q x) 1 = l := ⟨_, rfl⟩
            have L1 := Lib.hid hl1
            have L0 := Lib.hid (ST.out.agree.left0 b)
            clear hl1
            go_wp2_with fail
            refine (ST.out.left1 HP.out L1.out).mono ?_
            rintro e w20 ⟨rfl, ho⟩
            have ST := Lib.hid ho
            clear ho
            go_wp2_with fail
            refine (ST.out.left2 HPY.out L1.out).mono ?_
            rintro e w21 ⟨rfl, ho⟩
            have ST := Lib.hid ho
            clear ho
            go_wp2_with fail
            refine (ST.out.left2 HPY.out L0.out).mono ?_
            rintro e w22 ⟨rfl, ho⟩
            obtain ⟨L9, K9, hp9⟩ := ho.pools
            have D9 := Lib.hid hp9
            have A9 := Lib.hid ho.agree
            clear ho hp9
            go_wp2
            go_roundw
            case rel => exact ⟨k + 1, L9, K9, _, _, by go_num, by omega, D9.out, A9.out⟩
            case measure => simp [intOf]; omega
          · have g0 : decide ((a : Int) ≤ x) = false := decide_eq_false xa
            have H := Lib.hid ST.out.half
            have F := Lib.hid ST.out.half.fit
            clear ST
            rw [HP.out] at F
            obtain ⟨u, hu⟩ : ∃ u, shareE (P2 a b) R x = u := ⟨_, rfl⟩
            have U1 := Lib.hid hu
            have AG2 := Lib.hid (AG.out.shareN F.out x (by omega))
            clear hu
            go_wp2_with fail
            refine (H.out.share1 HP.out U1.out HX.out).mono ?_
            rintro e w10 ⟨rfl, ho⟩
            have H := Lib.hid ho
            have c0 := ho.c0
            have c1 := ho.c1
            clear ho
            clear y0 y1
            have ST := Lib.hid (HalfSt.to (a := a) (R := shareR (P2 a b) R x) (Q := Q) H.out (AG2.out))
            obtain ⟨l1, hl1⟩ : ∃ l, leftA (P2 a b) (Q) 1 = l := ⟨_, rfl⟩
            have L1 := Lib.hid hl1
            have L0 := Lib.hid (ST.out.agree.left0 b)
            clear hl1
            go_wp2_with fail
            refine (ST.out.left1 HP.out L1.out).mono ?_
            rintro e w20 ⟨rfl, ho⟩
            have ST := Lib.hid ho
            clear ho
            go_wp2_with fail
            refine (ST.out.left2 HPY.out L1.out).mono ?_
            rintro e w21 ⟨rfl, ho⟩
            have ST := Lib.hid ho
            clear ho
            go_wp2_with fail
            refine (ST.out.left2 HPY.out L0.out).mono ?_
            rintro e w22 ⟨rfl, ho⟩
            obtain ⟨L9, K9, hp9⟩ := ho.pools
            have D9 := Lib.hid hp9
            have A9 := Lib.hid ho.agree
            clear ho hp9
            go_wp2
            go_roundw
            case rel => exact ⟨k + 1, L9, K9, _, _, by go_num, by omega, D9.out, A9.out⟩
            case measure => simp [intOf]; omega
        · by_cases d3 : d = 3
          · subst d3
            by_cases xa : (a : Int) ≤ x
            · have g0 : decide ((a : Int) ≤ x) = true := decide_eq_true xa
              have H := Lib.hid ST.out.half
              have F := Lib.hid ST.out.half.fit
              clear ST
              have s1 := AG.out.held (P2 a b) x xa
              have s2 := AG.out.free (P2 a b) x xa
              obtain ⟨u, hu⟩ : ∃ u, heldE (P2 a b) Q x = u := ⟨_, rfl⟩
              rw [hu] at s1
              have U1 := Lib.hid s1
              have U2 := Lib.hid hu
              have AG2 := Lib.hid s2
              clear s1 s2 hu
              go_wp2_with fail
              refine (H.out.free1 HP.out U1.out HX.out).mono ?_
              rintro e w10 ⟨rfl, ho⟩
              have H := Lib.hid ho
              have c0 := ho.c0
              have c1 := ho.c1
              clear ho
              clear y0 y1
              go_wp2_with fail
              refine (H.out.free2 HPY.out U2.out HX.out).mono ?_
              rintro e w10 ⟨rfl, ho⟩
              have H := Lib.hid ho
              clear c0 c1
              have c0 := ho.c0
              have c1 := ho.c1
              clear ho
              have ST := Lib.hid (HalfSt.to (a := a) (R := freeR (P2 a b) R x) (Q := freeR (P2 a b) Q x) H.out (AG2.out))
              obtain ⟨l1, hl1⟩ : ∃ l, leftA (P2 a b) (freeR (P2 a b) Q x) 1 = l := ⟨_, rfl⟩
              have L1 := Lib.hid hl1
              have L0 := Lib.hid (ST.out.agree.left0 b)
              clear hl1
              go_wp2_with fail
              refine (ST.out.left1 HP.out L1.out).mono ?_
              rintro e w20 ⟨rfl, ho⟩
              have ST := Lib.hid ho
              clear ho
              go_wp2_with fail
              refine (ST.out.left2 HPY.out L1.out).mono ?_
              rintro e w21 ⟨rfl, ho⟩
              have ST := Lib.hid ho
              clear ho
              go_wp2_with fail
              refine (ST.out.left2 HPY.out L0.out).mono ?_
              rintro e w22 ⟨rfl, ho⟩
              obtain ⟨L9, K9, hp9⟩ := ho.pools
              have D9 := Lib.hid hp9
              have A9 := Lib.hid ho.agree
              clear ho hp9
              go_wp2
              go_roundw
              case rel => exact ⟨k + 1, L9, K9, _, _, by go_num, by omega, D9.out, A9.out⟩
              case measure => simp [intOf]; omega
            · have g0 : decide ((a : Int) ≤ x) = false := decide_eq_false xa
              have H := Lib.hid ST.out.half
              have F := Lib.hid ST.out.half.fit
              clear ST
              rw [HP.out] at F
              obtain ⟨u, hu⟩ : ∃ u, heldE (P2 a b) R x = u := ⟨_, rfl⟩
              have U1 := Lib.hid hu
              have AG2 := Lib.hid (AG.out.freeN F.out x (by omega))
              clear hu
              go_wp2_with fail
              refine (H.out.free1 HP.out U1.out HX.out).mono ?_
              rintro e w10 ⟨rfl, ho⟩
              have H := Lib.hid ho
              have c0 := ho.c0
              have c1 := ho.c1
              clear ho
              clear y0 y1
              have ST := Lib.hid (HalfSt.to (a := a) (R := freeR (P2 a b) R x) (Q := Q) H.out (AG2.out))
              obtain ⟨l1, hl1⟩ : ∃ l, leftA (P2 a b) (Q) 1 = l := ⟨_, rfl⟩
              have L1 := Lib.hid hl1
              have L0 := Lib.hid (ST.out.agree.left0 b)
              clear hl1
              go_wp2_with fail
              refine (ST.out.left1 HP.out L1.out).mono ?_
              rintro e w20 ⟨rfl, ho⟩
              have ST := Lib.hid ho
              clear ho
              go_wp2_with fail
              refine (ST.out.left2 HPY.out L1.out).mono ?_
              rintro e w21 ⟨rfl, ho⟩
              have ST := Lib.hid ho
              clear ho
              go_wp2_with fail
              refine (ST.out.left2 HPY.out L0.out).mono ?_
              rintro e w22 ⟨rfl, ho⟩
              obtain ⟨L9, K9, hp9⟩ := ho.pools
              have D9 := Lib.hid hp9
              have A9 := Lib.hid ho.agree
              clear ho hp9
              go_wp2
              go_roundw
              case rel => exact ⟨k + 1, L9, K9, _, _, by go_num, by omega, D9.out, A9.out⟩
              case measure => simp [intOf]; omega
          · by_cases xa : (a : Int) ≤ x
            · have g0 : decide ((a : Int) ≤ x) = true := decide_eq_true xa
              have H := Lib.hid ST.out.half
              clear ST
              have ST := Lib.hid (HalfSt.to (a := a) (R := R) (Q := Q) H.out (AG.out))
              obtain ⟨l1, hl1⟩ : ∃ l, leftA (P2 a b) (Q) 1 = l := ⟨_, rfl⟩
              have L1 := Lib.hid hl1
              have L0 := Lib.hid (ST.out.agree.left0 b)
              clear hl1
              go_wp2_with fail
              refine (ST.out.left1 HP.out L1.out).mono ?_
              rintro e w20 ⟨rfl, ho⟩
              have ST := Lib.hid ho
              clear ho
              go_wp2_with fail
              refine (ST.out.left2 HPY.out L1.out).mono ?_
              rintro e w21 ⟨rfl, ho⟩
              have ST := Lib.hid ho
              clear ho
              go_wp2_with fail
              refine (ST.out.left2 HPY.out L0.out).mono ?_
              rintro e w22 ⟨rfl, ho⟩
              obtain ⟨L9, K9, hp9⟩ := ho.pools
              have D9 := Lib.hid hp9
              have A9 := Lib.hid ho.agree
              clear ho hp9
              go_wp2
              go_roundw
              case rel => exact ⟨k + 1, L9, K9, _, _, by go_num, by omega, D9.out, A9.out⟩
              case measure => simp [intOf]; omega
            · have g0 : decide ((a : Int) ≤ x) = false := decide_eq_false xa
              have H := Lib.hid ST.out.half
              clear ST
              have ST := Lib.hid (HalfSt.to (a := a) (R := R) (Q := Q) H.out (AG.out))
              obtain ⟨l1, hl1⟩ : ∃ l, leftA (P2 a b) (Q) 1 = l := ⟨_, rfl⟩
              have L1 := Lib.hid hl1
              have L0 := Lib.hid (ST.out.agree.left0 b)
              clear hl1
              go_wp2_with fail
              refine (ST.out.left1 HP.out L1.out).mono ?_
              rintro e w20 ⟨rfl, ho⟩
              have ST := Lib.hid ho
              clear ho
              go_wp2_with fail
              refine (ST.out.left2 HPY.out L1.out).mono ?_
              rintro e w21 ⟨rfl, ho⟩
              have ST := Lib.hid ho
              clear ho
              go_wp2_with fail
              refine (ST.out.left2 HPY.out L0.out).mono ?_
              rintro e w22 ⟨rfl, ho⟩
              obtain ⟨L9, K9, hp9⟩ := ho.pools
              have D9 := Lib.hid hp9
              have A9 := Lib.hid ho.agree
              clear ho hp9
              go_wp2
              go_roundw
              case rel => exact ⟨k + 1, L9, K9, _, _, by go_num, by omega, D9.out, A9.out⟩
              case measure => simp [intOf]; omega
    · obtain rfl : k = q := by omega
      go_wp2_with (go_at_call 10; refine (awake9 _ D.out.one.table).mono ?_; rintro e w10 ⟨rfl, hb⟩; have D := Lib.hid (D.out.step hb); clear hb)
      go_ret
      exact ⟨rfl, D.out.one.below⟩
theorem pallocApart_walk (a b : Int) (v : Value) (S : List (Int × Int)) (W : World) (_ha : I64 a) (_hb : I64 b) (hS : ArgPairs W v S) (hT : LaidQ W) : Calls Tryd.prog 5 #[.int .i64 a, .int .i64 b, v] W fun e w' => e = .returned (.bool true) ∧ Below W.heap.size W w' := by
  by_cases h : a < 2 ∨ (2 ≤ a ∧ 20 < a) ∨ (2 ≤ a ∧ a ≤ 20 ∧ b < 1) ∨ (2 ≤ a ∧ a ≤ 20 ∧ 1 ≤ b ∧ 20 < b) ∨ (2 ≤ a ∧ a ≤ 20 ∧ 1 ≤ b ∧ b ≤ 20 ∧ 200 < S.length)
  · obtain ⟨⟨s, c, rfl, _⟩, _⟩ := hS
    exact apart_far a b _ c s W h hT
  · obtain ⟨a, rfl⟩ := Int.eq_ofNat_of_zero_le (show 0 ≤ a by omega)
    obtain ⟨b, rfl⟩ := Int.eq_ofNat_of_zero_le (show 0 ≤ b by omega)
    exact apart_in a b S v W (by omega) (by omega) (by omega) (by omega) hS (by omega) hT
end Go.Proofs.YtiohnhgoddfebaaDoor
