/- The contract of the document's own numbers, layer 6: whether a configuration may be, but for its frames. Condition: its lists lie in memory. -/
import Derived.Test.YtepfljfaclakeaaC5
import Derived.Deep.RegionHeld3
namespace Go.Proofs.Ytepfljfaclakeaa
open Go.RowKit
set_option maxRecDepth 100000

theorem rin_ok (n lo hi : Int) (w : World) : Calls Try.prog 40 #[.int .i64 n, .int .i64 lo, .int .i64 hi] w fun e w' => e = .returned (.bool (inB n lo hi)) ∧ w = w' := by
  unfold inB
  by_cases h : lo ≤ n
  · have h1 : decide (lo ≤ n) = true := decide_eq_true h
    rw [h1, Bool.true_and]
    clear h1
    go_enter Try.func40, Try.ntmps40
    go_wp2
    go_ret
    exact ⟨rfl, rfl⟩
  · have h1 : decide (lo ≤ n) = false := decide_eq_false h
    rw [h1, Bool.false_and]
    clear h1
    go_enter Try.func40, Try.ntmps40
    go_wp2
    go_ret
    exact ⟨rfl, rfl⟩
theorem rin_is (n lo hi : Int) (r : Bool) (h : inB n lo hi = r) (w : World) : Calls Try.prog 40 #[.int .i64 n, .int .i64 lo, .int .i64 hi] w fun e w' => e = .returned (.bool r) ∧ w = w' := h ▸ rin_ok n lo hi w
theorem rin_quiet (n lo hi : Int) (r : Bool) (h : inB n lo hi = r) (w : World) : Calls Try.prog 40 #[.int .i64 n, .int .i64 lo, .int .i64 hi] w fun e w' => e = .returned (.bool r) ∧ w' = w := (rin_is n lo hi r h w).mono fun _ _ h => ⟨h.1, h.2.symm⟩
theorem any_take (p : Row → Bool) (S : List Row) (j : Nat) (h : j < S.length) : (S.take (j + 1)).any p = ((S.take j).any p || p (S.getD j [])) := by
  have e : S.getD j [] = S[j] := by simp [List.getD_eq_getElem?_getD, h]
  rw [List.take_succ_eq_append_getElem h, List.any_append, e]
  simp
/-- Slices of rows, opened. -/
theorem RowsAt.two {w w' : World} {a : Option Addr} {n c : Nat} {S : List Row} (h : RowsAt 2 w (.slice a n c) S) (hb : Below w.heap.size w w') (i : Nat) (hi : i < n) :
    n = S.length ∧ ∃ b o x y, a = some ⟨b, o, none⟩ ∧ b < w'.heap.size ∧ S.getD i [] = [x, y] ∧ w'.cell? ⟨b, o + i * 2, none⟩ = some (.int .i64 x) ∧ w'.cell? ⟨b, o + i * 2 + 1, none⟩ = some (.int .i64 y) := by
  obtain ⟨a', c', hq, _, hT, hS⟩ := h
  obtain ⟨e1, e2, -⟩ := Value.slice.inj hq
  subst e1
  refine ⟨e2, ?_⟩
  obtain ⟨b, o, rfl, hlt, hc⟩ := hS.resolve_left (by intro e; rw [e] at e2; simp at e2; omega)
  obtain ⟨x, y, hrow, c0, c1⟩ := two_cells hT hc i (by omega)
  exact ⟨b, o, x, y, rfl, Nat.lt_of_lt_of_le hlt hb.size, hrow, (hb.cell (p := ⟨b, o + i * 2, none⟩) hlt).trans c0, (hb.cell (p := ⟨b, o + i * 2 + 1, none⟩) hlt).trans c1⟩
theorem RowsAt.four {w w' : World} {a : Option Addr} {n c : Nat} {S : List Row} (h : RowsAt 4 w (.slice a n c) S) (hb : Below w.heap.size w w') (i : Nat) (hi : i < n) :
    n = S.length ∧ ∃ b o x y z t, a = some ⟨b, o, none⟩ ∧ b < w'.heap.size ∧ S.getD i [] = [x, y, z, t] ∧ w'.cell? ⟨b, o + i * 4, none⟩ = some (.int .i64 x) ∧ w'.cell? ⟨b, o + i * 4 + 1, none⟩ = some (.int .i64 y) ∧ w'.cell? ⟨b, o + i * 4 + 2, none⟩ = some (.int .i64 z) ∧ w'.cell? ⟨b, o + i * 4 + 3, none⟩ = some (.int .i64 t) := by
  obtain ⟨a', c', hq, _, hT, hS⟩ := h
  obtain ⟨e1, e2, -⟩ := Value.slice.inj hq
  subst e1
  refine ⟨e2, ?_⟩
  obtain ⟨b, o, rfl, hlt, hc⟩ := hS.resolve_left (by intro e; rw [e] at e2; simp at e2; omega)
  obtain ⟨x, y, z, t, hrow, c0, c1, c2, c3⟩ := four_cells hT hc i (by omega)
  exact ⟨b, o, x, y, z, t, rfl, Nat.lt_of_lt_of_le hlt hb.size, hrow, (hb.cell (p := ⟨b, o + i * 4, none⟩) hlt).trans c0, (hb.cell (p := ⟨b, o + i * 4 + 1, none⟩) hlt).trans c1, (hb.cell (p := ⟨b, o + i * 4 + 2, none⟩) hlt).trans c2, (hb.cell (p := ⟨b, o + i * 4 + 3, none⟩) hlt).trans c3⟩
def Num1 (w : World) (P W : List Row) (n : Nat) (i : Value) (wr : World) : Prop := ∃ j : Nat, i = .int .i64 (j : Int) ∧ j ≤ n ∧ Below w.heap.size w wr ∧ (P.take j).all partB = true ∧ (List.range j).all (hasB W) = true
def Num2 (w : World) (W : List Row) (q : Int) (m : Nat) (h k : Value) (wr : World) : Prop := ∃ j : Nat, k = .int .i64 (j : Int) ∧ j ≤ m ∧ Below w.heap.size w wr ∧ h = .bool ((W.take j).any fun T => T.getD 0 0 == q)
def Num3 (w : World) (p : Row → Bool) (S : List Row) (n : Nat) (i : Value) (wr : World) : Prop := ∃ j : Nat, i = .int .i64 (j : Int) ∧ j ≤ n ∧ Below w.heap.size w wr ∧ (S.take j).all p = true
set_option maxHeartbeats 8000000 in
theorem rnumbers_in (a1 a2 a3 : Option Addr) (n m k c1 c2 c3 : Nat) (P W H : List Row) (hn : n = P.length) (hm : m = W.length) (hk : k = H.length) (ht1 : n ≤ 1000) (ht2 : m ≤ 1000) (ht3 : k ≤ 1000) (w : World) (h : CfAt w (.slice a1 n c1) (.slice a2 m c2) (.slice a3 k c3) (P, W, H)) :
    Calls Try.prog 28 #[.agg #[.slice a1 n c1, .slice a2 m c2, .slice a3 k c3]] w fun e w' => e = .returned (.bool (mayB (P, W, H))) ∧ Below w.heap.size w w' := by
  obtain ⟨w1, hw1⟩ : ∃ w1, w1 = w.alloc (.cells #[.slice a1 n c1, .slice a2 m c2, .slice a3 k c3] 26) := ⟨_, rfl⟩
  have hb1 : Below w.heap.size w w1 := by rw [hw1]; exact (Below.refl _ _).alloc (Nat.le_refl _) _
  have HX : CBox w1 w.heap.size (.slice a1 n c1) (.slice a2 m c2) (.slice a3 k c3) := by rw [hw1]; exact CBox.new w _ _ _
  have HC := Lib.hid (h.below hb1)
  have X1 := Lib.hid HX
  have B1 := Lib.hid hb1
  have hmb : mayB (P, W, H) = ((inB n 1 8 && P.all partB) && ((inB m 1 32 && W.all (winB n)) && ((inB k 0 16 && H.all (chanB n)) && (List.range n).all (hasB W)))) := by rw [hn, hm, hk]; rfl
  have HM := Lib.hid hmb
  have HN := Lib.hid hn
  have HMM := Lib.hid hm
  have HK := Lib.hid hk
  have e0 := HX.c0
  have e1 := HX.c1
  have e2 := HX.c2
  clear h hb1 HX hn hm hk hmb
  cases hr1 : inB (n : Int) 1 8 with
  | false =>
    go_enter Try.func28, Try.ntmps28
    go_wp2_with fail
    rw [← hw1]
    clear hw1
    refine (rin_is _ _ _ _ hr1 _).mono ?_
    rintro e w2 ⟨rfl, rfl⟩
    go_wp2
    go_ret
    exact ⟨ret_bool (by rw [HM.out, hr1]; simp), B1.out⟩
  | true =>
    cases hr2 : inB (m : Int) 1 32 with
    | false =>
      go_enter Try.func28, Try.ntmps28
      go_wp2_with fail
      rw [← hw1]
      clear hw1
      refine (rin_is _ _ _ _ hr1 _).mono ?_
      rintro e w2 ⟨rfl, rfl⟩
      go_wp2_with fail
      refine (rin_is _ _ _ _ hr2 _).mono ?_
      rintro e w2 ⟨rfl, rfl⟩
      go_wp2
      go_ret
      exact ⟨ret_bool (by rw [HM.out, hr2]; simp), B1.out⟩
    | true =>
      by_cases hr3 : k ≤ 16
      · have hk3 : inB (k : Int) 0 16 = true := by rw [inB_iff]; omega
        have hk4 : ¬ (16 : Int) < (k : Int) := by omega
        go_enter Try.func28, Try.ntmps28
        go_wp2_with fail
        rw [← hw1]
        clear hw1
        refine (rin_is _ _ _ _ hr1 _).mono ?_
        rintro e w2 ⟨rfl, rfl⟩
        go_wp2_with fail
        refine (rin_is _ _ _ _ hr2 _).mono ?_
        rintro e w2 ⟨rfl, rfl⟩
        go_wp2_with fail
        clear e0 e1 e2
        go_loopw [3] (fun i wr => Num1 w1 P W n i wr) (fun i _ => (n - (intOf i).toNat))
        case atStart => exact ⟨0, rfl, Nat.zero_le _, Below.refl _ _, by simp, rfl⟩
        case round =>
          obtain ⟨j, rfl, hj, hB, hp, hh⟩ := hrel
          have K := Lib.hid hB
          have AP := Lib.hid hp
          have AH := Lib.hid hh
          clear hB hp hh
          have e0 := (X1.out.below K.out).c0
          by_cases hlt : j < n
          · go_wp2_with fail
            go_loopw [4, 5] (fun h k' wr' => Num2 w1 W j m h k' wr') (fun _ k' _ => (m - (intOf k').toNat))
            case atStart => exact ⟨0, rfl, Nat.zero_le _, K.out, by simp⟩
            case round =>
              obtain ⟨i, rfl, hi, hB, rfl⟩ := hrel
              have K2 := Lib.hid hB
              clear hB e0
              have e1 := (X1.out.below K2.out).c1
              by_cases hlt2 : i < m
              · obtain ⟨hmW, b, o, x, y, rfl, hbl, hrow, g0, g1⟩ := (show RowsAt 2 w1 (.slice a2 m c2) W from HC.out.ws).two K2.out i hlt2
                have hany := any_take (fun T => T.getD 0 0 == (j : Int)) W i (by omega)
                rw [hrow] at hany
                rw [show (([x, y] : Row).getD 0 0 == (j : Int)) = (x == (j : Int)) from rfl] at hany
                have ANY := Lib.hid hany
                clear hany hrow
                cases hh : (W.take i).any (fun T => T.getD 0 0 == (j : Int)) with
                | true =>
                  go_wp2
                  go_roundw
                  case rel => exact ⟨i + 1, by go_num, by omega, K2.out, by rw [ANY.out, hh]; rfl⟩
                  case measure => simp [intOf]; omega
                | false =>
                  go_wp2
                  go_roundw
                  case rel => exact ⟨i + 1, by go_num, by omega, K2.out, by rw [ANY.out, hh]; rfl⟩
                  case measure => simp [intOf]; omega
              · obtain rfl : i = m := by omega
                have e0 := (X1.out.below K2.out).c0
                have hv : ((W.take i).any fun T => T.getD 0 0 == (j : Int)) = hasB W j := by rw [HMM.out, List.take_length]; rfl
                rw [hv]
                clear hv hlt2
                cases hh : hasB W j with
                | false =>
                  go_wp2
                  go_ret
                  exact ⟨ret_bool (by rw [HM.out, range_not (hasB W) j n hlt hh]; simp), B1.out.trans (K2.out.mono B1.out.size)⟩
                | true =>
                  have AH2 : Hid ((List.range (j + 1)).all (hasB W) = true) := Lib.hid (by rw [range_all, AH.out, hh]; rfl)
                  obtain ⟨hnP, b, o, x, y, rfl, hbl, hrow, g0, g1⟩ := (show RowsAt 2 w1 (.slice a1 n c1) P from HC.out.ps).two K2.out j hlt
                  have ROW := Lib.hid hrow
                  have NP := Lib.hid hnP
                  clear hrow hnP hh
                  have hpb : partB [x, y] = (inB x 4 256 && inB y 1 8) := rfl
                  have PB := Lib.hid hpb
                  clear hpb
                  go_wp2_with fail
                  cases hx : inB x 4 256 with
                  | false =>
                    refine (rin_is _ _ _ _ hx _).mono ?_
                    rintro e w2 ⟨rfl, rfl⟩
                    go_wp2
                    go_ret
                    exact ⟨ret_bool (by rw [HM.out, not_all partB P j (by have := NP.out; omega) (by rw [ROW.out, PB.out, hx]; rfl)]; simp), B1.out.trans (K2.out.mono B1.out.size)⟩
                  | true =>
                    refine (rin_is _ _ _ _ hx _).mono ?_
                    rintro e w2 ⟨rfl, rfl⟩
                    go_wp2_with fail
                    cases hy : inB y 1 8 with
                    | false =>
                      refine (rin_is _ _ _ _ hy _).mono ?_
                      rintro e w2 ⟨rfl, rfl⟩
                      go_wp2
                      go_ret
                      exact ⟨ret_bool (by rw [HM.out, not_all partB P j (by have := NP.out; omega) (by rw [ROW.out, PB.out, hx, hy]; rfl)]; simp), B1.out.trans (K2.out.mono B1.out.size)⟩
                    | true =>
                      refine (rin_is _ _ _ _ hy _).mono ?_
                      rintro e w2 ⟨rfl, rfl⟩
                      have AP2 := Lib.hid (takeRows_all partB P j (by have := NP.out; omega) AP.out (by rw [ROW.out, PB.out, hx, hy]; rfl))
                      go_wp2
                      go_roundw
                      case rel => exact ⟨j + 1, by go_num, by omega, K2.out, AP2.out, AH2.out⟩
                      case measure => simp [intOf]; omega
          · obtain rfl : j = n := by omega
            have hpa : P.all partB = true := by have := AP.out; rwa [HN.out, List.take_length] at this
            have hha := AH.out
            have HM2 : Hid (mayB (P, W, H) = (W.all (winB j) && H.all (chanB j))) := Lib.hid (by rw [HM.out, hr1, hr2, hk3, hpa, hha]; simp)
            have e1 := (X1.out.below K.out).c1
            clear hlt AP AH hpa hha HM
            go_wp2_with fail
            go_loopw [6] (fun i wr => Num3 w1 (winB j) W m i wr) (fun i _ => (m - (intOf i).toNat))
            case atStart => exact ⟨0, rfl, Nat.zero_le _, K.out, by simp⟩
            case round =>
              obtain ⟨i, rfl, hi, hB, hall⟩ := hrel
              have K2 := Lib.hid hB
              have AW := Lib.hid hall
              clear hB hall e0 e1
              have e1 := (X1.out.below K2.out).c1
              have e0 := (X1.out.below K2.out).c0
              by_cases hlt2 : i < m
              · obtain ⟨hmW, b, o, x, y, rfl, hbl, hrow, g0, g1⟩ := (show RowsAt 2 w1 (.slice a2 m c2) W from HC.out.ws).two K2.out i hlt2
                have ROW := Lib.hid hrow
                have MW := Lib.hid hmW
                clear hrow hmW
                have hpb : winB j [x, y] = (inB x 0 ((j : Int) - 1) && inB y 1 255) := rfl
                have PB := Lib.hid hpb
                clear hpb
                cases hx : inB x 0 ((j : Int) - 1) with
                | false =>
                  have E : Hid (W.all (winB j) = false) := Lib.hid (not_all (winB j) W i (by have := MW.out; omega) (by rw [ROW.out, PB.out, hx]; rfl))
                  go_wp2_with fail
                  go_quiet ((go_at_call 40; exact Calls.quiet_of_same (rin_quiet _ _ _ _ (by assumption) _)))
                  go_wp2
                  go_ret
                  exact ⟨ret_bool (by rw [HM2.out, E.out]; rfl), B1.out.trans ((below_drewN K2.out _).mono B1.out.size)⟩
                | true =>
                  cases hy : inB y 1 255 with
                  | false =>
                    have E : Hid (W.all (winB j) = false) := Lib.hid (not_all (winB j) W i (by have := MW.out; omega) (by rw [ROW.out, PB.out, hx, hy]; rfl))
                    go_wp2_with fail
                    go_quiet ((go_at_call 40; exact Calls.quiet_of_same (rin_quiet _ _ _ _ (by assumption) _)))
                    go_wp2
                    go_ret
                    exact ⟨ret_bool (by rw [HM2.out, E.out]; rfl), B1.out.trans ((below_drewN K2.out _).mono B1.out.size)⟩
                  | true =>
                    have AW2 := Lib.hid (takeRows_all (winB j) W i (by have := MW.out; omega) AW.out (by rw [ROW.out, PB.out, hx, hy]; rfl))
                    go_wp2_with fail
                    go_quiet ((go_at_call 40; exact Calls.quiet_of_same (rin_quiet _ _ _ _ (by assumption) _)))
                    go_wp2
                    go_roundw
                    case rel => exact ⟨i + 1, by go_num, by omega, below_drewN K2.out _, AW2.out⟩
                    case measure => simp [intOf]; omega
              · obtain rfl : i = m := by omega
                have hwa : W.all (winB j) = true := by have := AW.out; rwa [HMM.out, List.take_length] at this
                have HM3 : Hid (mayB (P, W, H) = H.all (chanB j)) := Lib.hid (by rw [HM2.out, hwa]; rfl)
                have e2 := (X1.out.below K2.out).c2
                clear hlt2 AW hwa HM2
                go_wp2_with fail
                go_loopw [7] (fun i wr => Num3 w1 (chanB j) H k i wr) (fun i _ => (k - (intOf i).toNat))
                case atStart => exact ⟨0, rfl, Nat.zero_le _, K2.out, by simp⟩
                case round =>
                  obtain ⟨l, rfl, hl, hB, hall⟩ := hrel
                  have K3 := Lib.hid hB
                  have AC := Lib.hid hall
                  clear hB hall e0 e1 e2
                  have e2 := (X1.out.below K3.out).c2
                  have e0 := (X1.out.below K3.out).c0
                  have elt : w.heap.size < wr.heap.size := lt_of_block (X1.out.below K3.out)
                  by_cases hlt3 : l < k
                  · obtain ⟨hkH, b, o, x, y, z, t, rfl, hbl, hrow, g0, g1, g2, g3⟩ := (show RowsAt 4 w1 (.slice a3 k c3) H from HC.out.hs).four K3.out l hlt3
                    have ROW := Lib.hid hrow
                    have KH := Lib.hid hkH
                    clear hrow hkH
                    have A4 := Lib.hid (K3.out.alloc K3.out.size (.cells #[.int .i64 x, .int .i64 y, .int .i64 z, .int .i64 t] 44))
                    have e : chanB j [x, y, z, t] = (inB x 0 ((j : Int) - 1) && (inB y 0 ((j : Int) - 1) && (!(x == y) && (inB z 1 8 && inB t 1 8)))) := rfl
                    obtain ⟨r1, h1⟩ : ∃ r, inB x 0 ((j : Int) - 1) = r := ⟨_, rfl⟩
                    obtain ⟨r2, h2⟩ : ∃ r, inB y 0 ((j : Int) - 1) = r := ⟨_, rfl⟩
                    obtain ⟨r3, h3⟩ : ∃ r, (x == y) = r := ⟨_, rfl⟩
                    obtain ⟨r4, h4⟩ : ∃ r, inB z 1 8 = r := ⟨_, rfl⟩
                    obtain ⟨r5, h5⟩ : ∃ r, inB t 1 8 = r := ⟨_, rfl⟩
                    rw [h1, h2, h3, h4, h5] at e
                    have E := Lib.hid e
                    clear e
                    by_cases hall : (r1 && (r2 && (!r3 && (r4 && r5)))) = true
                    · have AC2 := Lib.hid (takeRows_all (chanB j) H l (by have := KH.out; omega) AC.out (by rw [ROW.out, E.out]; exact hall))
                      simp only [Bool.and_eq_true, Bool.not_eq_true'] at hall
                      obtain ⟨rfl, rfl, rfl, rfl, rfl⟩ := hall
                      go_wp2_with (go_at_call 40; refine (rin_is _ _ _ _ (by assumption) _).mono ?_; rintro e w2 ⟨rfl, rfl⟩)
                      go_roundw
                      case rel => exact ⟨l + 1, by go_num, by omega, A4.out, AC2.out⟩
                      case measure => simp [intOf]; omega
                    · have EE : Hid (mayB (P, W, H) = false) := Lib.hid (by rw [HM3.out]; exact not_all (chanB j) H l (by have := KH.out; omega) (by rw [ROW.out, E.out]; simpa using hall))
                      clear E HM3
                      have hcase : r1 = false ∨ (r1 = true ∧ r2 = false) ∨ (r1 = true ∧ r2 = true ∧ r3 = true) ∨ (r1 = true ∧ r2 = true ∧ r3 = false ∧ r4 = false) ∨ (r1 = true ∧ r2 = true ∧ r3 = false ∧ r4 = true ∧ r5 = false) := by
                        revert hall; cases r1 <;> cases r2 <;> cases r3 <;> cases r4 <;> cases r5 <;> decide
                      clear hall
                      rcases hcase with rfl | ⟨rfl, rfl⟩ | ⟨rfl, rfl, rfl⟩ | ⟨rfl, rfl, rfl, rfl⟩ | ⟨rfl, rfl, rfl, rfl, rfl⟩
                      all_goals
                        go_wp2_with (go_at_call 40; refine (rin_is _ _ _ _ (by assumption) _).mono ?_; rintro e w2 ⟨rfl, rfl⟩)
                        go_ret
                        exact ⟨ret_bool EE.out.symm, B1.out.trans (A4.out.mono B1.out.size)⟩
                  · obtain rfl : l = k := by omega
                    have hca : H.all (chanB j) = true := by have := AC.out; rwa [HK.out, List.take_length] at this
                    clear hlt3
                    go_wp2
                    go_ret
                    exact ⟨ret_bool (by rw [HM3.out, hca]), B1.out.trans (K3.out.mono B1.out.size)⟩
      · have hk3 : inB (k : Int) 0 16 = false := by
          cases he : inB (k : Int) 0 16 with
          | false => rfl
          | true => rw [inB_iff] at he; omega
        have hk4 : (16 : Int) < (k : Int) := by omega
        go_enter Try.func28, Try.ntmps28
        go_wp2_with fail
        rw [← hw1]
        clear hw1
        refine (rin_is _ _ _ _ hr1 _).mono ?_
        rintro e w2 ⟨rfl, rfl⟩
        go_wp2_with fail
        refine (rin_is _ _ _ _ hr2 _).mono ?_
        rintro e w2 ⟨rfl, rfl⟩
        go_wp2
        go_ret
        exact ⟨ret_bool (by rw [HM.out, hk3]; simp), B1.out⟩
end Go.Proofs.Ytepfljfaclakeaa
