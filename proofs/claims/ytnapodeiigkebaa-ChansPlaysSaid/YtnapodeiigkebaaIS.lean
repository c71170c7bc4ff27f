/- Texts of mine, joined: P1 C15 C16 P2 P3 P4 P5 P6 P7 P8. What each says and under which conditions stands at its head, below. -/
import Derived.Test.YtnapodeiigkebaaIR
import Derived.Test.YtnapodeiigkebaaGR
import Derived.Deep.RegionHeld3
/- The laws for ranges over functions (XR1), for package plan. No condition; nothing of a program. -/
namespace Go.Proofs.Ytnapodeiigkebaa
open Go.RowKit Go.Shelf
end Go.Proofs.Ytnapodeiigkebaa

/- The contract of the document's own numbers, layer 6: whether a configuration may be, but for its frames. Condition: its lists lie in memory. -/
namespace Go.Proofs.Ytnapodeiigkebaa
open Go.RowKit
set_option maxRecDepth 100000

theorem rin_ok (n lo hi : Int) (w : World) : Calls Try.prog 58 #[.int .i64 n, .int .i64 lo, .int .i64 hi] w fun e w' => e = .returned (.bool (inB n lo hi)) ∧ w = w' := by
  unfold inB
  by_cases h : lo ≤ n
  · have h1 : decide (lo ≤ n) = true := decide_eq_true h
    rw [h1, Bool.true_and]
    clear h1
    go_enter Try.func58, Try.ntmps58
    go_wp2
    go_ret
    exact ⟨rfl, rfl⟩
  · have h1 : decide (lo ≤ n) = false := decide_eq_false h
    rw [h1, Bool.false_and]
    clear h1
    go_enter Try.func58, Try.ntmps58
    go_wp2
    go_ret
    exact ⟨rfl, rfl⟩
theorem rin_is (n lo hi : Int) (r : Bool) (h : inB n lo hi = r) (w : World) : Calls Try.prog 58 #[.int .i64 n, .int .i64 lo, .int .i64 hi] w fun e w' => e = .returned (.bool r) ∧ w = w' := h ▸ rin_ok n lo hi w
theorem rin_quiet (n lo hi : Int) (r : Bool) (h : inB n lo hi = r) (w : World) : Calls Try.prog 58 #[.int .i64 n, .int .i64 lo, .int .i64 hi] w fun e w' => e = .returned (.bool r) ∧ w' = w := (rin_is n lo hi r h w).mono fun _ _ h => ⟨h.1, h.2.symm⟩
theorem any_take (p : Row → Bool) (S : List Row) (j : Nat) (h : j < S.length) : (S.take (j + 1)).any p = ((S.take j).any p || p (S.getD j [])) := by
  have e : S.getD j [] = S[j] := by simp [List.getD_eq_getElem?_getD, h]
  rw [List.take_succ_eq_append_getElem h, List.any_append, e]
  simp
/-- Slices of rows, opened. -/
theorem RowsAt.two {w w' : World} {a : Option Addr} {n c : Nat} {S : List Row} (h : RowsAt 2 w (.slice a n c) S) (hb : Below w.heap.size w w') (i : Nat) (hi : i < n) :
    n = S.length ∧ ∃ b o x y, a = some ⟨b, o, none⟩ ∧ b < w'.heap.size ∧ S.getD i [] = [x, y] ∧ w'.cell? ⟨b, o + i * 2, none⟩ = some (.int .i64 x) ∧ w'.cell? ⟨b, o + i * 2 + 1, none⟩ = some (.int .i64 y) := by
  obtain ⟨a', c', hq, _, hT, hS⟩ := h
  obtain ⟨e1, e2, -⟩ := Value.slice.inj hq
  subst e1
  refine ⟨e2, ?_⟩
  obtain ⟨b, o, rfl, hlt, hc⟩ := hS.resolve_left (by intro e; rw [e] at e2; simp at e2; omega)
  obtain ⟨x, y, hrow, c0, c1⟩ := two_cells hT hc i (by omega)
  exact ⟨b, o, x, y, rfl, Nat.lt_of_lt_of_le hlt hb.size, hrow, (hb.cell (p := ⟨b, o + i * 2, none⟩) hlt).trans c0, (hb.cell (p := ⟨b, o + i * 2 + 1, none⟩) hlt).trans c1⟩
theorem RowsAt.four {w w' : World} {a : Option Addr} {n c : Nat} {S : List Row} (h : RowsAt 4 w (.slice a n c) S) (hb : Below w.heap.size w w') (i : Nat) (hi : i < n) :
    n = S.length ∧ ∃ b o x y z t, a = some ⟨b, o, none⟩ ∧ b < w'.heap.size ∧ S.getD i [] = [x, y, z, t] ∧ w'.cell? ⟨b, o + i * 4, none⟩ = some (.int .i64 x) ∧ w'.cell? ⟨b, o + i * 4 + 1, none⟩ = some (.int .i64 y) ∧ w'.cell? ⟨b, o + i * 4 + 2, none⟩ = some (.int .i64 z) ∧ w'.cell? ⟨b, o + i * 4 + 3, none⟩ = some (.int .i64 t) := by
  obtain ⟨a', c', hq, _, hT, hS⟩ := h
  obtain ⟨e1, e2, -⟩ := Value.slice.inj hq
  subst e1
  refine ⟨e2, ?_⟩
  obtain ⟨b, o, rfl, hlt, hc⟩ := hS.resolve_left (by intro e; rw [e] at e2; simp at e2; omega)
  obtain ⟨x, y, z, t, hrow, c0, c1, c2, c3⟩ := four_cells hT hc i (by omega)
  exact ⟨b, o, x, y, z, t, rfl, Nat.lt_of_lt_of_le hlt hb.size, hrow, (hb.cell (p := ⟨b, o + i * 4, none⟩) hlt).trans c0, (hb.cell (p := ⟨b, o + i * 4 + 1, none⟩) hlt).trans c1, (hb.cell (p := ⟨b, o + i * 4 + 2, none⟩) hlt).trans c2, (hb.cell (p := ⟨b, o + i * 4 + 3, none⟩) hlt).trans c3⟩
def Num1 (w : World) (P W : List Row) (n : Nat) (i : Value) (wr : World) : Prop := ∃ j : Nat, i = .int .i64 (j : Int) ∧ j ≤ n ∧ Below w.heap.size w wr ∧ (P.take j).all partB = true ∧ (List.range j).all (hasB W) = true
def Num2 (w : World) (W : List Row) (q : Int) (m : Nat) (h k : Value) (wr : World) : Prop := ∃ j : Nat, k = .int .i64 (j : Int) ∧ j ≤ m ∧ Below w.heap.size w wr ∧ h = .bool ((W.take j).any fun T => T.getD 0 0 == q)
def Num3 (w : World) (p : Row → Bool) (S : List Row) (n : Nat) (i : Value) (wr : World) : Prop := ∃ j : Nat, i = .int .i64 (j : Int) ∧ j ≤ n ∧ Below w.heap.size w wr ∧ (S.take j).all p = true
set_option maxHeartbeats 8000000 in
theorem rnumbers_in (a1 a2 a3 : Option Addr) (n m k c1 c2 c3 : Nat) (P W H : List Row) (hn : n = P.length) (hm : m = W.length) (hk : k = H.length) (ht1 : n ≤ 1000) (ht2 : m ≤ 1000) (ht3 : k ≤ 1000) (w : World) (h : CfAt w (.slice a1 n c1) (.slice a2 m c2) (.slice a3 k c3) (P, W, H)) :
    Calls Try.prog 32 #[.agg #[.slice a1 n c1, .slice a2 m c2, .slice a3 k c3]] w fun e w' => e = .returned (.bool (mayB (P, W, H))) ∧ Below w.heap.size w w' := by
  obtain ⟨w1, hw1⟩ : ∃ w1, w1 = w.alloc (.cells #[.slice a1 n c1, .slice a2 m c2, .slice a3 k c3] 26) := ⟨_, rfl⟩
  have hb1 : Below w.heap.size w w1 := by rw [hw1]; exact (Below.refl _ _).alloc (Nat.le_refl _) _
  have HX : CBox w1 w.heap.size (.slice a1 n c1) (.slice a2 m c2) (.slice a3 k c3) := by rw [hw1]; exact CBox.new w _ _ _
  have HC := Lib.hid (h.below hb1)
  have X1 := Lib.hid HX
  have B1 := Lib.hid hb1
  have hmb : mayB (P, W, H) = ((inB n 1 8 && P.all partB) && ((inB m 1 32 && W.all (winB n)) && ((inB k 0 16 && H.all (chanB n)) && (List.range n).all (hasB W)))) := by rw [hn, hm, hk]; rfl
  have HM := Lib.hid hmb
  have HN := Lib.hid hn
  have HMM := Lib.hid hm
  have HK := Lib.hid hk
  have e0 := HX.c0
  have e1 := HX.c1
  have e2 := HX.c2
  clear h hb1 HX hn hm hk hmb
  cases hr1 : inB (n : Int) 1 8 with
  | false =>
    go_enter Try.func32, Try.ntmps32
    go_wp2_with fail
    rw [← hw1]
    clear hw1
    refine (rin_is _ _ _ _ hr1 _).mono ?_
    rintro e w2 ⟨rfl, rfl⟩
    go_wp2
    go_ret
    exact ⟨ret_bool (by rw [HM.out, hr1]; simp), B1.out⟩
  | true =>
    cases hr2 : inB (m : Int) 1 32 with
    | false =>
      go_enter Try.func32, Try.ntmps32
      go_wp2_with fail
      rw [← hw1]
      clear hw1
      refine (rin_is _ _ _ _ hr1 _).mono ?_
      rintro e w2 ⟨rfl, rfl⟩
      go_wp2_with fail
      refine (rin_is _ _ _ _ hr2 _).mono ?_
      rintro e w2 ⟨rfl, rfl⟩
      go_wp2
      go_ret
      exact ⟨ret_bool (by rw [HM.out, hr2]; simp), B1.out⟩
    | true =>
      by_cases hr3 : k ≤ 16
      · have hk3 : inB (k : Int) 0 16 = true := by rw [inB_iff]; omega
        have hk4 : ¬ (16 : Int) < (k : Int) := by omega
        go_enter Try.func32, Try.ntmps32
        go_wp2_with fail
        rw [← hw1]
        clear hw1
        refine (rin_is _ _ _ _ hr1 _).mono ?_
        rintro e w2 ⟨rfl, rfl⟩
        go_wp2_with fail
        refine (rin_is _ _ _ _ hr2 _).mono ?_
        rintro e w2 ⟨rfl, rfl⟩
        go_wp2_with fail
        clear e0 e1 e2
        go_loopw [3] (fun i wr => Num1 w1 P W n i wr) (fun i _ => (n - (intOf i).toNat))
        case atStart => exact ⟨0, rfl, Nat.zero_le _, Below.refl _ _, by simp, rfl⟩
        case round =>
          obtain ⟨j, rfl, hj, hB, hp, hh⟩ := hrel
          have K := Lib.hid hB
          have AP := Lib.hid hp
          have AH := Lib.hid hh
          clear hB hp hh
          have e0 := (X1.out.below K.out).c0
          by_cases hlt : j < n
          · go_wp2_with fail
            go_loopw [4, 5] (fun h k' wr' => Num2 w1 W j m h k' wr') (fun _ k' _ => (m - (intOf k').toNat))
            case atStart => exact ⟨0, rfl, Nat.zero_le _, K.out, by simp⟩
            case round =>
              obtain ⟨i, rfl, hi, hB, rfl⟩ := hrel
              have K2 := Lib.hid hB
              clear hB e0
              have e1 := (X1.out.below K2.out).c1
              by_cases hlt2 : i < m
              · obtain ⟨hmW, b, o, x, y, rfl, hbl, hrow, g0, g1⟩ := (show RowsAt 2 w1 (.slice a2 m c2) W from HC.out.ws).two K2.out i hlt2
                have hany := any_take (fun T => T.getD 0 0 == (j : Int)) W i (by omega)
                rw [hrow] at hany
                rw [show (([x, y] : Row).getD 0 0 == (j : Int)) = (x == (j : Int)) from rfl] at hany
                have ANY := Lib.hid hany
                clear hany hrow
                cases hh : (W.take i).any (fun T => T.getD 0 0 == (j : Int)) with
                | true =>
                  go_wp2
                  go_roundw
                  case rel => exact ⟨i + 1, by go_num, by omega, K2.out, by rw [ANY.out, hh]; rfl⟩
                  case measure => simp [intOf]; omega
                | false =>
                  go_wp2
                  go_roundw
                  case rel => exact ⟨i + 1, by go_num, by omega, K2.out, by rw [ANY.out, hh]; rfl⟩
                  case measure => simp [intOf]; omega
              · obtain rfl : i = m := by omega
                have e0 := (X1.out.below K2.out).c0
                have hv : ((W.take i).any fun T => T.getD 0 0 == (j : Int)) = hasB W j := by rw [HMM.out, List.take_length]; rfl
                rw [hv]
                clear hv hlt2
                cases hh : hasB W j with
                | false =>
                  go_wp2
                  go_ret
                  exact ⟨ret_bool (by rw [HM.out, range_not (hasB W) j n hlt hh]; simp), B1.out.trans (K2.out.mono B1.out.size)⟩
                | true =>
                  have AH2 : Hid ((List.range (j + 1)).all (hasB W) = true) := Lib.hid (by rw [range_all, AH.out, hh]; rfl)
                  obtain ⟨hnP, b, o, x, y, rfl, hbl, hrow, g0, g1⟩ := (show RowsAt 2 w1 (.slice a1 n c1) P from HC.out.ps).two K2.out j hlt
                  have ROW := Lib.hid hrow
                  have NP := Lib.hid hnP
                  clear hrow hnP hh
                  have hpb : partB [x, y] = (inB x 4 256 && inB y 1 8) := rfl
                  have PB := Lib.hid hpb
                  clear hpb
                  go_wp2_with fail
                  cases hx : inB x 4 256 with
                  | false =>
                    refine (rin_is _ _ _ _ hx _).mono ?_
                    rintro e w2 ⟨rfl, rfl⟩
                    go_wp2
                    go_ret
                    exact ⟨ret_bool (by rw [HM.out, not_all partB P j (by have := NP.out; omega) (by rw [ROW.out, PB.out, hx]; rfl)]; simp), B1.out.trans (K2.out.mono B1.out.size)⟩
                  | true =>
                    refine (rin_is _ _ _ _ hx _).mono ?_
                    rintro e w2 ⟨rfl, rfl⟩
                    go_wp2_with fail
                    cases hy : inB y 1 8 with
                    | false =>
                      refine (rin_is _ _ _ _ hy _).mono ?_
                      rintro e w2 ⟨rfl, rfl⟩
                      go_wp2
                      go_ret
                      exact ⟨ret_bool (by rw [HM.out, not_all partB P j (by have := NP.out; omega) (by rw [ROW.out, PB.out, hx, hy]; rfl)]; simp), B1.out.trans (K2.out.mono B1.out.size)⟩
                    | true =>
                      refine (rin_is _ _ _ _ hy _).mono ?_
                      rintro e w2 ⟨rfl, rfl⟩
                      have AP2 := Lib.hid (takeRows_all partB P j (by have := NP.out; omega) AP.out (by rw [ROW.out, PB.out, hx, hy]; rfl))
                      go_wp2
                      go_roundw
                      case rel => exact ⟨j + 1, by go_num, by omega, K2.out, AP2.out, AH2.out⟩
                      case measure => simp [intOf]; omega
          · obtain rfl : j = n := by omega
            have hpa : P.all partB = true := by have := AP.out; rwa [HN.out, List.take_length] at this
            have hha := AH.out
            have HM2 : Hid (mayB (P, W, H) = (W.all (winB j) && H.all (chanB j))) := Lib.hid (by rw [HM.out, hr1, hr2, hk3, hpa, hha]; simp)
            have e1 := (X1.out.below K.out).c1
            clear hlt AP AH hpa hha HM
            go_wp2_with fail
            go_loopw [6] (fun i wr => Num3 w1 (winB j) W m i wr) (fun i _ => (m - (intOf i).toNat))
            case atStart => exact ⟨0, rfl, Nat.zero_le _, K.out, by simp⟩
            case round =>
              obtain ⟨i, rfl, hi, hB, hall⟩ := hrel
              have K2 := Lib.hid hB
              have AW := Lib.hid hall
              clear hB hall e0 e1
              have e1 := (X1.out.below K2.out).c1
              have e0 := (X1.out.below K2.out).c0
              by_cases hlt2 : i < m
              · obtain ⟨hmW, b, o, x, y, rfl, hbl, hrow, g0, g1⟩ := (show RowsAt 2 w1 (.slice a2 m c2) W from HC.out.ws).two K2.out i hlt2
                have ROW := Lib.hid hrow
                have MW := Lib.hid hmW
                clear hrow hmW
                have hpb : winB j [x, y] = (inB x 0 ((j : Int) - 1) && inB y 1 255) := rfl
                have PB := Lib.hid hpb
                clear hpb
                cases hx : inB x 0 ((j : Int) - 1) with
                | false =>
                  have E : Hid (W.all (winB j) = false) := Lib.hid (not_all (winB j) W i (by have := MW.out; omega) (by rw [ROW.out, PB.out, hx]; rfl))
                  go_wp2_with fail
                  go_quiet ((go_at_call 58; exact Calls.quiet_of_same (rin_quiet _ _ _ _ (by assumption) _)))
                  go_wp2
                  go_ret
                  exact ⟨ret_bool (by rw [HM2.out, E.out]; rfl), B1.out.trans ((below_drewN K2.out _).mono B1.out.size)⟩
                | true =>
                  cases hy : inB y 1 255 with
                  | false =>
                    have E : Hid (W.all (winB j) = false) := Lib.hid (not_all (winB j) W i (by have := MW.out; omega) (by rw [ROW.out, PB.out, hx, hy]; rfl))
                    go_wp2_with fail
                    go_quiet ((go_at_call 58; exact Calls.quiet_of_same (rin_quiet _ _ _ _ (by assumption) _)))
                    go_wp2
                    go_ret
                    exact ⟨ret_bool (by rw [HM2.out, E.out]; rfl), B1.out.trans ((below_drewN K2.out _).mono B1.out.size)⟩
                  | true =>
                    have AW2 := Lib.hid (takeRows_all (winB j) W i (by have := MW.out; omega) AW.out (by rw [ROW.out, PB.out, hx, hy]; rfl))
                    go_wp2_with fail
                    go_quiet ((go_at_call 58; exact Calls.quiet_of_same (rin_quiet _ _ _ _ (by assumption) _)))
                    go_wp2
                    go_roundw
                    case rel => exact ⟨i + 1, by go_num, by omega, below_drewN K2.out _, AW2.out⟩
                    case measure => simp [intOf]; omega
              · obtain rfl : i = m := by omega
                have hwa : W.all (winB j) = true := by have := AW.out; rwa [HMM.out, List.take_length] at this
                have HM3 : Hid (mayB (P, W, H) = H.all (chanB j)) := Lib.hid (by rw [HM2.out, hwa]; rfl)
                have e2 := (X1.out.below K2.out).c2
                clear hlt2 AW hwa HM2
                go_wp2_with fail
                go_loopw [7] (fun i wr => Num3 w1 (chanB j) H k i wr) (fun i _ => (k - (intOf i).toNat))
                case atStart => exact ⟨0, rfl, Nat.zero_le _, K2.out, by simp⟩
                case round =>
                  obtain ⟨l, rfl, hl, hB, hall⟩ := hrel
                  have K3 := Lib.hid hB
                  have AC := Lib.hid hall
                  clear hB hall e0 e1 e2
                  have e2 := (X1.out.below K3.out).c2
                  have e0 := (X1.out.below K3.out).c0
                  have elt : w.heap.size < wr.heap.size := lt_of_block (X1.out.below K3.out)
                  by_cases hlt3 : l < k
                  · obtain ⟨hkH, b, o, x, y, z, t, rfl, hbl, hrow, g0, g1, g2, g3⟩ := (show RowsAt 4 w1 (.slice a3 k c3) H from HC.out.hs).four K3.out l hlt3
                    have ROW := Lib.hid hrow
                    have KH := Lib.hid hkH
                    clear hrow hkH
                    have A4 := Lib.hid (K3.out.alloc K3.out.size (.cells #[.int .i64 x, .int .i64 y, .int .i64 z, .int .i64 t] 47))
                    have e : chanB j [x, y, z, t] = (inB x 0 ((j : Int) - 1) && (inB y 0 ((j : Int) - 1) && (!(x == y) && (inB z 1 8 && inB t 1 8)))) := rfl
                    obtain ⟨r1, h1⟩ : ∃ r, inB x 0 ((j : Int) - 1) = r := ⟨_, rfl⟩
                    obtain ⟨r2, h2⟩ : ∃ r, inB y 0 ((j : Int) - 1) = r := ⟨_, rfl⟩
                    obtain ⟨r3, h3⟩ : ∃ r, (x == y) = r := ⟨_, rfl⟩
                    obtain ⟨r4, h4⟩ : ∃ r, inB z 1 8 = r := ⟨_, rfl⟩
                    obtain ⟨r5, h5⟩ : ∃ r, inB t 1 8 = r := ⟨_, rfl⟩
                    rw [h1, h2, h3, h4, h5] at e
                    have E := Lib.hid e
                    clear e
                    by_cases hall : (r1 && (r2 && (!r3 && (r4 && r5)))) = true
                    · have AC2 := Lib.hid (takeRows_all (chanB j) H l (by have := KH.out; omega) AC.out (by rw [ROW.out, E.out]; exact hall))
                      simp only [Bool.and_eq_true, Bool.not_eq_true'] at hall
                      obtain ⟨rfl, rfl, rfl, rfl, rfl⟩ := hall
                      go_wp2_with (go_at_call 58; refine (rin_is _ _ _ _ (by assumption) _).mono ?_; rintro e w2 ⟨rfl, rfl⟩)
                      go_roundw
                      case rel => exact ⟨l + 1, by go_num, by omega, A4.out, AC2.out⟩
                      case measure => simp [intOf]; omega
                    · have EE : Hid (mayB (P, W, H) = false) := Lib.hid (by rw [HM3.out]; exact not_all (chanB j) H l (by have := KH.out; omega) (by rw [ROW.out, E.out]; simpa using hall))
                      clear E HM3
                      have hcase : r1 = false ∨ (r1 = true ∧ r2 = false) ∨ (r1 = true ∧ r2 = true ∧ r3 = true) ∨ (r1 = true ∧ r2 = true ∧ r3 = false ∧ r4 = false) ∨ (r1 = true ∧ r2 = true ∧ r3 = false ∧ r4 = true ∧ r5 = false) := by
                        revert hall; cases r1 <;> cases r2 <;> cases r3 <;> cases r4 <;> cases r5 <;> decide
                      clear hall
                      rcases hcase with rfl | ⟨rfl, rfl⟩ | ⟨rfl, rfl, rfl⟩ | ⟨rfl, rfl, rfl, rfl⟩ | ⟨rfl, rfl, rfl, rfl, rfl⟩
                      all_goals
                        go_wp2_with (go_at_call 58; refine (rin_is _ _ _ _ (by assumption) _).mono ?_; rintro e w2 ⟨rfl, rfl⟩)
                        go_ret
                        exact ⟨ret_bool EE.out.symm, B1.out.trans (A4.out.mono B1.out.size)⟩
                  · obtain rfl : l = k := by omega
                    have hca : H.all (chanB j) = true := by have := AC.out; rwa [HK.out, List.take_length] at this
                    clear hlt3
                    go_wp2
                    go_ret
                    exact ⟨ret_bool (by rw [HM3.out, hca]), B1.out.trans (K3.out.mono B1.out.size)⟩
      · have hk3 : inB (k : Int) 0 16 = false := by
          cases he : inB (k : Int) 0 16 with
          | false => rfl
          | true => rw [inB_iff] at he; omega
        have hk4 : (16 : Int) < (k : Int) := by omega
        go_enter Try.func32, Try.ntmps32
        go_wp2_with fail
        rw [← hw1]
        clear hw1
        refine (rin_is _ _ _ _ hr1 _).mono ?_
        rintro e w2 ⟨rfl, rfl⟩
        go_wp2_with fail
        refine (rin_is _ _ _ _ hr2 _).mono ?_
        rintro e w2 ⟨rfl, rfl⟩
        go_wp2
        go_ret
        exact ⟨ret_bool (by rw [HM.out, hk3]; simp), B1.out⟩
end Go.Proofs.Ytnapodeiigkebaa

/- The contracts of the document's own Frames and Check, layer 6. Condition: the configuration's lists lie in memory. -/
namespace Go.Proofs.Ytnapodeiigkebaa
open Go.RowKit
set_option maxRecDepth 100000

theorem RowsAt.isSlice {k : Nat} {w : World} {v : Value} {S : List Row} (h : RowsAt k w v S) : ∃ a n c, v = .slice a n c := by
  obtain ⟨a, c, rfl, _⟩ := h
  exact ⟨_, _, _, rfl⟩
theorem rnumbers_ok (v1 v2 v3 : Value) (C : Cf) (w : World) (h : CfAt w v1 v2 v3 C) : Calls Try.prog 32 #[.agg #[v1, v2, v3]] w fun e w' => e = .returned (.bool (mayB C)) ∧ Below w.heap.size w w' := by
  obtain ⟨P, W, H⟩ := C
  have hps := h.ps
  obtain ⟨a, c, rfl, t1, _, _⟩ := hps
  have hws := h.ws
  obtain ⟨a', c', rfl, t2, _, _⟩ := hws
  have hhs := h.hs
  obtain ⟨a'', c'', rfl, t3, _, _⟩ := hhs
  exact rnumbers_in a a' a'' _ _ _ c c' c'' P W H rfl rfl rfl t1 t2 t3 w h
theorem up_ok (n k : Int) (h0 : 0 ≤ n) (h1 : n ≤ 1000000) (hk : k = 3 ∨ k = 32) (w : World) : Calls Try.prog 33 #[.int .i64 n, .int .i64 k] w fun e w' => e = .returned (.int .i64 ((n + k - 1) / k)) ∧ w = w' := by
  obtain ⟨q, hq⟩ : ∃ q, q = n / k := ⟨_, rfl⟩
  obtain ⟨r, hr⟩ : ∃ r, r = n % k := ⟨_, rfl⟩
  have hd : n.tdiv k = q := by rw [hq]; exact Int.tdiv_eq_ediv_of_nonneg h0
  have hm : n.tmod k = r := by rw [hr]; exact Int.tmod_eq_emod_of_nonneg h0
  have hk0 : ¬ k = 0 := by omega
  have hq0 : 0 ≤ q := by rw [hq]; rcases hk with rfl | rfl <;> omega
  have hq1 : q ≤ 1000000 := by rw [hq]; rcases hk with rfl | rfl <;> omega
  by_cases hr0 : 0 < r
  · have e : (n + k - 1) / k = q + 1 := by rw [hq]; rw [hr] at hr0; rcases hk with rfl | rfl <;> omega
    rw [e]
    clear hq hr hk e
    go_enter Try.func33, Try.ntmps33
    go_wp2
    go_ret
    exact ⟨rfl, rfl⟩
  · have e : (n + k - 1) / k = q := by rw [hq]; rw [hr] at hr0; rcases hk with rfl | rfl <;> omega
    rw [e]
    clear hq hr hk e
    go_enter Try.func33, Try.ntmps33
    go_wp2
    go_ret
    exact ⟨rfl, rfl⟩
set_option maxHeartbeats 2000000 in
theorem rframes_in (a1 a3 : Option Addr) (n c1 m c3 : Nat) (v2 : Value) (P W H : List Row) (hn : n = P.length) (hm : m = H.length) (w : World) (h : CfAt w (.slice a1 n c1) v2 (.slice a3 m c3) (P, W, H)) :
    Calls Try.prog 13 #[.agg #[.slice a1 n c1, v2, .slice a3 m c3]] w fun e w' => e = .returned (.int .i64 (framesA (P, W, H))) ∧ Below w.heap.size w w' := by
  obtain ⟨w1, hw1⟩ : ∃ w1, w1 = w.alloc (.cells #[.slice a1 n c1, v2, .slice a3 m c3] 26) := ⟨_, rfl⟩
  have hb1 : Below w.heap.size w w1 := by rw [hw1]; exact (Below.refl _ _).alloc (Nat.le_refl _) _
  have HX : CBox w1 w.heap.size (.slice a1 n c1) v2 (.slice a3 m c3) := by rw [hw1]; exact CBox.new w _ _ _
  have HC := Lib.hid (h.below hb1)
  have X1 := Lib.hid HX
  have B1 := Lib.hid hb1
  have d0 := HX.c0
  have d1 := HX.c1
  have d2 := HX.c2
  have HN := Lib.hid hn
  have HM := Lib.hid hm
  clear h hb1 HX hn hm
  go_enter Try.func13, Try.ntmps13
  go_wp2_with fail
  rw [← hw1]
  clear hw1
  refine (rnumbers_ok _ _ _ (P, W, H) w1 HC.out).mono ?_
  rintro e w2 ⟨rfl, hb⟩
  have K2 := Lib.hid hb
  clear hb d0 d1 d2
  cases hmay : mayB (P, W, H) with
  | false =>
    go_wp2
    go_ret
    exact ⟨by rw [show framesA (P, W, H) = 0 by unfold framesA; rw [hmay]; rfl]; rfl, B1.out.trans (K2.out.mono B1.out.size)⟩
  | true =>
    obtain ⟨⟨p1, p2⟩, q1, q2⟩ := mayB_parts hmay
    have ht : n ≤ 8 := by have := HN.out; simp only at p1; omega
    have ht3 : m ≤ 16 := by have := HM.out; simp only at q1; omega
    have PP : Hid (∀ T ∈ P, partB T = true) := Lib.hid p2
    have HH : Hid (∀ T ∈ H, chanB n T = true) := Lib.hid (by rw [HN.out]; exact q2)
    have HA : Hid (framesA (P, W, H) = framesC (P, W, H)) := Lib.hid (by unfold framesA; rw [if_pos hmay])
    clear p1 p2 q1 q2 hmay
    have d0 := (X1.out.below K2.out).c0
    go_wp2_with fail
    go_loopw [3, 4] (fun s i wr => FrRel w1 0 partF P n s i wr) (fun _ i _ => (n - (intOf i).toNat))
    case atStart => exact ⟨0, rfl, Nat.zero_le _, by simp, K2.out⟩
    case round =>
      obtain ⟨j, rfl, hj, rfl, hB⟩ := hrel
      have K := Lib.hid hB
      clear hB d0
      have d0 := (X1.out.below K.out).c0
      have hsum := sum_le partF 300 (P.take j) (take_mem fun T hT => (partF_le T (PP.out T hT)).2.2)
      have hlen : ((P.take j).length : Int) * (300 : Nat) ≤ 2400 := by
        have : (P.take j).length ≤ 8 := by rw [List.length_take]; omega
        have : ((P.take j).length : Int) ≤ 8 := by exact_mod_cast this
        omega
      obtain ⟨s, hs⟩ : ∃ s, s = ((P.take j).map partF).sum := ⟨_, rfl⟩
      rw [← hs] at hsum ⊢
      have SS := Lib.hid hs
      have s0 : 0 ≤ s := hsum.1
      have s1 : s ≤ 2400 := Int.le_trans hsum.2 hlen
      rw [Int.zero_add]
      clear hs hsum hlen
      by_cases hlt' : j < n
      · obtain ⟨hnP, b, o, x, y, rfl, hbl, hrow, g0, g1⟩ := (show RowsAt 2 w1 (.slice a1 n c1) P from HC.out.ps).two K.out j hlt'
        have hx := partF_le (P.getD j []) (PP.out _ (getD_mem (by omega)))
        have hnext := sum_take partF P j (by omega)
        rw [hrow] at hx hnext
        rw [← SS.out] at hnext
        obtain ⟨⟨x1, x2⟩, ⟨y1, y2⟩, -⟩ := hx
        simp only [List.getD_cons_zero, List.getD_cons_succ] at x1 x2 y1 y2
        rw [show partF [x, y] = x + (y + 2) / 3 from rfl] at hnext
        have HNX := Lib.hid hnext
        have hp := fun w => up_ok y 3 (by omega) (by omega) (Or.inl rfl) w
        obtain ⟨q, hq⟩ : ∃ q, q = (y + 3 - 1) / 3 := ⟨_, rfl⟩
        rw [← hq] at hp
        have q0 : 0 ≤ q := by omega
        have q1 : q ≤ 10 := by omega
        have HQ : Hid (q = (y + 2) / 3) := Lib.hid (by rw [hq, show y + 3 - 1 = y + 2 by omega])
        have HPC := Lib.hid hp
        clear hrow hnext hp hq hnP
        go_wp2_with fail
        go_quiet ((go_at_call 33; exact Calls.quiet_of_same ((HPC.out _).mono fun _ _ h => ⟨h.1, h.2.symm⟩)))
        go_wp2
        go_roundw
        case rel => exact ⟨j + 1, by go_num, by omega, by rw [HNX.out, HQ.out]; go_num, below_drewN K.out _⟩
        case measure => simp [intOf]; omega
      · obtain rfl : j = n := by omega
        have SE : Hid (s = (P.map partF).sum) := Lib.hid (by rw [SS.out, HN.out, List.take_length])
        have d2 := (X1.out.below K.out).c2
        clear hlt' SS
        go_wp2_with fail
        go_loopw [3, 5] (fun z i wr => FrRel w1 s chanF H m z i wr) (fun _ i _ => (m - (intOf i).toNat))
        case atStart => exact ⟨0, rfl, Nat.zero_le _, by simp, K.out⟩
        case round =>
          obtain ⟨i, rfl, hi, rfl, hB⟩ := hrel
          have K' := Lib.hid hB
          clear hB d2 d0
          have d2 := (X1.out.below K'.out).c2
          have hsum := sum_le chanF 300 (H.take i) (take_mem fun T hT => (chanF_le _ T (HH.out T hT)).2.2.2)
          have hlen : ((H.take i).length : Int) * (300 : Nat) ≤ 4800 := by
            have : (H.take i).length ≤ 16 := by rw [List.length_take]; omega
            have : ((H.take i).length : Int) ≤ 16 := by exact_mod_cast this
            omega
          obtain ⟨z, hz⟩ : ∃ z, z = ((H.take i).map chanF).sum := ⟨_, rfl⟩
          rw [← hz] at hsum ⊢
          have ZZ := Lib.hid hz
          have z0 : 0 ≤ z := hsum.1
          have z1 : z ≤ 4800 := Int.le_trans hsum.2 hlen
          clear hz hsum hlen
          by_cases hlt' : i < m
          · obtain ⟨hmH, b, o, x, y, u, v, rfl, hbl, hrow, g0, g1, g2, g3⟩ := (show RowsAt 4 w1 (.slice a3 m c3) H from HC.out.hs).four K'.out i hlt'
            have hx := chanF_le _ (H.getD i []) (HH.out _ (getD_mem (by omega)))
            have hnext := sum_take chanF H i (by omega)
            rw [hrow] at hx hnext
            rw [← ZZ.out] at hnext
            obtain ⟨⟨u1, u2⟩, ⟨v1, v2⟩, ⟨p1, p2⟩, -⟩ := hx
            simp only [List.getD_cons_zero, List.getD_cons_succ] at u1 u2 v1 v2 p1 p2
            rw [show chanF [x, y, u, v] = (u * (v + 1) + 31) / 32 from rfl] at hnext
            have HNX := Lib.hid hnext
            have hp := fun w => up_ok (u * (v + 1)) 32 p1 (by omega) (Or.inr rfl) w
            obtain ⟨r, hr⟩ : ∃ r, r = u * (v + 1) := ⟨_, rfl⟩
            rw [← hr] at hp p1 p2 HNX
            obtain ⟨q, hq⟩ : ∃ q, q = (r + 32 - 1) / 32 := ⟨_, rfl⟩
            rw [← hq] at hp
            have q0 : 0 ≤ q := by omega
            have q1 : q ≤ 10 := by omega
            have HQ : Hid (q = (r + 31) / 32) := Lib.hid (by rw [hq, show r + 32 - 1 = r + 31 by omega])
            have HPC := Lib.hid hp
            have hr2 : u * (v + 1) = r := hr.symm
            clear hrow hnext hp hq hr hmH
            go_wp2_with fail
            go_quiet ((go_at_call 33; exact Calls.quiet_of_same ((HPC.out _).mono fun _ _ h => ⟨h.1, h.2.symm⟩)))
            go_wp2
            go_roundw
            case rel => exact ⟨i + 1, by go_num, by omega, by rw [HNX.out, HQ.out]; go_num, below_drewN K'.out _⟩
            case measure => simp [intOf]; omega
          · obtain rfl : i = m := by omega
            have ZE : Hid (z = (H.map chanF).sum) := Lib.hid (by rw [ZZ.out, HM.out, List.take_length])
            clear hlt' ZZ
            go_wp2
            go_ret
            exact ⟨by rw [HA.out, SE.out, ZE.out]; rfl, B1.out.trans (K'.out.mono B1.out.size)⟩
theorem rframes_ok (v1 v2 v3 : Value) (C : Cf) (w : World) (h : CfAt w v1 v2 v3 C) : Calls Try.prog 13 #[.agg #[v1, v2, v3]] w fun e w' => e = .returned (.int .i64 (framesA C)) ∧ Below w.heap.size w w' := by
  obtain ⟨P, W, H⟩ := C
  have hps := h.ps
  obtain ⟨a, c, rfl, t1, _, _⟩ := hps
  have hhs := h.hs
  obtain ⟨a'', c'', rfl, t3, _, _⟩ := hhs
  exact rframes_in a a'' _ c _ c'' v2 P W H rfl rfl w h
set_option maxHeartbeats 1000000 in
theorem rcheck_ok (v1 v2 v3 : Value) (C : Cf) (w : World) (h : CfAt w v1 v2 v3 C) : Calls Try.prog 12 #[.agg #[v1, v2, v3]] w fun e w' => e = .returned (.int .i64 (chk C)) ∧ Below w.heap.size w w' := by
  obtain ⟨w1, hw1⟩ : ∃ w1, w1 = w.alloc (.cells #[v1, v2, v3] 26) := ⟨_, rfl⟩
  have hb1 : Below w.heap.size w w1 := by rw [hw1]; exact (Below.refl _ _).alloc (Nat.le_refl _) _
  have HX : CBox w1 w.heap.size v1 v2 v3 := by rw [hw1]; exact CBox.new w _ _ _
  have HC := Lib.hid (h.below hb1)
  have X1 := Lib.hid HX
  have B1 := Lib.hid hb1
  obtain ⟨a1, n1, m1, rfl⟩ := h.ps.isSlice
  obtain ⟨a2, n2, m2, rfl⟩ := h.ws.isSlice
  obtain ⟨a3, n3, m3, rfl⟩ := h.hs.isSlice
  clear h hb1 HX
  go_enter Try.func12, Try.ntmps12
  go_wp2_with fail
  rw [← hw1]
  clear hw1
  refine (rnumbers_ok _ _ _ C w1 HC.out).mono ?_
  rintro e w2 ⟨rfl, hb⟩
  have K2 := Lib.hid hb
  clear hb
  cases hm : mayB C with
  | false =>
    go_wp2
    go_ret
    exact ⟨by rw [show chk C = 2 by unfold chk; rw [hm]; rfl]; rfl, B1.out.trans (K2.out.mono B1.out.size)⟩
  | true =>
    have d0 := (X1.out.below K2.out).c0
    have d1 := (X1.out.below K2.out).c1
    have d2 := (X1.out.below K2.out).c2
    go_wp2_with fail
    refine (rframes_ok _ _ _ C w2 (HC.out.below K2.out)).mono ?_
    rintro e w3 ⟨rfl, hb⟩
    have K3 := Lib.hid (K2.out.trans (hb.mono K2.out.size))
    rw [show framesA C = framesC C by unfold framesA; rw [if_pos hm]]
    clear hb
    by_cases hle : framesC C ≤ 1024
    · have hd : ¬ 1024 < framesC C := by omega
      go_wp2
      go_ret
      exact ⟨by rw [show chk C = 0 by unfold chk; rw [hm]; simp [hle]]; rfl, B1.out.trans (K3.out.mono B1.out.size)⟩
    · have hd : 1024 < framesC C := by omega
      go_wp2
      go_ret
      exact ⟨by rw [show chk C = 3 by unfold chk; rw [hm]; simp [hle]]; rfl, B1.out.trans (K3.out.mono B1.out.size)⟩
end Go.Proofs.Ytnapodeiigkebaa

/- The contracts of package plan's pieces, of what makes its iterators, and of the iterator over windows. Conditions: the configuration's lists lie in memory. -/
namespace Go.Proofs.Ytnapodeiigkebaa
open Go.RowKit Go.Shelf
attribute [local go_sem] Oper.semAt_some
set_option maxRecDepth 100000

theorem planPieces_ok (n k : Int) (h0 : 0 ≤ n) (h1 : n ≤ 1000000) (h2 : 1 ≤ k) (h3 : k ≤ 1000) (w : World) : Calls Try.prog 100 #[.int .i64 n, .int .i64 k] w fun e w' => e = .returned (.int .i64 ((n + k - 1) / k)) ∧ w = w' := by
  have hd : (n + k - 1).tdiv k = (n + k - 1) / k := Int.tdiv_eq_ediv_of_nonneg (by omega)
  have hk : ¬ k = 0 := by omega
  have b1 : 0 ≤ (n + k - 1) / k := Int.ediv_nonneg (by omega) (by omega)
  have b2 : (n + k - 1) / k ≤ n + k - 1 := Int.ediv_le_self _ (by omega)
  generalize (n + k - 1) / k = q at *
  go_enter Try.func100, Try.ntmps100
  go_wp2
  go_ret
  exact ⟨rfl, rfl⟩
theorem planPieces_is (n k q : Int) (h0 : 0 ≤ n) (h1 : n ≤ 1000000) (h2 : 1 ≤ k) (h3 : k ≤ 1000) (hq : (n + k - 1) / k = q) (w : World) : Calls Try.prog 100 #[.int .i64 n, .int .i64 k] w fun e w' => e = .returned (.int .i64 q) ∧ w = w' := hq ▸ planPieces_ok n k h0 h1 h2 h3 w

abbrev OwnE := (Int × Int) × Int
def ownAt (S : List Row) (i : Nat) : OwnE := ((0, (i : Int)), (S.getD i []).getD 0 0)
def trapAt (S : List Row) (i : Nat) : OwnE := ((1, (i : Int)), ((S.getD i []).getD 1 0 + 2) / 3)
def chanAt (S : List Row) (i : Nat) : OwnE := ((2, (i : Int)), chanF (S.getD i []))
def partN (S : List Row) (n : Nat) : List OwnE := (List.range n).flatMap fun i => [ownAt S i, trapAt S i]
def chanN (S : List Row) (n : Nat) : List OwnE := (List.range n).map (chanAt S)
def ownL (C : Cf) : List OwnE := partN C.1 C.1.length ++ chanN C.2.2 C.2.2.length
theorem partN_succ (S : List Row) (n : Nat) : partN S (n + 1) = partN S n ++ [ownAt S n, trapAt S n] := by simp [partN, List.range_succ]
theorem chanN_succ (S : List Row) (n : Nat) : chanN S (n + 1) = chanN S n ++ [chanAt S n] := by simp [chanN, List.range_succ]
theorem partN_pre (S : List Row) {m n : Nat} (h : m ≤ n) : partN S m <+: partN S n := by
  obtain ⟨k, rfl⟩ := Nat.exists_eq_add_of_le h
  clear h
  induction k with
  | zero => exact List.prefix_rfl
  | succ k ih => rw [show m + (k + 1) = (m + k) + 1 from rfl, partN_succ]; exact ih.trans (List.prefix_append _ _)
theorem chanN_pre (S : List Row) {m n : Nat} (h : m ≤ n) : chanN S m <+: chanN S n := by
  obtain ⟨k, rfl⟩ := Nat.exists_eq_add_of_le h
  clear h
  induction k with
  | zero => exact List.prefix_rfl
  | succ k ih => rw [show m + (k + 1) = (m + k) + 1 from rfl, chanN_succ]; exact ih.trans (List.prefix_append _ _)
def encO (x : OwnE) : Array Value := #[.agg #[.int .i64 x.1.1, .int .i64 x.1.2], .int .i64 x.2]

theorem mkFrames_ok (v1 v2 v3 : Value) (w : World) : Calls Try.prog 97 #[.agg #[v1, v2, v3]] w fun e w' => e = .returned (.func (.func 99) #[] #[.pointer (some ⟨w.heap.size, 0, none⟩)]) ∧ w' = w.alloc (.cells #[v1, v2, v3] 26) := by
  have hmf : ∀ (fn : Fn) (first cap : Array Value) (w : World), (Instr.makeFunc fn first cap).run Try.prog w = .ok (.func fn first cap) w := fun _ _ _ _ => rfl
  go_enter Try.func97, Try.ntmps97
  go_wp2
  go_ret
  exact ⟨rfl, rfl⟩
theorem mkLaidO_ok (gs : Nat) (lb : Array Value) (w : World) : Calls Try.prog 96 #[.func (.func gs) #[] lb] w fun e w' => e = .returned (.func (.func 98) #[] #[.pointer (some ⟨w.heap.size, 0, none⟩)]) ∧ w' = w.alloc (.cells #[.func (.func gs) #[] lb] 147) := by
  have hmf : ∀ (fn : Fn) (first cap : Array Value) (w : World), (Instr.makeFunc fn first cap).run Try.prog w = .ok (.func fn first cap) w := fun _ _ _ _ => rfl
  go_enter Try.func96, Try.ntmps96
  go_wp2
  go_ret
  exact ⟨rfl, rfl⟩

end Go.Proofs.Ytnapodeiigkebaa

/- The contract of package plan's iterator over who has frames. Conditions: the configuration's lists lie in memory, and its numbers may be. -/
namespace Go.Proofs.Ytnapodeiigkebaa
open Go.RowKit Go.Shelf
attribute [local go_sem] Oper.semAt_some
set_option maxRecDepth 100000

structure OwnRel (w0 W : World) (b : Nat) (v1 v2 v3 : Value) (J : List OwnE → World → Prop) (L : List OwnE) (wr : World) : Prop where
  bel : Below w0.heap.size w0 wr
  size : W.heap.size ≤ wr.heap.size
  box : CBox wr b v1 v2 v3
  told : J L wr
theorem OwnRel.next {w0 W wr W3 : World} {b : Nat} {v1 v2 v3 : Value} {J : List OwnE → World → Prop} {L L' : List OwnE} {K : Nat → Prop} (h : OwnRel w0 W b v1 v2 v3 J L wr) (hs : w0.heap.size ≤ W.heap.size) (hK : ∀ k, k < w0.heap.size → K k) (hb : K b) (hk : Keep K W.heap.size wr W3) (hJ : J L' W3) : OwnRel w0 W b v1 v2 v3 J L' W3 :=
  ⟨h.bel.trans (hk.below (Nat.le_trans hs h.size) hK), Nat.le_trans h.size hk.size, (hk.same b (lt_of_block h.box) (Or.inl hb)).trans h.box, hJ⟩
theorem OwnRel.alloc {w0 W wr : World} {b : Nat} {v1 v2 v3 : Value} {J : List OwnE → World → Prop} {L : List OwnE} (h : OwnRel w0 W b v1 v2 v3 J L wr) (hs : w0.heap.size ≤ W.heap.size) (hJ : Hangs W.heap.size J) (o : Obj) : OwnRel w0 W b v1 v2 v3 J L (wr.alloc o) :=
  ⟨h.bel.alloc (Nat.le_trans hs h.size) _, by simpa using Nat.le_trans h.size (Nat.le_succ _), h.box.below ((Below.refl _ _).alloc (Nat.le_refl _) _), hJ _ _ _ h.told ((Below.refl _ _).alloc h.size _)⟩
set_option maxHeartbeats 4000000 in
theorem frames_seq_in (b n c1 m c3 : Nat) (a1 a3 : Option Addr) (v2 : Value) (P S H : List Row) (hn : n = P.length) (hm : m = H.length) (ht1 : n ≤ 1000) (ht3 : m ≤ 1000) (hP : ∀ T ∈ P, partB T = true) (hH : ∀ T ∈ H, chanB n T = true) (w0 w : World) (h : CfAt w0 (.slice a1 n c1) v2 (.slice a3 m c3) (P, S, H)) (hb0 : Below w0.heap.size w0 w) (hx : CBox w b (.slice a1 n c1) v2 (.slice a3 m c3)) (K : Nat → Prop) (hK : ∀ k, k < w0.heap.size → K k) (hKb : K b) :
    Seq Try.prog 99 #[.pointer (some ⟨b, 0, none⟩)] encO (ownL (P, S, H)) K w := by
  intro l J Jx W hW hJ hJx hY h0
  have hsz : w0.heap.size ≤ W.heap.size := Nat.le_trans hb0.size hW.size
  have R0 : Hid (OwnRel w0 W b (.slice a1 n c1) v2 (.slice a3 m c3) J (partN P 0) W) := Lib.hid ⟨hb0.trans (hW.mono hb0.size), Nat.le_refl _, hx.below hW, h0⟩
  have e0 := (hx.below hW).c0
  have HC := Lib.hid h
  have HN := Lib.hid hn
  have HMM := Lib.hid hm
  have PP := Lib.hid hP
  have HH := Lib.hid hH
  have HL : Hid (ownL (P, S, H) = partN P n ++ chanN H m) := Lib.hid (by rw [hn, hm]; rfl)
  clear hb0 hW h hx hn hm hP hH h0
  refine (callsIn_wide (n := 5)).1 ?_
  refine callsIn_of_wp Try.func99 rfl trivial ?_ rfl
  simp only [Try.ntmps99, List.size_toArray, List.length_cons, List.length_nil, Nat.reduceAdd, Nat.reduceSub, Array.replicate_succ, Array.replicate_zero, List.push_toArray, List.append_toArray, List.nil_append, List.cons_append]
  gi_wp2
  gi_loopw [10] (fun i wr => ∃ j : Nat, i = .int .i64 (j : Int) ∧ j ≤ n ∧ OwnRel w0 W b (.slice a1 n c1) v2 (.slice a3 m c3) J (partN P j) wr) (fun i _ => (n - (intOf i).toNat))
  case atStart => exact ⟨0, rfl, Nat.zero_le _, R0.out⟩
  case round =>
    obtain ⟨j, rfl, hj, hR⟩ := hrel
    have RR := Lib.hid hR
    clear hR e0
    by_cases hlt : j < n
    · obtain ⟨hmP, bb, o, x, y, rfl, hbl, hrow, g0, g1⟩ := (show RowsAt 2 w0 (.slice a1 n c1) P from HC.out.ps).two RR.out.bel j hlt
      have hx := partF_le (P.getD j []) (PP.out _ (getD_mem (by have := HN.out; omega)))
      rw [hrow] at hx
      obtain ⟨⟨x1, x2⟩, ⟨y1, y2⟩, -⟩ := hx
      simp only [List.getD_cons_zero, List.getD_cons_succ] at x1 x2 y1 y2
      obtain ⟨t, htt⟩ : ∃ t, t = (y + 3 - 1) / 3 := ⟨_, rfl⟩
      have hxo : ownAt P j = ((0, (j : Int)), x) := by unfold ownAt; rw [hrow]; rfl
      have hxt : trapAt P j = ((1, (j : Int)), t) := by unfold trapAt; rw [hrow, htt, show y + 3 - 1 = y + 2 by omega]; rfl
      have hall : partN P j ++ [((0, (j : Int)), x), ((1, (j : Int)), t)] <+: ownL (P, S, H) := by
        rw [HL.out, ← hxo, ← hxt, ← partN_succ]; exact (partN_pre P (by omega)).trans (List.prefix_append _ _)
      have hpre : partN P j ++ [((0, (j : Int)), x)] <+: ownL (P, S, H) := List.IsPrefix.trans (l₂ := partN P j ++ [((0, (j : Int)), x), ((1, (j : Int)), t)]) ⟨[((1, (j : Int)), t)], by simp⟩ hall
      have hnx : partN P (j + 1) = partN P j ++ [((0, (j : Int)), x)] ++ [((1, (j : Int)), t)] := by rw [partN_succ, hxo, hxt]; simp
      have RA := Lib.hid (RR.out.alloc hsz hJ (.cells #[.int .i64 x, .int .i64 y] 80))
      obtain ⟨fn, tmps, assign, body, hy, hR⟩ := hY (partN P j) ((0, (j : Int)), x) (wr.alloc (.cells #[.int .i64 x, .int .i64 y] 80)) 4 RA.out.told RA.out.size hpre
      have hcall := fun w => planPieces_is y 3 t (by omega) (by omega) (by decide) (by decide) htt.symm w
      have hY2 := fun (W3 : World) (hW3 : OwnRel w0 W b (.slice (some ⟨bb, o, none⟩) n c1) v2 (.slice a3 m c3) J (partN P j ++ [((0, (j : Int)), x)]) W3) => hY (partN P j ++ [((0, (j : Int)), x)]) ((1, (j : Int)), t) W3 4 hW3.told hW3.size (by rw [← hnx]; rw [HL.out]; exact (partN_pre P (by omega)).trans (List.prefix_append _ _))
      dsimp only [encO] at hy hY2
      have PRE := Lib.hid hpre
      have NX := Lib.hid hnx
      have HR := Lib.hid hR
      have HCALL := Lib.hid hcall
      have HY2 := Lib.hid hY2
      have hszw : W.heap.size ≤ wr.heap.size := RR.out.size
      clear hmP hrow hxo hxt hall hpre hnx hR hcall hY2 htt
      gi_wp2
      refine HR.out.mono ?_
      rintro e W3 ⟨hk, ⟨rfl, hJ3⟩ | ⟨rfl, hJ3⟩⟩
      · have R3 := Lib.hid (RA.out.next hsz hK hKb hk hJ3)
        have hc3 : W3.heap[wr.heap.size]? = some (.cells #[.int .i64 x, .int .i64 y] 80 (0, 0)) := (hk.same wr.heap.size (by simp) (Or.inr hszw)).trans (heap_alloc_new wr _)
        have q1 : W3.cell? ⟨wr.heap.size, 1, none⟩ = some (.int .i64 y) := by rw [cell_of_row _ _ _ _ _ _ hc3]; rfl
        obtain ⟨fn2, tmps2, assign2, body2, hy2, hR2⟩ := HY2.out W3 R3.out
        have HR2 := Lib.hid hR2
        clear hk hJ3 hc3 hR2
        gi_wp2_with (refine ⟨trivial, ?_⟩; gi_at_call 100; refine (callsIn_wide.2 (HCALL.out _)).mono ?_; rintro e w' ⟨rfl, rfl⟩)
        refine HR2.out.mono ?_
        rintro e W4 ⟨hk, ⟨rfl, hJ4⟩ | ⟨rfl, hJ4⟩⟩
        · rw [← NX.out] at hJ4
          have R4 := Lib.hid (R3.out.next hsz hK hKb hk hJ4)
          clear hk hJ4
          gi_wp2
          go_roundw
          case rel => exact ⟨j + 1, by go_num, by omega, R4.out⟩
          case measure => simp [intOf]; omega
        · rw [← NX.out] at hJ4
          gi_wp2
          refine bodyPost_ret (results_none rfl _ _ _) rfl ?_
          exact ⟨⟨_, rfl⟩, Or.inr ⟨_, by rw [HL.out]; exact (partN_pre P (by omega)).trans (List.prefix_append _ _), hJ4⟩⟩
      · gi_wp2
        refine ⟨trivial, ?_⟩
        gi_wp2
        refine ⟨fun _ h => (by cases h), ?_⟩
        gi_wp2
        refine bodyPost_ret (results_none rfl _ _ _) rfl ?_
        exact ⟨⟨_, rfl⟩, Or.inr ⟨_, PRE.out, hJ3⟩⟩
    · obtain rfl : j = n := by omega
      have e2 := RR.out.box.c2
      clear hlt
      gi_wp2
      gi_loopw [36] (fun i wr => ∃ k : Nat, i = .int .i64 (k : Int) ∧ k ≤ m ∧ OwnRel w0 W b (.slice a1 j c1) v2 (.slice a3 m c3) J (partN P j ++ chanN H k) wr) (fun i _ => (m - (intOf i).toNat))
      case atStart => exact ⟨0, rfl, Nat.zero_le _, by simpa [chanN] using RR.out⟩
      case round =>
        obtain ⟨k, rfl, hk', hR⟩ := hrel
        have R5 := Lib.hid hR
        clear hR e2
        by_cases hlt2 : k < m
        · obtain ⟨hmH, bb, o, x, y, u, v, rfl, hbl, hrow, g0, g1, g2, g3⟩ := (show RowsAt 4 w0 (.slice a3 m c3) H from HC.out.hs).four R5.out.bel k hlt2
          have hx := chanF_le _ (H.getD k []) (HH.out _ (getD_mem (by have := HMM.out; omega)))
          rw [hrow] at hx
          obtain ⟨⟨u1, u2⟩, ⟨v1, v2'⟩, ⟨p1, p2⟩, -⟩ := hx
          simp only [List.getD_cons_zero, List.getD_cons_succ] at u1 u2 v1 v2' p1 p2
          obtain ⟨r, hr⟩ : ∃ r, r = u * (v + 1) := ⟨_, rfl⟩
          rw [← hr] at p1 p2
          obtain ⟨t, htt⟩ : ∃ t, t = (r + 32 - 1) / 32 := ⟨_, rfl⟩
          have hxc : chanAt H k = ((2, (k : Int)), t) := by unfold chanAt chanF; rw [hrow, htt, hr, show u * (v + 1) + 32 - 1 = u * (v + 1) + 31 by omega]; rfl
          have hnx : partN P j ++ chanN H (k + 1) = partN P j ++ chanN H k ++ [((2, (k : Int)), t)] := by rw [chanN_succ, hxc, List.append_assoc]
          have hpre : partN P j ++ chanN H k ++ [((2, (k : Int)), t)] <+: ownL (P, S, H) := by
            rw [← hnx, HL.out]
            exact (List.prefix_append_right_inj _).2 (chanN_pre H (by omega))
          have RA := Lib.hid (R5.out.alloc hsz hJ (.cells #[.int .i64 x, .int .i64 y, .int .i64 u, .int .i64 v] 47))
          obtain ⟨fn, tmps, assign, body, hy, hR⟩ := hY (partN P j ++ chanN H k) ((2, (k : Int)), t) (wr.alloc (.cells #[.int .i64 x, .int .i64 y, .int .i64 u, .int .i64 v] 47)) 4 RA.out.told RA.out.size hpre
          have hcall := fun w => planPieces_is r 32 t (by omega) (by omega) (by decide) (by decide) htt.symm w
          dsimp only [encO] at hy
          have PRE := Lib.hid hpre
          have NX := Lib.hid hnx
          have HR := Lib.hid hR
          have HCALL := Lib.hid hcall
          have hr2 : u * (v + 1) = r := hr.symm
          clear hmH hrow hxc hpre hnx hR hcall htt hr
          gi_wp2_with (refine ⟨trivial, ?_⟩; gi_at_call 100; refine (callsIn_wide.2 (HCALL.out _)).mono ?_; rintro e w' ⟨rfl, rfl⟩)
          refine HR.out.mono ?_
          rintro e W3 ⟨hk, ⟨rfl, hJ3⟩ | ⟨rfl, hJ3⟩⟩
          · rw [← NX.out] at hJ3
            have R3 := Lib.hid (RA.out.next hsz hK hKb hk hJ3)
            clear hk hJ3
            gi_wp2
            go_roundw
            case rel => exact ⟨k + 1, by go_num, by omega, R3.out⟩
            case measure => simp [intOf]; omega
          · gi_wp2
            refine bodyPost_ret (results_none rfl _ _ _) rfl ?_
            exact ⟨⟨_, rfl⟩, Or.inr ⟨_, PRE.out, hJ3⟩⟩
        · obtain rfl : k = m := by omega
          gi_wp2
          go_end0
          exact ⟨⟨_, rfl⟩, Or.inl (by rw [HL.out]; exact R5.out.told)⟩
theorem frames_seq (b : Nat) (v1 v2 v3 : Value) (C : Cf) (hm : mayB C = true) (w0 w : World) (h : CfAt w0 v1 v2 v3 C) (hb0 : Below w0.heap.size w0 w) (hx : CBox w b v1 v2 v3) (K : Nat → Prop) (hK : ∀ k, k < w0.heap.size → K k) (hKb : K b) :
    Seq Try.prog 99 #[.pointer (some ⟨b, 0, none⟩)] encO (ownL C) K w := by
  obtain ⟨⟨p1, p2⟩, c1, c2⟩ := mayB_parts hm
  obtain ⟨P, S, H⟩ := C
  have hp := h.ps
  obtain ⟨a, c, rfl, t1, _, _⟩ := hp
  have hh := h.hs
  obtain ⟨a', c', rfl, t3, _, _⟩ := hh
  exact frames_seq_in b _ c _ c' a a' v2 P S H rfl rfl t1 t3 p2 c2 w0 w h hb0 hx K hK hKb
end Go.Proofs.Ytnapodeiigkebaa

/- The contract of package plan's iterator over ranges, one behind the other, at its two types: what it ranges over has the contract of an iterator. Condition: the sums are small. Written by gen/gen_p4.py. -/
namespace Go.Proofs.Ytnapodeiigkebaa
open Go.RowKit Go.Shelf
attribute [local go_sem] Oper.semAt_some
set_option maxRecDepth 100000

/-- The ranges, one behind the other. -/
def laidL {κ : Type} (s : Int) : List (κ × Int) → List (κ × (Int × Int))
  | [] => []
  | x :: t => (x.1, (s, x.2)) :: laidL (s + x.2) t
def sumL {κ : Type} (L : List (κ × Int)) : Int := (L.map Prod.snd).sum
theorem sumL_snoc {κ : Type} (L : List (κ × Int)) (x : κ × Int) : sumL (L ++ [x]) = sumL L + x.2 := by simp [sumL]
theorem laidL_append {κ : Type} : ∀ (s : Int) (L M : List (κ × Int)), laidL s (L ++ M) = laidL s L ++ laidL (s + sumL L) M
  | s, [], M => by simp [laidL, sumL]
  | s, x :: L, M => by
    rw [List.cons_append, laidL, laidL, laidL_append, List.cons_append]
    congr 3
    simp [sumL, Int.add_assoc]
theorem laidL_snoc {κ : Type} (s : Int) (L : List (κ × Int)) (x : κ × Int) : laidL s (L ++ [x]) = laidL s L ++ [(x.1, (s + sumL L, x.2))] := by rw [laidL_append]; rfl
theorem laidL_pre {κ : Type} (s : Int) {L M : List (κ × Int)} (h : L <+: M) : laidL s L <+: laidL s M := by
  obtain ⟨t, rfl⟩ := h
  rw [laidL_append]
  exact List.prefix_append _ _
/-- Sums that fit, of all beginnings. -/
def Small {κ : Type} (L : List (κ × Int)) : Prop := ∀ pre, pre <+: L → 0 ≤ sumL pre ∧ sumL pre ≤ 1000000
def encOR (x : (Int × Int) × (Int × Int)) : Array Value := #[.agg #[.int .i64 x.1.1, .int .i64 x.1.2], .agg #[.int .i64 x.2.1, .int .i64 x.2.2]]
theorem round_in {m m' : Nat} {P : Program} {l l' : Nat} {f : FuncId} {tmps : Array Value} {assign body : Code} {w : World} {R : Ending → World → Prop} (h : RoundIn Fence.wide m P l f tmps assign body w R) :
    RoundIn (Fence.wide.inRound l') m' P l f tmps assign body w R := ⟨trivial, fun c cs _ => h.2 c cs (room_wide _)⟩

set_option maxHeartbeats 4000000 in
theorem laidO_seq (bs gs : Nat) (lb : Array Value) (hent : ∀ (args : Array Value) (W : World), (callFunc gs args).run Try.prog W = .ok (.enter gs args) W) (L : List OwnE) (hL : Small L) (K : Nat → Prop) (w : World) (hs : Seq Try.prog gs lb encO L K w) (hbs : w.cell? ⟨bs, 0, none⟩ = some (.func (.func gs) #[] lb)) (hK : ∀ k, K k → k < w.heap.size) :
    Seq Try.prog 98 #[.pointer (some ⟨bs, 0, none⟩)] encOR (laidL 0 L) K w := by
  intro l J Jx W hW hJ hJx hY h0
  have hcs := (hW.cell (p := ⟨bs, 0, none⟩) (block_lt_of_cell hbs)).trans hbs
  have hbl : bs < W.heap.size := block_lt_of_cell hcs
  obtain ⟨W0, hW0⟩ : ∃ W0, W0 = (W.alloc (.cells #[.func (.yield l) #[] #[]] 151)).alloc (.cells #[.int .i64 0] 3) := ⟨_, rfl⟩
  have hB0 : Below W.heap.size W W0 := by rw [hW0]; exact below_two W _ _
  have hz : W0.heap.size = W.heap.size + 2 := by rw [hW0]; simp
  have bY : Boxed W0 W.heap.size 151 (.func (.yield l) #[] #[]) := by rw [hW0]; exact (Boxed.new W _ _).alloc _
  have bF : Boxed W0 (W.heap.size + 1) 3 (.int .i64 0) := by rw [hW0]; exact heap_alloc2_new W _ _
  refine (callsIn_wide (n := 9)).1 ?_
  refine callsIn_of_wp_marks Try.func98 rfl trivial ?_ rfl
  simp only [Try.ntmps98, List.size_toArray, List.length_cons, List.length_nil, Nat.reduceAdd, Nat.reduceSub, Array.replicate_succ, Array.replicate_zero, List.push_toArray, List.append_toArray, List.nil_append, List.cons_append]
  gi_wp2
  rw [← hW0]
  clear hW0
  refine range_seq (gf := gs) (lb := lb) rfl hent hs (hW.trans (hB0.mono hW.size)) (by intro _; rfl) (fun k h => by have := hK k h; have := hW.size; omega)
    (fun pre V => J (laidL 0 pre) V ∧ (Boxed V W.heap.size 151 (.func (.yield l) #[] #[]) ∧ Boxed V (W.heap.size + 1) 3 (.int .i64 (sumL pre))))
    (fun c pre V => c = .ret ∧ Jx (laidL 0 pre) V)
    (Hangs.and (fun s V V' h hb => hJ _ _ _ h (hb.mono (by omega))) (Hangs.and (hangs_block (by omega) _) (hangs_block (by omega) _)))
    (fun c => Hangs.and (hangs_pure _ _) (fun s V V' h hb => hJx _ _ _ h (hb.mono (by omega))))
    ⟨hJ _ _ _ h0 hB0, bY, bF⟩
    (fun x a' V => ∃ Bx, V.heap[Bx]? = some (.cells #[.int .i64 x.1.1, .int .i64 x.1.2] 141 (0, 0)) ∧ a' = { tmps := #[.func (.yield l) #[] #[], .pointer (some ⟨bs, 0, none⟩), .pointer (some ⟨W.heap.size, 0, none⟩), .pointer (some ⟨W.heap.size + 1, 0, none⟩), .pointer (some ⟨Bx, 0, none⟩), .int .i64 x.2, .func (.func gs) #[] lb, .agg #[.int .i64 x.1.1, .int .i64 x.1.2], .int .i64 x.2, undef, undef, undef, undef, undef, undef, undef, undef, undef, undef], defers := [] })
    (fun x a' _ V V' row hs hg hr => by obtain ⟨Bx, h1, h2⟩ := hs; exact ⟨Bx, (hg.block Bx (lt_of_block h1) (fun e => by obtain ⟨_, o, ho, hc⟩ := hr Bx e.symm; rw [h1] at ho; cases ho; cases hc)).trans h1, h2⟩)
    ?assign ?body ?done ?stop
  case assign =>
    rintro l' pre x V C ⟨hj, hy, hf⟩ hzv hC
    dsimp only [encO]
    gi_wp2
    exact hC _ _ (Keep.alloc _ _ _ _) ⟨hJ _ _ _ hj ((Below.refl _ _).alloc (by omega) _), hy.alloc _, hf.alloc _⟩ ⟨V.heap.size, heap_alloc_new V _, rfl⟩
  case body =>
    rintro l' pre x a' V ⟨hj, hy, hf⟩ hzv hpre ⟨Bx, hBx, rfl⟩
    have hpre' : laidL 0 pre ++ [(x.1, (sumL pre, x.2))] <+: laidL 0 L := by
      have := laidL_snoc 0 pre x
      rw [Int.zero_add] at this
      rw [← this]
      exact laidL_pre 0 hpre
    have hsn : laidL 0 (pre ++ [x]) = laidL 0 pre ++ [(x.1, (sumL pre, x.2))] := by rw [laidL_snoc, Int.zero_add]
    obtain ⟨fn, tmps, assign, body, hy2, hR⟩ := hY (laidL 0 pre) (x.1, (sumL pre, x.2)) V 6 hj (by omega) hpre'
    dsimp only [encOR] at hy2
    obtain ⟨n0, n1⟩ := hL pre ((List.prefix_append pre [x]).trans hpre)
    obtain ⟨n2, n3⟩ := hL (pre ++ [x]) hpre
    rw [sumL_snoc] at n2 n3
    have cy := hy.cell
    have cf := hf.cell
    have HR := Lib.hid hR
    have HSN := Lib.hid hsn
    have HY := Lib.hid hy
    have HF := Lib.hid hf
    clear hpre' hsn hR hy hf
    have b0 : V.cell? ⟨Bx, 0, none⟩ = some (.int .i64 x.1.1) := by rw [cell_of_row _ _ _ _ _ _ hBx]; rfl
    have b1 : V.cell? ⟨Bx, 1, none⟩ = some (.int .i64 x.1.2) := by rw [cell_of_row _ _ _ _ _ _ hBx]; rfl
    clear hBx
    gi_wp2
    refine (round_in HR.out).mono ?_
    rintro e V3 ⟨hk, ⟨rfl, hJ3⟩ | ⟨rfl, hJ3⟩⟩
    · have hy3 : Boxed V3 W.heap.size 151 (.func (.yield l) #[] #[]) := (hk.same _ (by omega) (Or.inr (Nat.le_refl _))).trans HY.out
      have hf3 : Boxed V3 (W.heap.size + 1) 3 (.int .i64 (sumL pre)) := (hk.same _ (by omega) (Or.inr (by omega))).trans HF.out
      have cf3 := hf3.cell
      have ff3 := hf3.frozen
      have HY3 := Lib.hid hy3
      have HF3 := Lib.hid hf3
      have HK := Lib.hid hk
      have nK : ¬ K (W.heap.size + 1) := fun h => by have := hK _ h; have := hW.size; omega
      clear hy3 hf3 hk cy cf
      gi_wp2
      refine ⟨(HK.out.weak fun k _ h => h.imp id (by omega)).trans (Keep.setCell _ _ _ _ nK (by omega)), ?_, HY3.out.other (by omega) _, ?_⟩
      · rw [HSN.out]; exact hJ _ _ _ hJ3 ((Below.refl _ _).setCell (p := ⟨W.heap.size + 1, 0, none⟩) (by simp) _)
      · rw [sumL_snoc]; exact HF3.out.set _
    · gi_wp2
      exact ⟨hk.weak fun k _ h => h.imp id (by omega), rfl, by rw [HSN.out]; exact hJ3⟩
  case done =>
    rintro D V hD ⟨hj, -, -⟩ hKD
    gi_wp2
    refine ⟨by simp, .inl ⟨_, _, rfl, run_takeDeferred hKD, ?_⟩⟩
    exact ⟨_, results_none rfl _ _ _, ⟨_, rfl⟩, Or.inl (hJ _ _ _ hj (below_put _ _ _ _ (by omega)))⟩
  case stop =>
    rintro D c pre V hD hpre ⟨rfl, hj⟩ hKD
    gi_wp2
    refine ⟨by simp, .inl ⟨_, _, rfl, run_takeDeferred hKD, ?_⟩⟩
    exact ⟨_, results_none rfl _ _ _, ⟨_, rfl⟩, Or.inr ⟨_, laidL_pre 0 hpre, hJx _ _ _ hj (below_put _ _ _ _ (by omega))⟩⟩
end Go.Proofs.Ytnapodeiigkebaa

/- The contract of package plan's find. Conditions: the configuration's lists lie in memory. -/
namespace Go.Proofs.Ytnapodeiigkebaa
open Go.RowKit Go.Shelf
attribute [local go_sem] Oper.semAt_some
set_option maxRecDepth 100000

theorem small_of {κ : Type} (L : List (κ × Int)) (h : ∀ x ∈ L, 0 ≤ x.2 ∧ x.2 ≤ 300) (hl : L.length ≤ 1000) : Small L := by
  intro pre hpre
  have hs : ∀ (M : List (κ × Int)), (∀ x ∈ M, 0 ≤ x.2 ∧ x.2 ≤ 300) → 0 ≤ sumL M ∧ sumL M ≤ 300 * (M.length : Int) := by
    intro M
    induction M with
    | nil => intro _; simp [sumL]
    | cons x M ih =>
      intro hM
      have h1 := ih fun y hy => hM y (by simp [hy])
      have h2 := hM x (by simp)
      have h3 : sumL (x :: M) = x.2 + sumL M := by simp [sumL]
      rw [h3, List.length_cons]
      push_cast
      omega
  have h1 := hs pre fun x hx => h x (hpre.subset hx)
  have h2 := hpre.length_le
  omega
theorem mem_ownL {C : Cf} {x : OwnE} (h : x ∈ ownL C) : (∃ i, i < C.1.length ∧ (x = ownAt C.1 i ∨ x = trapAt C.1 i)) ∨ ∃ i, i < C.2.2.length ∧ x = chanAt C.2.2 i := by
  simp only [ownL, partN, chanN, List.mem_append, List.mem_map, List.mem_range, List.mem_flatMap, List.mem_cons, List.not_mem_nil, or_false] at h
  rcases h with ⟨i, hi, hx⟩ | ⟨i, hi, rfl⟩
  · exact Or.inl ⟨i, hi, hx⟩
  · exact Or.inr ⟨i, hi, rfl⟩
theorem partN_length (S : List Row) (n : Nat) : (partN S n).length = 2 * n := by
  induction n with
  | zero => rfl
  | succ n ih => rw [partN_succ, List.length_append, ih]; simp; omega
theorem ownL_length (C : Cf) : (ownL C).length = 2 * C.1.length + C.2.2.length := by
  simp [ownL, partN_length, chanN]
theorem below_three (w : World) (o1 o2 o3 : Obj) : Below w.heap.size w (((w.alloc o1).alloc o2).alloc o3) := (below_two w o1 o2).alloc (by simp; omega) _
theorem ownL_small {C : Cf} (hm : mayB C = true) : Small (ownL C) := by
  obtain ⟨⟨p1, p2⟩, c1, c2⟩ := mayB_parts hm
  refine small_of _ (fun x hx => ?_) (by rw [ownL_length]; omega)
  rcases mem_ownL hx with ⟨i, hi, rfl | rfl⟩ | ⟨i, hi, rfl⟩
  · have := partF_le _ (p2 _ (getD_mem hi)); simp only [ownAt]; omega
  · have := partF_le _ (p2 _ (getD_mem hi)); simp only [trapAt]; omega
  · have := chanF_le _ _ (c2 _ (getD_mem hi)); simp only [chanAt]; omega
abbrev LaidE := (Int × Int) × (Int × Int)
/-- The first range of a key. -/
def hitL (k : Int × Int) (L : List LaidE) : Option LaidE := L.find? fun x => decide (x.1 = k)
def findR (k : Int × Int) (L : List LaidE) : Int × Int × Int := match hitL k L with | some x => (x.2.1, x.2.2, 0) | none => (0, 0, 2)
/-- What find answers. -/
def findA (C : Cf) (k : Int × Int) : Int × Int × Int := if chk C = 0 then findR k (laidL 0 (ownL C)) else (0, 0, chk C)
theorem hitL_miss {k : Int × Int} {L : List LaidE} {x : LaidE} (h : hitL k L = none) (hx : x.1 ≠ k) : hitL k (L ++ [x]) = none := by
  unfold hitL at h ⊢
  rw [List.find?_append, h]
  simp [hx]
theorem hitL_hit {k : Int × Int} {L : List LaidE} {x : LaidE} (h : hitL k L = none) (hx : x.1 = k) : hitL k (L ++ [x]) = some x := by
  unfold hitL at h ⊢
  rw [List.find?_append, h]
  simp [hx]
theorem hitL_pre {k : Int × Int} {L M : List LaidE} {x : LaidE} (h : hitL k L = some x) (hp : L <+: M) : hitL k M = some x := by
  obtain ⟨t, rfl⟩ := hp
  unfold hitL at h ⊢
  rw [List.find?_append, h]; rfl

/-- The results' variables. -/
structure Res3 (w V : World) (b : Nat) (x y z : Int) : Prop where
  bel : Below w.heap.size w V
  from_ : Boxed V (b + 1 + 1) 3 (.int .i64 x)
  many : Boxed V (b + 1 + 1 + 1) 3 (.int .i64 y)
  err : Boxed V (b + 1 + 1 + 1 + 1) 31 (.int .i64 z)
theorem Res3.hangs {β : Type} {w : World} {b B : Nat} (hw : w.heap.size ≤ B) (hb : b + 5 ≤ B) (f : β → Int × Int × Int) : Hangs B (fun s V => Res3 w V b (f s).1 (f s).2.1 (f s).2.2) :=
  fun _ _ _ h hb' => ⟨h.bel.trans (hb'.mono hw), (hb'.block _ (by omega)).trans h.from_, (hb'.block _ (by omega)).trans h.many, (hb'.block _ (by omega)).trans h.err⟩
theorem Res3.alloc {w V : World} {b : Nat} {x y z : Int} (h : Res3 w V b x y z) (o : Obj) : Res3 w (V.alloc o) b x y z :=
  ⟨h.bel.alloc h.bel.size _, h.from_.alloc _, h.many.alloc _, h.err.alloc _⟩
theorem Res3.set {w V : World} {b : Nat} {x y z : Int} (h : Res3 w V b x y z) (hb : w.heap.size ≤ b) (x' y' z' : Int) :
    Res3 w (((V.setCell ⟨b + 1 + 1, 0, none⟩ (.int .i64 x')).setCell ⟨b + 1 + 1 + 1, 0, none⟩ (.int .i64 y')).setCell ⟨b + 1 + 1 + 1 + 1, 0, none⟩ (.int .i64 z')) b x' y' z' :=
  ⟨((h.bel.setCell (p := ⟨b + 1 + 1, 0, none⟩) (by simp only; omega) _).setCell (p := ⟨b + 1 + 1 + 1, 0, none⟩) (by simp only; omega) _).setCell (p := ⟨b + 1 + 1 + 1 + 1, 0, none⟩) (by simp only; omega) _,
   ((h.from_.set _).other (by omega) _).other (by omega) _, ((h.many.other (by omega) _).set _).other (by omega) _, ((h.err.other (by omega) _).other (by omega) _).set _⟩
def OwnBox (V : World) (b : Nat) (k : Int × Int) : Prop := V.heap[b]? = some (.cells #[.int .i64 k.1, .int .i64 k.2] 141 (0, 0))
theorem OwnBox.c0 {V : World} {b : Nat} {k : Int × Int} (h : OwnBox V b k) : V.cell? ⟨b, 0, none⟩ = some (.int .i64 k.1) := by rw [cell_of_row _ _ _ _ _ _ h]; rfl
theorem OwnBox.c1 {V : World} {b : Nat} {k : Int × Int} (h : OwnBox V b k) : V.cell? ⟨b, 1, none⟩ = some (.int .i64 k.2) := by rw [cell_of_row _ _ _ _ _ _ h]; rfl
set_option maxHeartbeats 4000000 in
theorem find_ok (v1 v2 v3 : Value) (C : Cf) (k1 k2 : Int) (w : World) (h : CfAt w v1 v2 v3 C) :
    Calls Try.prog 88 #[.agg #[v1, v2, v3], .agg #[.int .i64 k1, .int .i64 k2]] w fun e w' => e = .returned (.tuple #[.int .i64 (findA C (k1, k2)).1, .int .i64 (findA C (k1, k2)).2.1, .int .i64 (findA C (k1, k2)).2.2]) ∧ Below w.heap.size w w' := by
  obtain ⟨W1, hW1⟩ : ∃ W1, W1 = ((((w.alloc (.cells #[v1, v2, v3] 26)).alloc (.cells #[.int .i64 k1, .int .i64 k2] 141)).alloc (.cells #[.int .i64 0] 3)).alloc (.cells #[.int .i64 0] 3)).alloc (.cells #[.int .i64 0] 31) := ⟨_, rfl⟩
  obtain ⟨wa, hwa⟩ : ∃ wa, wa = (w.alloc (.cells #[v1, v2, v3] 26)).alloc (.cells #[.int .i64 k1, .int .i64 k2] 141) := ⟨_, rfl⟩
  have hza : wa.heap.size = w.heap.size + 2 := by rw [hwa]; simp
  have hba : Below w.heap.size w wa := by rw [hwa]; exact below_two w _ _
  have hW1' : W1 = ((wa.alloc (.cells #[.int .i64 0] 3)).alloc (.cells #[.int .i64 0] 3)).alloc (.cells #[.int .i64 0] 31) := by rw [hW1, hwa]
  have hz1 : W1.heap.size = w.heap.size + 5 := by rw [hW1]; simp
  have hx : CBox W1 w.heap.size v1 v2 v3 := by
    rw [hW1']; refine below_block (below_three wa _ _ _) ?_
    rw [hwa]; exact (CBox.new w _ _ _).below ((Below.refl _ _).alloc (Nat.le_refl _) _)
  have ho : OwnBox W1 (w.heap.size + 1) (k1, k2) := by
    rw [hW1']; refine below_block (below_three wa _ _ _) ?_
    rw [hwa]; exact heap_alloc2_new w _ _
  have hr : Res3 w W1 w.heap.size 0 0 0 := by
    refine ⟨?_, ?_, ?_, ?_⟩
    · rw [hW1']; exact hba.trans ((below_three wa _ _ _).mono hba.size)
    · rw [hW1', show w.heap.size + 1 + 1 = wa.heap.size from hza.symm]; exact ((Boxed.new wa _ _).alloc _).alloc _
    · rw [hW1', show w.heap.size + 1 + 1 = wa.heap.size from hza.symm]; exact Boxed.alloc (heap_alloc2_new wa _ _) _
    · rw [hW1', show w.heap.size + 1 + 1 = wa.heap.size from hza.symm]
      have := Boxed.new ((wa.alloc (.cells #[.int .i64 0] 3)).alloc (.cells #[.int .i64 0] 3)) 31 (.int .i64 0)
      simpa using this
  have HC := Lib.hid (h.below hr.bel)
  have H0 := Lib.hid h
  have X1 := Lib.hid hx
  have O1 := Lib.hid ho
  have R1 := Lib.hid hr
  have c0 := hx.c0
  have c1 := hx.c1
  have c2 := hx.c2
  clear hW1' hwa hba hza
  clear wa h hx ho hr
  refine (callsIn_wide (n := 12)).1 ?_
  refine callsIn_of_wp_marks Try.func88 rfl trivial ?_ rfl
  simp only [Try.ntmps88, List.size_toArray, List.length_cons, List.length_nil, Nat.reduceAdd, Nat.reduceSub, Array.replicate_succ, Array.replicate_zero, List.push_toArray, List.append_toArray, List.nil_append, List.cons_append]
  gi_wp2
  refine ⟨trivial, ?_⟩
  rw [← hW1]
  clear hW1
  refine (callsIn_wide.2 (check_ok v1 v2 v3 C W1 HC.out)).mono ?_
  rintro e W2 ⟨rfl, hb⟩
  have X2 := Lib.hid (X1.out.below hb)
  have O2 : Hid (OwnBox W2 (w.heap.size + 1) (k1, k2)) := Lib.hid (below_block hb O1.out)
  have R2 : Hid (Res3 w W2 w.heap.size 0 0 0) := Lib.hid ⟨R1.out.bel.trans (hb.mono R1.out.bel.size), below_block hb R1.out.from_, below_block hb R1.out.many, below_block hb R1.out.err⟩
  have hz2 : w.heap.size + 5 ≤ W2.heap.size := by rw [← hz1]; exact hb.size
  have C2 := Lib.hid (HC.out.below hb)
  clear hb hz1 X1 O1 R1 HC c0 c1 c2
  clear W1
  by_cases hk : chk C = 0
  · rw [hk]
    have c0 := X2.out.c0
    have c1 := X2.out.c1
    have c2 := X2.out.c2
    gi_wp2_with (first
      | (refine ⟨trivial, ?_⟩; gi_at_call 97; refine (callsIn_wide.2 (mkFrames_ok _ _ _ _)).mono ?_; rintro e w' ⟨rfl, rfl⟩)
      | (refine ⟨trivial, ?_⟩; gi_at_call 96; refine (callsIn_wide.2 (mkLaidO_ok _ _ _)).mono ?_; rintro e w' ⟨rfl, rfl⟩))
    obtain ⟨W3, hW3⟩ : ∃ W3, W3 = (W2.alloc (.cells #[v1, v2, v3] 26)).alloc (.cells #[.func (.func 99) #[] #[.pointer (some ⟨W2.heap.size, 0, none⟩)]] 147) := ⟨_, rfl⟩
    have hm := (chk_zero hk).1
    have hz3 : W3.heap.size = W2.heap.size + 2 := by rw [hW3]; simp
    have hb3 : Below W2.heap.size W2 W3 := by rw [hW3]; exact below_two _ _ _
    have hx3 : CBox W3 W2.heap.size v1 v2 v3 := by rw [hW3]; exact (CBox.new W2 _ _ _).below ((Below.refl _ _).alloc (Nat.le_refl _) _)
    have hs3 : W3.cell? ⟨W2.heap.size + 1, 0, none⟩ = some (.func (.func 99) #[] #[.pointer (some ⟨W2.heap.size, 0, none⟩)]) := by rw [hW3, cell_of_row _ _ _ _ _ _ (heap_alloc2_new W2 _ _)]; rfl
    have O3 : OwnBox W3 (w.heap.size + 1) (k1, k2) := below_block hb3 O2.out
    have R3 : Res3 w W3 w.heap.size 0 0 0 := ⟨R2.out.bel.trans (hb3.mono R2.out.bel.size), below_block hb3 R2.out.from_, below_block hb3 R2.out.many, below_block hb3 R2.out.err⟩
    have hK : ∀ k, (k < w.heap.size ∨ k = W2.heap.size) → k < W3.heap.size := by intro k h; omega
    have hseq := laidO_seq (W2.heap.size + 1) 99 #[.pointer (some ⟨W2.heap.size, 0, none⟩)] (enters Try.func99 rfl rfl) (ownL C) (ownL_small hm) (fun k => k < w.heap.size ∨ k = W2.heap.size) W3
      (frames_seq W2.heap.size v1 v2 v3 C hm w W3 H0.out R3.bel hx3 _ (fun k h => Or.inl h) (Or.inr rfl)) hs3 hK
    rw [← hW3]
    clear hW3 hs3 hx3 hb3 c0 c1 c2 X2 O2 R2 C2
    refine range_seq (gf := 98) (lb := #[.pointer (some ⟨W2.heap.size + 1, 0, none⟩)]) rfl (enters Try.func98 rfl rfl) hseq (Below.refl _ _) (by intro _; rfl) hK
      (fun pre V => hitL (k1, k2) pre = none ∧ (OwnBox V (w.heap.size + 1) (k1, k2) ∧ Res3 w V w.heap.size 0 0 0))
      (fun c pre V => (c = .ret ∧ ∃ x, hitL (k1, k2) pre = some x) ∧ Res3 w V w.heap.size (findR (k1, k2) pre).1 (findR (k1, k2) pre).2.1 (findR (k1, k2) pre).2.2)
      ((hangs_pure _ _).and ((hangs_block (by omega) _).and (Res3.hangs (by omega) (by omega) (fun _ => (0, 0, 0)))))
      (fun c => (hangs_pure _ _).and (Res3.hangs (by omega) (by omega) (fun pre => findR (k1, k2) pre)))
      ⟨rfl, O3, R3⟩
      (fun x a' V => ∃ Bx Br, w.heap.size + 5 ≤ Bx ∧ w.heap.size + 5 ≤ Br ∧ OwnBox V Bx x.1 ∧ V.heap[Br]? = some (.cells #[.int .i64 x.2.1, .int .i64 x.2.2] 150 (0, 0)) ∧ a' = { tmps := #[.agg #[v1, v2, v3], .agg #[.int .i64 k1, .int .i64 k2], .pointer (some ⟨w.heap.size, 0, none⟩), .pointer (some ⟨w.heap.size + 1, 0, none⟩), .pointer (some ⟨w.heap.size + 1 + 1, 0, none⟩), .pointer (some ⟨w.heap.size + 1 + 1 + 1, 0, none⟩), .pointer (some ⟨w.heap.size + 1 + 1 + 1 + 1, 0, none⟩), .int .i64 0, .pointer (some ⟨Bx, 0, none⟩), .pointer (some ⟨Br, 0, none⟩), .agg #[v1, v2, v3], .int .i64 0, .int .i64 0, .bool false, undef, .agg #[v1, v2, v3], .func (.func 99) #[] #[.pointer (some ⟨W2.heap.size, 0, none⟩)], .func (.func 98) #[] #[.pointer (some ⟨W2.heap.size + 1, 0, none⟩)], .agg #[.int .i64 x.1.1, .int .i64 x.1.2], .agg #[.int .i64 x.2.1, .int .i64 x.2.2], undef, undef, undef, undef, undef, undef, undef], defers := [] })
      (fun x a' _ V V' row hs hg hr => by
        obtain ⟨Bx, Br, z1, z2, h1, h2, h3⟩ := hs
        have h1' : V.heap[Bx]? = _ := h1
        exact ⟨Bx, Br, z1, z2, (hg.block Bx (lt_of_block h1) (fun e => by obtain ⟨_, o, ho, hc⟩ := hr Bx e.symm; rw [h1'] at ho; cases ho; cases hc)).trans h1,
          (hg.block Br (lt_of_block h2) (fun e => by obtain ⟨_, o, ho, hc⟩ := hr Br e.symm; rw [h2] at ho; cases ho; cases hc)).trans h2, h3⟩)
      ?assign ?body ?done ?stop
    case assign =>
      rintro l' pre x V D ⟨hn, ho, hr⟩ hzv hD
      dsimp only [encOR]
      gi_wp2
      exact hD _ _ (Keep.of_below (below_two _ _ _)) ⟨hn, below_block (below_two _ _ _) ho, (hr.alloc _).alloc _⟩ ⟨V.heap.size, V.heap.size + 1, by omega, by omega, below_block ((Below.refl _ _).alloc (Nat.le_refl _) _) (heap_alloc_new V _), heap_alloc2_new V _ _, rfl⟩
    case body =>
      rintro l' pre x a' V ⟨hn, ho, hr⟩ hzv hpre ⟨Bx, Br, z1, z2, hbx, hbr, rfl⟩
      have b0 := hbx.c0
      have b1 := hbx.c1
      have o0 := ho.c0
      have o1 := ho.c1
      have r0 : V.cell? ⟨Br, 0, none⟩ = some (.int .i64 x.2.1) := by rw [cell_of_row _ _ _ _ _ _ hbr]; rfl
      have r1 : V.cell? ⟨Br, 1, none⟩ = some (.int .i64 x.2.2) := by rw [cell_of_row _ _ _ _ _ _ hbr]; rfl
      have f1 := hr.from_.frozen
      have f2 := hr.many.frozen
      have f3 := hr.err.frozen
      have g1 := hr.from_.cell
      have g2 := hr.many.cell
      have g3 := hr.err.cell
      obtain ⟨⟨x1, x2⟩, ⟨x3, x4⟩⟩ := x
      simp only at hpre r0 r1 b0 b1
      by_cases hk1 : x1 = k1
      · subst hk1
        by_cases hk2 : x2 = k2
        · subst hk2
          have hmx : Try.prog.follows .mixedOrders = true := by kernel_rfl
          have hit := hitL_hit (x := ((x1, x2), (x3, x4))) hn rfl
          have hfr : findR (x1, x2) (pre ++ [((x1, x2), (x3, x4))]) = (x3, x4, 0) := by unfold findR; rw [hit]
          have R4 := hr.set (Nat.le_refl _) x3 x4 0
          have nK : ∀ k, w.heap.size + 1 + 1 ≤ k → k ≤ w.heap.size + 1 + 1 + 1 + 1 → ¬ (k < w.heap.size ∨ k = W2.heap.size) := by intro k _ _; omega
          have E : Hid (Keep (fun k => k < w.heap.size ∨ k = W2.heap.size) W3.heap.size V (((V.setCell ⟨w.heap.size + 1 + 1, 0, none⟩ (.int .i64 x3)).setCell ⟨w.heap.size + 1 + 1 + 1, 0, none⟩ (.int .i64 x4)).setCell ⟨w.heap.size + 1 + 1 + 1 + 1, 0, none⟩ (.int .i64 0)).drew ∧
              ((Code.ret = .ret ∧ ∃ x, hitL (x1, x2) (pre ++ [((x1, x2), (x3, x4))]) = some x) ∧ Res3 w (((V.setCell ⟨w.heap.size + 1 + 1, 0, none⟩ (.int .i64 x3)).setCell ⟨w.heap.size + 1 + 1 + 1, 0, none⟩ (.int .i64 x4)).setCell ⟨w.heap.size + 1 + 1 + 1 + 1, 0, none⟩ (.int .i64 0)).drew w.heap.size (findR (x1, x2) (pre ++ [((x1, x2), (x3, x4))])).1 (findR (x1, x2) (pre ++ [((x1, x2), (x3, x4))])).2.1 (findR (x1, x2) (pre ++ [((x1, x2), (x3, x4))])).2.2)) := Lib.hid (by
            rw [hfr]
            exact ⟨(((Keep.setCell _ _ _ _ (nK _ (by omega) (by omega)) (by omega)).trans (Keep.setCell _ _ _ _ (nK _ (by omega) (by omega)) (by omega))).trans (Keep.setCell _ _ _ _ (nK _ (by omega) (by omega)) (by omega))).trans (Keep.drew _ _ _), ⟨rfl, _, hit⟩, R4.bel.drew, R4.from_, R4.many, R4.err⟩)
          clear hit hfr R4 nK
          gi_wp2
          gi_region_o
          all_goals gi_wp2
          all_goals exact ⟨E.out.1, ⟨rfl, E.out.2.1.2⟩, E.out.2.2⟩
        · have hne : (x2 == k2) = false := by simpa using hk2
          have E := Lib.hid (hitL_miss (x := ((x1, x2), (x3, x4))) hn (fun e => hk2 (Prod.mk.inj e).2))
          have H3 := Lib.hid (And.intro ho hr)
          clear hn
          gi_wp2
          exact ⟨Keep.refl _ _ _, E.out, H3.out⟩
      · have hne : (x1 == k1) = false := by simpa using hk1
        have E := Lib.hid (hitL_miss (x := ((x1, x2), (x3, x4))) hn (fun e => hk1 (Prod.mk.inj e).1))
        have H3 := Lib.hid (And.intro ho hr)
        clear hn
        gi_wp2
        exact ⟨Keep.refl _ _ _, E.out, H3.out⟩
    case done =>
      rintro D V hD ⟨hn, ho, hr⟩ hKD
      have f1 := hr.from_.frozen
      have f2 := hr.many.frozen
      have f3 := hr.err.frozen
      have g1 := hr.from_.cell
      have g2 := hr.many.cell
      have g3 := hr.err.cell
      gi_wp2
      have R4 := hr.set (Nat.le_refl _) 0 0 2
      have KD : (((V.setCell ⟨w.heap.size + 1 + 1, 0, none⟩ (.int .i64 0)).setCell ⟨w.heap.size + 1 + 1 + 1, 0, none⟩ (.int .i64 0)).setCell ⟨w.heap.size + 1 + 1 + 1 + 1, 0, none⟩ (.int .i64 2)).heap[D]? = some (.deferred (some [])) :=
        (Below.heap_setCell _ _ _ _ (by simp only; omega)).trans ((Below.heap_setCell _ _ _ _ (by simp only; omega)).trans ((Below.heap_setCell _ _ _ _ (by simp only; omega)).trans hKD))
      generalize ((V.setCell ⟨w.heap.size + 1 + 1, 0, none⟩ (.int .i64 0)).setCell ⟨w.heap.size + 1 + 1 + 1, 0, none⟩ (.int .i64 0)).setCell ⟨w.heap.size + 1 + 1 + 1 + 1, 0, none⟩ (.int .i64 2) = V3 at *
      refine ⟨by simp, .inl ⟨_, _, rfl, run_takeDeferred KD, ?_⟩⟩
      have R5 := Res3.hangs (B := D) (by omega) (by omega) (fun (_ : Unit) => (0, 0, 2)) () V3 _ R4 (below_put D V3 D (.deferred none) (Nat.le_refl _))
      generalize V3.putObj D (.deferred none) = V4 at *
      have q1 := R5.from_.cell
      have q2 := R5.many.cell
      have q3 := R5.err.cell
      have hA : findA C (k1, k2) = (0, 0, 2) := by unfold findA findR; rw [if_pos hk, hn]
      refine ⟨.tuple #[.int .i64 0, .int .i64 0, .int .i64 2], ?_, by rw [hA], R5.bel⟩
      simp [results, Try.results88, go_sem, q1, q2, q3]
    case stop =>
      rintro D c pre V hD hpre ⟨⟨rfl, x, hx⟩, hr⟩ hKD
      gi_wp2
      refine ⟨by simp, .inl ⟨_, _, rfl, run_takeDeferred hKD, ?_⟩⟩
      have R5 := Res3.hangs (B := D) (by omega) (by omega) (fun (_ : Unit) => findR (k1, k2) pre) () V _ hr (below_put D V D (.deferred none) (Nat.le_refl _))
      generalize V.putObj D (.deferred none) = V4 at *
      have hA : findA C (k1, k2) = findR (k1, k2) pre := by unfold findA findR; rw [if_pos hk, hx, hitL_pre hx hpre]
      rw [← hA] at R5
      have q1 := R5.from_.cell
      have q2 := R5.many.cell
      have q3 := R5.err.cell
      refine ⟨.tuple #[.int .i64 (findA C (k1, k2)).1, .int .i64 (findA C (k1, k2)).2.1, .int .i64 (findA C (k1, k2)).2.2], ?_, rfl, R5.bel⟩
      simp [results, Try.results88, go_sem, q1, q2, q3]
  · have f1 := R2.out.from_.frozen
    have f2 := R2.out.many.frozen
    have f3 := R2.out.err.frozen
    have g1 := R2.out.from_.cell
    have g2 := R2.out.many.cell
    have g3 := R2.out.err.cell
    gi_wp2
    have R3 := R2.out.set (Nat.le_refl _) 0 0 (chk C)
    generalize ((W2.setCell ⟨w.heap.size + 1 + 1, 0, none⟩ (.int .i64 0)).setCell ⟨w.heap.size + 1 + 1 + 1, 0, none⟩ (.int .i64 0)).setCell ⟨w.heap.size + 1 + 1 + 1 + 1, 0, none⟩ (.int .i64 (chk C)) = W3 at *
    have q1 := R3.from_.cell
    have q2 := R3.many.cell
    have q3 := R3.err.cell
    have hA : findA C (k1, k2) = (0, 0, chk C) := by unfold findA; rw [if_neg hk]
    refine ⟨.tuple #[.int .i64 0, .int .i64 0, .int .i64 (chk C)], ?_, by rw [hA], R3.bel⟩
    simp [results, Try.results88, go_sem, q1, q2, q3]
end Go.Proofs.Ytnapodeiigkebaa

/- The contracts of package plan's Own, Traps, Chan, Major. Conditions: the configuration's lists lie in memory. -/
namespace Go.Proofs.Ytnapodeiigkebaa
open Go.RowKit Go.Shelf
attribute [local go_sem] Oper.semAt_some
set_option maxRecDepth 100000

/-- The three numbers of an answer. -/
def ans3 (r : Int × Int × Int) : Ending := .returned (.tuple #[.int .i64 r.1, .int .i64 r.2.1, .int .i64 r.2.2])
theorem chan_ok (v1 v2 v3 : Value) (C : Cf) (k : Int) (w : World) (h : CfAt w v1 v2 v3 C) : Calls Try.prog 56 #[.agg #[v1, v2, v3], .int .i64 k] w fun e w' => e = ans3 (findA C (2, k)) ∧ Below w.heap.size w w' := by
  obtain ⟨w1, hw1⟩ : ∃ w1, w1 = w.alloc (.cells #[v1, v2, v3] 26) := ⟨_, rfl⟩
  have hb1 : Below w.heap.size w w1 := by rw [hw1]; exact (Below.refl _ _).alloc (Nat.le_refl _) _
  have hx : CBox w1 w.heap.size v1 v2 v3 := by rw [hw1]; exact CBox.new w _ _ _
  have HC := Lib.hid (h.below hb1)
  have c0 := hx.c0
  have c1 := hx.c1
  have c2 := hx.c2
  clear h hx
  go_enter Try.func56, Try.ntmps56
  go_wp2_with fail
  rw [← hw1]
  clear hw1
  refine (find_ok v1 v2 v3 C _ _ _ HC.out).mono ?_
  rintro e w2 ⟨rfl, hb⟩
  have K := Lib.hid (hb1.trans (hb.mono hb1.size))
  clear hb hb1
  obtain ⟨r, hr⟩ : ∃ r, r = findA C (2, k) := ⟨_, rfl⟩
  rw [← hr]
  have HRR := Lib.hid hr
  clear hr
  go_wp2
  refine ⟨rfl, .tuple #[.int .i64 r.1, .int .i64 r.2.1, .int .i64 r.2.2], ?_, by rw [← HRR.out]; rfl, K.out⟩
  simp [results, Try.results56, go_sem]

end Go.Proofs.Ytnapodeiigkebaa

/- The contract of package plan's Turn. Conditions: the configuration's lists lie in memory. Written by gen/gen_p7.py. -/
namespace Go.Proofs.Ytnapodeiigkebaa
open Go.RowKit Go.Shelf
attribute [local go_sem] Oper.semAt_some
set_option maxRecDepth 100000

end Go.Proofs.Ytnapodeiigkebaa

/- Where frames lie, and whose turn it is, as numbers: in lists alone. No condition but those named. -/
namespace Go.Proofs.Ytnapodeiigkebaa
open Go.RowKit
set_option maxRecDepth 100000

/-- Sums ahead of a partition's, a channel's frames. -/
def partS (S : List Row) (k : Nat) : Int := ((S.take k).map partF).sum
def chanS (S : List Row) (k : Nat) : Int := ((S.take k).map chanF).sum
theorem partS_succ (S : List Row) (k : Nat) (h : k < S.length) : partS S (k + 1) = partS S k + partF (S.getD k []) := sum_take partF S k h
theorem chanS_succ (S : List Row) (k : Nat) (h : k < S.length) : chanS S (k + 1) = chanS S k + chanF (S.getD k []) := sum_take chanF S k h
theorem sumL_partN (S : List Row) : ∀ k, k ≤ S.length → sumL (partN S k) = partS S k
  | 0, _ => by simp [partN, partS, sumL]
  | k + 1, h => by
    rw [partN_succ, partS_succ S k (by omega), show partN S k ++ [ownAt S k, trapAt S k] = (partN S k ++ [ownAt S k]) ++ [trapAt S k] by simp, sumL_snoc, sumL_snoc, sumL_partN S k (by omega), Int.add_assoc]
    rfl
theorem sumL_app {κ : Type} (L M : List (κ × Int)) : sumL (L ++ M) = sumL L + sumL M := by simp [sumL]
theorem sumL_chanN (S : List Row) : ∀ k, k ≤ S.length → sumL (chanN S k) = chanS S k
  | 0, _ => by simp [chanN, chanS, sumL]
  | k + 1, h => by rw [chanN_succ, chanS_succ S k (by omega), sumL_snoc, sumL_chanN S k (by omega)]; rfl
theorem framesC_sums (C : Cf) : framesC C = partS C.1 C.1.length + chanS C.2.2 C.2.2.length := by
  unfold framesC partS chanS
  rw [List.take_length, List.take_length]
theorem hit_laid : ∀ (s : Int) (L : List OwnE) (k : Int × Int), (∀ y ∈ L, y.1 ≠ k) → hitL k (laidL s L) = none
  | _, [], _, _ => rfl
  | s, x :: L, k, h => by
    unfold hitL
    rw [laidL, List.find?_cons_of_neg (by simpa using h x (by simp))]
    exact hit_laid _ L k fun y hy => h y (by simp [hy])
theorem findR_hit (A : List OwnE) (x : OwnE) (B : List OwnE) (h : ∀ y ∈ A, y.1 ≠ x.1) : findR x.1 (laidL 0 (A ++ x :: B)) = (sumL A, x.2, 0) := by
  have e : hitL x.1 (laidL 0 (A ++ x :: B)) = some (x.1, (sumL A, x.2)) := by
    have h1 : hitL x.1 (laidL 0 (A ++ [x])) = some (x.1, (sumL A, x.2)) := by
      rw [laidL_snoc, Int.zero_add]
      exact hitL_hit (hit_laid 0 A x.1 h) rfl
    exact hitL_pre h1 (laidL_pre 0 ⟨B, by simp⟩)
  unfold findR
  rw [e]
theorem findR_miss (L : List OwnE) (k : Int × Int) (h : ∀ y ∈ L, y.1 ≠ k) : findR k (laidL 0 L) = (0, 0, 2) := by
  unfold findR
  rw [hit_laid 0 L k h]
theorem mem_partN {S : List Row} {n : Nat} {y : OwnE} (h : y ∈ partN S n) : ∃ i, i < n ∧ (y = ownAt S i ∨ y = trapAt S i) := by
  simp only [partN, List.mem_flatMap, List.mem_range, List.mem_cons, List.not_mem_nil, or_false] at h
  exact h
theorem mem_chanN {S : List Row} {n : Nat} {y : OwnE} (h : y ∈ chanN S n) : ∃ i, i < n ∧ y = chanAt S i := by
  simp only [chanN, List.mem_map, List.mem_range] at h
  obtain ⟨i, hi, rfl⟩ := h
  exact ⟨i, hi, rfl⟩
theorem partN_rest (S : List Row) {k n : Nat} (h : k < n) : ∃ B, partN S n = partN S k ++ ownAt S k :: trapAt S k :: B := by
  obtain ⟨B, hB⟩ := partN_pre S (show k + 1 ≤ n from h)
  exact ⟨B, by rw [← hB, partN_succ]; simp⟩
theorem chanN_rest (S : List Row) {k n : Nat} (h : k < n) : ∃ B, chanN S n = chanN S k ++ chanAt S k :: B := by
  obtain ⟨B, hB⟩ := chanN_pre S (show k + 1 ≤ n from h)
  exact ⟨B, by rw [← hB, chanN_succ]; simp⟩
theorem findA_bad {C : Cf} (hk : chk C ≠ 0) (k : Int × Int) : findA C k = (0, 0, chk C) := by unfold findA; rw [if_neg hk]
theorem findA_own {C : Cf} (hk : chk C = 0) (k : Nat) (h : k < C.1.length) : findA C (0, (k : Int)) = (partS C.1 k, (C.1.getD k []).getD 0 0, 0) := by
  unfold findA
  rw [if_pos hk]
  obtain ⟨B, hB⟩ := partN_rest C.1 h
  have e : ownL C = partN C.1 k ++ ownAt C.1 k :: (trapAt C.1 k :: B ++ chanN C.2.2 C.2.2.length) := by rw [ownL, hB]; simp
  rw [e]
  have := findR_hit (partN C.1 k) (ownAt C.1 k) (trapAt C.1 k :: B ++ chanN C.2.2 C.2.2.length) (fun y hy => by
    obtain ⟨i, hi, rfl | rfl⟩ := mem_partN hy
    · intro e; have := (Prod.mk.inj e).2; omega
    · intro e; have := (Prod.mk.inj e).1; omega)
  rw [sumL_partN _ _ (by omega)] at this
  exact this
theorem findA_traps {C : Cf} (hk : chk C = 0) (k : Nat) (h : k < C.1.length) : findA C (1, (k : Int)) = (partS C.1 k + (C.1.getD k []).getD 0 0, ((C.1.getD k []).getD 1 0 + 2) / 3, 0) := by
  unfold findA
  rw [if_pos hk]
  obtain ⟨B, hB⟩ := partN_rest C.1 h
  have e : ownL C = (partN C.1 k ++ [ownAt C.1 k]) ++ trapAt C.1 k :: (B ++ chanN C.2.2 C.2.2.length) := by rw [ownL, hB]; simp
  rw [e]
  have := findR_hit (partN C.1 k ++ [ownAt C.1 k]) (trapAt C.1 k) (B ++ chanN C.2.2 C.2.2.length) (fun y hy => by
    rcases List.mem_append.1 hy with hy | hy
    · obtain ⟨i, hi, rfl | rfl⟩ := mem_partN hy
      · intro e; have := (Prod.mk.inj e).1; omega
      · intro e; have := (Prod.mk.inj e).2; omega
    · simp only [List.mem_singleton] at hy
      subst hy
      intro e; have := (Prod.mk.inj e).1; omega)
  rw [sumL_snoc, sumL_partN _ _ (by omega)] at this
  exact this
theorem findA_chan {C : Cf} (hk : chk C = 0) (k : Nat) (h : k < C.2.2.length) : findA C (2, (k : Int)) = (partS C.1 C.1.length + chanS C.2.2 k, chanF (C.2.2.getD k []), 0) := by
  unfold findA
  rw [if_pos hk]
  obtain ⟨B, hB⟩ := chanN_rest C.2.2 h
  have e : ownL C = (partN C.1 C.1.length ++ chanN C.2.2 k) ++ chanAt C.2.2 k :: B := by rw [ownL, hB]; simp
  rw [e]
  have := findR_hit (partN C.1 C.1.length ++ chanN C.2.2 k) (chanAt C.2.2 k) B (fun y hy => by
    rcases List.mem_append.1 hy with hy | hy
    · obtain ⟨i, hi, rfl | rfl⟩ := mem_partN hy
      · intro e; have := (Prod.mk.inj e).1; omega
      · intro e; have := (Prod.mk.inj e).1; omega
    · obtain ⟨i, hi, rfl⟩ := mem_chanN hy
      intro e; have := (Prod.mk.inj e).2; omega)
  rw [sumL_app, sumL_partN _ _ (Nat.le_refl _), sumL_chanN _ _ (by omega)] at this
  exact this
/-- There is no such one. -/
theorem findA_none {C : Cf} (hk : chk C = 0) (a b : Int) (h1 : a = 0 ∨ a = 1 → ¬ (0 ≤ b ∧ b < C.1.length)) (h2 : a = 2 → ¬ (0 ≤ b ∧ b < C.2.2.length)) : findA C (a, b) = (0, 0, 2) := by
  unfold findA
  rw [if_pos hk]
  refine findR_miss _ _ fun y hy e => ?_
  rcases mem_ownL hy with ⟨i, hi, rfl | rfl⟩ | ⟨i, hi, rfl⟩
  · have e1 := (Prod.mk.inj e).1; have e2 := (Prod.mk.inj e).2
    exact h1 (Or.inl e1.symm) (by omega)
  · have e1 := (Prod.mk.inj e).1; have e2 := (Prod.mk.inj e).2
    exact h1 (Or.inr e1.symm) (by omega)
  · have e1 := (Prod.mk.inj e).1; have e2 := (Prod.mk.inj e).2
    exact h2 e1.symm (by omega)
theorem partS_le {C : Cf} (hm : mayB C = true) (k : Nat) : 0 ≤ partS C.1 k ∧ partS C.1 k ≤ 2400 := by
  obtain ⟨⟨p1, p2⟩, -⟩ := mayB_parts hm
  have h1 := sum_le partF 300 (C.1.take k) (take_mem fun T hT => (partF_le T (p2 T hT)).2.2)
  have h2 : ((C.1.take k).length : Int) * (300 : Nat) ≤ 2400 := by
    have : (C.1.take k).length ≤ 8 := by rw [List.length_take]; omega
    have : ((C.1.take k).length : Int) ≤ 8 := by exact_mod_cast this
    omega
  exact ⟨h1.1, Int.le_trans h1.2 h2⟩
theorem chanS_le {C : Cf} (hm : mayB C = true) (k : Nat) : 0 ≤ chanS C.2.2 k ∧ chanS C.2.2 k ≤ 4800 := by
  obtain ⟨-, c1, c2⟩ := mayB_parts hm
  have h1 := sum_le chanF 300 (C.2.2.take k) (take_mem fun T hT => (chanF_le _ T (c2 T hT)).2.2.2)
  have h2 : ((C.2.2.take k).length : Int) * (300 : Nat) ≤ 4800 := by
    have : (C.2.2.take k).length ≤ 16 := by rw [List.length_take]; omega
    have : ((C.2.2.take k).length : Int) ≤ 16 := by exact_mod_cast this
    omega
  exact ⟨h1.1, Int.le_trans h1.2 h2⟩

end Go.Proofs.Ytnapodeiigkebaa
