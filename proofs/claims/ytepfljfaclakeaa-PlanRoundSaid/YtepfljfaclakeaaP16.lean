/- The walk of PlanRound. Condition: the configuration lies as it came in. Written by gen/gen_p15.py. -/
import Derived.Test.YtepfljfaclakeaaP13
namespace Go.Proofs.Ytepfljfaclakeaa
open Go.RowKit
set_option maxRecDepth 100000

theorem rowL_append (A B : List WinE) : rowL (A ++ B) = rowL A ++ rowL B := by simp [rowL]
theorem row_at (S : List Row) {n i j : Nat} (hi : i < n) (hj : (j : Int) < (S.getD i []).getD 1 0) : (rowL (winN S n))[(rowL (winN S i)).length + j]? = some (i : Int) := by
  obtain ⟨B, hB⟩ := winN_pre S (show i + 1 ≤ n from hi)
  have hj' : j < (winAt S i).2.toNat := by unfold winAt; simp only; omega
  rw [← hB, rowL_append, winN_succ, rowL_snoc, List.getElem?_append_left (by rw [List.length_append, List.length_replicate]; omega), List.getElem?_append_right (by omega)]
  rw [show (rowL (winN S i)).length + j - (rowL (winN S i)).length = j by omega, List.getElem?_replicate, if_pos hj']
  rfl
/-- Whose turn it is at a window's ticks. -/
theorem turnA_at {C : Cf} (hk : chk C = 0) {i j : Nat} (hi : i < C.2.1.length) (hj : (j : Int) < (C.2.1.getD i []).getD 1 0) : turnA C (((rowL (winN C.2.1 i)).length + j : Nat) : Int) = ((C.2.1.getD i []).getD 0 0, (i : Int), 0) := by
  have hr := row_at C.2.1 hi hj
  have hl : (rowL (winN C.2.1 i)).length + j < (rowL (winL C)).length := (List.getElem?_eq_some_iff.1 hr).1
  obtain ⟨a, i', ha, hat, hL, hi', hT⟩ := turnA_row hk (((rowL (winN C.2.1 i)).length + j : Nat) : Int)
  rw [Int.emod_eq_of_lt (by omega) (by omega)] at hat
  have e : a = (rowL (winN C.2.1 i)).length + j := by omega
  rw [e] at hL
  have e2 : some (i : Int) = some (i' : Int) := hr.symm.trans hL
  have e3 : i = i' := by have := Option.some.inj e2; omega
  rw [hT, ← e3]
theorem turnA_round (C : Cf) (t : Int) : turnA C (t + majorA C) = turnA C t := by
  unfold turnA
  rw [Int.add_emod_right]
theorem row_le {C : Cf} (hm : mayB C = true) (i : Nat) (h : i ≤ C.2.1.length) : (rowL (winN C.2.1 i)).length ≤ 1000000 := by
  have h1 := winL_small hm (winN C.2.1 i) (winN_pre _ h)
  have h2 := rowL_length (winN C.2.1 i) (fun x hx => winL_pos hm x ((winN_pre C.2.1 h).subset hx))
  omega
theorem row_succ (S : List Row) (i : Nat) (y : Nat) (h : (S.getD i []).getD 1 0 = (y : Int)) : (rowL (winN S (i + 1))).length = (rowL (winN S i)).length + y := by
  rw [winN_succ, rowL_snoc, List.length_append, List.length_replicate]
  unfold winAt
  simp only [h]
  rfl
set_option maxHeartbeats 8000000 in
theorem planRound_walk (v : Value) (C : Cf) (t : Int) (W : World) (hC : ConfIn W v C) (ht : 0 ≤ t ∧ t ≤ 18446744073709551615) : Calls Try.prog 6 #[v, .int .u64 t] W fun e w' => e = .returned (.bool true) ∧ Below W.heap.size W w' := by
  obtain ⟨aa1, na1, ma1, aa2, na2, ma2, aa3, na3, ma3, rfl⟩ := hC.slices
  obtain ⟨w1, hw1⟩ : ∃ w1, w1 = W.alloc (.cells #[.slice aa1 na1 ma1, .slice aa2 na2 ma2, .slice aa3 na3 ma3] 26) := ⟨_, rfl⟩
  have hb1 : Below W.heap.size W w1 := by rw [hw1]; exact (Below.refl _ _).alloc (Nat.le_refl _) _
  have K := Lib.hid hb1
  have IA := Lib.hid (hC.below hb1)
  have XA : Hid (CBox w1 W.heap.size (.slice aa1 na1 ma1) (.slice aa2 na2 ma2) (.slice aa3 na3 ma3)) := Lib.hid (by rw [hw1]; exact CBox.new W _ _ _)
  have x0 := XA.out.c0
  have x1 := XA.out.c1
  have x2 := XA.out.c2
  clear hC hb1
  by_cases la : longC C
  · have LA := Lib.hid (long7_yes _ C w1 IA.out la)
    clear la
    go_enter Try.func6, Try.ntmps6
    go_wp2_with fail
    rw [← hw1]
    clear hw1
    refine LA.out.mono ?_
    rintro e w2 ⟨rfl, hb⟩
    have K2 := Lib.hid (K.out.trans (hb.mono K.out.size))
    clear hb
    go_wp2_with fail
    refine (awake7_ok _).mono ?_
    rintro e w3 ⟨rfl, hb⟩
    have K3 := Lib.hid (K2.out.trans (hb.mono K2.out.size))
    clear hb
    go_wp2
    go_ret
    exact ⟨rfl, K3.out⟩
  have VA := Lib.hid (show VarAt w1 W.heap.size _ _ _ C from ⟨XA.out, IA.out.at_ la⟩)
  have LA := Lib.hid (long7_no _ _ _ C w1 VA.out.cf la)
  clear la IA XA
  obtain ⟨c, hc⟩ : ∃ c, chk C = c := ⟨_, rfl⟩
  have HCK := Lib.hid hc
  go_enter Try.func6, Try.ntmps6
  go_wp2_with fail
  rw [← hw1]
  clear hw1
  obtain ⟨ba, hba⟩ : ∃ ba, ba = W.heap.size := ⟨_, rfl⟩
  rw [← hba] at VA x0 x1 x2 ⊢
  clear hba
  refine (LA.out).mono ?_
  rintro e w9 ⟨rfl, hb⟩
  have VA := Lib.hid (VA.out.below hb); have K := Lib.hid (K.out.trans (hb.mono K.out.size)); clear hb; have x0 := VA.out.box.c0; have x1 := VA.out.box.c1; have x2 := VA.out.box.c2
  go_wp2_with fail
  refine (check_is _ _ _ C c HCK.out _ VA.out.cf).mono ?_
  rintro e w9 ⟨rfl, hb⟩
  have VA := Lib.hid (VA.out.below hb); have K := Lib.hid (K.out.trans (hb.mono K.out.size)); clear hb; have x0 := VA.out.box.c0; have x1 := VA.out.box.c1; have x2 := VA.out.box.c2
  by_cases h0 : c = 0
  rotate_left
  · go_wp2_with (go_at_call 9; refine (awake7_ok _).mono ?_; rintro e w9 ⟨rfl, hb⟩; have K := Lib.hid (K.out.trans (hb.mono K.out.size)); clear hb)
    go_ret
    exact ⟨rfl, K.out⟩
  subst h0
  clear LA HCK
  have hm := (chk_zero hc).1
  obtain ⟨wn1, wn2, ww⟩ := mayB_wins hm
  have WW := Lib.hid ww
  have NW : Hid (na2 = C.2.1.length) := Lib.hid (by obtain ⟨_, _, e, _⟩ := VA.out.cf.ws; exact (Value.slice.inj e).2.1)
  have n32 : na2 ≤ 32 := by rw [NW.out]; exact wn2
  obtain ⟨m, hM⟩ : ∃ m, majorA C = m := ⟨_, rfl⟩
  have hms := sumL_winL hm
  have hMS : majorA C = sumL (winL C) := by unfold majorA; rw [if_pos hc]
  rw [← hMS, hM] at hms
  obtain ⟨m1, m2⟩ := hms
  have hrow := majorA_row hc
  rw [hM] at hrow
  have HROW : Hid (((rowL (winN C.2.1 na2)).length : Int) = m) := Lib.hid (by rw [NW.out, hrow]; rfl)
  obtain ⟨t1, t2⟩ := ht
  obtain ⟨u, hu⟩ : ∃ u, t / 2 = u := ⟨_, rfl⟩
  have hu2 : t.tdiv 2 = u := by rw [Int.tdiv_eq_ediv_of_nonneg t1]; exact hu
  have u0 : 0 ≤ u := by omega
  have u1 : u ≤ 9223372036854775807 := by omega
  obtain ⟨a, b, r, hT⟩ : ∃ a b c, turnA C u = (a, b, c) := ⟨_, _, _, rfl⟩
  have hr : r = 0 := by rw [← hc, ← turnA_err C u, hT]
  subst hr
  have hT2 : turnA C (u + m) = (a, b, 0) := by rw [← hM, turnA_round, hT]
  have HM := Lib.hid hM
  have T1 := Lib.hid hT
  have T2 := Lib.hid hT2
  have hm1 : ¬ m < 1 := by omega
  clear ww wn1 wn2 hM hMS hrow hT hT2
  go_wp2_with fail
  refine (major_is _ _ _ C m 0 HM.out hc _ VA.out.cf).mono ?_
  rintro e w9 ⟨rfl, hb⟩
  have VA := Lib.hid (VA.out.below hb); have K := Lib.hid (K.out.trans (hb.mono K.out.size)); clear hb; have x0 := VA.out.box.c0; have x1 := VA.out.box.c1; have x2 := VA.out.box.c2
  go_wp2_with fail
  refine (turn_is _ _ _ C u a b 0 u0 T1.out _ VA.out.cf).mono ?_
  rintro e w9 ⟨rfl, hb⟩
  have VA := Lib.hid (VA.out.below hb); have K := Lib.hid (K.out.trans (hb.mono K.out.size)); clear hb; have x0 := VA.out.box.c0; have x1 := VA.out.box.c1; have x2 := VA.out.box.c2
  go_wp2_with fail
  refine (turn_is _ _ _ C (u + m) a b 0 (by omega) T2.out _ VA.out.cf).mono ?_
  rintro e w9 ⟨rfl, hb⟩
  have VA := Lib.hid (VA.out.below hb); have K := Lib.hid (K.out.trans (hb.mono K.out.size)); clear hb; have x0 := VA.out.box.c0; have x1 := VA.out.box.c1; have x2 := VA.out.box.c2
  obtain ⟨wv, hwv⟩ : ∃ wv, wv = w9 := ⟨_, rfl⟩
  rw [← hwv] at VA K x0 x1 x2 ⊢
  clear hwv T1 T2 HM
  go_wp2_with fail
  clear x0 x1 x2
  go_loopw [13, 14] (fun s i wr => ∃ j : Nat, i = .int .i64 (j : Int) ∧ j ≤ na2 ∧ s = .int .u64 (((rowL (winN C.2.1 j)).length : Nat) : Int) ∧ Below wv.heap.size wv wr) (fun _ i _ => (na2 - (intOf i).toNat))
  case atStart => exact ⟨0, rfl, Nat.zero_le _, rfl, Below.refl _ _⟩
  case round =>
    obtain ⟨j, rfl, hj, rfl, hB⟩ := hrel
    have KB := Lib.hid hB
    clear hB
    have x0 := (VA.out.below KB.out).box.c0
    have x1 := (VA.out.below KB.out).box.c1
    have x2 := (VA.out.below KB.out).box.c2
    by_cases hlt : j < na2
    · obtain ⟨-, bb, o, x, y, rfl, -, hrow, g0, g1⟩ := VA.out.cf.ws.two (Below.refl _ _) j hlt
      have hbl : bb < wv.heap.size := block_lt_of_cell g0
      have hwb := winB_le _ _ (WW.out _ (getD_mem (by have := NW.out; omega)) : winB C.1.length (C.2.1.getD j []) = true)
      have hat := fun (q : Nat) (hq : (q : Int) < (C.2.1.getD j []).getD 1 0) => turnA_at hc (i := j) (j := q) (by rw [← NW.out]; exact hlt) hq
      have hsc := row_succ C.2.1 j
      have hle := row_le hm (j + 1) (by have := NW.out; omega)
      rw [hrow] at hwb hat hsc
      obtain ⟨-, y1, y2⟩ := hwb
      simp only [List.getD_cons_zero, List.getD_cons_succ] at y1 y2 hat hsc
      obtain ⟨y, rfl⟩ := Int.eq_ofNat_of_zero_le (show 0 ≤ y by omega)
      have hsc := hsc y rfl
      rw [hsc] at hle
      have HSC := Lib.hid hsc
      have HAT := Lib.hid hat
      have G0 := Lib.hid g0
      have G1 := Lib.hid g1
      have HBL := Lib.hid hbl
      generalize (rowL (winN C.2.1 j)).length = l at *
      clear hrow hat hsc g0 g1 hbl
      go_wp2_with fail
      clear x0 x1 x2
      go_loopw [13, 15] (fun s i wr => ∃ q : Nat, i = .int .i64 (q : Int) ∧ q ≤ y ∧ s = .int .u64 ((l + q : Nat) : Int) ∧ Below wv.heap.size wv wr) (fun _ i _ => (y - (intOf i).toNat))
      case atStart => exact ⟨0, rfl, Nat.zero_le _, rfl, KB.out⟩
      case round =>
        obtain ⟨q, rfl, hq, rfl, hB⟩ := hrel
        have KB := Lib.hid hB
        clear hB
        have x0 := (VA.out.below KB.out).box.c0
        have x1 := (VA.out.below KB.out).box.c1
        have x2 := (VA.out.below KB.out).box.c2
        have g0 := (KB.out.cell (p := ⟨bb, o + j * 2, none⟩) HBL.out).trans G0.out
        have g1 := (KB.out.cell (p := ⟨bb, o + j * 2 + 1, none⟩) HBL.out).trans G1.out
        by_cases hlt2 : q < y
        · have TQ := Lib.hid (HAT.out q (by omega))
          go_wp2_with (go_at_call 16; refine (turn_is _ _ _ C _ x (j : Int) 0 (by omega) TQ.out _ (VA.out.below KB.out).cf).mono ?_; rintro e w9 ⟨rfl, hb⟩; have KB := Lib.hid (KB.out.trans (hb.mono KB.out.size)); clear hb; have x0 := (VA.out.below KB.out).box.c0; have x1 := (VA.out.below KB.out).box.c1; have x2 := (VA.out.below KB.out).box.c2; have g0 := (KB.out.cell (p := ⟨bb, o + j * 2, none⟩) HBL.out).trans G0.out; have g1 := (KB.out.cell (p := ⟨bb, o + j * 2 + 1, none⟩) HBL.out).trans G1.out)
          go_roundw
          case rel => exact ⟨q + 1, by go_num, by omega, by go_num, KB.out⟩
          case measure => simp [intOf]; omega
        · obtain rfl : q = y := by omega
          go_wp2
          go_roundw
          case rel => exact ⟨j + 1, by go_num, by omega, by rw [HSC.out], KB.out⟩
          case measure => simp [intOf]; omega
    · obtain rfl : j = na2 := by omega
      have hm9 := HROW.out
      rw [hm9]
      have K := Lib.hid (K.out.trans (KB.out.mono K.out.size))
      go_wp2_with (go_at_call 9; refine (awake7_ok _).mono ?_; rintro e w9 ⟨rfl, hb⟩; have K := Lib.hid (K.out.trans (hb.mono K.out.size)); clear hb)
      go_ret
      exact ⟨rfl, K.out⟩
end Go.Proofs.Ytepfljfaclakeaa
