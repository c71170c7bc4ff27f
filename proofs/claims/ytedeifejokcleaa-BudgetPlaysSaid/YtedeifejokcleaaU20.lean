/- The walk of BudgetPlays. No condition. -/
import Derived.Test.YtedeifejokcleaaOU
namespace Go.Proofs.Ytedeifejokcleaa
open Go.RowKit Go.Maps
set_option maxRecDepth 100000

set_option maxHeartbeats 2000000 in
theorem plays11_far (q : Int) (n c : Nat) (a : Option Addr) (W : World) (h : 200 < n) : Calls Try.prog 3 #[.int .i64 q, .slice a n c] W fun e w' => e = .returned (.bool true) ∧ Below W.heap.size W w' := by
  have d1 : decide ((200 : Int) < (n : Int)) = true := decide_eq_true (by omega)
  go_enter Try.func3, Try.ntmps3
  go_wp2_with fail
  refine (awake11 _).mono ?_
  rintro e w1 ⟨rfl, hb⟩
  have B1 := Lib.hid hb
  clear hb
  go_wp2
  go_ret
  exact ⟨rfl, B1.out⟩
set_option maxHeartbeats 2000000 in
theorem plays11_bad (q : Int) (n c : Nat) (a : Option Addr) (W : World) (h : n ≤ 200) (hq : numB q = false) : Calls Try.prog 3 #[.int .i64 q, .slice a n c] W fun e w' => e = .returned (.bool true) ∧ Below W.heap.size W w' := by
  have d1 : decide ((200 : Int) < (n : Int)) = false := decide_eq_false (by omega)
  have NB := Lib.hid (new11_bad q W hq)
  have RB := Lib.hid (rnew11_bad q W hq)
  clear hq
  go_enter Try.func3, Try.ntmps3
  go_wp2_with fail
  refine NB.out.mono ?_
  rintro e w1 ⟨rfl, rfl⟩
  go_wp2_with fail
  refine RB.out.mono ?_
  rintro e w1 ⟨rfl, rfl⟩
  go_wp2_with fail
  go_loopw [9] (fun i wr => i = .int .i64 0 ∧ wr = W) (fun i _ => (1 - (intOf i).toNat))
  case atStart => exact ⟨rfl, rfl⟩
  case round =>
    obtain ⟨rfl, rfl⟩ := hrel
    rcases (show n = 0 ∨ 0 < n by omega) with rfl | h0
    · clear d1 h
      go_wp2_with fail
      refine (awake11 _).mono ?_
      rintro e w1 ⟨rfl, hb⟩
      have B1 := Lib.hid hb
      clear hb
      go_wp2
      go_ret
      exact ⟨rfl, B1.out⟩
    · have d2 : decide ((0 : Int) < (n : Int)) = true := decide_eq_true (by omega)
      go_wp2_with fail
      refine (awake11 _).mono ?_
      rintro e w1 ⟨rfl, hb⟩
      have B1 := Lib.hid hb
      clear hb
      go_wp2
      go_ret
      exact ⟨rfl, B1.out⟩
set_option maxHeartbeats 8000000 in
theorem plays11_in (q : Int) (S : List Op11) (n c : Nat) (a : Option Addr) (W : World) (hn : n = S.length) (h : n ≤ 200) (hq : numB q = true) (hv : ArgOps11 W (.slice a n c) S) : Calls Try.prog 3 #[.int .i64 q, .slice a n c] W fun e w' => e = .returned (.bool true) ∧ Below W.heap.size W w' := by
  have d1 : decide ((200 : Int) < (n : Int)) = false := decide_eq_false (by omega)
  have NO := Lib.hid (ob_new (W := W) q (Below.refl _ _) hq)
  have RO : Hid (∀ w, Calls Try.prog 11 #[.int .i64 q] w fun e w' => ∃ v, e = .returned (.tuple #[v, .int .i64 0]) ∧ w'.ownsRow w.heap.size 49 4 v 1 (ndsV [(1, 0, q, 0)]) ∧ Below w.heap.size w w') := Lib.hid fun w => rnew11_ok q w hq
  have HV := Lib.hid hv
  have HN := Lib.hid hn
  clear hq hv hn
  go_enter Try.func3, Try.ntmps3
  go_wp2_with fail
  refine NO.out.mono ?_
  rintro e w1 ⟨b, rfl, h1, -⟩
  have H1 := Lib.hid h1
  clear h1
  go_wp2_with fail
  refine (RO.out w1).mono ?_
  rintro e w2 ⟨v, rfl, ho, hb⟩
  have P2 : Hid (Pair11 W w2 b v [(1, 0, q, 0)]) := Lib.hid ⟨H1.out.more hb fun k hk => ⟨Or.inr (ho.lt k hk).1, (ho.lt k hk).2⟩, own_base ho H1.out.below.size⟩
  clear ho hb
  go_wp2_with fail
  go_loopw [7, 9] (fun l i wr => ∃ (j : Nat) (L : List Nd), i = .int .i64 (j : Int) ∧ j ≤ n ∧ Pair11 W wr b l L) (fun _ i _ => (n - (intOf i).toNat))
  case atStart => exact ⟨0, _, rfl, Nat.zero_le _, P2.out⟩
  case round =>
    rename_i l0 _ _
    obtain ⟨j, L, rfl, hj, hP⟩ := hrel
    have PP := Lib.hid hP
    clear hP
    by_cases hlt : j < n
    · have hjl : j < S.length := by rw [← HN.out]; exact hlt
      obtain ⟨⟨d, id, up, k⟩, hx⟩ : ∃ y, S.getD j default = y := ⟨_, rfl⟩
      obtain ⟨g, o, rfl, h64, hc⟩ := HV.out.at_ hjl hx
      have CA := Lib.hid hc
      obtain ⟨y0, y1, y2, y3⟩ := hc _ PP.out.ob.below
      have hlt2 : (j : Int) < (n : Int) := by omega
      clear hx hc h64
      go_wp2_with fail
      refine (play11 PP.out d id up k).mono ?_
      rintro e w3 ⟨v', rfl, hP⟩
      have P3 := Lib.hid hP
      have hG := playL_good PP.out.ob.good d id up k
      obtain ⟨L', hL'⟩ : ∃ L', playL L d id up k = L' := ⟨_, rfl⟩
      rw [hL'] at P3 hG
      have HG := Lib.hid hG
      obtain ⟨dd, hdd⟩ : ∃ dd, leftL L' id = dd := ⟨_, rfl⟩
      have HD := Lib.hid hdd
      have D3 := Lib.hid (P3.out.step (Below.refl _ _).drew)
      have hS : Hid (∀ V, Below W.heap.size W V → V.cell? ⟨g, o + j * 4 + 1, none⟩ = some (.int .i64 id)) := Lib.hid fun V hV => (CA.out V hV).2.1
      clear hP hL' hdd hG y0 y1 y2 y3
      have y1 := hS.out w3 P3.out.ob.below
      go_wp2_with fail
      go_region_held3 (fun V => V.cell? ⟨g, o + j * 4 + 1, none⟩ = some (.int .i64 id)) (first | with_reducible exact hS.out _ D3.out.ob.below | with_reducible exact hS.out w5 P5.out.ob.below | with_reducible exact hS.out w6 P6.out.ob.below | with_reducible exact hS.out w7 P7.out.ob.below | with_reducible exact hS.out w8 P8.out.ob.below)
        (first
          | (go_at_call 13; refine (ob_left D3.out.ob id HD.out).mono ?_; rintro e w5 ⟨rfl, hb⟩; have P5 := Lib.hid (D3.out.step hb); clear hb)
          | (go_at_call 14; refine (rleft11 L' v' id w5 HG.out P5.out.nds HD.out).mono ?_; rintro e w6 ⟨rfl, hb⟩; have P6 := Lib.hid (P5.out.step hb); clear hb)
          | (go_at_call 16; refine (ob_all P6.out.ob).mono ?_; rintro e w7 ⟨v7, rfl, ho, hb⟩; have P7 := Lib.hid (P6.out.step hb); have N7 := Lib.hid (NdsAt.of_row ho); clear ho hb)
          | (go_at_call 15; refine (same11 L' v7 v' w7 (Nat.le_trans HG.out.len (by decide)) N7.out P7.out.nds).mono ?_; rintro e w8 ⟨rfl, hb⟩; have P8 := Lib.hid (P7.out.step hb); clear hb))
      clear y1
      go_wp2_with fail
      go_roundw
      case rel => exact ⟨j + 1, L', by go_num, by omega, P8.out⟩
      case measure => simp [intOf]; omega
    · obtain rfl : j = n := by omega
      have d2 : decide ((j : Int) < (j : Int)) = false := decide_eq_false (by omega)
      clear hlt
      go_wp2_with fail
      refine (awake11 _).mono ?_
      rintro e w9 ⟨rfl, hb⟩
      have B9 := Lib.hid (PP.out.ob.below.trans (hb.mono PP.out.ob.below.size))
      clear hb
      go_wp2
      go_ret
      exact ⟨rfl, B9.out⟩
theorem budgetPlays_walk (q : Int) (v : Value) (S : List Op11) (W : World) (_ : I64 q) (hv : ArgOps11 W v S) : Calls Try.prog 3 #[.int .i64 q, v] W fun e w' => e = .returned (.bool true) ∧ Below W.heap.size W w' := by
  have hv' := hv
  obtain ⟨a, c, rfl, _⟩ := hv
  by_cases h : S.length ≤ 200
  · cases hq : numB q with
    | false => exact plays11_bad q _ c a W h hq
    | true => exact plays11_in q S _ c a W rfl h hq hv'
  · exact plays11_far q _ c a W (by omega)
end Go.Proofs.Ytedeifejokcleaa
