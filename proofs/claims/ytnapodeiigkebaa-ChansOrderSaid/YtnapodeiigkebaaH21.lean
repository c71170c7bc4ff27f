/- The walk of ChansOrder, whatever comes in. Condition: the configuration and the messages lie as they came in. -/
import Derived.Test.YtnapodeiigkebaaH20
namespace Go.Proofs.Ytnapodeiigkebaa
open Go.RowKit
set_option maxRecDepth 100000

theorem chansOrder_walk (v : Value) (C : Cf) (ch : Int) (u : Value) (S : List (List Int)) (W : World) (hC : ConfIn W v C) (_hc : I64 ch) (hS : ArgLs20 W u S) : Calls Try.prog 5 #[v, .int .i64 ch, u] W fun e w' => e = .returned (.bool true) ∧ Below W.heap.size W w' := by
  by_cases la : longC C
  · obtain ⟨aa1, na1, ma1, aa2, na2, ma2, aa3, na3, ma3, rfl⟩ := hC.slices
    obtain ⟨ua, uc, rfl, -⟩ := hS
    obtain ⟨w1, hw1⟩ : ∃ w1, w1 = W.alloc (.cells #[.slice aa1 na1 ma1, .slice aa2 na2 ma2, .slice aa3 na3 ma3] 26) := ⟨_, rfl⟩
    have hb1 : Below W.heap.size W w1 := by rw [hw1]; exact below_step1 _ _
    have K := Lib.hid hb1
    have LA := Lib.hid (long20_yes _ C w1 (hC.below hb1) la)
    clear la hC hb1
    go_enter Try.func5, Try.ntmps5
    go_wp2_with fail
    rw [← hw1]
    clear hw1
    refine LA.out.mono ?_
    rintro e w2 ⟨rfl, hb⟩
    have K2 := Lib.hid (K.out.trans (hb.mono K.out.size))
    clear hb
    go_wp2_with fail
    refine (awake20 _).mono ?_
    rintro e w3 ⟨rfl, hb⟩
    have K3 := Lib.hid (K2.out.trans (hb.mono K2.out.size))
    clear hb
    go_wp2
    go_ret
    exact ⟨rfl, K3.out⟩
  obtain ⟨v1, v2, v3, rfl, CF⟩ := hC.cf la
  by_cases h : chk C = 0 ∧ 0 ≤ ch ∧ ch < C.2.2.length ∧ S.length ≤ 20
  · obtain ⟨hk, h0, h1, h2⟩ := h
    obtain ⟨i, rfl⟩ := Int.eq_ofNat_of_zero_le h0
    exact ord_in CF la hk i (by omega) u S hS h2
  · obtain ⟨aa, cc, e3, -⟩ := CF.hs
    obtain ⟨ua, uc, rfl, -⟩ := hS
    subst e3
    by_cases hk : chk C = 0
    · exact ord_out CF la ch (Or.inr ⟨hk, by omega⟩)
    · exact ord_out CF la ch (Or.inl hk)
end Go.Proofs.Ytnapodeiigkebaa
