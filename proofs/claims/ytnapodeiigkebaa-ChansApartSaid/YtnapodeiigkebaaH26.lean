/- The walk of ChansApart, whatever comes in. Condition: the configuration and the script lie as they came in. -/
import Derived.Test.YtnapodeiigkebaaH25
namespace Go.Proofs.Ytnapodeiigkebaa
open Go.RowKit
set_option maxRecDepth 100000

theorem chansApart_walk (v : Value) (C : Cf) (u : Value) (S : List Op20) (only : Int) (W : World) (hC : ConfIn W v C) (hS : ArgOps20 W u S) (_ho : I64 only) : Calls Try.prog 4 #[v, u, .int .i64 only] W fun e w' => e = .returned (.bool true) ∧ Below W.heap.size W w' := by
  by_cases la : longC C
  · obtain ⟨aa1, na1, ma1, aa2, na2, ma2, aa3, na3, ma3, rfl⟩ := hC.slices
    obtain ⟨ua, uc, rfl, -⟩ := hS
    obtain ⟨w1, hw1⟩ : ∃ w1, w1 = W.alloc (.cells #[.slice aa1 na1 ma1, .slice aa2 na2 ma2, .slice aa3 na3 ma3] 26) := ⟨_, rfl⟩
    have hb1 : Below W.heap.size W w1 := by rw [hw1]; exact below_step1 _ _
    have K := Lib.hid hb1
    have LA := Lib.hid (long20_yes _ C w1 (hC.below hb1) la)
    clear la hC hb1
    go_enter Try.func4, Try.ntmps4
    go_wp2_with fail
    rw [← hw1]
    clear hw1
    refine LA.out.mono ?_
    rintro e w2 ⟨rfl, hb⟩
    have K2 := Lib.hid (K.out.trans (hb.mono K.out.size))
    clear hb
    go_wp2_with fail
    refine (awake20 _).mono ?_
    rintro e w3 ⟨rfl, hb⟩
    have K3 := Lib.hid (K2.out.trans (hb.mono K2.out.size))
    clear hb
    go_wp2
    go_ret
    exact ⟨rfl, K3.out⟩
  obtain ⟨v1, v2, v3, rfl, CF⟩ := hC.cf la
  by_cases h : chk C = 0 ∧ S.length ≤ 60
  · exact apart_in CF la h.1 u S hS h.2 only
  · obtain ⟨ua, uc, rfl, -⟩ := hS
    by_cases hk : chk C = 0
    · exact apart_out CF la only (Or.inr ⟨hk, by omega⟩)
    · exact apart_out CF la only (Or.inl hk)
end Go.Proofs.Ytnapodeiigkebaa
