/- The walk of ChansPlays, whatever comes in. Condition: the configuration and the script lie as they came in. -/
import Derived.Test.YtnapodeiigkebaaH36
namespace Go.Proofs.Ytnapodeiigkebaa
open Go.RowKit
set_option maxRecDepth 100000

theorem chansPlays_walk (v : Value) (C : Cf) (n : Int) (u : Value) (S : List Op20) (W : World) (hC : ConfIn W v C) (_hn : I64 n) (hS : ArgOps20 W u S) : Calls Try.prog 3 #[v, .int .i64 n, u] W fun e w' => e = .returned (.bool true) ∧ Below W.heap.size W w' := by
  by_cases la : longC C
  · obtain ⟨aa1, na1, ma1, aa2, na2, ma2, aa3, na3, ma3, rfl⟩ := hC.slices
    obtain ⟨ua, uc, rfl, -⟩ := hS
    obtain ⟨w1, hw1⟩ : ∃ w1, w1 = W.alloc (.cells #[.slice aa1 na1 ma1, .slice aa2 na2 ma2, .slice aa3 na3 ma3] 26) := ⟨_, rfl⟩
    have hb1 : Below W.heap.size W w1 := by rw [hw1]; exact below_step1 _ _
    have K := Lib.hid hb1
    have LA := Lib.hid (long20_yes _ C w1 (hC.below hb1) la)
    clear la hC hb1
    go_enter Try.func3, Try.ntmps3
    go_wp2_with fail
    rw [← hw1]
    clear hw1
    refine LA.out.mono ?_
    rintro e w2 ⟨rfl, hb⟩
    have K2 := Lib.hid (K.out.trans (hb.mono K.out.size))
    clear hb
    go_wp2_with fail
    refine (awake20 _).mono ?_
    rintro e w3 ⟨rfl, hb⟩
    have K3 := Lib.hid (K2.out.trans (hb.mono K2.out.size))
    clear hb
    go_wp2
    go_ret
    exact ⟨rfl, K3.out⟩
  obtain ⟨v1, v2, v3, rfl, CF⟩ := hC.cf la
  by_cases hs : S.length ≤ 100
  · by_cases hn : n < 1 ∨ 1024 < n
    · obtain ⟨ua, uc, rfl, -⟩ := hS
      exact plays_mem CF la n hn ua _ uc (by omega)
    · obtain ⟨N, rfl⟩ := Int.eq_ofNat_of_zero_le (show 0 ≤ n by omega)
      by_cases hk : chk C = 0
      · by_cases hf : framesC C ≤ (N : Int)
        · exact plays_in CF la hk N (by omega) (by omega) hf u S hS hs
        · obtain ⟨ua, uc, rfl, -⟩ := hS
          exact plays_bad CF la N (by omega) (by omega) ua _ uc (by omega) (Or.inr ⟨hk, by omega⟩)
      · obtain ⟨ua, uc, rfl, -⟩ := hS
        exact plays_bad CF la N (by omega) (by omega) ua _ uc (by omega) (Or.inl hk)
  · obtain ⟨ua, uc, rfl, -⟩ := hS
    exact plays_far CF la n ua _ uc (by omega)
end Go.Proofs.Ytnapodeiigkebaa
