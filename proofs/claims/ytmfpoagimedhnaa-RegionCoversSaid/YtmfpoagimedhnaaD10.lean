/- The contract of the document's Check of layer 14. Condition: the slice lies in memory. -/
import Derived.Test.YtmfpoagimedhnaaD5
namespace Go.Proofs.Ytmfpoagimedhnaa
open Go.RowKit Go.Maps
set_option maxRecDepth 100000

set_option maxHeartbeats 8000000 in
theorem rcheck_okD (L : List Ar) (v : Value) (w : World) (h : ArAt w v L) {k : Int} (hk : ChkD L k) : Calls Try.prog 14 #[v] w fun e w' => e = .returned (.int .i64 k) ∧ Below w.heap.size w w' := by
  have hl := h.len
  obtain ⟨a, c, rfl⟩ := h.form
  obtain ⟨n, hn⟩ : ∃ n, n = L.length := ⟨_, rfl⟩
  rw [← hn] at hl h ⊢
  have H := Lib.hid h
  have HN := Lib.hid hn
  have HK := Lib.hid hk
  clear hn h hk
  by_cases h8 : 8 < n
  · obtain rfl : k = 2 := HK.out.bad fun h => by have := h.few; have := HN.out; omega
    go_enter Try.func14, Try.ntmps14
    go_wp2
    go_ret
    exact ⟨rfl, Below.refl _ _⟩
  go_enter Try.func14, Try.ntmps14
  go_wp2_with fail
  go_loopw [3] (fun i wr => ∃ j : Nat, i = .int .i64 (j : Int) ∧ j ≤ n ∧ Below w.heap.size w wr ∧ UpD (L.take j)) (fun i _ => (n - (intOf i).toNat))
  case atStart => exact ⟨0, rfl, Nat.zero_le _, Below.refl _ _, by simpa using UpD.nil⟩
  case round =>
    obtain ⟨j, rfl, hj, hB, hup⟩ := hrel
    have B := Lib.hid hB
    have UP := Lib.hid hup
    clear hB hup
    by_cases hlt : j < n
    · have hjl : j < L.length := by rw [← HN.out]; exact hlt
      obtain ⟨⟨x, y, b⟩, hy⟩ : ∃ y, L.getD j default = y := ⟨_, rfl⟩
      obtain ⟨g, o, rfl, hbl, hwd, c0, c1, c2⟩ := (H.out.below B.out).at_ hjl hy
      simp only at c0 c1 c2
      have HW := Lib.hid hwd
      clear hwd
      have HY := Lib.hid hy
      clear hy
      by_cases hf : FitD x y
      · have hd : decide (FitD x y) = true := decide_eq_true hf
        have HF := Lib.hid hf
        have AP : Hid (∀ V, Calls Try.prog 26 #[.int .i64 x, .int .i64 y] V fun e w' => e = .returned (.bool true) ∧ w' = V) := Lib.hid fun V => by rw [← hd]; exact fits14 x y HW.out.1 HW.out.2 V
        clear hd hf
        cases j with
        | zero =>
          simp only [Nat.zero_mul, Nat.add_zero] at c0 c1 c2
          have UP1 : Hid (UpD (L.take (0 + 1))) := Lib.hid (take_up UP.out hjl HY.out HF.out (fun k y hk _ => by omega))
          go_wp2_with fail
          go_quiet ((go_at_call 26; exact Calls.quiet_of_same (AP.out _)))
          go_wp2
          go_roundw
          case rel => exact ⟨0 + 1, by go_num, by omega, below_drewN B.out _, UP1.out⟩
          case measure => simp [intOf]; omega
        | succ q =>
          have hql : q < L.length := by omega
          obtain ⟨⟨x', y', b'⟩, hy'⟩ : ∃ y, L.getD q default = y := ⟨_, rfl⟩
          obtain ⟨g', o', he, hbl', hwd', c0', c1', c2'⟩ := (H.out.below B.out).at_ hql hy'
          simp only [Option.some.injEq, Addr.mk.injEq, and_true] at he
          obtain ⟨rfl, rfl⟩ := he
          simp only at c0' c1' c2'
          have hf' := fol_of UP.out hql
          rw [hy'] at hf'
          have HY' := Lib.hid hy'
          clear hy' hwd'
          obtain ⟨z1, z2, z3⟩ := hf'
          obtain ⟨j, hjq⟩ : ∃ j, j = q + 1 := ⟨_, rfl⟩
          rw [← hjq] at c0 c1 c2 hlt hj ⊢
          have wr1 : IntKind.i64.wrap ((j : Int) - 1) = (q : Int) := (IntWalk.i64_in _ (by omega)).trans (by omega)
          have wr2 : IntKind.i64.wrap (x' + y') = x' + y' := IntWalk.i64_in _ (by simp only at z1 z2 z3; omega)
          have hdj : decide (0 < j) = true := decide_eq_true (by omega)
          have hqn : q < n := by omega
          have JQ := Lib.hid hjq
          simp only at z1 z2 z3
          clear hjq
          have ok1 : Hid (FolD (x', y', b') (x, y, b) → UpD (L.take (j + 1))) := Lib.hid fun hg => by rw [JQ.out]; exact take_up UP.out hjl HY.out HF.out (fun k y hk hy => by
              obtain rfl : k = q := by omega
              rw [← hy, HY'.out]; exact hg)
          have bad1 : Hid (¬ FolD (x', y', b') (x, y, b) → k = 2) := Lib.hid fun hg => HK.out.bad (not_fol hjl HY'.out HY.out hg)
          by_cases h1 : x < x' + y'
          · obtain rfl : k = 2 := bad1.out fun h => by rcases h with h | h <;> simp only at h <;> omega
            have d1 : decide (x < x' + y') = true := decide_eq_true h1
            clear h1
            go_wp2_with fail
            go_quiet ((go_at_call 26; exact Calls.quiet_of_same (AP.out _)))
            go_wp2_with fail
            go_quiet (fail)
            go_wp2_with fail
            go_quiet (fail)
            go_wp2
            go_ret
            exact ⟨rfl, below_drewN (below_drewN (below_drewN B.out _) _) _⟩
          · have d1 : decide (x < x' + y') = false := decide_eq_false h1
            by_cases h2 : x = x' + y'
            · have d2 : (x == x' + y') = true := by simpa using h2
              cases hbb : (b == b') with
              | true =>
                obtain rfl : b = b' := by simpa using hbb
                obtain rfl : k = 2 := bad1.out fun h => by
                  rcases h with h | h
                  · simp only at h; omega
                  · exact h.2 rfl
                clear h1 h2
                go_wp2_with fail
                go_quiet ((go_at_call 26; exact Calls.quiet_of_same (AP.out _)))
                go_wp2_with fail
                go_quiet (fail)
                go_wp2_with fail
                go_quiet (fail)
                go_wp2
                go_ret
                exact ⟨rfl, below_drewN (below_drewN (below_drewN B.out _) _) _⟩
              | false =>
                have UP1 := Lib.hid (ok1.out (Or.inr ⟨h2.symm, by simpa using hbb⟩))
                clear h1 h2
                go_wp2_with fail
                go_quiet ((go_at_call 26; exact Calls.quiet_of_same (AP.out _)))
                go_wp2_with fail
                go_quiet (fail)
                go_wp2_with fail
                go_quiet (fail)
                clear wr1 wr2 hdj d1 d2 hbb
                go_wp2
                go_roundw
                case rel => exact ⟨j + 1, by go_num, by omega, below_drewN B.out _, UP1.out⟩
                case measure => simp [intOf]; omega
            · have d2 : (x == x' + y') = false := by simpa using h2
              have UP1 := Lib.hid (ok1.out (Or.inl (by show x' + y' < x; omega)))
              clear h1 h2
              go_wp2_with fail
              go_quiet ((go_at_call 26; exact Calls.quiet_of_same (AP.out _)))
              go_wp2_with fail
              go_quiet (fail)
              go_wp2_with fail
              go_quiet (fail)
              clear wr1 wr2 hdj d1 d2
              go_wp2
              go_roundw
              case rel => exact ⟨j + 1, by go_num, by omega, below_drewN B.out _, UP1.out⟩
              case measure => simp [intOf]; omega
      · obtain rfl : k = 2 := HK.out.bad (not_fit hjl HY.out hf)
        have hd : decide (FitD x y) = false := decide_eq_false hf
        have AP : Hid (∀ V, Calls Try.prog 26 #[.int .i64 x, .int .i64 y] V fun e w' => e = .returned (.bool false) ∧ w' = V) := Lib.hid fun V => by rw [← hd]; exact fits14 x y HW.out.1 HW.out.2 V
        clear hd hf
        go_wp2_with fail
        go_quiet ((go_at_call 26; exact Calls.quiet_of_same (AP.out _)))
        go_wp2
        go_ret
        exact ⟨rfl, below_drewN B.out _⟩
    · obtain rfl : j = n := by omega
      obtain rfl : k = 0 := HK.out.good ⟨by rw [← HN.out]; omega, by have := UP.out; rwa [HN.out, List.take_length] at this⟩
      clear hlt
      go_wp2
      go_ret
      exact ⟨rfl, B.out⟩
end Go.Proofs.Ytmfpoagimedhnaa
