/- The contract of the document's Open of layer 11. Condition: the slice is the call's own. -/
import Derived.Test.YtedeifejokcleaaU10
namespace Go.Proofs.Ytedeifejokcleaa
open Go.RowKit Go.Maps
set_option maxRecDepth 100000

theorem nd_at (w : World) (a b c d : Value) (t : TypeId) : ∀ j u, [a, b, c, d][j]? = some u → (w.alloc (.cells #[a, b, c, d] t)).cell? ((⟨w.heap.size, 0, none⟩ : Addr).add j) = some u := fun j u hu => by
  rw [Addr.add_mid, Nat.zero_add, cell_of_row _ _ _ _ _ _ (heap_alloc_new w _)]
  simpa using hu
set_option maxHeartbeats 4000000 in
theorem ropen11_err {base : Nat} {w : World} {v : Value} {L : List Nd} (hg : Good L) (ho : w.ownsRow base 49 4 v L.length (ndsV L)) (id up q : Int) {er : Int} (he : openE L id up q = er) (hne : er ≠ 0) :
    Calls Try.prog 24 #[v, .int .i64 id, .int .i64 up, .int .i64 q] w (RPost base w v (openL L id up q) er) := by
  have stay : ∀ w', Below w.heap.size w w' → RPost base w v (openL L id up q) er (.returned (.tuple #[v, .int .i64 er])) w' := fun w' hb => by
    unfold openL
    rw [if_neg (by rw [he]; exact hne)]
    exact ⟨v, rfl, own_step ho hb, hb, fun _ h => Or.inl h⟩
  have STAY := Lib.hid stay
  have NA := Lib.hid (NdsAt.of_row ho)
  have hl : L.length ≤ 1000 := Nat.le_trans hg.len (by decide)
  have HG := Lib.hid hg
  have HE := Lib.hid he
  have HNE := Lib.hid hne
  clear stay hg ho he hne
  cases hf1 : fitB id q with
  | false =>
    obtain rfl : er = 2 := by rw [← HE.out]; unfold openE; rw [if_neg (by rw [hf1]; simp)]
    have F1 := Lib.hid (fits11 id q w hf1)
    clear hf1
    go_enter Try.func24, Try.ntmps24
    go_wp2_with fail
    refine F1.out.mono ?_
    rintro e w1 ⟨rfl, rfl⟩
    go_wp2
    go_ret2
    exact STAY.out _ (Below.refl _ _)
  | true =>
    have F1 := Lib.hid (fits11 id q w hf1)
    cases hf2 : fitB up q with
    | false =>
      obtain rfl : er = 2 := by rw [← HE.out]; unfold openE; rw [if_neg (by rw [hf2]; simp)]
      have F2 := Lib.hid (fits11 up q w hf2)
      clear hf1 hf2
      go_enter Try.func24, Try.ntmps24
      go_wp2_with fail
      refine F1.out.mono ?_
      rintro e w1 ⟨rfl, rfl⟩
      go_wp2_with fail
      refine F2.out.mono ?_
      rintro e w1 ⟨rfl, rfl⟩
      go_wp2
      go_ret2
      exact STAY.out _ (Below.refl _ _)
    | true =>
      have F2 := Lib.hid (fits11 up q w hf2)
      have HF := Lib.hid (And.intro hf1 hf2)
      clear hf1 hf2
      cases ha : atN up L with
      | none =>
        obtain rfl : er = 4 := by rw [← HE.out]; unfold openE; rw [if_pos HF.out, if_pos ha]
        have AT := Lib.hid (rat11 L v up w hl NA.out (atI_none ha))
        clear ha
        go_enter Try.func24, Try.ntmps24
        go_wp2_with fail
        refine F1.out.mono ?_
        rintro e w1 ⟨rfl, rfl⟩
        go_wp2_with fail
        refine F2.out.mono ?_
        rintro e w1 ⟨rfl, rfl⟩
        go_wp2_with fail
        refine AT.out.mono ?_
        rintro e w1 ⟨rfl, rfl⟩
        go_wp2
        go_ret2
        exact STAY.out _ (Below.refl _ _)
      | some n =>
        obtain ⟨k, hk⟩ : ∃ k, posN up L = k := ⟨_, rfl⟩
        have AT := Lib.hid (rat11 L v up w hl NA.out (by rw [atI_some ha, hk]))
        have hd1 : decide ((k : Int) < 0) = false := decide_eq_false (by omega)
        have HA := Lib.hid ha
        clear ha hk
        cases hi : atN id L with
        | some x =>
          obtain rfl : er = 5 := by rw [← HE.out]; unfold openE; rw [if_pos HF.out, if_neg (by rw [HA.out]; simp), if_pos (by rw [hi]; simp)]
          obtain ⟨k2, hk2⟩ : ∃ k, posN id L = k := ⟨_, rfl⟩
          have A2 := Lib.hid (rat11 L v id w hl NA.out (by rw [atI_some hi, hk2]))
          have hd2 : decide ((0 : Int) ≤ (k2 : Int)) = true := decide_eq_true (by omega)
          clear hi hk2
          go_enter Try.func24, Try.ntmps24
          go_wp2_with fail
          refine F1.out.mono ?_
          rintro e w1 ⟨rfl, rfl⟩
          go_wp2_with fail
          refine F2.out.mono ?_
          rintro e w1 ⟨rfl, rfl⟩
          go_wp2_with fail
          refine AT.out.mono ?_
          rintro e w1 ⟨rfl, rfl⟩
          go_wp2_with fail
          refine A2.out.mono ?_
          rintro e w1 ⟨rfl, rfl⟩
          go_wp2
          go_ret2
          exact STAY.out _ (Below.refl _ _)
        | none =>
          obtain ⟨d, hd⟩ : ∃ d, leftL L up = d := ⟨_, rfl⟩
          have LF := Lib.hid (rleft11 L v up w HG.out NA.out hd)
          have A2 := Lib.hid (rat11 L v id w hl NA.out (atI_none hi))
          have hlt : d < q := by
            refine Int.not_le.1 fun hle => HNE.out ?_
            rw [← HE.out]
            exact openE_zero.2 ⟨HF.out, ⟨n, HA.out⟩, hi, by rw [hd]; exact hle⟩
          obtain rfl : er = 3 := by rw [← HE.out]; unfold openE; rw [if_pos HF.out, if_neg (by rw [HA.out]; simp), if_neg (by rw [hi]; simp), if_pos (by rw [hd]; exact hlt)]
          clear hi hd
          go_enter Try.func24, Try.ntmps24
          go_wp2_with fail
          refine F1.out.mono ?_
          rintro e w1 ⟨rfl, rfl⟩
          go_wp2_with fail
          refine F2.out.mono ?_
          rintro e w1 ⟨rfl, rfl⟩
          go_wp2_with fail
          refine AT.out.mono ?_
          rintro e w1 ⟨rfl, rfl⟩
          go_wp2_with fail
          refine A2.out.mono ?_
          rintro e w1 ⟨rfl, rfl⟩
          go_wp2_with fail
          refine LF.out.mono ?_
          rintro e w2 ⟨rfl, hb⟩
          have B2 := Lib.hid hb
          clear hb
          go_wp2
          go_ret2
          exact STAY.out _ B2.out
end Go.Proofs.Ytedeifejokcleaa
