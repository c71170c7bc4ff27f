/- The contract of the document's Refund of layer 11. Condition: the slice is the call's own. -/
import Derived.Test.YtedeifejokcleaaU10
namespace Go.Proofs.Ytedeifejokcleaa
open Go.RowKit Go.Maps
set_option maxRecDepth 100000

set_option maxHeartbeats 2000000 in
theorem rrefund11 {base : Nat} {w : World} {v : Value} {L : List Nd} (hg : Good L) (ho : w.ownsRow base 49 4 v L.length (ndsV L)) (hbs : base ≤ w.heap.size) (id n : Int) {er : Int} (he : refundE L id n = er) :
    Calls Try.prog 27 #[v, .int .i64 id, .int .i64 n] w (RPost base w v (refundL L id n) er) := by
  obtain ⟨ii, hi, hi0, hi1, hi2⟩ := info_parts nodeInfo
  have HO := Lib.hid ho
  have HG := Lib.hid hg
  have HBS := Lib.hid hbs
  have HE := Lib.hid he
  have stay : ∀ w', er ≠ 0 → Below w.heap.size w w' → RPost base w v (refundL L id n) er (.returned (.tuple #[v, .int .i64 er])) w' := fun w' hne hb => by
    unfold refundL
    rw [if_neg (by rw [he]; exact hne)]
    exact ⟨v, rfl, own_step ho hb, hb, fun _ h => Or.inl h⟩
  have STAY := Lib.hid stay
  clear stay hg ho hbs he
  cases hf : fitB id n with
  | false =>
    obtain rfl : er = 2 := by rw [← HE.out]; unfold refundE; rw [if_neg (by rw [hf]; decide)]
    have FT := Lib.hid (fits11 id n w hf)
    clear hf
    go_enter Try.func27, Try.ntmps27
    go_wp2_with fail
    refine FT.out.mono ?_
    rintro e w1 ⟨rfl, rfl⟩
    go_wp2
    go_ret2
    exact STAY.out _ (by decide) (Below.refl _ _)
  | true =>
    have FT := Lib.hid (fits11 id n w hf)
    have HF := Lib.hid hf
    have hfn := (fitB_iff.1 hf).2
    clear hf
    cases ha : atN id L with
    | none =>
      obtain rfl : er = 4 := by rw [← HE.out]; unfold refundE; rw [if_pos HF.out, ha]
      have AT := Lib.hid (rat11 L v id w (Nat.le_trans HG.out.len (by decide)) (NdsAt.of_row HO.out) (atI_none ha))
      clear ha
      go_enter Try.func27, Try.ntmps27
      go_wp2_with fail
      refine FT.out.mono ?_
      rintro e w1 ⟨rfl, rfl⟩
      go_wp2_with fail
      refine AT.out.mono ?_
      rintro e w1 ⟨rfl, rfl⟩
      go_wp2
      go_ret2
      exact STAY.out _ (by decide) (Below.refl _ _)
    | some x =>
      obtain ⟨hpl, hpx⟩ := pos_at ha
      obtain ⟨k, hk⟩ : ∃ k, posN id L = k := ⟨_, rfl⟩
      have AT := Lib.hid (rat11 L v id w (Nat.le_trans HG.out.len (by decide)) (NdsAt.of_row HO.out) (by rw [atI_some ha, hk]))
      have hdd : decide ((k : Int) < 0) = false := decide_eq_false (by omega)
      have HA := Lib.hid ha
      have HK := Lib.hid hk
      have hok := HG.out.ok x (atN_some ha).1
      obtain ⟨⟨x0, x1, x2, x3⟩, hx⟩ : ∃ y, x = y := ⟨_, rfl⟩
      subst hx
      dsimp only [okN] at hok
      obtain ⟨m, hm⟩ : ∃ m, m = L.length := ⟨_, rfl⟩
      have hm8 : m ≤ 8 := by rw [hm]; exact HG.out.len
      have HM := Lib.hid hm
      rw [hk] at hpl hpx
      have hkm : k < m := by omega
      obtain ⟨-, h0⟩ | ⟨g0, c0, rfl, hnc, hcm, hg0, hcs⟩ := row_all HO.out
      · omega
      have CS := Lib.hid hcs
      have C3 : Hid ((ndsV L)[k * 4 + 3]? = some (.int .i64 x3)) := Lib.hid (by have := (ndsV_get L k hpl).2.2.2; rw [hpx] at this; exact this)
      have f3 := (hcs w (Below.refl _ _)) _ _ C3.out
      rw [Addr.add_mid, Nat.zero_add] at f3
      have i5 : (k : Int) < (m : Int) := by omega
      rw [← hm] at hnc
      by_cases hlt : x3 < n
      · obtain rfl : er = 9 := by rw [← HE.out]; unfold refundE; rw [if_pos HF.out, ha]; simp [hlt]
        rw [← hm] at AT STAY ⊢
        clear ha hpl hpx hk hcs hm
        go_enter Try.func27, Try.ntmps27
        go_wp2_with fail
        refine FT.out.mono ?_
        rintro e w1 ⟨rfl, rfl⟩
        go_wp2_with fail
        refine AT.out.mono ?_
        rintro e w1 ⟨rfl, rfl⟩
        go_wp2
        go_ret2
        exact STAY.out _ (by decide) (Below.refl _ _)
      · have e0 : refundE L id n = 0 := by unfold refundE; rw [if_pos HF.out, ha]; simp; omega
        obtain rfl : er = 0 := by rw [← HE.out, e0]
        have hcl : refundL L id n = L.map (setU id (-n)) := by unfold refundL; rw [if_pos e0]
        rw [hcl]
        have hw : IntKind.i64.wrap (x3 - n) = x3 - n := IntWalk.i64_in _ (by omega)
        rw [← hm] at AT ⊢
        clear ha hpl hpx hk e0 hcl hcs hm
        go_enter Try.func27, Try.ntmps27
        go_wp2_with fail
        refine FT.out.mono ?_
        rintro e w1 ⟨rfl, rfl⟩
        go_wp2_with fail
        refine AT.out.mono ?_
        rintro e w1 ⟨rfl, rfl⟩
        have OM := Lib.hid (World.ownsRow_made (base := w.heap.size) (e := 49) (size := 4) w #[] 0 (Nat.le_refl _) (by decide) rfl)
        have AM : Hid (Below w.heap.size w (w.alloc (.cells #[] 49))) := Lib.hid ((Below.refl _ _).alloc (Nat.le_refl _) _)
        go_wp2_with (first | (at_builtin; refine wpList_append_own _ rfl (.tmp 29) (.tmp 30) 28 rfl w.heap.size 49 ii (.agg #[.int .i64 0, .int .i64 0, .int .i64 0, .int .i64 0]) 4 32 Try.underlying28 hi hi0 hi1 hi2 rfl (by decide) _ 0 [] rfl OM.out ⟨g0, 0, none⟩ m c0 (ndsV L) rfl (by rw [ndsV_length, HM.out]) (CS.out _ AM.out) ndsV_one' (by unfold maxLen; omega) (by omega) AM.out.size ?_; intro v5 w5 ho hg _; rw [Nat.zero_add, List.nil_append] at ho; have B5 := Lib.hid (AM.out.grown hg AM.out.size (fun k hk => (OM.out.lt k hk).1)); obtain ⟨-, hz⟩ | ⟨g5, c5, rfl, hn5, hc5, hg5, hcs5⟩ := row_all ho; exact absurd hz (by omega); have O5 := Lib.hid ho; have f5 := (hcs5 w5 (Below.refl _ _)) _ _ C3.out; rw [Addr.add_mid, Nat.zero_add] at f5; have f6 := O5.out.frozenAt (k * 4 + 3); clear ho hg hcs5 f3) | fail)
        go_ret2
        exact ⟨_, rfl, own_base (own_used (d := -n) O5.out HM.out HG.out.up HA.out HK.out) HBS.out, B5.out.setCell (p := ⟨g5, _, none⟩) (O5.out.lt g5 rfl).1 _, fun g hg => Or.inr (O5.out.lt g hg).1⟩
end Go.Proofs.Ytedeifejokcleaa
