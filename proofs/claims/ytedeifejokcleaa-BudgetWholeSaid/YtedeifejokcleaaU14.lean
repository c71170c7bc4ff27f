/- The contract of the document's Close of layer 11. Condition: the slice is the call's own. -/
import Derived.Test.YtedeifejokcleaaU13
namespace Go.Proofs.Ytedeifejokcleaa
open Go.RowKit Go.Maps
set_option maxRecDepth 100000

theorem rise_pos {L : List Nd} (h : L.Pairwise (fun a b => a.1 < b.1)) {i j : Nat} (hi : i < L.length) (hj : j < L.length) (e : (L.getD i default).1 = (L.getD j default).1) : i = j := by
  have g : ∀ (a b : Nat) (ha : a < L.length) (hb : b < L.length), a < b → (L.getD a default).1 < (L.getD b default).1 := fun a b ha hb hab => by
    have := List.pairwise_iff_getElem.1 h a b ha hb hab
    rw [List.getD_eq_getElem?_getD, List.getElem?_eq_getElem ha, List.getD_eq_getElem?_getD, List.getElem?_eq_getElem hb]
    exact this
  rcases Nat.lt_trichotomy i j with c | c | c
  · have := g i j hi hj c; omega
  · exact c
  · have := g j i hj hi c; omega
/-- What Close has gathered. -/
def cutR (L : List Nd) (id up : Int) (j : Nat) : List Nd := (delN id (L.take j)).map (reUp id up)
theorem cutR_skip {L : List Nd} {id up : Int} {j : Nat} (hj : j < L.length) (h : (L.getD j default).1 = id) : cutR L id up (j + 1) = cutR L id up j := by
  unfold cutR delN
  rw [take_snoc hj, List.filter_append]
  simp only [List.filter_cons, List.filter_nil]
  rw [if_neg (by rw [h]; simp), List.append_nil]
theorem cutR_take {L : List Nd} {id up : Int} {j : Nat} (hj : j < L.length) (h : (L.getD j default).1 ≠ id) : cutR L id up (j + 1) = cutR L id up j ++ [reUp id up (L.getD j default)] := by
  unfold cutR delN
  rw [take_snoc hj, List.filter_append]
  simp only [List.filter_cons, List.filter_nil]
  rw [if_pos (by simpa using h), List.map_append]
  rfl
theorem cutR_len (L : List Nd) (id up : Int) (j : Nat) : (cutR L id up j).length ≤ L.length := by
  unfold cutR
  rw [List.length_map]
  exact Nat.le_trans (List.length_filter_le _ _) (List.length_take_le' _ _)
theorem cutR_all (L : List Nd) (id up : Int) : cutR L id up L.length = (delN id L).map (reUp id up) := by unfold cutR; rw [List.take_length]
set_option maxHeartbeats 4000000 in
theorem rclose11_err {base : Nat} {w : World} {v : Value} {L : List Nd} (hg : Good L) (ho : w.ownsRow base 49 4 v L.length (ndsV L)) (id : Int) {er : Int} (he : closeE L id = er) (hne : er ≠ 0) :
    Calls Try.prog 25 #[v, .int .i64 id] w (RPost base w v (closeL L id) er) := by
  have stay : ∀ w', Below w.heap.size w w' → RPost base w v (closeL L id) er (.returned (.tuple #[v, .int .i64 er])) w' := fun w' hb => by
    unfold closeL
    rw [if_neg (by rw [he]; exact hne)]
    exact ⟨v, rfl, own_step ho hb, hb, fun _ h => Or.inl h⟩
  have STAY := Lib.hid stay
  have NA := Lib.hid (NdsAt.of_row ho)
  have hl : L.length ≤ 1000 := Nat.le_trans hg.len (by decide)
  have HE := Lib.hid he
  have HNE := Lib.hid hne
  clear stay he hne
  cases hf : fitB id 0 with
  | false =>
    obtain rfl : er = 2 := by rw [← HE.out]; unfold closeE; rw [if_neg (by rw [hf]; decide)]
    have F1 := Lib.hid (fits11 id 0 w hf)
    clear hf
    go_enter Try.func25, Try.ntmps25
    go_wp2_with fail
    refine F1.out.mono ?_
    rintro e w1 ⟨rfl, rfl⟩
    go_wp2
    go_ret2
    exact STAY.out _ (Below.refl _ _)
  | true =>
    have F1 := Lib.hid (fits11 id 0 w hf)
    have HF := Lib.hid hf
    clear hf
    cases ha : atN id L with
    | none =>
      obtain rfl : er = 4 := by rw [← HE.out]; unfold closeE; rw [if_pos HF.out, ha]
      have AT := Lib.hid (rat11 L v id w hl NA.out (atI_none ha))
      clear ha
      go_enter Try.func25, Try.ntmps25
      go_wp2_with fail
      refine F1.out.mono ?_
      rintro e w1 ⟨rfl, rfl⟩
      go_wp2_with fail
      refine AT.out.mono ?_
      rintro e w1 ⟨rfl, rfl⟩
      go_wp2
      go_ret2
      exact STAY.out _ (Below.refl _ _)
    | some n =>
      obtain ⟨hpl, hpx⟩ := pos_at ha
      obtain ⟨k, hk⟩ : ∃ k, posN id L = k := ⟨_, rfl⟩
      have AT := Lib.hid (rat11 L v id w hl NA.out (by rw [atI_some ha, hk]))
      have hd1 : decide ((k : Int) < 0) = false := decide_eq_false (by omega)
      rw [hk] at hpl hpx
      have hs : id = 1 ∨ n.2.2.2 ≠ 0 := by
        refine Classical.not_not.1 fun h => HNE.out ?_
        rw [← HE.out]
        exact closeE_zero.2 ⟨HF.out, fun e => h (Or.inl e), n, ha, Classical.not_not.1 fun e => h (Or.inr e)⟩
      obtain rfl : er = 9 := by rw [← HE.out]; unfold closeE; rw [if_pos HF.out, ha]; simp only; rw [if_pos hs]
      obtain ⟨m, hm⟩ : ∃ m, m = L.length := ⟨_, rfl⟩
      obtain ⟨a, c, rfl⟩ := NA.out.form
      obtain ⟨b, rfl, hbl, -, -, -, c3⟩ := NA.out.at_ hpl hpx
      rw [← hm] at AT STAY ⊢
      have hkm : k < m := by omega
      generalize n.2.2.2 = u at *
      by_cases h1 : id = 1
      · subst h1
        clear ha hpl hpx hk hs c3 hm
        go_enter Try.func25, Try.ntmps25
        go_wp2_with fail
        refine F1.out.mono ?_
        rintro e w1 ⟨rfl, rfl⟩
        go_wp2_with fail
        refine AT.out.mono ?_
        rintro e w1 ⟨rfl, rfl⟩
        go_wp2
        go_ret2
        exact STAY.out _ (Below.refl _ _)
      · have hu : u ≠ 0 := hs.resolve_left h1
        have d1 : (id == 1) = false := by simpa using h1
        have d2 : (u != 0) = true := by simpa using hu
        clear ha hpl hpx hk hs hm hu h1
        go_enter Try.func25, Try.ntmps25
        go_wp2_with fail
        refine F1.out.mono ?_
        rintro e w1 ⟨rfl, rfl⟩
        go_wp2_with fail
        refine AT.out.mono ?_
        rintro e w1 ⟨rfl, rfl⟩
        go_wp2
        go_ret2
        exact STAY.out _ (Below.refl _ _)
set_option maxHeartbeats 8000000 in
theorem rclose11_ok {base : Nat} {w : World} {v : Value} {L : List Nd} (hg : Good L) (ho : w.ownsRow base 49 4 v L.length (ndsV L)) (hbs : base ≤ w.heap.size) (id : Int) (he : closeE L id = 0) :
    Calls Try.prog 25 #[v, .int .i64 id] w (RPost base w v (closeL L id) 0) := by
  obtain ⟨ii, hi, hi0, hi1, hi2⟩ := info_parts nodeInfo
  obtain ⟨hf, h1, n, ha, hu⟩ := closeE_zero.1 he
  have hcl : closeL L id = cutR L id n.2.1 L.length := by
    unfold closeL upN
    rw [if_pos he, ha, cutR_all]
    rfl
  rw [hcl]
  have NA := Lib.hid (NdsAt.of_row ho)
  have HG := Lib.hid hg
  have HBS := Lib.hid hbs
  have F1 := Lib.hid (fits11 id 0 w hf)
  have hl : L.length ≤ 1000 := Nat.le_trans hg.len (by decide)
  obtain ⟨hpl, hpx⟩ := pos_at ha
  have hnid := (atN_some ha).2
  obtain ⟨k, hk⟩ : ∃ k, posN id L = k := ⟨_, rfl⟩
  have AT := Lib.hid (rat11 L v id w hl NA.out (by rw [atI_some ha, hk]))
  have hd1 : decide ((k : Int) < 0) = false := decide_eq_false (by omega)
  rw [hk] at hpl hpx
  have UNIQ : Hid (∀ j, j < L.length → (j ≠ k ↔ (L.getD j default).1 ≠ id)) := Lib.hid fun j hj => by
    constructor
    · intro hne e
      exact hne (rise_pos hg.up hj hpl (by rw [hpx, hnid]; exact e))
    · rintro hne rfl
      exact hne (by rw [hpx, hnid])
  obtain ⟨m, hm⟩ : ∃ m, m = L.length := ⟨_, rfl⟩
  have hm8 : m ≤ 8 := by rw [hm]; exact hg.len
  have HM := Lib.hid hm
  obtain ⟨a, c, rfl⟩ := NA.out.form
  obtain ⟨g0, rfl, hg0, -, c1, -, c3⟩ := NA.out.at_ hpl hpx
  have GE := Lib.hid (fun V (hV : Below w.heap.size w V) => (hV.cell (p := ⟨g0, k * 4 + 1, none⟩) hg0).trans c1)
  have hkm : k < m := by omega
  have hkm2 : (k : Int) < (m : Int) := by omega
  rw [hu] at c3
  rw [← hm] at AT NA ⊢
  obtain ⟨up, hup⟩ : ∃ up, n.2.1 = up := ⟨_, rfl⟩
  rw [hup] at GE ⊢
  have hd2 : (id == 1) = false := by simpa using h1
  clear ha hpl hpx hk hf h1 hu hnid hup he hcl hm hl c1 hbs hg ho
  go_enter Try.func25, Try.ntmps25
  go_wp2_with fail
  refine F1.out.mono ?_
  rintro e w1 ⟨rfl, rfl⟩
  go_wp2_with fail
  refine AT.out.mono ?_
  rintro e w1 ⟨rfl, rfl⟩
  go_wp2_with fail
  go_loopw [7, 8] (fun s i wr => ∃ j : Nat, i = .int .i64 (j : Int) ∧ j ≤ m ∧ wr.ownsRow w.heap.size 49 4 s (cutR L id up j).length (ndsV (cutR L id up j)) ∧ Below w.heap.size w wr) (fun _ i _ => (m - (intOf i).toNat))
  case atStart => exact ⟨0, rfl, Nat.zero_le _, World.ownsRow_nil _ _ _ _, Below.refl _ _⟩
  case round =>
    obtain ⟨j, rfl, hj, hO, hB⟩ := hrel
    have OO := Lib.hid hO
    have BB := Lib.hid hB
    obtain ⟨a9, c9, rfl⟩ := owns_slice hO
    clear hO hB
    by_cases hlt : j < m
    · have hjl : j < L.length := by rw [← HM.out]; exact hlt
      obtain ⟨⟨x0, x1, x2, x3⟩, hx⟩ : ∃ y, L.getD j default = y := ⟨_, rfl⟩
      obtain ⟨b, hb0, hbl, y0, y1, y2, y3⟩ := (NA.out.below BB.out).at_ hjl hx
      obtain rfl : g0 = b := by simpa using hb0
      simp only at y0 y1 y2 y3
      have cu := GE.out wr BB.out
      have cuA : ∀ o, (wr.alloc o).cell? ⟨g0, k * 4 + 1, none⟩ = some (.int .i64 up) := fun o => GE.out _ (BB.out.alloc BB.out.size o)
      have hc8 : (cutR L id up j).length ≤ 8 := Nat.le_trans (cutR_len _ _ _ _) (by have := HM.out; omega)
      have UJ := Lib.hid (UNIQ.out j hjl)
      have HX := Lib.hid hx
      clear hb0 hx
      by_cases c1 : x1 = id
      · have d0 : (x1 == id) = true := by simpa using c1
        by_cases c2 : j = k
        · have R : Hid (cutR L id up (j + 1) = cutR L id up j) := Lib.hid (cutR_skip hjl (Classical.not_not.1 fun h => UJ.out.2 h c2))
          have e1 : ((j : Int) != (k : Int)) = false := by simp [c2]
          have e2 : (j != k) = false := by simp [c2]
          have hz : (wr.alloc (.cells #[.int .i64 x0, .int .i64 up, .int .i64 x2, .int .i64 x3] 49)).heap.size = wr.heap.size + 1 := by simp
          have BA : Hid (Below w.heap.size w (wr.alloc (.cells #[.int .i64 x0, .int .i64 up, .int .i64 x2, .int .i64 x3] 49))) := Lib.hid (BB.out.alloc BB.out.size _)
          clear c1 c2 hz
          go_wp2_with fail
          go_roundw
          case rel => exact ⟨j + 1, by go_num, by omega, by rw [R.out]; exact OO.out.alloc _, BA.out⟩
          case measure => simp [intOf]; omega
        · have R : Hid (cutR L id up (j + 1) = cutR L id up j ++ [(x0, up, x2, x3)]) := Lib.hid (by
            rw [cutR_take hjl (UJ.out.1 c2), HX.out]
            unfold reUp
            simp only [c1, if_true])
          have e1 : ((j : Int) != (k : Int)) = true := by simp; omega
          have e2 : (j != k) = true := by simpa using c2
          have hz : (wr.alloc (.cells #[.int .i64 x0, .int .i64 up, .int .i64 x2, .int .i64 x3] 49)).heap.size = wr.heap.size + 1 := by simp
          have BA : Hid (Below w.heap.size w (wr.alloc (.cells #[.int .i64 x0, .int .i64 up, .int .i64 x2, .int .i64 x3] 49))) := Lib.hid (BB.out.alloc BB.out.size _)
          have BC : Hid (Below w.heap.size w ((wr.alloc (.cells #[.int .i64 x0, .int .i64 up, .int .i64 x2, .int .i64 x3] 49)).alloc (.cells #[.int .i64 x0, .int .i64 up, .int .i64 x2, .int .i64 x3] 49))) := Lib.hid (BA.out.alloc BA.out.size _)
          have OC := Lib.hid ((OO.out.alloc (.cells #[.int .i64 x0, .int .i64 up, .int .i64 x2, .int .i64 x3] 49)).alloc (.cells #[.int .i64 x0, .int .i64 up, .int .i64 x2, .int .i64 x3] 49))
          have NEWS := nd_at (wr.alloc (.cells #[.int .i64 x0, .int .i64 up, .int .i64 x2, .int .i64 x3] 49)) (.int .i64 x0) (.int .i64 up) (.int .i64 x2) (.int .i64 x3) 49
          rw [hz] at NEWS
          have NW := Lib.hid NEWS
          clear c1 c2 hz NEWS
          go_wp2_with (at_builtin; refine wpList_append_own _ rfl (.tmp 54) (.tmp 56) 28 rfl w.heap.size 49 ii (.agg #[.int .i64 0, .int .i64 0, .int .i64 0, .int .i64 0]) 4 32 Try.underlying28 hi hi0 hi1 hi2 rfl (by decide) _ _ _ rfl OC.out ⟨wr.heap.size + 1, 0, none⟩ 1 1 [.int .i64 x0, .int .i64 up, .int .i64 x2, .int .i64 x3] rfl rfl NW.out (by simp [Value.oneCell']) (by unfold maxLen; omega) (by omega) BC.out.size ?_; intro v7 w7 ho hg _; have B7 := Lib.hid (BC.out.grown hg BC.out.size (fun k hk => (OC.out.lt k hk).1)); have O7 := Lib.hid ho; clear ho hg)
          go_roundw
          case rel => exact ⟨j + 1, by go_num, by omega, by rw [R.out, List.length_append, ndsV_append, ndsV_one]; exact O7.out, B7.out⟩
          case measure => simp [intOf]; omega
      · have d0 : (x1 == id) = false := by simpa using c1
        by_cases c2 : j = k
        · have R : Hid (cutR L id up (j + 1) = cutR L id up j) := Lib.hid (cutR_skip hjl (Classical.not_not.1 fun h => UJ.out.2 h c2))
          have e1 : ((j : Int) != (k : Int)) = false := by simp [c2]
          have e2 : (j != k) = false := by simp [c2]
          have hz : (wr.alloc (.cells #[.int .i64 x0, .int .i64 x1, .int .i64 x2, .int .i64 x3] 49)).heap.size = wr.heap.size + 1 := by simp
          have BA : Hid (Below w.heap.size w (wr.alloc (.cells #[.int .i64 x0, .int .i64 x1, .int .i64 x2, .int .i64 x3] 49))) := Lib.hid (BB.out.alloc BB.out.size _)
          clear c1 c2 hz
          go_wp2_with fail
          go_roundw
          case rel => exact ⟨j + 1, by go_num, by omega, by rw [R.out]; exact OO.out.alloc _, BA.out⟩
          case measure => simp [intOf]; omega
        · have R : Hid (cutR L id up (j + 1) = cutR L id up j ++ [(x0, x1, x2, x3)]) := Lib.hid (by
            rw [cutR_take hjl (UJ.out.1 c2), HX.out]
            unfold reUp
            simp only [c1, if_false])
          have e1 : ((j : Int) != (k : Int)) = true := by simp; omega
          have e2 : (j != k) = true := by simpa using c2
          have hz : (wr.alloc (.cells #[.int .i64 x0, .int .i64 x1, .int .i64 x2, .int .i64 x3] 49)).heap.size = wr.heap.size + 1 := by simp
          have BA : Hid (Below w.heap.size w (wr.alloc (.cells #[.int .i64 x0, .int .i64 x1, .int .i64 x2, .int .i64 x3] 49))) := Lib.hid (BB.out.alloc BB.out.size _)
          have BC : Hid (Below w.heap.size w ((wr.alloc (.cells #[.int .i64 x0, .int .i64 x1, .int .i64 x2, .int .i64 x3] 49)).alloc (.cells #[.int .i64 x0, .int .i64 x1, .int .i64 x2, .int .i64 x3] 49))) := Lib.hid (BA.out.alloc BA.out.size _)
          have OC := Lib.hid ((OO.out.alloc (.cells #[.int .i64 x0, .int .i64 x1, .int .i64 x2, .int .i64 x3] 49)).alloc (.cells #[.int .i64 x0, .int .i64 x1, .int .i64 x2, .int .i64 x3] 49))
          have NEWS := nd_at (wr.alloc (.cells #[.int .i64 x0, .int .i64 x1, .int .i64 x2, .int .i64 x3] 49)) (.int .i64 x0) (.int .i64 x1) (.int .i64 x2) (.int .i64 x3) 49
          rw [hz] at NEWS
          have NW := Lib.hid NEWS
          clear c1 c2 hz NEWS
          go_wp2_with (at_builtin; refine wpList_append_own _ rfl (.tmp 54) (.tmp 56) 28 rfl w.heap.size 49 ii (.agg #[.int .i64 0, .int .i64 0, .int .i64 0, .int .i64 0]) 4 32 Try.underlying28 hi hi0 hi1 hi2 rfl (by decide) _ _ _ rfl OC.out ⟨wr.heap.size + 1, 0, none⟩ 1 1 [.int .i64 x0, .int .i64 x1, .int .i64 x2, .int .i64 x3] rfl rfl NW.out (by simp [Value.oneCell']) (by unfold maxLen; omega) (by omega) BC.out.size ?_; intro v7 w7 ho hg _; have B7 := Lib.hid (BC.out.grown hg BC.out.size (fun k hk => (OC.out.lt k hk).1)); have O7 := Lib.hid ho; clear ho hg)
          go_roundw
          case rel => exact ⟨j + 1, by go_num, by omega, by rw [R.out, List.length_append, ndsV_append, ndsV_one]; exact O7.out, B7.out⟩
          case measure => simp [intOf]; omega
    · obtain rfl : j = m := by omega
      have DN : Hid (RPost base w (.slice (some ⟨g0, 0, none⟩) j c) (cutR L id up j) 0 (.returned (.tuple #[.slice a9 (cutR L id up j).length c9, .int .i64 0])) wr) := Lib.hid ⟨_, rfl, own_base OO.out HBS.out, BB.out, fun g hg => Or.inr (OO.out.lt g hg).1⟩
      rw [HM.out] at DN
      have hml := HM.out
      clear hlt
      go_wp2
      go_ret2
      rw [← hml] at DN
      rw [← hml]
      exact DN.out
end Go.Proofs.Ytedeifejokcleaa
