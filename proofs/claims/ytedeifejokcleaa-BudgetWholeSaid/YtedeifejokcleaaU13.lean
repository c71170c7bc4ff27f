/- The contract of the document's Open of layer 11, where it opens. Condition: the slice is the call's own. -/
import Derived.Test.YtedeifejokcleaaU12
namespace Go.Proofs.Ytedeifejokcleaa
open Go.RowKit Go.Maps
set_option maxRecDepth 100000

set_option maxHeartbeats 8000000 in
theorem ropen11_ok {base : Nat} {w : World} {v : Value} {L : List Nd} (hg : Good L) (ho : w.ownsRow base 49 4 v L.length (ndsV L)) (hbs : base ≤ w.heap.size) (id up q : Int) (he : openE L id up q = 0) :
    Calls Try.prog 24 #[v, .int .i64 id, .int .i64 up, .int .i64 q] w (RPost base w v (openL L id up q) 0) := by
  obtain ⟨ii, hi, hi0, hi1, hi2⟩ := info_parts nodeInfo
  obtain ⟨⟨hf1, hf2⟩, ⟨n, ha⟩, hno, hle⟩ := openE_zero.1 he
  have hol : openL L id up q = insN (id, up, q, 0) L := by unfold openL; rw [if_pos he]
  rw [hol]
  have HO := Lib.hid ho
  have NA := Lib.hid (NdsAt.of_row ho)
  have HG := Lib.hid hg
  have HBS := Lib.hid hbs
  have F1 := Lib.hid (fits11 id q w hf1)
  have F2 := Lib.hid (fits11 up q w hf2)
  have hl : L.length ≤ 1000 := Nat.le_trans hg.len (by decide)
  obtain ⟨k, hk⟩ : ∃ k, posN up L = k := ⟨_, rfl⟩
  have AT := Lib.hid (rat11 L v up w hl NA.out (by rw [atI_some ha, hk]))
  have hd1 : decide ((k : Int) < 0) = false := decide_eq_false (by omega)
  have A2 := Lib.hid (rat11 L v id w hl NA.out (atI_none hno))
  obtain ⟨d, hd⟩ : ∃ d, leftL L up = d := ⟨_, rfl⟩
  have LF := Lib.hid (rleft11 L v up w HG.out NA.out hd)
  rw [hd] at hle
  obtain ⟨m, hm⟩ : ∃ m, m = L.length := ⟨_, rfl⟩
  have hm8 : m ≤ 8 := by rw [hm]; exact hg.len
  have hm0 : 0 < m := by rw [hm]; have := (pos_at ha).1; omega
  have HM := Lib.hid hm
  obtain ⟨-, h0⟩ | ⟨g0, c0, rfl, hnc, hcm, hg0, hcs⟩ := row_all HO.out
  · omega
  have CS := Lib.hid hcs
  have HG0 := Lib.hid hg0
  rw [← hm] at hnc NA LF AT A2 ⊢
  clear ha hd hk hcs hm hl he hol hno hbs hg ho
  go_enter Try.func24, Try.ntmps24
  go_wp2_with fail
  refine F1.out.mono ?_
  rintro e w1 ⟨rfl, rfl⟩
  go_wp2_with fail
  refine F2.out.mono ?_
  rintro e w1 ⟨rfl, rfl⟩
  go_wp2_with fail
  refine AT.out.mono ?_
  rintro e w1 ⟨rfl, rfl⟩
  go_wp2_with fail
  refine A2.out.mono ?_
  rintro e w1 ⟨rfl, rfl⟩
  go_wp2_with fail
  refine LF.out.mono ?_
  rintro e w2 ⟨rfl, hb⟩
  have B2 := Lib.hid hb
  clear hb
  go_wp2_with fail
  go_loopw [10] (fun i wr => ∃ j : Nat, i = .int .i64 (j : Int) ∧ j ≤ m ∧ wr = w2 ∧ ∀ i, i < j → (L.getD i default).1 < id) (fun i _ => (m - (intOf i).toNat))
  case atStart => exact ⟨0, rfl, Nat.zero_le _, rfl, fun i hi => absurd hi (Nat.not_lt_zero _)⟩
  case round =>
    obtain ⟨j, rfl, hj, rfl, hlow⟩ := hrel
    have LOW := Lib.hid hlow
    clear hlow
    by_cases hin : j < m ∧ (L.getD j default).1 < id
    · obtain ⟨hlt, hyl⟩ := hin
      have hjl : j < L.length := by rw [← HM.out]; exact hlt
      obtain ⟨⟨y, y1, y2, y3⟩, hy⟩ : ∃ y, L.getD j default = y := ⟨_, rfl⟩
      obtain ⟨b, hb0, hbl, c1, -, -, -⟩ := (NA.out.below B2.out).at_ hjl hy
      obtain rfl : g0 = b := by simpa using hb0
      rw [hy] at hyl
      simp only at c1 hyl
      have LOW2 : Hid (∀ i, i < j + 1 → (L.getD i default).1 < id) := Lib.hid fun i hi => by
        by_cases e : i = j
        · rw [e, hy]; exact hyl
        · exact LOW.out i (by omega)
      clear hy hb0
      go_wp2_with fail
      go_roundw
      case rel => exact ⟨j + 1, by go_num, by omega, by trivial, LOW2.out⟩
      case measure => simp [intOf]; omega
    · have hcut := insN_cut (x := (id, up, q, 0)) (L := L) (k := j) (by rw [← HM.out]; exact hj) LOW.out (fun h1 h2 => hin ⟨by rw [HM.out]; exact h1, h2⟩)
      have lt1 : (L.take j).length = j := by rw [List.length_take]; have := HM.out; omega
      have lt2 : (L.drop j).length = m - j := by rw [List.length_drop, HM.out]
      have DN : Hid (∀ (v : Value) (wx : World), wx.ownsRow w.heap.size 49 4 v (j + 1 + (m - j)) (ndsV (L.take j) ++ [.int .i64 id, .int .i64 up, .int .i64 q, .int .i64 0] ++ ndsV (L.drop j)) → Below w.heap.size w wx → RPost base w (.slice (some ⟨g0, 0, none⟩) m c0) (insN (id, up, q, 0) L) 0 (.returned (.tuple #[v, .int .i64 0])) wx) := Lib.hid fun v wx h1 h2 => by
        refine ⟨v, rfl, ?_, h2, fun g hg => Or.inr (h1.lt g hg).1⟩
        rw [hcut, List.length_append, List.length_append, lt1, lt2, ndsV_append, ndsV_append, ndsV_one]
        exact own_base h1 HBS.out
      have OM := Lib.hid (World.ownsRow_made (base := w.heap.size) (e := 49) (size := 4) wr #[] 0 B2.out.size (by decide) rfl)
      have AM : Hid (Below w.heap.size w (wr.alloc (.cells #[] 49))) := Lib.hid (B2.out.alloc B2.out.size _)
      have T1 : Hid (∀ j' u, (ndsV (L.take j))[j']? = some u → (wr.alloc (.cells #[] 49)).cell? ((⟨g0, 0, none⟩ : Addr).add j') = some u) := Lib.hid fun j' u hu => by
        rw [← ndsV_take L j (by have := HM.out; omega), List.getElem?_take] at hu
        split at hu
        · exact CS.out _ AM.out j' u hu
        · cases hu
      have T2 : Hid (∀ V, Below w.heap.size w V → ∀ j' u, (ndsV (L.drop j))[j']? = some u → V.cell? ((⟨g0, j * 4, none⟩ : Addr).add j') = some u) := Lib.hid fun V hV j' u hu => by
        rw [← ndsV_drop L j (by have := HM.out; omega), List.getElem?_drop] at hu
        have := CS.out V hV _ u hu
        rw [Addr.add_mid, Nat.zero_add] at this
        rw [Addr.add_mid]
        exact this
      have L1 : Hid ((ndsV (L.take j)).length = j * 4) := Lib.hid (by rw [ndsV_length, lt1])
      have L2 : Hid ((ndsV (L.drop j)).length = (m - j) * 4) := Lib.hid (by rw [ndsV_length, lt2])
      have HJ : j = m ∨ j < m ∧ ¬ (L.getD j default).1 < id := by
        by_cases h : j = m
        · exact Or.inl h
        · exact Or.inr ⟨by omega, fun h2 => hin ⟨by omega, h2⟩⟩
      have j1 : (j : Int) ≤ (c0 : Int) := by omega
      have j2 : j ≤ c0 := by omega
      have j3 : (j : Int) ≤ (m : Int) := by omega
      have j4 : (m : Int) ≤ (c0 : Int) := by omega
      clear hcut lt1 lt2 hin
      rcases HJ with hjm | ⟨hlt, hyl⟩
      · by_cases hcp : c0 = j
        · have hd0 : L.drop j = [] := List.drop_of_length_le (by have := HM.out; omega)
          have DN2 : Hid (∀ (v : Value) (wx : World), wx.ownsRow w.heap.size 49 4 v (j + 1 + 0) (ndsV (L.take j) ++ [.int .i64 id, .int .i64 up, .int .i64 q, .int .i64 0] ++ []) → Below w.heap.size w wx → RPost base w (.slice (some ⟨g0, 0, none⟩) m c0) (insN (id, up, q, 0) L) 0 (.returned (.tuple #[v, .int .i64 0])) wx) := Lib.hid fun v wx h1 h2 => DN.out v wx (by rw [hd0, hjm, Nat.sub_self]; rw [hjm] at h1; exact h1) h2
          clear DN T2 L2 hd0 j1 j2 j3 j4
          obtain rfl : m = j := hjm.symm
          obtain rfl : c0 = m := hcp
          clear hjm
          go_wp2_with (first | (at_builtin; refine wpList_append_own _ rfl (.tmp 54) (.tmp 57) 28 rfl w.heap.size 49 ii (.agg #[.int .i64 0, .int .i64 0, .int .i64 0, .int .i64 0]) 4 32 Try.underlying28 hi hi0 hi1 hi2 rfl (by decide) _ 0 [] rfl OM.out ⟨g0, 0, none⟩ _ _ (ndsV (L.take _)) rfl L1.out T1.out ndsV_one' (by unfold maxLen; omega) (by omega) AM.out.size ?_; intro v5 w5 ho hg _; rw [Nat.zero_add, List.nil_append] at ho; have B5 := Lib.hid (AM.out.grown hg AM.out.size (fun k hk => (OM.out.lt k hk).1)); obtain ⟨a5, c5, rfl⟩ := owns_slice ho; have O5 := Lib.hid (ho.alloc (.cells #[.int .i64 id, .int .i64 up, .int .i64 q, .int .i64 0] 49)); have A5 : Hid (Below w.heap.size w (w5.alloc (.cells #[.int .i64 id, .int .i64 up, .int .i64 q, .int .i64 0] 49))) := Lib.hid (B5.out.alloc B5.out.size _); clear ho hg) | (at_builtin; refine wpList_append_own _ rfl (.tmp 59) (.tmp 64) 28 rfl w.heap.size 49 ii (.agg #[.int .i64 0, .int .i64 0, .int .i64 0, .int .i64 0]) 4 32 Try.underlying28 hi hi0 hi1 hi2 rfl (by decide) _ _ _ rfl O5.out ⟨w5.heap.size, 0, none⟩ 1 1 [.int .i64 id, .int .i64 up, .int .i64 q, .int .i64 0] rfl rfl (nd_at _ _ _ _ _ _) (by simp [Value.oneCell']) (by unfold maxLen; omega) (by omega) A5.out.size ?_; intro v6 w6 ho hg _; have B6 := Lib.hid (A5.out.grown hg A5.out.size (fun k hk => (O5.out.lt k hk).1)); have O6 := Lib.hid ho; clear ho hg) | (at_builtin; refine wpList_append_own _ rfl (.tmp 66) (.tmp 69) 28 rfl w.heap.size 49 ii (.agg #[.int .i64 0, .int .i64 0, .int .i64 0, .int .i64 0]) 4 32 Try.underlying28 hi hi0 hi1 hi2 rfl (by decide) _ _ _ rfl O6.out ⟨g0, 0, none⟩ 0 _ [] rfl rfl (fun j u hu => by cases hu) (fun u hu => by cases hu) (by unfold maxLen; omega) (by omega) B6.out.size ?_; intro v7 w7 ho hg _; have B7 := Lib.hid (B6.out.grown hg B6.out.size (fun k hk => (O6.out.lt k hk).1)); have O7 := Lib.hid ho; clear ho hg))
          go_ret2
          exact DN2.out _ _ O7.out B7.out
        · have hjd : decide ((j : Int) < (m : Int)) = false := decide_eq_false (by omega)
          have hjd2 : ¬ j < m := by omega
          clear hjm
          go_wp2_with (first | (at_builtin; refine wpList_append_own _ rfl (.tmp 54) (.tmp 57) 28 rfl w.heap.size 49 ii (.agg #[.int .i64 0, .int .i64 0, .int .i64 0, .int .i64 0]) 4 32 Try.underlying28 hi hi0 hi1 hi2 rfl (by decide) _ 0 [] rfl OM.out ⟨g0, 0, none⟩ j c0 (ndsV (L.take j)) rfl L1.out T1.out ndsV_one' (by unfold maxLen; omega) (by omega) AM.out.size ?_; intro v5 w5 ho hg _; rw [Nat.zero_add, List.nil_append] at ho; have B5 := Lib.hid (AM.out.grown hg AM.out.size (fun k hk => (OM.out.lt k hk).1)); obtain ⟨a5, c5, rfl⟩ := owns_slice ho; have O5 := Lib.hid (ho.alloc (.cells #[.int .i64 id, .int .i64 up, .int .i64 q, .int .i64 0] 49)); have A5 : Hid (Below w.heap.size w (w5.alloc (.cells #[.int .i64 id, .int .i64 up, .int .i64 q, .int .i64 0] 49))) := Lib.hid (B5.out.alloc B5.out.size _); clear ho hg) | (at_builtin; refine wpList_append_own _ rfl (.tmp 59) (.tmp 64) 28 rfl w.heap.size 49 ii (.agg #[.int .i64 0, .int .i64 0, .int .i64 0, .int .i64 0]) 4 32 Try.underlying28 hi hi0 hi1 hi2 rfl (by decide) _ j _ rfl O5.out ⟨w5.heap.size, 0, none⟩ 1 1 [.int .i64 id, .int .i64 up, .int .i64 q, .int .i64 0] rfl rfl (nd_at _ _ _ _ _ _) (by simp [Value.oneCell']) (by unfold maxLen; omega) (by omega) A5.out.size ?_; intro v6 w6 ho hg _; have B6 := Lib.hid (A5.out.grown hg A5.out.size (fun k hk => (O5.out.lt k hk).1)); have O6 := Lib.hid ho; clear ho hg) | (at_builtin; refine wpList_append_own _ rfl (.tmp 66) (.tmp 69) 28 rfl w.heap.size 49 ii (.agg #[.int .i64 0, .int .i64 0, .int .i64 0, .int .i64 0]) 4 32 Try.underlying28 hi hi0 hi1 hi2 rfl (by decide) _ _ _ rfl O6.out ⟨g0, j * 4, none⟩ (m - j) (c0 - j) (ndsV (L.drop j)) rfl L2.out (T2.out _ B6.out) ndsV_one' (by unfold maxLen; omega) (by omega) B6.out.size ?_; intro v7 w7 ho hg _; have B7 := Lib.hid (B6.out.grown hg B6.out.size (fun k hk => (O6.out.lt k hk).1)); have O7 := Lib.hid ho; clear ho hg))
          go_ret2
          exact DN.out _ _ O7.out B7.out
      · have hjl : j < L.length := by rw [← HM.out]; exact hlt
        obtain ⟨⟨y, y1, y2, y3⟩, hy⟩ : ∃ y, L.getD j default = y := ⟨_, rfl⟩
        obtain ⟨b, hb0, hbl, c1, -, -, -⟩ := (NA.out.below B2.out).at_ hjl hy
        obtain rfl : g0 = b := by simpa using hb0
        rw [hy] at hyl
        simp only at c1 hyl
        have hyd : decide (y < id) = false := decide_eq_false hyl
        have hne : c0 ≠ j := by omega
        clear hy hb0
        go_wp2_with (first | (at_builtin; refine wpList_append_own _ rfl (.tmp 54) (.tmp 57) 28 rfl w.heap.size 49 ii (.agg #[.int .i64 0, .int .i64 0, .int .i64 0, .int .i64 0]) 4 32 Try.underlying28 hi hi0 hi1 hi2 rfl (by decide) _ 0 [] rfl OM.out ⟨g0, 0, none⟩ j c0 (ndsV (L.take j)) rfl L1.out T1.out ndsV_one' (by unfold maxLen; omega) (by omega) AM.out.size ?_; intro v5 w5 ho hg _; rw [Nat.zero_add, List.nil_append] at ho; have B5 := Lib.hid (AM.out.grown hg AM.out.size (fun k hk => (OM.out.lt k hk).1)); obtain ⟨a5, c5, rfl⟩ := owns_slice ho; have O5 := Lib.hid (ho.alloc (.cells #[.int .i64 id, .int .i64 up, .int .i64 q, .int .i64 0] 49)); have A5 : Hid (Below w.heap.size w (w5.alloc (.cells #[.int .i64 id, .int .i64 up, .int .i64 q, .int .i64 0] 49))) := Lib.hid (B5.out.alloc B5.out.size _); clear ho hg) | (at_builtin; refine wpList_append_own _ rfl (.tmp 59) (.tmp 64) 28 rfl w.heap.size 49 ii (.agg #[.int .i64 0, .int .i64 0, .int .i64 0, .int .i64 0]) 4 32 Try.underlying28 hi hi0 hi1 hi2 rfl (by decide) _ j _ rfl O5.out ⟨w5.heap.size, 0, none⟩ 1 1 [.int .i64 id, .int .i64 up, .int .i64 q, .int .i64 0] rfl rfl (nd_at _ _ _ _ _ _) (by simp [Value.oneCell']) (by unfold maxLen; omega) (by omega) A5.out.size ?_; intro v6 w6 ho hg _; have B6 := Lib.hid (A5.out.grown hg A5.out.size (fun k hk => (O5.out.lt k hk).1)); have O6 := Lib.hid ho; clear ho hg) | (at_builtin; refine wpList_append_own _ rfl (.tmp 66) (.tmp 69) 28 rfl w.heap.size 49 ii (.agg #[.int .i64 0, .int .i64 0, .int .i64 0, .int .i64 0]) 4 32 Try.underlying28 hi hi0 hi1 hi2 rfl (by decide) _ _ _ rfl O6.out ⟨g0, j * 4, none⟩ (m - j) (c0 - j) (ndsV (L.drop j)) rfl L2.out (T2.out _ B6.out) ndsV_one' (by unfold maxLen; omega) (by omega) B6.out.size ?_; intro v7 w7 ho hg _; have B7 := Lib.hid (B6.out.grown hg B6.out.size (fun k hk => (O6.out.lt k hk).1)); have O7 := Lib.hid ho; clear ho hg))
        go_ret2
        exact DN.out _ _ O7.out B7.out
end Go.Proofs.Ytedeifejokcleaa
