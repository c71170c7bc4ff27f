/- The walk of ConfCut. Condition: the configurations lie as they came in. Written by gen/gen_c23.py. -/
import Derived.Test.YtpgoddbijkolbaaC22
namespace Go.Proofs.Ytpgoddbijkolbaa
open Go.RowKit
set_option maxRecDepth 100000

theorem sliceTo_conf (S : List UInt8) (n : Nat) (h : n ≤ S.length) (W : World) : (Instr.slice 9 (strV S) none (some (.int .i64 (n : Int))) none).run Try.prog W = .ok (strV (S.take n)) W := by
  have h' : 0 ≤ (n : Int) ∧ (n : Int) ≤ ((ByteArray.mk S.toArray).size : Int) := by simp [ByteArray.size]; omega
  rw [run_slice_string_to_if (P := Try.prog) W 9 ⟨S.toArray⟩ .i64 (n : Int) Try.underlying9, if_pos h', ByteArray.extract_mk]
  simp
theorem tmod_conf (c : Int) (j : Nat) (h1 : 1 ≤ j) : -(j : Int) < c.tmod j ∧ c.tmod j < j := by
  constructor
  · have := Int.lt_tmod_of_pos c (show (0 : Int) < j by omega); omega
  · exact Int.tmod_lt_of_pos c (by omega)
theorem get_cut (l : List UInt8) (hl : l.length ≤ maxLen) (i : Nat) (w : World) : Calls Try.prog 19 #[.string ((ByteArray.mk l.toArray).extract 0 i)] w (GotConf w (l.take i)) := by
  rw [ByteArray.extract_mk]
  have h := get_conf (l.take i) (by rw [List.length_take]; omega) w
  simpa using h
theorem getE_none {l : List UInt8} (h : parse l = none) : getE l = 6 := by unfold getE; rw [h]
set_option maxHeartbeats 2000000 in
theorem confCut_walk (v : Value) (C : Cf) (cut : Int) (s : ByteArray) (W : World) (hC : ConfIn W v C) (_hcut : -9223372036854775808 ≤ cut ∧ cut ≤ 9223372036854775807) (hs : s.size ≤ maxLen) : Calls Try.prog 6 #[v, .int .i64 cut, .string s] W fun e w' => e = .returned (.bool true) ∧ Below W.heap.size W w' := by
  obtain ⟨t, rfl⟩ : ∃ t : List UInt8, s = ⟨t.toArray⟩ := ⟨s.data.toList, by cases s; simp⟩
  have hsz : (ByteArray.mk t.toArray).size = t.length := by simp [ByteArray.size]
  rw [hsz] at hs
  unfold maxLen at hs
  obtain ⟨aa1, na1, ma1, aa2, na2, ma2, aa3, na3, ma3, rfl⟩ := hC.slices
  obtain ⟨w1, hw1⟩ : ∃ w1, w1 = W.alloc (.cells #[.slice aa1 na1 ma1, .slice aa2 na2 ma2, .slice aa3 na3 ma3] 26) := ⟨_, rfl⟩
  have hb1 : Below W.heap.size W w1 := by rw [hw1]; exact (Below.refl _ _).alloc (Nat.le_refl _) _
  have K := Lib.hid hb1
  have IA := Lib.hid (hC.below hb1)
  have XA : Hid (CBox w1 W.heap.size (.slice aa1 na1 ma1) (.slice aa2 na2 ma2) (.slice aa3 na3 ma3)) := Lib.hid (by rw [hw1]; exact CBox.new W _ _ _)
  clear hC hb1
  by_cases la : longC C
  · have LA := Lib.hid (long_yes _ C w1 IA.out la)
    clear la
    go_enter Try.func6, Try.ntmps6
    go_wp2_with fail
    rw [← hw1]
    clear hw1
    refine LA.out.mono ?_
    rintro e w2 ⟨rfl, hb⟩
    have K2 := Lib.hid (K.out.trans (hb.mono K.out.size))
    clear hb
    go_wp2_with fail
    refine (awake_conf _).mono ?_
    rintro e w3 ⟨rfl, hb⟩
    have K3 := Lib.hid (K2.out.trans (hb.mono K2.out.size))
    clear hb
    go_wp2
    go_ret
    exact ⟨rfl, K3.out⟩
  have VA := Lib.hid (show VarAt w1 W.heap.size _ _ _ C from ⟨XA.out, IA.out.at_ la⟩)
  have LA := Lib.hid (long_no _ _ _ C w1 VA.out.cf la)
  clear la IA XA
  by_cases ht : t.length ≤ 100
  rotate_left
  · have ht2 : (100 : Int) < (t.length : Int) := by omega
    go_enter Try.func6, Try.ntmps6
    go_wp2_with fail
    rw [← hw1]
    clear hw1
    refine LA.out.mono ?_
    rintro e w2 ⟨rfl, hb⟩
    have K2 := Lib.hid (K.out.trans (hb.mono K.out.size))
    clear hb
    go_wp2_with fail
    refine (awake_conf _).mono ?_
    rintro e w3 ⟨rfl, hb⟩
    have K3 := Lib.hid (K2.out.trans (hb.mono K2.out.size))
    clear hb
    go_wp2
    go_ret
    exact ⟨rfl, K3.out⟩
  have ht2 : ¬ (100 : Int) < (t.length : Int) := by omega
  by_cases hk : chk C = 0
  rotate_left
  · obtain ⟨c, hc⟩ : ∃ c, chk C = c := ⟨_, rfl⟩
    rw [hc] at hk
    have PC := Lib.hid hc
    have PL : Hid (putL C = []) := Lib.hid (putL_no (by rw [hc]; exact hk))
    have hcb : (c != 0) = true := by simpa using hk
    clear hc
    go_enter Try.func6, Try.ntmps6
    go_wp2_with fail
    rw [← hw1]
    clear hw1
    refine LA.out.mono ?_
    rintro e w2 ⟨rfl, hb⟩
    have K2 := Lib.hid (K.out.trans (hb.mono K.out.size))
    have VA := Lib.hid (VA.out.below hb)
    have x0 := VA.out.box.c0
    have x1 := VA.out.box.c1
    have x2 := VA.out.box.c2
    clear hb
    go_wp2_with fail
    refine (put_is _ _ _ C [] c PL.out PC.out _ VA.out.cf).mono ?_
    rintro e w3 ⟨rfl, hb⟩
    have K3 := Lib.hid (K2.out.trans (hb.mono K2.out.size))
    clear hb
    go_wp2_with fail
    refine (awake_conf _).mono ?_
    rintro e w4 ⟨rfl, hb⟩
    have K4 := Lib.hid (K3.out.trans (hb.mono K3.out.size))
    clear hb
    go_wp2
    go_ret
    exact ⟨rfl, K4.out⟩
  obtain ⟨l, hl⟩ : ∃ l, encC C = l := ⟨_, rfl⟩
  have hfit := mayB_fits VA.out.cf.shape (chk_zero hk).1
  have PC := Lib.hid hk
  have PL : Hid (putL C = l) := Lib.hid (by rw [putL_yes hk, hl])
  have hl4 : 4 ≤ l.length := by rw [← hl]; simp [encC, encL, magic, bytesOf_length]
  have hl5 : l.length ≤ 10000 := by
    have h1 := encL_len pw C.1 hfit.1 (by decide)
    have h2 := encL_len ww C.2.1 hfit.2.1 (by decide)
    have h3 := encL_len cw C.2.2 hfit.2.2 (by decide)
    rw [← hl]; simp only [encC, List.length_append]; have : magic.length = 3 := rfl; omega
  have CUT : Hid (∀ i, i < l.length → getE (l.take i) = 6) := Lib.hid (fun i hi => getE_none (by rw [← hl]; exact parse_cut hfit i (by rw [hl]; exact hi)))
  have MORE : Hid (t ≠ [] → getE (l ++ t) = 6) := Lib.hid (fun h => getE_none (by rw [← hl]; exact parse_more hfit t h))
  obtain ⟨L, hL⟩ : ∃ L, L = l.length := ⟨_, rfl⟩
  have hsl : (ByteArray.mk l.toArray).size = L := by rw [hL]; simp [ByteArray.size]
  have HLL := Lib.hid hL
  rw [← hL] at hl4 hl5
  have hl6 : ¬ (L : Int) < 4 := by omega
  have hl7 : ¬ (L : Int) = 0 := by omega
  obtain ⟨r, hcm⟩ : ∃ r, cut.tmod L = r := ⟨_, rfl⟩
  obtain ⟨hr1, hr2⟩ := tmod_conf cut L (by omega)
  rw [hcm] at hr1 hr2
  have hadd := str_add l t (by omega)
  obtain ⟨g, hg⟩ : ∃ g, getE (l ++ t) = g := ⟨_, rfl⟩
  have HG := Lib.hid hg
  have hcase : (r < 0 ∧ ∃ i : Nat, r + L = i ∧ i < L) ∨ (¬ r < 0 ∧ ∃ i : Nat, r = i ∧ i < L) := by
    by_cases h : r < 0
    · obtain ⟨i, hi⟩ := Int.eq_ofNat_of_zero_le (show 0 ≤ r + L by omega)
      exact Or.inl ⟨h, i, hi, by omega⟩
    · obtain ⟨i, hi⟩ := Int.eq_ofNat_of_zero_le (show 0 ≤ r by omega)
      exact Or.inr ⟨h, i, hi, by omega⟩
  have hcase2 : (t == ([] : List UInt8)) = true ∨ ((t == ([] : List UInt8)) = false ∧ g = 6) := by
    by_cases h : t = []
    · exact Or.inl (by simpa using h)
    · exact Or.inr ⟨by simpa using h, by rw [← hg]; exact MORE.out h⟩
  clear hk hl hfit MORE hg hL
  rcases hcase with ⟨hr, i, hi, hiL⟩ | ⟨hr, i, hi, hiL⟩
  all_goals
    have hi2 : (i : Int) ≤ (L : Int) := by omega
    rcases hcase2 with htb | ⟨htb, rfl⟩
    all_goals
      go_enter Try.func6, Try.ntmps6
      go_wp2_with fail
      rw [← hw1]
      clear hw1
      refine LA.out.mono ?_
      rintro e w2 ⟨rfl, hb⟩
      have K2 := Lib.hid (K.out.trans (hb.mono K.out.size))
      have VA := Lib.hid (VA.out.below hb)
      have x0 := VA.out.box.c0
      have x1 := VA.out.box.c1
      have x2 := VA.out.box.c2
      clear hb
      go_wp2_with fail
      refine (put_is _ _ _ C l 0 PL.out PC.out _ VA.out.cf).mono ?_
      rintro e w3 ⟨rfl, hb⟩
      have K3 := Lib.hid (K2.out.trans (hb.mono K2.out.size))
      clear hb x0 x1 x2
      go_wp2_with fail
      refine (get_cut l (by unfold maxLen; have := HLL.out; omega) i w3).mono ?_
      rintro e w4 ⟨t1, t2, t3, rfl, hC, hb⟩
      rw [CUT.out i (by have := HLL.out; omega)]
      obtain ⟨ab1, nb1, mb1, rfl⟩ := hC.ps.isSlice
      obtain ⟨ab2, nb2, mb2, rfl⟩ := hC.ws.isSlice
      obtain ⟨ab3, nb3, mb3, rfl⟩ := hC.hs.isSlice
      have K4 := Lib.hid (K3.out.trans (hb.mono K3.out.size))
      have K5 := Lib.hid (K4.out.alloc K4.out.size (.cells #[.slice ab1 nb1 mb1, .slice ab2 nb2 mb2, .slice ab3 nb3 mb3] 26))
      clear hb hC
      go_wp2_with fail
      refine (get_conf (l ++ t) (by unfold maxLen; rw [List.length_append]; have := HLL.out; omega) _).mono ?_
      rintro e w6 ⟨t1, t2, t3, rfl, hC, hb⟩
      obtain ⟨ac1, nc1, mc1, rfl⟩ := hC.ps.isSlice
      obtain ⟨ac2, nc2, mc2, rfl⟩ := hC.ws.isSlice
      obtain ⟨ac3, nc3, mc3, rfl⟩ := hC.hs.isSlice
      have K6 := Lib.hid (K5.out.trans (hb.mono K5.out.size))
      have K7 := Lib.hid (K6.out.alloc K6.out.size (.cells #[.slice ac1 nc1 mc1, .slice ac2 nc2 mc2, .slice ac3 nc3 mc3] 26))
      clear hb hC
      rw [HG.out]
      go_wp2_with fail
      refine (awake_conf _).mono ?_
      rintro e w8 ⟨rfl, hb⟩
      have K8 := Lib.hid (K7.out.trans (hb.mono K7.out.size))
      clear hb
      go_wp2
      go_ret
      exact ⟨rfl, K8.out⟩
end Go.Proofs.Ytpgoddbijkolbaa
