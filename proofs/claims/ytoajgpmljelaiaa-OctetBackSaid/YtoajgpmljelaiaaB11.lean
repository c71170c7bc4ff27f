/- The walk of OctetCut. Condition: the text that came in is no longer than any. -/
import Derived.Test.YtoajgpmljelaiaaB10
namespace Go.Proofs.Ytoajgpmljelaiaa
open Go.RowKit
set_option maxRecDepth 100000

set_option maxHeartbeats 1000000 in
theorem cut_no (n : Nat) (k cut : Int) (t : List UInt8) (W : World) (h : ¬ okPut n k) : Calls Try.prog 6 #[.int .u32 n, .int .i64 k, .int .i64 cut, strV t] W fun e w' => e = .returned (.bool true) ∧ Below W.heap.size W w' := by
  have H := Lib.hid h
  clear h
  go_enter Try.func6, Try.ntmps6
  go_wp2_with fail
  refine (put_no n k H.out W).mono ?_
  rintro e w1 ⟨rfl, rfl⟩
  go_wp2_with fail
  refine (awake_ok W).mono ?_
  rintro e w3 ⟨rfl, hb⟩
  have B3 := Lib.hid hb
  clear hb
  go_wp2
  go_ret
  exact ⟨rfl, B3.out⟩
set_option maxHeartbeats 1000000 in
theorem cut_long (n : Nat) (k cut : Int) (t : List UInt8) (W : World) (h : okPut n k) (ht : 1000 < t.length) (hm : t.length ≤ maxLen) : Calls Try.prog 6 #[.int .u32 n, .int .i64 k, .int .i64 cut, strV t] W fun e w' => e = .returned (.bool true) ∧ Below W.heap.size W w' := by
  have H := Lib.hid h
  have hs : (ByteArray.mk t.toArray).size = t.length := by simp [ByteArray.size]
  unfold maxLen at hm
  clear h
  go_enter Try.func6, Try.ntmps6
  go_wp2_with fail
  refine (put_yes n k H.out W).mono ?_
  rintro e w1 ⟨rfl, hb⟩
  have B1 := Lib.hid hb
  clear hb
  go_wp2_with fail
  refine (awake_ok w1).mono ?_
  rintro e w3 ⟨rfl, hb⟩
  have B3 := Lib.hid (B1.out.trans (hb.mono B1.out.size))
  clear hb
  go_wp2
  go_ret
  exact ⟨rfl, B3.out⟩
theorem slice_to (S : List UInt8) (n : Nat) (h : n ≤ S.length) (W : World) : (Instr.slice 9 (strV S) none (some (.int .i64 (n : Int))) none).run Try.prog W = .ok (strV (S.take n)) W := by
  have h' : 0 ≤ (n : Int) ∧ (n : Int) ≤ ((ByteArray.mk S.toArray).size : Int) := by simp [ByteArray.size]; omega
  rw [run_slice_string_to_if (P := Try.prog) W 9 ⟨S.toArray⟩ .i64 (n : Int) Try.underlying9, if_pos h', ByteArray.extract_mk]
  simp
theorem tmod_bounds (c : Int) (j : Nat) (h1 : 1 ≤ j) : -(j : Int) < c.tmod j ∧ c.tmod j < j := by
  constructor
  · have := Int.lt_tmod_of_pos c (show (0 : Int) < j by omega); omega
  · exact Int.tmod_lt_of_pos c (by omega)
/-- From the place behind the cut on. -/
theorem numS_short (l : List UInt8) (k : Int) (h : (l.length : Int) < k) : numS (some l) k = (0, none) := by
  simp only [numS]
  rw [if_neg (fun e => by have := e.2; omega)]
theorem numS_put (n : Nat) (j : Nat) (t : List UInt8) (h1 : 1 ≤ j) (h2 : j ≤ 4) (h : n < 256 ^ j) : numS (some (bytesOf n j ++ t)) j = (n, some t) := by
  have hl := bytesOf_length n j
  simp only [numS]
  rw [if_pos ⟨⟨by omega, by omega⟩, by simp [hl]⟩, Int.toNat_natCast, List.take_left' hl, List.drop_left' hl, numOf_bytesOf j n h]
theorem textS_all (t : List UInt8) : textS (some t) t = (true, some []) := by
  simp only [textS]
  rw [if_pos ⟨Nat.le_refl _, by simp⟩]; simp
theorem new_cut (l : List UInt8) (hl : l.length ≤ 4) (i : Nat) (w : World) : Calls Try.prog 11 #[.string ((ByteArray.mk l.toArray).extract 0 i)] w (NewPost5 (l.take i) w) := by
  rw [ByteArray.extract_mk]
  exact new5_ok _ (by simp [maxLen]; omega) w
set_option maxHeartbeats 4000000 in
theorem cut_ok (n j : Nat) (cut : Int) (t : List UInt8) (W : World) (h1 : 1 ≤ j) (h2 : j ≤ 4) (h : n < 256 ^ j) (ht : t.length ≤ 1000) : Calls Try.prog 6 #[.int .u32 n, .int .i64 j, .int .i64 cut, strV t] W fun e w' => e = .returned (.bool true) ∧ Below W.heap.size W w' := by
  have H := Lib.hid h
  have hs : (ByteArray.mk t.toArray).size = t.length := by simp [ByteArray.size]
  have hs2 : (ByteArray.mk (bytesOf n j).toArray).size = j := by simp [ByteArray.size, bytesOf_length]
  obtain ⟨c, hcm⟩ : ∃ c, cut.tmod j = c := ⟨_, rfl⟩
  obtain ⟨hb1, hb2⟩ := tmod_bounds cut j h1
  rw [hcm] at hb1 hb2
  clear h
  go_enter Try.func6, Try.ntmps6
  go_wp2_with fail
  refine (put_ok n j W h1 h2 H.out).mono ?_
  rintro e w1 ⟨rfl, hb⟩
  have B1 := Lib.hid hb
  clear hb
  go_wp2_with fail
  all_goals
    refine (new_cut (bytesOf n j) (by rw [bytesOf_length]; omega) _ w1).mono ?_
    rintro e w2 ⟨b, rfl, hR, hle, hb⟩
    have R2 := Lib.hid hR
    have B2 := Lib.hid (B1.out.trans (hb.mono B1.out.size))
    have LE := Lib.hid (Nat.le_trans B1.out.size hle)
    clear hR hb hle
    go_wp2_with fail
    refine (num_ok b _ j _ _ (numS_short _ _ (by rw [List.length_take, bytesOf_length]; omega)) w2 R2.out).mono ?_
    rintro e w3 ⟨rfl, hR, hg⟩
    have R3 := Lib.hid hR
    have B3 := Lib.hid (B2.out.trans (below_of_grownBy hg B2.out.size LE.out))
    clear hR hg R2
    go_wp2_with fail
    refine (fine_ok b _ w3 R3.out).mono ?_
    rintro e w4 ⟨rfl, rfl⟩
    go_wp2_with fail
    refine (left_ok b _ w3 R3.out).mono ?_
    rintro e w4 ⟨rfl, rfl⟩
    rw [show (leftN (none : RdS) : Int) = 0 from rfl]
    have hadd := str_add (bytesOf n j) t (by rw [bytesOf_length]; omega)
    go_wp2_with fail
    refine (new5_ok (bytesOf n j ++ t) (by simp [maxLen, bytesOf_length]; omega) w3).mono ?_
    rintro e w5 ⟨q, rfl, hR, hle, hb⟩
    have R5 := Lib.hid hR
    have B5 := Lib.hid (B3.out.trans (hb.mono B3.out.size))
    have LE5 := Lib.hid (Nat.le_trans B3.out.size hle)
    clear hR hb hle hadd
    go_wp2_with fail
    refine (num_ok q _ j _ _ (numS_put n j t h1 h2 H.out) w5 R5.out).mono ?_
    rintro e w6 ⟨rfl, hR, hg⟩
    have R6 := Lib.hid hR
    have B6 := Lib.hid (B5.out.trans (below_of_grownBy hg B5.out.size LE5.out))
    clear hR hg R5
    go_wp2_with fail
    refine (fine_ok q _ w6 R6.out).mono ?_
    rintro e w7 ⟨rfl, rfl⟩
    go_wp2_with fail
    refine (left_ok q _ w6 R6.out).mono ?_
    rintro e w7 ⟨rfl, rfl⟩
    rw [show leftN (some t) = t.length from rfl]
    go_wp2_with fail
    refine (text_ok q _ t _ _ (textS_all t) w6 R6.out).mono ?_
    rintro e w8 ⟨rfl, hR, hg⟩
    have R8 := Lib.hid hR
    have B8 := Lib.hid (B6.out.trans (below_of_grownBy hg B6.out.size LE5.out))
    clear hR hg R6
    go_wp2_with fail
    refine (left_ok q _ w8 R8.out).mono ?_
    rintro e w9 ⟨rfl, rfl⟩
    rw [show (leftN (some ([] : List UInt8)) : Int) = 0 from rfl]
    go_wp2_with fail
    refine (awake_ok w8).mono ?_
    rintro e w9 ⟨rfl, hb⟩
    have B9 := Lib.hid (B8.out.trans (hb.mono B8.out.size))
    clear hb
    go_wp2
    go_ret
    exact ⟨rfl, B9.out⟩
theorem octetCut_walk (n k cut : Int) (s : ByteArray) (W : World) (hn : 0 ≤ n ∧ n ≤ 4294967295) (_hk : -9223372036854775808 ≤ k ∧ k ≤ 9223372036854775807) (_hc : -9223372036854775808 ≤ cut ∧ cut ≤ 9223372036854775807) (hs : s.size ≤ maxLen) :
    Calls Try.prog 6 #[.int .u32 n, .int .i64 k, .int .i64 cut, .string s] W fun e w' => e = .returned (.bool true) ∧ Below W.heap.size W w' := by
  obtain ⟨m, rfl⟩ := Int.eq_ofNat_of_zero_le hn.1
  obtain ⟨t, rfl⟩ : ∃ t : List UInt8, s = ⟨t.toArray⟩ := ⟨s.data.toList, by cases s; simp⟩
  have hs : t.length ≤ maxLen := by simpa [ByteArray.size] using hs
  by_cases h : okPut m k
  · by_cases ht : t.length ≤ 1000
    · obtain ⟨⟨h1, h2⟩, h3⟩ := h
      obtain ⟨j, rfl⟩ := Int.eq_ofNat_of_zero_le (show 0 ≤ k by omega)
      exact cut_ok m j cut t W (by omega) (by omega) h3 ht
    · exact cut_long m k cut t W h (by omega) hs
  · exact cut_no m k cut t W h
end Go.Proofs.Ytoajgpmljelaiaa
