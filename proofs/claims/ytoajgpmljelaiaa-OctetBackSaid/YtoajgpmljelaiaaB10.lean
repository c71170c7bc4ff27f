/- Layer 5's awake, and the walks of OctetPut and OctetOrder. No condition. -/
import Derived.Test.YtoajgpmljelaiaaB9
namespace Go.Proofs.Ytoajgpmljelaiaa
open Go.RowKit
set_option maxRecDepth 100000

theorem put_513 (w : World) : Calls Try.prog 8 #[.int .u32 513, .int .i64 2] w fun e w' => e = .returned (.tuple #[strV [2, 1], .int .i64 0]) ∧ Below w.heap.size w w' := put_ok 513 2 w (by decide) (by decide) (by decide)
theorem put_256 (w : World) : Calls Try.prog 8 #[.int .u32 256, .int .i64 1] w fun e w' => e = .returned (.tuple #[strV [], .int .i64 2]) ∧ w = w' := put_no 256 1 (fun h => absurd h.2 (by decide)) w
theorem numS_513 : numS (some [2, 1, 7]) 2 = (513, some [7]) := by
  simp only [numS]
  rw [if_pos ⟨⟨by decide, by decide⟩, by decide⟩]; rfl
theorem numS_0 : numS (some [7]) 2 = (0, none) := by
  simp only [numS]
  rw [if_neg (fun h => by have := h.2; revert this; decide)]
set_option maxHeartbeats 1000000 in
theorem awake_ok (w : World) : Calls Try.prog 10 #[] w fun e w' => e = .returned (.bool true) ∧ Below w.heap.size w w' := by
  go_enter Try.func10, Try.ntmps10
  go_wp2_with fail
  refine (put_513 w).mono ?_
  rintro e w1 ⟨rfl, hb⟩
  have B1 := Lib.hid hb
  clear hb
  go_wp2_with fail
  refine (put_256 w1).mono ?_
  rintro e w2 ⟨rfl, rfl⟩
  go_wp2_with fail
  refine (new5_ok [2, 1, 7] (by decide) w1).mono ?_
  rintro e w2 ⟨b, rfl, hR, hle, hb⟩
  have R2 := Lib.hid hR
  have B2 := Lib.hid (B1.out.trans (hb.mono B1.out.size))
  have LE := Lib.hid (Nat.le_trans B1.out.size hle)
  clear hR hb hle
  go_wp2_with fail
  refine (num_ok b _ 2 _ _ numS_513 w2 R2.out).mono ?_
  rintro e w3 ⟨rfl, hR, hg⟩
  have R3 := Lib.hid hR
  have B3 := Lib.hid (B2.out.trans (below_of_grownBy hg B2.out.size LE.out))
  clear hR hg
  go_wp2_with fail
  refine (left_ok b _ w3 R3.out).mono ?_
  rintro e w4 ⟨rfl, rfl⟩
  rw [show (leftN (some [(7 : UInt8)]) : Int) = 1 from rfl]
  go_wp2_with fail
  refine (num_ok b _ 2 _ _ numS_0 w3 R3.out).mono ?_
  rintro e w4 ⟨rfl, hR, hg⟩
  have R4 := Lib.hid hR
  have B4 := Lib.hid (B3.out.trans (below_of_grownBy hg B3.out.size LE.out))
  clear hR hg
  go_wp2_with fail
  refine (fine_ok b _ w4 R4.out).mono ?_
  rintro e w5 ⟨rfl, rfl⟩
  go_wp2
  go_ret
  exact ⟨rfl, B4.out⟩

/-- Both answer the same. -/
theorem pair_put (n : Nat) (k : Int) (hn : n < 4294967296) : ∃ (l : List UInt8) (c : Int), (∀ w, Calls Try.prog 8 #[.int .u32 n, .int .i64 k] w fun e w' => e = .returned (.tuple #[strV l, .int .i64 c]) ∧ Below w.heap.size w w') ∧
    ∀ w, Calls Try.prog 9 #[.int .u32 n, .int .i64 k] w fun e w' => e = .returned (.tuple #[strV l, .int .i64 c]) ∧ Below w.heap.size w w' := by
  by_cases h : okPut n k
  · exact ⟨_, _, put_yes n k h, rput_yes n k h⟩
  · exact ⟨_, _, fun w => (put_no n k h w).mono fun e w' ⟨he, hw⟩ => ⟨he, hw ▸ Below.refl _ _⟩, rput_no n k hn h⟩
set_option maxHeartbeats 1000000 in
theorem octetPut_nat (n : Nat) (k : Int) (W : World) (hn : n < 4294967296) : Calls Try.prog 3 #[.int .u32 n, .int .i64 k] W fun e w' => e = .returned (.bool true) ∧ Below W.heap.size W w' := by
  obtain ⟨l, c, h1, h2⟩ := pair_put n k hn
  have H1 := Lib.hid h1
  have H2 := Lib.hid h2
  clear h1 h2
  go_enter Try.func3, Try.ntmps3
  go_wp2_with fail
  refine (H1.out W).mono ?_
  rintro e w1 ⟨rfl, hb⟩
  have B1 := Lib.hid hb
  clear hb
  go_wp2_with fail
  refine (H2.out w1).mono ?_
  rintro e w2 ⟨rfl, hb⟩
  have B2 := Lib.hid (B1.out.trans (hb.mono B1.out.size))
  clear hb
  go_wp2_with fail
  refine (awake_ok w2).mono ?_
  rintro e w3 ⟨rfl, hb⟩
  have B3 := Lib.hid (B2.out.trans (hb.mono B2.out.size))
  clear hb
  go_wp2
  go_ret
  exact ⟨rfl, B3.out⟩
theorem octetPut_walk (n k : Int) (W : World) (hn : 0 ≤ n ∧ n ≤ 4294967295) (_hk : -9223372036854775808 ≤ k ∧ k ≤ 9223372036854775807) : Calls Try.prog 3 #[.int .u32 n, .int .i64 k] W fun e w' => e = .returned (.bool true) ∧ Below W.heap.size W w' := by
  obtain ⟨m, rfl⟩ := Int.eq_ofNat_of_zero_le hn.1
  exact octetPut_nat m k W (by omega)

set_option maxHeartbeats 1000000 in
theorem order_no1 (a b : Int) (k c : Int) (hc : (c == 0) = false) (s : List UInt8) (W : World) (h1 : ∀ w, Calls Try.prog 8 #[.int .u32 a, .int .i64 k] w fun e w' => e = .returned (.tuple #[strV s, .int .i64 c]) ∧ Below w.heap.size w w')
    (t : List UInt8) (d : Int) (h2 : ∀ w, Calls Try.prog 8 #[.int .u32 b, .int .i64 k] w fun e w' => e = .returned (.tuple #[strV t, .int .i64 d]) ∧ Below w.heap.size w w') : Calls Try.prog 7 #[.int .u32 a, .int .u32 b, .int .i64 k] W fun e w' => e = .returned (.bool true) ∧ Below W.heap.size W w' := by
  have H1 := Lib.hid h1
  have H2 := Lib.hid h2
  have hc1 : (c != 0) = true := by simp at hc ⊢; exact hc
  clear h1 h2
  go_enter Try.func7, Try.ntmps7
  go_wp2_with fail
  refine (H1.out W).mono ?_
  rintro e w1 ⟨rfl, hb⟩
  have B1 := Lib.hid hb
  clear hb
  go_wp2_with fail
  refine (H2.out w1).mono ?_
  rintro e w2 ⟨rfl, hb⟩
  have B2 := Lib.hid (B1.out.trans (hb.mono B1.out.size))
  clear hb
  go_wp2_with fail
  refine (awake_ok w2).mono ?_
  rintro e w3 ⟨rfl, hb⟩
  have B3 := Lib.hid (B2.out.trans (hb.mono B2.out.size))
  clear hb
  go_wp2
  go_ret
  exact ⟨rfl, B3.out⟩
set_option maxHeartbeats 1000000 in
theorem order_no2 (a b : Int) (k : Int) (s : List UInt8) (W : World) (h1 : ∀ w, Calls Try.prog 8 #[.int .u32 a, .int .i64 k] w fun e w' => e = .returned (.tuple #[strV s, .int .i64 0]) ∧ Below w.heap.size w w')
    (t : List UInt8) (d : Int) (hd : (d == 0) = false) (h2 : ∀ w, Calls Try.prog 8 #[.int .u32 b, .int .i64 k] w fun e w' => e = .returned (.tuple #[strV t, .int .i64 d]) ∧ Below w.heap.size w w') : Calls Try.prog 7 #[.int .u32 a, .int .u32 b, .int .i64 k] W fun e w' => e = .returned (.bool true) ∧ Below W.heap.size W w' := by
  have H1 := Lib.hid h1
  have H2 := Lib.hid h2
  have hd1 : (d != 0) = true := by simp at hd ⊢; exact hd
  clear h1 h2
  go_enter Try.func7, Try.ntmps7
  go_wp2_with fail
  refine (H1.out W).mono ?_
  rintro e w1 ⟨rfl, hb⟩
  have B1 := Lib.hid hb
  clear hb
  go_wp2_with fail
  refine (H2.out w1).mono ?_
  rintro e w2 ⟨rfl, hb⟩
  have B2 := Lib.hid (B1.out.trans (hb.mono B1.out.size))
  clear hb
  go_wp2_with fail
  refine (awake_ok w2).mono ?_
  rintro e w3 ⟨rfl, hb⟩
  have B3 := Lib.hid (B2.out.trans (hb.mono B2.out.size))
  clear hb
  go_wp2
  go_ret
  exact ⟨rfl, B3.out⟩
set_option maxHeartbeats 1000000 in
theorem order_yes (a b : Nat) (k : Int) (s t : List UInt8) (x y : Bool) (hx : decide ((a : Int) < b) = x) (hy : ((a : Int) == b) = y) (hx2 : Op.bytesLess s t = x) (hy2 : (s == t) = y) (W : World) (h1 : ∀ w, Calls Try.prog 8 #[.int .u32 a, .int .i64 k] w fun e w' => e = .returned (.tuple #[strV s, .int .i64 0]) ∧ Below w.heap.size w w')
    (h2 : ∀ w, Calls Try.prog 8 #[.int .u32 b, .int .i64 k] w fun e w' => e = .returned (.tuple #[strV t, .int .i64 0]) ∧ Below w.heap.size w w') : Calls Try.prog 7 #[.int .u32 a, .int .u32 b, .int .i64 k] W fun e w' => e = .returned (.bool true) ∧ Below W.heap.size W w' := by
  have H1 := Lib.hid h1
  have H2 := Lib.hid h2
  clear h1 h2
  obtain ⟨A, hA⟩ : ∃ A : Int, A = (a : Int) := ⟨_, rfl⟩
  obtain ⟨B, hB⟩ : ∃ B : Int, B = (b : Int) := ⟨_, rfl⟩
  rw [← hA, ← hB] at hx hy
  rw [← hA] at H1
  rw [← hB] at H2
  rw [← hA, ← hB]
  clear hA hB
  go_enter Try.func7, Try.ntmps7
  go_wp2_with fail
  refine (H1.out W).mono ?_
  rintro e w1 ⟨rfl, hb⟩
  have B1 := Lib.hid hb
  clear hb
  go_wp2_with fail
  refine (H2.out w1).mono ?_
  rintro e w2 ⟨rfl, hb⟩
  have B2 := Lib.hid (B1.out.trans (hb.mono B1.out.size))
  clear hb
  cases x <;> cases y
  all_goals
    go_wp2_with fail
    refine (awake_ok w2).mono ?_
    rintro e w3 ⟨rfl, hb⟩
    have B3 := Lib.hid (B2.out.trans (hb.mono B2.out.size))
    clear hb
    go_wp2
    go_ret
    exact ⟨rfl, B3.out⟩
theorem order_nat (a b : Nat) (k : Int) (W : World) (_ha : a < 4294967296) (_hb : b < 4294967296) : Calls Try.prog 7 #[.int .u32 a, .int .u32 b, .int .i64 k] W fun e w' => e = .returned (.bool true) ∧ Below W.heap.size W w' := by
  have no : ∀ n, ¬ okPut n k → ∀ w, Calls Try.prog 8 #[.int .u32 n, .int .i64 k] w fun e w' => e = .returned (.tuple #[strV [], .int .i64 2]) ∧ Below w.heap.size w w' := fun n h w => (put_no n k h w).mono fun e w' ⟨he, hw⟩ => ⟨he, hw ▸ Below.refl _ _⟩
  by_cases h1 : okPut a k
  · by_cases h2 : okPut b k
    · have hl : (bytesOf a k.toNat).length = (bytesOf b k.toNat).length := by rw [bytesOf_length, bytesOf_length]
      refine order_yes a b k _ _ (decide (a < b)) (decide (a = b)) (by simp) (by by_cases e : a = b; (subst e; simp); (have h : ¬ (a : Int) = b := by omega); simp [e, h]) ?_ ?_ W (put_yes a k h1) (put_yes b k h2)
      · rw [bytesLess_num _ _ hl, numOf_bytesOf _ _ h1.2, numOf_bytesOf _ _ h2.2]
      · by_cases e : a = b
        · simp [e]
        · have : ¬ bytesOf a k.toNat = bytesOf b k.toNat := fun h => e (by rw [← numOf_bytesOf _ _ h1.2, h, numOf_bytesOf _ _ h2.2])
          simp [e, this]
    · exact order_no2 a b k _ W (put_yes a k h1) _ 2 rfl (no b h2)
  · by_cases h2 : okPut b k
    · exact order_no1 a b k 2 rfl _ W (no a h1) _ 0 (put_yes b k h2)
    · exact order_no1 a b k 2 rfl _ W (no a h1) _ 2 (no b h2)
theorem octetOrder_walk (a b k : Int) (W : World) (ha : 0 ≤ a ∧ a ≤ 4294967295) (hb : 0 ≤ b ∧ b ≤ 4294967295) (_hk : -9223372036854775808 ≤ k ∧ k ≤ 9223372036854775807) : Calls Try.prog 7 #[.int .u32 a, .int .u32 b, .int .i64 k] W fun e w' => e = .returned (.bool true) ∧ Below W.heap.size W w' := by
  obtain ⟨m, rfl⟩ := Int.eq_ofNat_of_zero_le ha.1
  obtain ⟨n, rfl⟩ := Int.eq_ofNat_of_zero_le hb.1
  exact order_nat m n k W (by omega) (by omega)
end Go.Proofs.Ytoajgpmljelaiaa
