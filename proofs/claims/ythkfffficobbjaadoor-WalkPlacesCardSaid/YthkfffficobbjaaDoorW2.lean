/- The contracts of the helpers take, at and one of package word: what stands in a field, a field as a word, a bool as a number. Conditions: the two tables read as laid; the word is a word, the number fits its field. -/
import Derived.Test.YthkfffficobbjaaDoorW1
namespace Go.Proofs.YthkfffficobbjaaDoor
open Go.RowKit

theorem and_field (a l n : Nat) : a &&& ((2 ^ n - 1) <<< l) = (a / 2 ^ l % 2 ^ n) * 2 ^ l := by
  rw [← Nat.shiftLeft_eq, ← Nat.shiftRight_eq_div_pow]
  apply Nat.eq_of_testBit_eq
  intro i
  simp only [Nat.testBit_and, Nat.testBit_shiftLeft, Nat.testBit_two_pow_sub_one, Nat.testBit_mod_two_pow, Nat.testBit_shiftRight]
  by_cases h : l ≤ i
  · have e : l + (i - l) = i := by omega
    simp [h, e, Bool.and_comm]
  · simp [h]

theorem mask_0 (a : Int) (h0 : 0 ≤ a) (h1 : a < 4294967296) : bits BinOp.and IntKind.u32 a 1 = (a / 1 % 2) * 1 := by
  obtain ⟨A, rfl⟩ := Int.eq_ofNat_of_zero_le h0
  rw [u32_and (A : Int) 1 h0 h1 (by omega) (by omega)]
  have := and_field A 0 1
  simp only [show ((2 ^ 1 - 1) <<< 0 : Nat) = 1 from by decide, show (2 ^ 0 : Nat) = 1 from by decide, show (2 ^ 1 : Nat) = 2 from by decide] at this
  simp only [Int.toNat_natCast, show ((1 : Int).toNat) = 1 from rfl, this]
  omega
set_option maxHeartbeats 400000 in
theorem take_0 (a : Int) (w : World) (h0 : 0 ≤ a) (h1 : a < 4294967296) (h : LaidW w) : Calls Tryd.prog 44 #[.int .u32 a, .int .i64 0] w fun e w' => e = .returned (.int .i64 (a / 1 % 2)) ∧ ∃ n, w' = w.drewN n := by
  have hm := h.m0
  have hb := mask_0 a h0 h1
  have y0 : 0 ≤ a / 1 % 2 := by omega
  have y1 : a / 1 % 2 < 2 := by omega
  generalize a / 1 % 2 = y at *
  have H := Lib.hid h
  clear h
  go_enter Tryd.func44, Tryd.ntmps44
  go_wp2
  go_quiet ((go_at_call 47; exact Calls.quiet_of_same (low_0 _ (H.out.of_cells (fun _ _ _ => rfl)))))
  go_wp2
  go_ret
  exact ⟨rfl, _, rfl⟩

theorem mask_1 (a : Int) (h0 : 0 ≤ a) (h1 : a < 4294967296) : bits BinOp.and IntKind.u32 a 2 = (a / 2 % 2) * 2 := by
  obtain ⟨A, rfl⟩ := Int.eq_ofNat_of_zero_le h0
  rw [u32_and (A : Int) 2 h0 h1 (by omega) (by omega)]
  have := and_field A 1 1
  simp only [show ((2 ^ 1 - 1) <<< 1 : Nat) = 2 from by decide, show (2 ^ 1 : Nat) = 2 from by decide] at this
  simp only [Int.toNat_natCast, show ((2 : Int).toNat) = 2 from rfl, this]
  omega
set_option maxHeartbeats 400000 in
theorem take_1 (a : Int) (w : World) (h0 : 0 ≤ a) (h1 : a < 4294967296) (h : LaidW w) : Calls Tryd.prog 44 #[.int .u32 a, .int .i64 1] w fun e w' => e = .returned (.int .i64 (a / 2 % 2)) ∧ ∃ n, w' = w.drewN n := by
  have hm := h.m1
  have hb := mask_1 a h0 h1
  have y0 : 0 ≤ a / 2 % 2 := by omega
  have y1 : a / 2 % 2 < 2 := by omega
  generalize a / 2 % 2 = y at *
  have H := Lib.hid h
  clear h
  go_enter Tryd.func44, Tryd.ntmps44
  go_wp2
  go_quiet ((go_at_call 47; exact Calls.quiet_of_same (low_1 _ (H.out.of_cells (fun _ _ _ => rfl)))))
  go_wp2
  go_ret
  exact ⟨rfl, _, rfl⟩

theorem mask_2 (a : Int) (h0 : 0 ≤ a) (h1 : a < 4294967296) : bits BinOp.and IntKind.u32 a 4 = (a / 4 % 2) * 4 := by
  obtain ⟨A, rfl⟩ := Int.eq_ofNat_of_zero_le h0
  rw [u32_and (A : Int) 4 h0 h1 (by omega) (by omega)]
  have := and_field A 2 1
  simp only [show ((2 ^ 1 - 1) <<< 2 : Nat) = 4 from by decide, show (2 ^ 2 : Nat) = 4 from by decide, show (2 ^ 1 : Nat) = 2 from by decide] at this
  simp only [Int.toNat_natCast, show ((4 : Int).toNat) = 4 from rfl, this]
  omega
set_option maxHeartbeats 400000 in
theorem take_2 (a : Int) (w : World) (h0 : 0 ≤ a) (h1 : a < 4294967296) (h : LaidW w) : Calls Tryd.prog 44 #[.int .u32 a, .int .i64 2] w fun e w' => e = .returned (.int .i64 (a / 4 % 2)) ∧ ∃ n, w' = w.drewN n := by
  have hm := h.m2
  have hb := mask_2 a h0 h1
  have y0 : 0 ≤ a / 4 % 2 := by omega
  have y1 : a / 4 % 2 < 2 := by omega
  generalize a / 4 % 2 = y at *
  have H := Lib.hid h
  clear h
  go_enter Tryd.func44, Tryd.ntmps44
  go_wp2
  go_quiet ((go_at_call 47; exact Calls.quiet_of_same (low_2 _ (H.out.of_cells (fun _ _ _ => rfl)))))
  go_wp2
  go_ret
  exact ⟨rfl, _, rfl⟩

theorem mask_3 (a : Int) (h0 : 0 ≤ a) (h1 : a < 4294967296) : bits BinOp.and IntKind.u32 a 261888 = (a / 256 % 1024) * 256 := by
  obtain ⟨A, rfl⟩ := Int.eq_ofNat_of_zero_le h0
  rw [u32_and (A : Int) 261888 h0 h1 (by omega) (by omega)]
  have := and_field A 8 10
  simp only [show ((2 ^ 10 - 1) <<< 8 : Nat) = 261888 from by decide, show (2 ^ 8 : Nat) = 256 from by decide, show (2 ^ 10 : Nat) = 1024 from by decide] at this
  simp only [Int.toNat_natCast, show ((261888 : Int).toNat) = 261888 from rfl, this]
  omega
set_option maxHeartbeats 400000 in
theorem take_3 (a : Int) (w : World) (h0 : 0 ≤ a) (h1 : a < 4294967296) (h : LaidW w) : Calls Tryd.prog 44 #[.int .u32 a, .int .i64 3] w fun e w' => e = .returned (.int .i64 (a / 256 % 1024)) ∧ ∃ n, w' = w.drewN n := by
  have hm := h.m3
  have hb := mask_3 a h0 h1
  have y0 : 0 ≤ a / 256 % 1024 := by omega
  have y1 : a / 256 % 1024 < 1024 := by omega
  generalize a / 256 % 1024 = y at *
  have H := Lib.hid h
  clear h
  go_enter Tryd.func44, Tryd.ntmps44
  go_wp2
  go_quiet ((go_at_call 47; exact Calls.quiet_of_same (low_3 _ (H.out.of_cells (fun _ _ _ => rfl)))))
  go_wp2
  go_ret
  exact ⟨rfl, _, rfl⟩

theorem mask_4 (a : Int) (h0 : 0 ≤ a) (h1 : a < 4294967296) : bits BinOp.and IntKind.u32 a 31 = (a / 1 % 32) * 1 := by
  obtain ⟨A, rfl⟩ := Int.eq_ofNat_of_zero_le h0
  rw [u32_and (A : Int) 31 h0 h1 (by omega) (by omega)]
  have := and_field A 0 5
  simp only [show ((2 ^ 5 - 1) <<< 0 : Nat) = 31 from by decide, show (2 ^ 0 : Nat) = 1 from by decide, show (2 ^ 5 : Nat) = 32 from by decide] at this
  simp only [Int.toNat_natCast, show ((31 : Int).toNat) = 31 from rfl, this]
  omega
set_option maxHeartbeats 400000 in
theorem take_4 (a : Int) (w : World) (h0 : 0 ≤ a) (h1 : a < 4294967296) (h : LaidW w) : Calls Tryd.prog 44 #[.int .u32 a, .int .i64 4] w fun e w' => e = .returned (.int .i64 (a / 1 % 32)) ∧ ∃ n, w' = w.drewN n := by
  have hm := h.m4
  have hb := mask_4 a h0 h1
  have y0 : 0 ≤ a / 1 % 32 := by omega
  have y1 : a / 1 % 32 < 32 := by omega
  generalize a / 1 % 32 = y at *
  have H := Lib.hid h
  clear h
  go_enter Tryd.func44, Tryd.ntmps44
  go_wp2
  go_quiet ((go_at_call 47; exact Calls.quiet_of_same (low_4 _ (H.out.of_cells (fun _ _ _ => rfl)))))
  go_wp2
  go_ret
  exact ⟨rfl, _, rfl⟩

theorem mask_5 (a : Int) (h0 : 0 ≤ a) (h1 : a < 4294967296) : bits BinOp.and IntKind.u32 a 992 = (a / 32 % 32) * 32 := by
  obtain ⟨A, rfl⟩ := Int.eq_ofNat_of_zero_le h0
  rw [u32_and (A : Int) 992 h0 h1 (by omega) (by omega)]
  have := and_field A 5 5
  simp only [show ((2 ^ 5 - 1) <<< 5 : Nat) = 992 from by decide, show (2 ^ 5 : Nat) = 32 from by decide] at this
  simp only [Int.toNat_natCast, show ((992 : Int).toNat) = 992 from rfl, this]
  omega
set_option maxHeartbeats 400000 in
theorem take_5 (a : Int) (w : World) (h0 : 0 ≤ a) (h1 : a < 4294967296) (h : LaidW w) : Calls Tryd.prog 44 #[.int .u32 a, .int .i64 5] w fun e w' => e = .returned (.int .i64 (a / 32 % 32)) ∧ ∃ n, w' = w.drewN n := by
  have hm := h.m5
  have hb := mask_5 a h0 h1
  have y0 : 0 ≤ a / 32 % 32 := by omega
  have y1 : a / 32 % 32 < 32 := by omega
  generalize a / 32 % 32 = y at *
  have H := Lib.hid h
  clear h
  go_enter Tryd.func44, Tryd.ntmps44
  go_wp2
  go_quiet ((go_at_call 47; exact Calls.quiet_of_same (low_5 _ (H.out.of_cells (fun _ _ _ => rfl)))))
  go_wp2
  go_ret
  exact ⟨rfl, _, rfl⟩

theorem mask_6 (a : Int) (h0 : 0 ≤ a) (h1 : a < 4294967296) : bits BinOp.and IntKind.u32 a 31744 = (a / 1024 % 32) * 1024 := by
  obtain ⟨A, rfl⟩ := Int.eq_ofNat_of_zero_le h0
  rw [u32_and (A : Int) 31744 h0 h1 (by omega) (by omega)]
  have := and_field A 10 5
  simp only [show ((2 ^ 5 - 1) <<< 10 : Nat) = 31744 from by decide, show (2 ^ 10 : Nat) = 1024 from by decide, show (2 ^ 5 : Nat) = 32 from by decide] at this
  simp only [Int.toNat_natCast, show ((31744 : Int).toNat) = 31744 from rfl, this]
  omega
set_option maxHeartbeats 400000 in
theorem take_6 (a : Int) (w : World) (h0 : 0 ≤ a) (h1 : a < 4294967296) (h : LaidW w) : Calls Tryd.prog 44 #[.int .u32 a, .int .i64 6] w fun e w' => e = .returned (.int .i64 (a / 1024 % 32)) ∧ ∃ n, w' = w.drewN n := by
  have hm := h.m6
  have hb := mask_6 a h0 h1
  have y0 : 0 ≤ a / 1024 % 32 := by omega
  have y1 : a / 1024 % 32 < 32 := by omega
  generalize a / 1024 % 32 = y at *
  have H := Lib.hid h
  clear h
  go_enter Tryd.func44, Tryd.ntmps44
  go_wp2
  go_quiet ((go_at_call 47; exact Calls.quiet_of_same (low_6 _ (H.out.of_cells (fun _ _ _ => rfl)))))
  go_wp2
  go_ret
  exact ⟨rfl, _, rfl⟩

theorem mask_7 (a : Int) (h0 : 0 ≤ a) (h1 : a < 4294967296) : bits BinOp.and IntKind.u32 a 32736 = (a / 32 % 1024) * 32 := by
  obtain ⟨A, rfl⟩ := Int.eq_ofNat_of_zero_le h0
  rw [u32_and (A : Int) 32736 h0 h1 (by omega) (by omega)]
  have := and_field A 5 10
  simp only [show ((2 ^ 10 - 1) <<< 5 : Nat) = 32736 from by decide, show (2 ^ 5 : Nat) = 32 from by decide, show (2 ^ 10 : Nat) = 1024 from by decide] at this
  simp only [Int.toNat_natCast, show ((32736 : Int).toNat) = 32736 from rfl, this]
  omega
set_option maxHeartbeats 400000 in
theorem take_7 (a : Int) (w : World) (h0 : 0 ≤ a) (h1 : a < 4294967296) (h : LaidW w) : Calls Tryd.prog 44 #[.int .u32 a, .int .i64 7] w fun e w' => e = .returned (.int .i64 (a / 32 % 1024)) ∧ ∃ n, w' = w.drewN n := by
  have hm := h.m7
  have hb := mask_7 a h0 h1
  have y0 : 0 ≤ a / 32 % 1024 := by omega
  have y1 : a / 32 % 1024 < 1024 := by omega
  generalize a / 32 % 1024 = y at *
  have H := Lib.hid h
  clear h
  go_enter Tryd.func44, Tryd.ntmps44
  go_wp2
  go_quiet ((go_at_call 47; exact Calls.quiet_of_same (low_7 _ (H.out.of_cells (fun _ _ _ => rfl)))))
  go_wp2
  go_ret
  exact ⟨rfl, _, rfl⟩

set_option maxHeartbeats 400000 in
theorem at_0 (n : Int) (w : World) (h0 : 0 ≤ n) (h1 : n < 2) (h : LaidW w) : Calls Tryd.prog 42 #[.int .i64 0, .int .i64 n] w fun e w' => e = .returned (.int .u32 (n)) ∧ w' = w := by
  go_enter Tryd.func42, Tryd.ntmps42
  go_wp2_with (go_at_call 47; refine (low_0 _ (by exact h)).mono ?_; rintro e w' ⟨rfl, rfl⟩)
  go_ret
  exact ⟨rfl, rfl⟩

set_option maxHeartbeats 400000 in
theorem at_1 (n : Int) (w : World) (h0 : 0 ≤ n) (h1 : n < 2) (h : LaidW w) : Calls Tryd.prog 42 #[.int .i64 1, .int .i64 n] w fun e w' => e = .returned (.int .u32 ((n * 2))) ∧ w' = w := by
  go_enter Tryd.func42, Tryd.ntmps42
  go_wp2_with (go_at_call 47; refine (low_1 _ (by exact h)).mono ?_; rintro e w' ⟨rfl, rfl⟩)
  go_ret
  exact ⟨rfl, rfl⟩

set_option maxHeartbeats 400000 in
theorem at_2 (n : Int) (w : World) (h0 : 0 ≤ n) (h1 : n < 2) (h : LaidW w) : Calls Tryd.prog 42 #[.int .i64 2, .int .i64 n] w fun e w' => e = .returned (.int .u32 ((n * 4))) ∧ w' = w := by
  go_enter Tryd.func42, Tryd.ntmps42
  go_wp2_with (go_at_call 47; refine (low_2 _ (by exact h)).mono ?_; rintro e w' ⟨rfl, rfl⟩)
  go_ret
  exact ⟨rfl, rfl⟩

set_option maxHeartbeats 400000 in
theorem at_3 (n : Int) (w : World) (h0 : 0 ≤ n) (h1 : n < 1024) (h : LaidW w) : Calls Tryd.prog 42 #[.int .i64 3, .int .i64 n] w fun e w' => e = .returned (.int .u32 ((n * 256))) ∧ w' = w := by
  go_enter Tryd.func42, Tryd.ntmps42
  go_wp2_with (go_at_call 47; refine (low_3 _ (by exact h)).mono ?_; rintro e w' ⟨rfl, rfl⟩)
  go_ret
  exact ⟨rfl, rfl⟩

set_option maxHeartbeats 400000 in
theorem at_4 (n : Int) (w : World) (h0 : 0 ≤ n) (h1 : n < 32) (h : LaidW w) : Calls Tryd.prog 42 #[.int .i64 4, .int .i64 n] w fun e w' => e = .returned (.int .u32 (n)) ∧ w' = w := by
  go_enter Tryd.func42, Tryd.ntmps42
  go_wp2_with (go_at_call 47; refine (low_4 _ (by exact h)).mono ?_; rintro e w' ⟨rfl, rfl⟩)
  go_ret
  exact ⟨rfl, rfl⟩

set_option maxHeartbeats 400000 in
theorem at_7 (n : Int) (w : World) (h0 : 0 ≤ n) (h1 : n < 1024) (h : LaidW w) : Calls Tryd.prog 42 #[.int .i64 7, .int .i64 n] w fun e w' => e = .returned (.int .u32 ((n * 32))) ∧ w' = w := by
  go_enter Tryd.func42, Tryd.ntmps42
  go_wp2_with (go_at_call 47; refine (low_7 _ (by exact h)).mono ?_; rintro e w' ⟨rfl, rfl⟩)
  go_ret
  exact ⟨rfl, rfl⟩

/-- What the helper one tells. -/
def bit (b : Bool) : Int := if b then 1 else 0
theorem one_any (b : Bool) (w : World) : Calls Tryd.prog 53 #[.bool b] w fun e w' => e = .returned (.int .i64 (bit b)) ∧ w' = w := by
  cases b
  · go_enter Tryd.func53, Tryd.ntmps53
    go_wp2
    go_ret
    exact ⟨rfl, rfl⟩
  · go_enter Tryd.func53, Tryd.ntmps53
    go_wp2
    go_ret
    exact ⟨rfl, rfl⟩

end Go.Proofs.YthkfffficobbjaaDoor
