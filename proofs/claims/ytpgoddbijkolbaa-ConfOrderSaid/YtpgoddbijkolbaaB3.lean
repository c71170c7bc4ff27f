/- The contract of the document's own Put, layer 5. No condition. -/
import Derived.Test.YtpgoddbijkolbaaB2
import Derived.Great.BuildSlice
namespace Go.Proofs.Ytpgoddbijkolbaa
open Go.RowKit
set_option maxRecDepth 100000

theorem rput_none (n k : Int) (h : ¬ okW k) (w : World) : Calls Try.prog 79 #[.int .u32 n, .int .i64 k] w fun e w' => e = .returned (.tuple #[strV [], .int .i64 2]) ∧ w = w' := by
  unfold okW at h
  by_cases h1 : k < 1
  · clear h
    go_enter Try.func79, Try.ntmps79
    go_wp2
    go_ret2
    exact ⟨rfl, rfl⟩
  · have h2 : 4 < k := by omega
    clear h
    go_enter Try.func79, Try.ntmps79
    go_wp2
    go_ret2
    exact ⟨rfl, rfl⟩

theorem one_byte (q : Nat) (w : World) (c : Nat) : (convert 64 9 (.slice (some ⟨w.heap.size, 0, none⟩) 1 c)).run Try.prog (w.alloc (.cells #[.int .u8 ((q : Int) % 256)] 5)) = .ok (strV [UInt8.ofNat (q % 256)]) (w.alloc (.cells #[.int .u8 ((q : Int) % 256)] 5)) := by
  have := run_convert_bytes_arg (P := Try.prog) (w.alloc (.cells #[.int .u8 ((q : Int) % 256)] 5)) _ _ Try.underlying64 Try.underlying5 w.heap.size 0 1 c [(q : Int) % 256] rfl (fun i hi => by
    obtain rfl : i = 0 := by omega
    rw [cell_of_row _ _ _ _ _ _ (heap_alloc_new w _)]; rfl) _ Try.underlying9
  rw [this]
  have e : ((q : Int) % 256).toNat = q % 256 := by omega
  simp [strOfNums, e]
theorem str_add (l m : List UInt8) (h : l.length + m.length ≤ 1000000) (w : World) : (Op.stringOp .add ⟨l.toArray⟩ ⟨m.toArray⟩).run Try.prog w = .ok (strV (l ++ m)) w :=
  run_string_add_lists w l m (by omega) (by omega)
def RPutRel (w : World) (k m : Nat) (s n i : Value) (wr : World) : Prop := ∃ j : Nat, j ≤ k ∧ i = .int .i64 (j : Int) ∧ n = .int .u32 ((m / 256 ^ j : Nat) : Int) ∧ s = strV (bytesOf m j) ∧ Below w.heap.size w wr
set_option maxHeartbeats 1000000 in
theorem rput_ok (m k : Nat) (w : World) (h1 : 1 ≤ k) (h2 : k ≤ 4) (hm : m < 4294967296) (a : Value)
    (ha : (m / 256 ^ k ≠ 0 → a = .tuple #[strV [], .int .i64 2]) ∧ (m / 256 ^ k = 0 → a = .tuple #[strV (bytesOf m k), .int .i64 0])) :
    Calls Try.prog 79 #[.int .u32 m, .int .i64 k] w fun e w' => e = .returned a ∧ Below w.heap.size w w' := by
  have HM := Lib.hid hm
  have HA := Lib.hid ha
  clear hm ha
  go_enter Try.func79, Try.ntmps79
  go_wp2
  go_loopw [6, 7, 8] (fun s n i wr => RPutRel w k m s n i wr) (fun _ _ i _ => k - (intOf i).toNat)
  case atStart => exact ⟨0, by omega, rfl, by simp, rfl, Below.refl _ _⟩
  case round =>
    obtain ⟨j, hj, rfl, rfl, rfl, hB⟩ := hrel
    have HB := Lib.hid hB
    clear hB
    obtain ⟨q, hq⟩ : ∃ q, q = m / 256 ^ j := ⟨_, rfl⟩
    rw [← hq]
    have HQ := Lib.hid hq
    have q1 : q < 4294967296 := by rw [hq]; exact Nat.lt_of_le_of_lt (Nat.div_le_self _ _) HM.out
    clear hq
    by_cases hlt : j < k
    · have hb := one_byte q wr
      have ha := str_add [UInt8.ofNat (q % 256)] (bytesOf m j) (by rw [bytesOf_length]; simp; omega)
      have hl := bytesOf_length m j
      go_wp2
      go_roundw
      case rel => exact ⟨j + 1, by omega, by go_num, by rw [show m / 256 ^ (j + 1) = q / 256 by rw [HQ.out, Nat.div_div_eq_div_mul, Nat.pow_succ]]; go_num, by rw [bytesOf_cons, ← HQ.out], HB.out.alloc HB.out.size _⟩
      case measure => simp [intOf]; omega
    · obtain rfl : j = k := by omega
      by_cases hz : q = 0
      · have e := HA.out.2 (by rw [← HQ.out]; exact hz)
        subst e
        subst hz
        go_wp2
        go_ret2
        exact ⟨rfl, HB.out⟩
      · have e := HA.out.1 (by rw [← HQ.out]; exact hz)
        subst e
        go_wp2
        go_ret2
        exact ⟨rfl, HB.out⟩
theorem rput_yes (n : Nat) (k : Int) (h : okPut n k) (w : World) : Calls Try.prog 79 #[.int .u32 n, .int .i64 k] w fun e w' => e = .returned (.tuple #[strV (bytesOf n k.toNat), .int .i64 0]) ∧ Below w.heap.size w w' := by
  obtain ⟨⟨h1, h2⟩, h3⟩ := h
  obtain ⟨j, rfl⟩ := Int.eq_ofNat_of_zero_le (show 0 ≤ k by omega)
  have h3 : n < 256 ^ j := h3
  exact rput_ok n j w (by omega) (by omega) (Nat.lt_of_lt_of_le h3 (Nat.le_trans (Nat.pow_le_pow_right (by decide) (show j ≤ 4 by omega)) (by decide))) _ ⟨fun h => absurd (Nat.div_eq_of_lt h3) h, fun _ => rfl⟩
theorem rput_no (n : Nat) (k : Int) (hn : n < 4294967296) (h : ¬ okPut n k) (w : World) : Calls Try.prog 79 #[.int .u32 n, .int .i64 k] w fun e w' => e = .returned (.tuple #[strV [], .int .i64 2]) ∧ Below w.heap.size w w' := by
  by_cases h1 : okW k
  · have h2 : ¬ n < 256 ^ k.toNat := fun e => h ⟨h1, e⟩
    obtain ⟨h3, h4⟩ := h1
    obtain ⟨j, rfl⟩ := Int.eq_ofNat_of_zero_le (show 0 ≤ k by omega)
    have h2 : 256 ^ j ≤ n := Nat.le_of_not_lt h2
    exact rput_ok n j w (by omega) (by omega) hn _ ⟨fun _ => rfl, fun h => by
      have := (Nat.div_eq_zero_iff_lt (Nat.pow_pos (by decide))).1 h
      omega⟩
  · exact (rput_none n k h1 w).mono fun e w' ⟨he, hw⟩ => ⟨he, hw ▸ Below.refl _ _⟩
end Go.Proofs.Ytpgoddbijkolbaa
