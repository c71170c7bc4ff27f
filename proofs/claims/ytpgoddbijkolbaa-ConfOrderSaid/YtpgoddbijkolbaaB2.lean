/- The contracts of package octet's isWidth, fits, Put. No condition. -/
import Derived.Test.YtpgoddbijkolbaaB1
namespace Go.Proofs.Ytpgoddbijkolbaa
open Go.RowKit
set_option maxRecDepth 100000

theorem ret_bool {a b : Bool} (h : a = b) : Ending.returned (.bool a) = .returned (.bool b) := by rw [h]
/-- There is such a width. -/
def okW (k : Int) : Prop := 1 ≤ k ∧ k ≤ 4
theorem isWidth_yes (k : Int) (h : okW k) (w : World) : Calls Try.prog 81 #[.int .i64 k] w fun e w' => e = .returned (.bool true) ∧ w = w' := by
  obtain ⟨h1, h2⟩ := h
  go_enter Try.func81, Try.ntmps81
  go_wp2
  go_ret
  exact ⟨rfl, rfl⟩
theorem isWidth_no (k : Int) (h : ¬ okW k) (w : World) : Calls Try.prog 81 #[.int .i64 k] w fun e w' => e = .returned (.bool false) ∧ w = w' := by
  unfold okW at h
  by_cases h1 : 1 ≤ k
  · have h2 : ¬ k ≤ 4 := by omega
    clear h
    go_enter Try.func81, Try.ntmps81
    go_wp2
    go_ret
    exact ⟨rfl, rfl⟩
  · clear h
    go_enter Try.func81, Try.ntmps81
    go_wp2
    go_ret
    exact ⟨rfl, rfl⟩

theorem fits_none (n k : Int) (h : ¬ okW k) (w : World) : Calls Try.prog 77 #[.int .u32 n, .int .i64 k] w fun e w' => e = .returned (.bool false) ∧ w = w' := by
  go_enter Try.func77, Try.ntmps77
  go_wp2_with (go_at_call 81; refine (isWidth_no k h _).mono ?_; rintro e w' ⟨rfl, rfl⟩)
  go_ret
  exact ⟨rfl, rfl⟩
theorem fits_yes (n : Int) (k : Nat) (h1 : 1 ≤ k) (h2 : k ≤ 4) (_h0 : 0 ≤ n) (hn : n < 256 ^ k) (w : World) : Calls Try.prog 77 #[.int .u32 n, .int .i64 k] w fun e w' => e = .returned (.bool true) ∧ w = w' := by
  have hk : k = 1 ∨ k = 2 ∨ k = 3 ∨ k = 4 := by omega
  clear h1 h2
  rcases hk with rfl | rfl | rfl | rfl
  all_goals
    simp at hn
    go_enter Try.func77, Try.ntmps77
    go_wp2_with (go_at_call 81; refine (isWidth_yes _ ⟨by decide, by decide⟩ _).mono ?_; rintro e w' ⟨rfl, rfl⟩)
    go_ret
    exact ⟨ret_bool (by simp; omega), rfl⟩
theorem fits_no (n : Int) (k : Nat) (h1 : 1 ≤ k) (h2 : k ≤ 4) (hn : ¬ n < 256 ^ k) (w : World) : Calls Try.prog 77 #[.int .u32 n, .int .i64 k] w fun e w' => e = .returned (.bool false) ∧ w = w' := by
  have hk : k = 1 ∨ k = 2 ∨ k = 3 ∨ k = 4 := by omega
  clear h1 h2
  rcases hk with rfl | rfl | rfl | rfl
  all_goals
    simp at hn
    go_enter Try.func77, Try.ntmps77
    go_wp2_with (go_at_call 81; refine (isWidth_yes _ ⟨by decide, by decide⟩ _).mono ?_; rintro e w' ⟨rfl, rfl⟩)
    go_ret
    exact ⟨ret_bool (by simp; omega), rfl⟩

/-- A row of bytes lies in a block of its own; all below B is as it was. -/
structure ByteRow (B : Nat) (W w : World) (b : Nat) (l : List UInt8) : Prop where
  row : w.heap[b]? = some (.cells (bytesV l) 5 (0, 0))
  below : Below B W w
  le : B ≤ b
theorem ByteRow.cell {B : Nat} {W w : World} {b : Nat} {l : List UInt8} (h : ByteRow B W w b l) (i : Nat) (hi : i < l.length) : w.cell? ⟨b, i, none⟩ = some (.int .u8 ((l.getD i 0).toNat : Int)) := by
  rw [cell_of_row w b _ _ _ _ h.row]; exact bytesV_get l i hi
theorem ByteRow.fr {B : Nat} {W w : World} {b : Nat} {l : List UInt8} (h : ByteRow B W w b l) (i : Nat) : w.frozen? ⟨b, i, none⟩ = false := frozen_of_row w b i _ _ h.row
theorem ByteRow.set {B : Nat} {W w : World} {b : Nat} {l : List UInt8} (h : ByteRow B W w b l) (i : Nat) (c : UInt8) : ByteRow B W (w.setCell ⟨b, i, none⟩ (.int .u8 (c.toNat : Int))) b (l.set i c) := by
  refine ⟨?_, h.below.setCell (p := ⟨b, i, none⟩) h.le _, h.le⟩
  rw [heap_setCell_same w b i _ _ _ h.row, bytesV_set]
theorem ByteRow.drew {B : Nat} {W w : World} {b : Nat} {l : List UInt8} (h : ByteRow B W w b l) : ByteRow B W w.drew b l := ⟨h.row, h.below.drew, h.le⟩
theorem ByteRow.str {B : Nat} {W w : World} {b k c : Nat} {l : List UInt8} (h : ByteRow B W w b l) (hk : l.length = k) : (convert 64 9 (.slice (some ⟨b, 0, none⟩) k c)).run Try.prog w = .ok (.string ⟨l.toArray⟩) w := by
  subst hk
  exact run_convert_bytes_back w _ _ _ _ c l Try.underlying64 Try.underlying5 Try.underlying9 fun j hj => by
    have := h.cell j hj
    rw [show (⟨b, 0, none⟩ : Addr).add j = ⟨b, j, none⟩ by unfold Addr.add; split <;> simp_all]
    simpa [List.getD_eq_getElem?_getD, hj] using this
theorem made_bytes (n : Nat) : madeCells #[.int .u8 0] n = bytesV (List.replicate n 0) := by
  apply Array.ext
  · simp [size_madeCells, bytesV]
  · intro i h1 h2
    have h3 : i % 1 = 0 := Nat.mod_one i
    simp [madeCells, bytesV, h3]
theorem byteInfo : (Try.prog.info? 5).map (fun i => (i.zero, i.size, i.bytes)) = some (some (.int .u8 0), 1, 1) := by kernel_rfl
theorem make_bytes (n : Nat) (hn : n ≤ 1000000) (w : World) : (Instr.makeSlice 64 (.int .i64 (n : Int)) (.int .i64 (n : Int))).run Try.prog w = .ok (.slice (some ⟨w.heap.size, 0, none⟩) n n) (w.alloc (.cells (bytesV (List.replicate n 0)) 5)) := by
  have h := byteInfo
  cases hq : Try.prog.info? 5 with
  | none => rw [hq] at h; cases h
  | some i =>
    rw [hq] at h
    simp only [Option.map_some, Option.some.injEq, Prod.mk.injEq] at h
    obtain ⟨h1, h2, h3⟩ := h
    have := run_make (P := Try.prog) w 64 5 i _ Try.underlying64 hq h1 .i64 .i64 n n (by omega) (by omega) (by rw [h3]; omega) (by omega)
    rw [h2] at this
    simpa [Value.cells, made_bytes] using this

theorem put_err (n k : Int) (w : World) (hf : ∀ W, Calls Try.prog 77 #[.int .u32 n, .int .i64 k] W fun e w' => e = .returned (.bool false) ∧ W = w') : Calls Try.prog 43 #[.int .u32 n, .int .i64 k] w fun e w' => e = .returned (.tuple #[strV [], .int .i64 2]) ∧ w = w' := by
  go_enter Try.func43, Try.ntmps43
  go_wp2_with (go_at_call 77; refine (hf _).mono ?_; rintro e w' ⟨rfl, rfl⟩)
  go_ret2
  exact ⟨rfl, rfl⟩
theorem puts_next (m k j i : Nat) (h : k = i + 1 + j) : (List.replicate (k - j) 0 ++ bytesOf m j).set i (UInt8.ofNat (m / 256 ^ j % 256)) = List.replicate (k - (j + 1)) 0 ++ bytesOf m (j + 1) := by
  subst h
  rw [bytesOf_cons, show i + 1 + j - j = i + 1 by omega, show i + 1 + j - (j + 1) = i by omega, List.replicate_succ', List.append_assoc, List.set_append_right _ _ (by simp)]
  simp
def PutRel (w : World) (b k m : Nat) (i n : Value) (wr : World) : Prop := ∃ j : Nat, j ≤ k ∧ i = .int .i64 ((k : Int) - 1 - j) ∧ n = .int .u32 ((m / 256 ^ j : Nat) : Int) ∧ ByteRow w.heap.size w wr b (List.replicate (k - j) 0 ++ bytesOf m j)
set_option maxHeartbeats 1000000 in
theorem put_ok (m k : Nat) (w : World) (h1 : 1 ≤ k) (h2 : k ≤ 4) (hm : m < 256 ^ k) : Calls Try.prog 43 #[.int .u32 m, .int .i64 k] w fun e w' => e = .returned (.tuple #[strV (bytesOf m k), .int .i64 0]) ∧ Below w.heap.size w w' := by
  have hmk := make_bytes k (by omega)
  have HF := Lib.hid (fun W => fits_yes m k h1 h2 (by omega) (by exact_mod_cast hm) W)
  have HM : Hid (m < 4294967296) := Lib.hid (Nat.lt_of_lt_of_le hm (Nat.le_trans (Nat.pow_le_pow_right (by decide) h2) (by decide)))
  clear hm
  go_enter Try.func43, Try.ntmps43
  go_wp2_with (go_at_call 77; refine (HF.out _).mono ?_; rintro e w' ⟨rfl, rfl⟩)
  have R0 : Hid (ByteRow w.heap.size w (w.alloc (.cells (bytesV (List.replicate k 0)) 5)) w.heap.size (List.replicate (k - 0) 0 ++ bytesOf m 0)) := Lib.hid ⟨by simp only [bytesOf, List.append_nil, Nat.sub_zero]; exact heap_alloc_new w _, (Below.refl _ _).alloc (Nat.le_refl _) _, Nat.le_refl _⟩
  go_loopw [7, 0] (fun i n wr => PutRel w w.heap.size k m i n wr) (fun i _ _ => (intOf i + 1).toNat)
  case atStart => exact ⟨0, by omega, by go_num, by simp, R0.out⟩
  case round =>
    obtain ⟨j, hj, rfl, rfl, hR⟩ := hrel
    have HR := Lib.hid hR
    clear hR
    by_cases hlt : j < k
    · obtain ⟨i, hi⟩ : ∃ i : Nat, k = i + 1 + j := ⟨k - 1 - j, by omega⟩
      have e1 : (k : Int) - 1 - j = (i : Int) := by omega
      rw [e1]
      have HI := Lib.hid hi
      obtain ⟨q, hq⟩ : ∃ q, q = m / 256 ^ j := ⟨_, rfl⟩
      rw [← hq]
      have HQ := Lib.hid hq
      have c1 := HR.out.cell i (by simp [bytesOf_length]; omega)
      have f1 := HR.out.fr i
      have q1 : q < 4294967296 := by rw [hq]; exact Nat.lt_of_le_of_lt (Nat.div_le_self _ _) HM.out
      have hik : i < k := by omega
      clear hi hq e1
      go_wp2
      go_roundw
      case rel =>
        have := HR.out.set i (UInt8.ofNat (q % 256))
        rw [show ((UInt8.ofNat (q % 256)).toNat : Int) = (q : Int) % 256 by simp, HQ.out, puts_next m k j i HI.out, ← HQ.out] at this
        exact ⟨j + 1, by omega, by rw [show ((k : Int) - 1 - (j + 1 : Nat)) = (i : Int) - 1 by have := HI.out; omega], by rw [show m / 256 ^ (j + 1) = q / 256 by rw [HQ.out, Nat.div_div_eq_div_mul, Nat.pow_succ]]; go_num, this⟩
      case measure => simp [intOf]
    · obtain rfl : j = k := by omega
      have R2 : Hid (ByteRow w.heap.size w wr w.heap.size (bytesOf m j)) := Lib.hid (by simpa using HR.out)
      have hc := R2.out.str (c := j) (bytesOf_length m j)
      rw [show ((j : Int) - 1 - j) = -1 by omega]
      clear hlt hj
      go_wp2
      go_ret2
      exact ⟨rfl, R2.out.below⟩
/-- What Put answers. -/
def okPut (n : Nat) (k : Int) : Prop := okW k ∧ n < 256 ^ k.toNat
theorem put_yes (n : Nat) (k : Int) (h : okPut n k) (w : World) : Calls Try.prog 43 #[.int .u32 n, .int .i64 k] w fun e w' => e = .returned (.tuple #[strV (bytesOf n k.toNat), .int .i64 0]) ∧ Below w.heap.size w w' := by
  obtain ⟨⟨h1, h2⟩, h3⟩ := h
  obtain ⟨j, rfl⟩ := Int.eq_ofNat_of_zero_le (show 0 ≤ k by omega)
  exact put_ok n j w (by omega) (by omega) h3
theorem put_no (n : Nat) (k : Int) (h : ¬ okPut n k) (w : World) : Calls Try.prog 43 #[.int .u32 n, .int .i64 k] w fun e w' => e = .returned (.tuple #[strV [], .int .i64 2]) ∧ w = w' := by
  refine put_err n k w fun W => ?_
  by_cases h1 : okW k
  · have h2 : ¬ n < 256 ^ k.toNat := fun e => h ⟨h1, e⟩
    obtain ⟨h3, h4⟩ := h1
    obtain ⟨j, rfl⟩ := Int.eq_ofNat_of_zero_le (show 0 ≤ k by omega)
    exact fits_no n j (by omega) (by omega) (fun e => h2 (by exact_mod_cast e)) W
  · exact fits_none n k h1 W
end Go.Proofs.Ytpgoddbijkolbaa
