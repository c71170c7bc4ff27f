/- The contract of the document's own Num, layer 5, where the bytes are there. Condition: the reader's bytes are 2000 at most. -/
import Derived.Test.YtpgoddbijkolbaaB7
namespace Go.Proofs.Ytpgoddbijkolbaa
open Go.RowKit
set_option maxRecDepth 100000

theorem RRdAt.moved {w : World} {r a : Nat} {S : List UInt8} (m k : Nat) (h : RRdAt w r S a true) (hk : a + k ≤ S.length) : RRdL ((w.drewN m).setCell ⟨r, 1, none⟩ (.int .i64 ((a : Int) + k))) r S (some ((S.drop a).drop k)) ∧ w.grownBy ((w.drewN m).setCell ⟨r, 1, none⟩ (.int .i64 ((a : Int) + k))) (some r) := by
  refine ⟨⟨a + k, true, ⟨?_, hk, h.top⟩, by simp [stateOf, List.drop_drop]⟩, grownBy_from (b := w.drewN m) (grownBy_setCell _ _ _ _) rfl rfl rfl rfl⟩
  rw [heap_setCell_same (w.drewN m) r 1 _ _ (.int .i64 ((a : Int) + k)) h.box]
  have e : ((a : Int) + k) = ((a + k : Nat) : Int) := by omega
  rw [e]; rfl
theorem idx_str (S : List UInt8) (i : Nat) (hi : i < S.length) (W : World) : (Instr.index 9 (strV S) (.int .i64 (i : Int))).run Try.prog W = .ok (.int .u8 ((S.getD i 0).toNat : Int)) W := by
  have h : 0 ≤ (i : Int) ∧ (i : Int) < (ByteArray.mk S.toArray).size := by simp [ByteArray.size]; omega
  rw [run_index_string (P := Try.prog) W _ _ _ _ Try.underlying9, dif_pos h]
  have e : (ByteArray.mk S.toArray)[(i : Int).toNat]'(by omega) = S.getD i 0 := by
    show S.toArray[(i : Int).toNat]'_ = _
    simp [List.getD_eq_getElem?_getD, hi]
  rw [e]
def RNumRel (w : World) (S : List UInt8) (a k : Nat) (n i : Value) (wr : World) : Prop := ∃ j m : Nat, j ≤ k ∧ n = .int .u32 (numOf ((S.drop a).take j) : Int) ∧ i = .int .i64 (j : Int) ∧ wr = w.drewN m
set_option maxHeartbeats 2000000 in
theorem rnum_good (r : Nat) (S : List UInt8) (a k : Nat) (h1 : 1 ≤ k) (h2 : k ≤ 4) (h3 : a + k ≤ S.length) (w : World) (h : RRdAt w r S a true) :
    Calls Try.prog 39 #[.pointer (some ⟨r, 0, none⟩), .int .i64 k] w (RNumPostL w r S (numOf ((S.drop a).take k)) (some ((S.drop a).drop k))) := by
  have H := Lib.hid h
  have c0 := h.c0
  have c1 := h.c1
  have c2 := h.c2
  have f1 := h.fr 1
  have hl := h.le
  have ht := h.top
  have hs : (ByteArray.mk S.toArray).size = S.length := by simp [ByteArray.size]
  have d1 : decide ((k : Int) < 1) = false := by simp; omega
  have d2 : decide ((4 : Int) < (k : Int)) = false := by simp; omega
  have d3 : decide ((S.length : Int) - a < k) = false := by simp; omega
  have d4 : IntKind.i64.wrap ((S.length : Int) - a) = (S.length : Int) - a := IntWalk.i64_in _ (by omega)
  have H1 := Lib.hid h1
  have H2 := Lib.hid h2
  clear h h1 h2
  go_enter Try.func39, Try.ntmps39
  go_wp2
  go_quiet (fail)
  clear d1 d2 d3 d4
  have h2 := H2.out
  go_wp2
  go_loopw [5, 6] (fun n i wr => RNumRel w S a k n i wr) (fun _ i _ => k - (intOf i).toNat)
  case atStart => exact ⟨0, nq, by omega, rfl, rfl, rfl⟩
  case round =>
    obtain ⟨j, m, hj, rfl, rfl, rfl⟩ := hrel
    have hq := numOf_lt ((S.drop a).take j)
    by_cases hlt : j < k
    · have hx := idx_str S (a + j) (by omega)
      rw [show ((a + j : Nat) : Int) = (a : Int) + j by omega] at hx
      have hy := byte_lt (S.getD (a + j) 0)
      have HS := Lib.hid (take_snoc5 (S.drop a) j (by simp; omega))
      obtain ⟨q, eq⟩ : ∃ q, q = numOf ((S.drop a).take j) := ⟨_, rfl⟩
      obtain ⟨y, ey⟩ : ∃ y, y = S.getD (a + j) 0 := ⟨_, rfl⟩
      rw [← eq] at hq ⊢
      rw [← ey] at hx hy
      have q1 : q < 16777216 := by
        refine Nat.lt_of_lt_of_le hq (Nat.le_trans (Nat.pow_le_pow_right (by decide) (show ((S.drop a).take j).length ≤ 3 by simp; omega)) (by decide))
      have EQ := Lib.hid eq
      have EY := Lib.hid ey
      clear eq ey hq
      have d4 : IntKind.i64.wrap ((a : Int) + j) = (a : Int) + j := IntWalk.i64_in _ (by omega)
      go_wp2
      go_quiet (fail)
      go_wp2
      go_roundw
      case rel => exact ⟨j + 1, m + nq, by omega, by rw [HS.out, numOf_snoc, ← EQ.out, show (S.drop a).getD j 0 = y by rw [EY.out]; simp [List.getD_eq_getElem?_getD]]; go_num, by go_num, rfl⟩
      case measure => simp [intOf]; omega
    · obtain rfl : j = k := by omega
      clear hlt hj hq
      go_wp2
      go_ret
      exact ⟨rfl, H.out.moved m j h3⟩
theorem rnumL_ok (r : Nat) (S : List UInt8) (s : RdS) (k : Int) (a : Nat) (s' : RdS) (hs : numS s k = (a, s')) (w : World) (h : RRdL w r S s) :
    Calls Try.prog 39 #[.pointer (some ⟨r, 0, none⟩), .int .i64 k] w (RNumPostL w r S a s') := by
  obtain ⟨at_, f, h, rfl⟩ := h
  have hle := h.le
  cases f with
  | false =>
    obtain ⟨rfl, rfl⟩ := Prod.mk.inj (show (0, none) = (a, s') from hs)
    exact rnum_bad0 r S at_ k w h
  | true =>
    by_cases hk : okW k ∧ k.toNat ≤ (S.drop at_).length
    · have e : numS (stateOf S at_ true) k = (numOf ((S.drop at_).take k.toNat), some ((S.drop at_).drop k.toNat)) := by
        show numS (some (S.drop at_)) k = _
        simp only [numS]; rw [if_pos hk]
      rw [e] at hs
      obtain ⟨rfl, rfl⟩ := Prod.mk.inj hs
      obtain ⟨⟨h1, h2⟩, h3⟩ := hk
      obtain ⟨j, rfl⟩ := Int.eq_ofNat_of_zero_le (show 0 ≤ k by omega)
      rw [List.length_drop] at h3
      exact rnum_good r S at_ j (by omega) (by omega) (by have : (Int.ofNat j).toNat = j := rfl; omega) w h
    · have e : numS (stateOf S at_ true) k = (0, none) := by
        show numS (some (S.drop at_)) k = _
        simp only [numS]; rw [if_neg hk]
      rw [e] at hs
      obtain ⟨rfl, rfl⟩ := Prod.mk.inj hs
      rw [List.length_drop] at hk
      by_cases h1 : k < 1
      · exact rnum_bad1 r S at_ k h1 w h
      · by_cases h2 : 4 < k
        · exact rnum_bad2 r S at_ k (by omega) h2 w h
        · exact rnum_bad3 r S at_ k (by omega) (by omega) (by unfold okW at hk; omega) w h
theorem rnum_ok (r : Nat) (s : RdS) (k : Int) (a : Nat) (s' : RdS) (hs : numS s k = (a, s')) (w : World) (h : RRd w r s) :
    Calls Try.prog 39 #[.pointer (some ⟨r, 0, none⟩), .int .i64 k] w (RNumPost w r a s') := by
  obtain ⟨S, at_, f, h, e⟩ := h
  exact (rnumL_ok r S s k a s' hs w ⟨at_, f, h, e⟩).mono fun e w' ⟨h1, h2, h3⟩ => ⟨h1, h2.weak, h3⟩
end Go.Proofs.Ytpgoddbijkolbaa
