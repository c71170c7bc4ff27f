/- The contracts of package octet's number, comes, Num, Text. Condition: the reader lies as New laid it, or is spoilt, or there is none. -/
import Derived.Test.YtpgoddbijkolbaaB4
import Derived.Laws.BitsAllLaws
namespace Go.Proofs.Ytpgoddbijkolbaa
open Go.RowKit
set_option maxRecDepth 100000

/-- The reader's way to take bytes. -/
abbrev takerV (p : Option Addr) : Value := .func (.func 84) #[.pointer p] #[]
theorem number_none (p : Option Addr) (k : Int) (w : World) (P : World → Prop) (h : Calls Try.prog 84 #[.pointer p, .int .i64 k] w fun e w' => e = .returned (.tuple #[.slice none 0 0, .bool false]) ∧ P w') :
    Calls Try.prog 83 #[takerV p, .int .i64 k] w fun e w' => e = .returned (.int .u32 0) ∧ P w' := by
  have H := Lib.hid h
  clear h
  go_enter Try.func83, Try.ntmps83
  go_wp2_with fail
  refine H.out.mono ?_
  rintro e w' ⟨rfl, hP⟩
  have HP := Lib.hid hP
  clear hP
  go_wp2
  go_loop [7, 18] (fun n i => n = .int .u32 0 ∧ i = .int .i64 0) (fun _ _ => 0)
  case atStart => exact ⟨rfl, rfl⟩
  case round =>
    obtain ⟨rfl, rfl⟩ := hrel
    go_wp2
    go_ret
    exact ⟨rfl, HP.out⟩
theorem or_byte (q y : Nat) (hq : q < 16777216) (hy : y < 256) : bits BinOp.or IntKind.u32 ((q : Int) * 256) (y : Int) = ((q * 256 + y : Nat) : Int) := by
  have e : (q : Int) * 256 = ((q * 256 : Nat) : Int) := by omega
  rw [e, u32_or_nat _ _ (by omega) (by omega)]
  have := Nat.two_pow_add_eq_or_of_lt (show y < 2 ^ 8 by omega) q
  rw [Nat.mul_comm (2 ^ 8) q] at this
  rw [show q * 256 = q * 2 ^ 8 by omega, ← this]
def NumPost (w : World) (b k : Nat) (l : List UInt8) (e : Ending) (w' : World) : Prop := e = .returned (.int .u32 (numOf (l.take k) : Int)) ∧ Rd w' b (some (l.drop k)) ∧ w.grownBy w' (some b)
theorem take_snoc5 (l : List UInt8) (j : Nat) (h : j < l.length) : l.take (j + 1) = l.take j ++ [l.getD j 0] := by
  rw [List.take_succ_eq_append_getElem h]
  simp [List.getD_eq_getElem?_getD, h]
set_option maxHeartbeats 800000 in
theorem number_yes (b k : Nat) (l : List UInt8) (w : World) (h : Rd w b (some l)) (hk : k ≤ l.length) (h4 : k ≤ 4) :
    Calls Try.prog 83 #[takerV (some ⟨b, 0, none⟩), .int .i64 k] w (NumPost w b k l) := by
  have H := Lib.hid h
  clear h
  go_enter Try.func83, Try.ntmps83
  go_wp2_with fail
  refine (take_yes b k l w H.out hk).mono ?_
  rintro e w' ⟨g, o, c, rfl, hR, hg, hb⟩
  have HR := Lib.hid hR
  have HG := Lib.hid hg
  have HB := Lib.hid hb
  clear hR hg hb
  go_wp2
  go_loop [7, 18] (fun n i => ∃ j : Nat, j ≤ k ∧ n = .int .u32 (numOf (l.take j) : Int) ∧ i = .int .i64 (j : Int)) (fun _ i => k - (intOf i).toNat)
  case atStart => exact ⟨0, by omega, rfl, rfl⟩
  case round =>
    obtain ⟨j, hj, rfl, rfl⟩ := hrel
    by_cases hlt : j < k
    · have c1 := HB.out j (by simp; omega)
      rw [show (l.take k).getD j 0 = l.getD j 0 by simp [List.getD_eq_getElem?_getD, hlt]] at c1
      have hq := numOf_lt (l.take j)
      have hy := byte_lt (l.getD j 0)
      have HS := Lib.hid (take_snoc5 l j (by omega))
      obtain ⟨q, eq⟩ : ∃ q, q = numOf (l.take j) := ⟨_, rfl⟩
      obtain ⟨y, ey⟩ : ∃ y, y = l.getD j 0 := ⟨_, rfl⟩
      rw [← eq] at hq ⊢
      rw [← ey] at c1 hy
      have q1 : q < 16777216 := by
        refine Nat.lt_of_lt_of_le hq (Nat.le_trans (Nat.pow_le_pow_right (by decide) (show (l.take j).length ≤ 3 by simp; omega)) (by decide))
      have EQ := Lib.hid eq
      have EY := Lib.hid ey
      clear eq ey hq
      go_wp2
      go_round
      case rel => exact ⟨j + 1, by omega, by rw [or_byte q _ q1 hy, HS.out, numOf_snoc, ← EQ.out, ← EY.out], by go_num⟩
      case measure => simp [intOf]; omega
    · obtain rfl : j = k := by omega
      clear hlt hj
      go_wp2
      go_ret
      exact ⟨rfl, HR.out, HG.out⟩

theorem comes_none (p : Option Addr) (t : List UInt8) (w : World) (P : World → Prop) (h : Calls Try.prog 84 #[.pointer p, .int .i64 t.length] w fun e w' => e = .returned (.tuple #[.slice none 0 0, .bool false]) ∧ P w') :
    Calls Try.prog 85 #[takerV p, strV t] w fun e w' => e = .returned (.bool false) ∧ P w' := by
  have H := Lib.hid h
  have hs : (ByteArray.mk t.toArray).size = t.length := by simp [ByteArray.size]
  clear h
  go_enter Try.func85, Try.ntmps85
  go_wp2_with fail
  refine H.out.mono ?_
  rintro e w' ⟨rfl, hP⟩
  have HP := Lib.hid hP
  clear hP
  go_wp2
  go_ret
  exact ⟨rfl, HP.out⟩
def ComesPost (w : World) (b : Nat) (l t : List UInt8) (e : Ending) (w' : World) : Prop := e = .returned (.bool (l.take t.length == t)) ∧ Rd w' b (some (l.drop t.length)) ∧ w.grownBy w' (some b)
theorem comes_yes (b : Nat) (l t : List UInt8) (w : World) (h : Rd w b (some l)) (hk : t.length ≤ l.length) :
    Calls Try.prog 85 #[takerV (some ⟨b, 0, none⟩), strV t] w (ComesPost w b l t) := by
  have H := Lib.hid h
  have hs : (ByteArray.mk t.toArray).size = t.length := by simp [ByteArray.size]
  clear h
  go_enter Try.func85, Try.ntmps85
  go_wp2_with fail
  refine (take_yes b t.length l w H.out hk).mono ?_
  rintro e w' ⟨g, o, c, rfl, hR, hg, hb⟩
  have HR := Lib.hid hR
  have HG := Lib.hid hg
  have hc := hb.str (k := t.length) (c := c) (by simp; omega)
  clear hR hg hb
  go_wp2
  go_ret
  exact ⟨rfl, HR.out, HG.out⟩
end Go.Proofs.Ytpgoddbijkolbaa
