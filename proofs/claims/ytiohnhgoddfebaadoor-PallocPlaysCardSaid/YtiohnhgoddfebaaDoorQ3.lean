/- The contracts of package pick's Put, Drop, Has. Condition: the set lies as New laid it, or there is none, or nobody made it. -/
import Derived.Test.YtiohnhgoddfebaaDoorQ2
namespace Go.Proofs.YtiohnhgoddfebaaDoor
open Go.RowKit
set_option maxRecDepth 100000

/-- A set has become another one, and nothing else that was there has changed. -/
structure Turn (w w' : World) (b : Nat) (L : List Nat) : Prop where
  st : SetAt w' b L
  grown : w.grownBy w' (some b)
theorem Turn.stay {w w' : World} {b : Nat} {L : List Nat} (h : SetAt w b L) (hb : Below w.heap.size w w') : Turn w w' b L := ⟨h.below hb, grownBy_of_below hb _⟩
theorem Turn.behind {w w1 w' : World} {b : Nat} {L : List Nat} (h : Turn w w1 b L) (hb : Below w1.heap.size w1 w') : Turn w w' b L := ⟨h.st.below hb, grownBy_trans h.grown (grownBy_of_below hb _)⟩
theorem Turn.next {w w1 w' : World} {b : Nat} {L K : List Nat} (h : Turn w w1 b L) (k : Turn w1 w' b K) : Turn w w' b K := ⟨k.st, grownBy_trans h.grown k.grown⟩
theorem Turn.below {B : Nat} {a w w' : World} {b : Nat} {L : List Nat} (h : Below B a w) (k : Turn w w' b L) (hw : B ≤ w.heap.size) (hb : B ≤ b) : Below B a w' := h.trans (below_of_grownBy k.grown hw hb)

def numB (n : Int) : Bool := decide (0 ≤ n) && decide (n < 1024)
theorem numB_iff (n : Int) : numB n = true ↔ 0 ≤ n ∧ n < 1024 := by simp [numB]
/-- What Put answers, and what the set is then. -/
def putE (L : List Nat) (n : Int) : Int := if numB n then (if n.toNat ∈ L then 5 else 0) else 2
def putL (L : List Nat) (n : Int) : List Nat := if numB n then (if n.toNat ∈ L then L else ins L n.toNat) else L
def dropE (L : List Nat) (n : Int) : Int := if numB n then (if n.toNat ∈ L then 0 else 4) else 2
def dropL (L : List Nat) (n : Int) : List Nat := if numB n then (if n.toNat ∈ L then del L n.toNat else L) else L
def hasB' (L : List Nat) (n : Int) : Bool := numB n && decide (n.toNat ∈ L)
theorem nat_num (n : Int) (h : numB n = true) : ∃ k : Nat, n = k ∧ k < 1024 ∧ n.toNat = k := by
  obtain ⟨h0, h1⟩ := (numB_iff n).1 h
  obtain ⟨k, rfl⟩ := Int.eq_ofNat_of_zero_le h0
  exact ⟨k, rfl, by omega, by simp⟩

theorem put_no (p : Option Addr) (n : Int) (w : World) (h : NoSet w p) : Calls Tryd.prog 45 #[.pointer p, .int .i64 n] w fun e w' => e = .returned (.int .i64 1) ∧ w = w' := by
  have H := Lib.hid h
  clear h
  go_enter Tryd.func45, Tryd.ntmps45
  go_wp2_with (go_at_call 57; refine (place_no p n _ H.out).mono ?_; rintro e w' ⟨rfl, rfl⟩)
  go_ret
  exact ⟨rfl, rfl⟩
theorem drop_no (p : Option Addr) (n : Int) (w : World) (h : NoSet w p) : Calls Tryd.prog 55 #[.pointer p, .int .i64 n] w fun e w' => e = .returned (.int .i64 1) ∧ w = w' := by
  have H := Lib.hid h
  clear h
  go_enter Tryd.func55, Tryd.ntmps55
  go_wp2_with (go_at_call 57; refine (place_no p n _ H.out).mono ?_; rintro e w' ⟨rfl, rfl⟩)
  go_ret
  exact ⟨rfl, rfl⟩
theorem num_cases (L : List Nat) (n : Int) : (numB n = false ∧ ¬ (0 ≤ n ∧ n < 1024)) ∨ ∃ k : Nat, n = k ∧ numB n = true ∧ n.toNat = k ∧ k < 1024 ∧ ∃ x y : Nat, word L (k / 64) = x ∧ 2 ^ (k % 64) = y ∧ x < 18446744073709551616 ∧ y < 18446744073709551616 ∧ 0 < y ∧ x &&& y = if k ∈ L then y else 0 := by
  cases h : numB n with
  | false => exact Or.inl ⟨rfl, fun hn => by rw [(numB_iff n).2 hn] at h; cases h⟩
  | true =>
    obtain ⟨k, rfl, h1, h2⟩ := nat_num n h
    exact Or.inr ⟨k, rfl, rfl, h2, h1, _, _, rfl, rfl, word_lt L _, Nat.pow_lt_pow_of_lt (m := 64) (by decide) (Nat.mod_lt _ (by decide)), Nat.two_pow_pos _, word_has L k⟩

set_option maxHeartbeats 800000 in
theorem put_any (b : Nat) (L : List Nat) (n : Int) (w : World) (h : SetAt w b L) : Calls Tryd.prog 45 #[.pointer (some ⟨b, 0, none⟩), .int .i64 n] w fun e w' => e = .returned (.int .i64 (putE L n)) ∧ Turn w w' b (putL L n) := by
  have H := Lib.hid h
  clear h
  rcases num_cases L n with ⟨hn, hbad⟩ | ⟨k, rfl, hn, hk, hk2, x, y, hx, hy, hx1, hy1, hy0, hand⟩
  · have e1 : Hid (putE L n = 2 ∧ putL L n = L) := Lib.hid (by simp [putE, putL, hn])
    have HB := Lib.hid hbad
    clear hbad
    go_enter Tryd.func45, Tryd.ntmps45
    go_wp2_with (go_at_call 57; refine (place_bad b L n _ H.out HB.out).mono ?_; rintro e w' ⟨rfl, rfl⟩)
    go_ret
    exact ⟨by rw [e1.out.1]; rfl, by rw [e1.out.2]; exact Turn.stay H.out (Below.refl _ _)⟩
  · have P := Lib.hid (place_ok b L k w H.out hk2)
    rw [hy] at P
    by_cases hm : k ∈ L
    · have e1 : Hid (putE L k = 5 ∧ putL L k = L) := Lib.hid (by simp [putE, putL, hn, hm])
      rw [if_pos hm] at hand
      have hb : bits BinOp.and IntKind.u64 (x : Int) (y : Int) = (y : Int) := by rw [bits_and_u64_nat x y hx1 hy1, hand]
      have hne : ((y : Int) == 0) = false := by simp; omega
      have cx : w.cell? ⟨b, k / 64, none⟩ = some (.int .u64 (x : Int)) := by rw [H.out.cell _ (by omega), hx]
      have CX := Lib.hid cx
      clear hand hx hy cx hn hk
      go_enter Tryd.func45, Tryd.ntmps45
      go_wp2_with (go_at_call 57; refine P.out.mono ?_; rintro e w' ⟨rfl, m, rfl⟩; have cx : (w.drewN m).cell? ⟨b, k / 64, none⟩ = some (.int .u64 (x : Int)) := CX.out)
      go_ret
      exact ⟨by rw [e1.out.1]; rfl, by rw [e1.out.2]; exact Turn.stay H.out (below_drewN (Below.refl _ _) _)⟩
    · have e1 : Hid (putE L k = 0 ∧ putL L k = ins L k) := Lib.hid (by simp [putE, putL, hn, hm])
      rw [if_neg hm] at hand
      have hb : bits BinOp.and IntKind.u64 (x : Int) (y : Int) = 0 := by rw [bits_and_u64_nat x y hx1 hy1, hand]; rfl
      have ho : bits BinOp.or IntKind.u64 (x : Int) (y : Int) = ((x ||| y : Nat) : Int) := bits_or_u64_nat x y hx1 hy1
      have cx : w.cell? ⟨b, k / 64, none⟩ = some (.int .u64 (x : Int)) := by rw [H.out.cell _ (by omega), hx]
      have hw : Hid (word (ins L k) (k / 64) = x ||| y) := Lib.hid (by rw [word_ins, if_pos rfl, hx, hy])
      have HM := Lib.hid hm
      have CX := Lib.hid cx
      generalize hz : x ||| y = z at ho hw
      clear hand hx hy cx hn hk hm hz
      go_enter Tryd.func45, Tryd.ntmps45
      go_wp2_with (go_at_call 57; refine P.out.mono ?_; rintro e w' ⟨rfl, m, rfl⟩; have cx : (w.drewN m).cell? ⟨b, k / 64, none⟩ = some (.int .u64 (x : Int)) := CX.out; have fx : (w.drewN m).frozen? ⟨b, k / 64, none⟩ = false := H.out.free _)
      go_ret
      refine ⟨by rw [e1.out.1]; rfl, ?_⟩
      rw [e1.out.2]
      refine ⟨⟨H.out.good.ins hk2 HM.out, ?_⟩, grownBy_from (b := w.drewN m) (grownBy_setCell _ _ _ _) rfl rfl rfl rfl⟩
      have := heap_setCell_same (w.drewN m) b (k / 64) (setV L true) 109 (.int .u64 (z : Int)) H.out.box
      rw [this, set_word L (ins L k) true (k / 64) z (by omega) hw.out (fun i hi => by rw [word_ins, if_neg (fun e => hi e.symm)])]
set_option maxHeartbeats 800000 in
theorem drop_any (b : Nat) (L : List Nat) (n : Int) (w : World) (h : SetAt w b L) : Calls Tryd.prog 55 #[.pointer (some ⟨b, 0, none⟩), .int .i64 n] w fun e w' => e = .returned (.int .i64 (dropE L n)) ∧ Turn w w' b (dropL L n) := by
  have H := Lib.hid h
  clear h
  rcases num_cases L n with ⟨hn, hbad⟩ | ⟨k, rfl, hn, hk, hk2, x, y, hx, hy, hx1, hy1, hy0, hand⟩
  · have e1 : Hid (dropE L n = 2 ∧ dropL L n = L) := Lib.hid (by simp [dropE, dropL, hn])
    have HB := Lib.hid hbad
    clear hbad
    go_enter Tryd.func55, Tryd.ntmps55
    go_wp2_with (go_at_call 57; refine (place_bad b L n _ H.out HB.out).mono ?_; rintro e w' ⟨rfl, rfl⟩)
    go_ret
    exact ⟨by rw [e1.out.1]; rfl, by rw [e1.out.2]; exact Turn.stay H.out (Below.refl _ _)⟩
  · have P := Lib.hid (place_ok b L k w H.out hk2)
    rw [hy] at P
    by_cases hm : k ∈ L
    · have e1 : Hid (dropE L k = 0 ∧ dropL L k = del L k) := Lib.hid (by simp [dropE, dropL, hn, hm])
      rw [if_pos hm] at hand
      have hb : bits BinOp.and IntKind.u64 (x : Int) (y : Int) = (y : Int) := by rw [bits_and_u64_nat x y hx1 hy1, hand]
      have hne : ((y : Int) == 0) = false := by simp; omega
      have ho : bits BinOp.andNot IntKind.u64 (x : Int) (y : Int) = ((x &&& (18446744073709551615 - y) : Nat) : Int) := u64_andNot_nat x y hx1 hy1
      have cx : w.cell? ⟨b, k / 64, none⟩ = some (.int .u64 (x : Int)) := by rw [H.out.cell _ (by omega), hx]
      have hw : Hid (word (del L k) (k / 64) = x &&& (18446744073709551615 - y)) := Lib.hid (by rw [word_del, if_pos rfl, hx, hy])
      have CX := Lib.hid cx
      generalize hz : x &&& (18446744073709551615 - y) = z at ho hw
      clear hand hx hy cx hn hk hm hz
      go_enter Tryd.func55, Tryd.ntmps55
      go_wp2_with (go_at_call 57; refine P.out.mono ?_; rintro e w' ⟨rfl, m, rfl⟩; have cx : (w.drewN m).cell? ⟨b, k / 64, none⟩ = some (.int .u64 (x : Int)) := CX.out; have fx : (w.drewN m).frozen? ⟨b, k / 64, none⟩ = false := H.out.free _)
      go_ret
      refine ⟨by rw [e1.out.1]; rfl, ?_⟩
      rw [e1.out.2]
      refine ⟨⟨H.out.good.del k, ?_⟩, grownBy_from (b := w.drewN m) (grownBy_setCell _ _ _ _) rfl rfl rfl rfl⟩
      have := heap_setCell_same (w.drewN m) b (k / 64) (setV L true) 109 (.int .u64 (z : Int)) H.out.box
      rw [this, set_word L (del L k) true (k / 64) z (by omega) hw.out (fun i hi => by rw [word_del, if_neg (fun e => hi e.symm)])]
    · have e1 : Hid (dropE L k = 4 ∧ dropL L k = L) := Lib.hid (by simp [dropE, dropL, hn, hm])
      rw [if_neg hm] at hand
      have hb : bits BinOp.and IntKind.u64 (x : Int) (y : Int) = 0 := by rw [bits_and_u64_nat x y hx1 hy1, hand]; rfl
      have cx : w.cell? ⟨b, k / 64, none⟩ = some (.int .u64 (x : Int)) := by rw [H.out.cell _ (by omega), hx]
      have CX := Lib.hid cx
      clear hand hx hy cx hn hk hm
      go_enter Tryd.func55, Tryd.ntmps55
      go_wp2_with (go_at_call 57; refine P.out.mono ?_; rintro e w' ⟨rfl, m, rfl⟩; have cx : (w.drewN m).cell? ⟨b, k / 64, none⟩ = some (.int .u64 (x : Int)) := CX.out)
      go_ret
      exact ⟨by rw [e1.out.1]; rfl, by rw [e1.out.2]; exact Turn.stay H.out (below_drewN (Below.refl _ _) _)⟩
end Go.Proofs.YtiohnhgoddfebaaDoor
