/- The contracts of package conf's write, its closures and its generic writeAll at three types. Conditions: the lists lie in memory; their numbers fit. Written by gen/gen_c8.py. -/
import Derived.Test.YtpgoddbijkolbaaC5
import Derived.Test.YtpgoddbijkolbaaC7
namespace Go.Proofs.Ytpgoddbijkolbaa
open Go.RowKit
set_option maxRecDepth 100000

theorem encR_len : ∀ (ws : List Nat) (T : Row), (encR ws T).length ≤ ws.sum
  | [], _ => by simp [encR]
  | _ :: _, [] => by simp [encR]
  | k :: ks, x :: T => by
    have := encR_len ks T
    rw [encR, List.length_append, bytesOf_length, List.sum_cons]
    omega
theorem encS_len (ws : List Nat) : ∀ S : List Row, (encS ws S).length ≤ ws.sum * S.length
  | [] => by simp [encS]
  | T :: S => by
    have h1 := encS_len ws S
    have h2 := encR_len ws T
    have e : encS ws (T :: S) = encR ws T ++ encS ws S := by simp [encS]
    rw [e, List.length_append, List.length_cons, Nat.mul_add, Nat.mul_one]
    omega
theorem encS_take (ws : List Nat) (S : List Row) (j : Nat) (h : j < S.length) : encS ws (S.take (j + 1)) = encS ws (S.take j) ++ encR ws (S.getD j []) := by
  have e : S.getD j [] = S[j] := by simp [List.getD_eq_getElem?_getD, h]
  rw [List.take_succ_eq_append_getElem h, encS_snoc, e]

set_option maxHeartbeats 1000000 in
theorem num1_ok (B b n k : Nat) (l : List UInt8) (w : World) (h : Bld B b l w) (hB : B ≤ w.heap.size) (hl : l.length ≤ 100000) (h1 : 1 ≤ k) (h2 : k ≤ 2) (hn : n < 256 ^ k) :
    Calls Try.prog 42 #[.int .i64 (n : Int), .int .i64 (k : Int), .pointer (some ⟨b, 0, none⟩)] w fun e w' => e = okRet ∧ Bld B b (l ++ bytesOf n k) w' ∧ Wr B b w w' := by
  have hn4 : n < 4294967296 := Nat.lt_of_lt_of_le hn (Nat.le_trans (Nat.pow_le_pow_right (by decide) h2) (by decide))
  have hp := put_ok n k w h1 (by omega) hn
  have HP := Lib.hid hp
  have H := Lib.hid h
  have HN := Lib.hid hn
  clear hp h hn
  go_enter Try.func42, Try.ntmps42
  go_wp2_with fail
  refine HP.out.mono ?_
  rintro e w1 ⟨rfl, hb⟩
  have K1 := Lib.hid (Wr.ofBelow (b := b) hb hB)
  have D1 := Lib.hid (H.out.below hb)
  clear hb
  go_wp2_with fail
  refine (must_yes _ _).mono ?_
  rintro e w2 ⟨rfl, rfl⟩
  go_wp2_with fail
  refine (wstr_ok B b l (bytesOf n k) w1 D1.out (by rw [bytesOf_length]; omega) (by have := K1.out.below.size; omega)).mono ?_
  rintro e w2 ⟨rfl, hd, hw⟩
  have D2 := Lib.hid hd
  have K2 := Lib.hid (K1.out.trans hw)
  clear hd hw
  go_wp2
  go_end0
  exact ⟨rfl, D2.out, K2.out⟩
/-- The variable that holds what writes numbers. -/
def NumV (w : World) (q b : Nat) : Prop := w.heap[q]? = some (.cells #[.func (.func 42) #[] #[.pointer (some ⟨b, 0, none⟩)]] 72 (0, 0))
theorem NumV.c0 {w : World} {q b : Nat} (h : NumV w q b) : w.cell? ⟨q, 0, none⟩ = some (.func (.func 42) #[] #[.pointer (some ⟨b, 0, none⟩)]) := by rw [cell_of_row w q _ _ _ _ h]; rfl
def WrRel (B b : Nat) (w : World) (ws : List Nat) (l : List UInt8) (S : List Row) (n : Nat) (i : Value) (wr : World) : Prop := ∃ j : Nat, i = .int .i64 (j : Int) ∧ j ≤ n ∧ Wr B b w wr ∧ Bld B b (l ++ encS ws (S.take j)) wr

set_option maxHeartbeats 1000000 in
theorem wr_part (B b q x y : Nat) (l : List UInt8) (w : World) (h : Bld B b l w) (hB : B ≤ w.heap.size) (hq : NumV w q b) (hl : l.length ≤ 90000) (hx : x < 256 ^ 2) (hy : y < 256 ^ 1) :
    Calls Try.prog 46 #[.agg #[.int .i64 (x : Int), .int .i64 (y : Int)], .pointer (some ⟨q, 0, none⟩)] w fun e w' => e = okRet ∧ Bld B b (l ++ encR pw [(x : Int), (y : Int)]) w' ∧ Wr B b w w' := by
  obtain ⟨w0, hw0⟩ : ∃ w0, w0 = w.alloc (.cells #[.int .i64 (x : Int), .int .i64 (y : Int)] 41) := ⟨_, rfl⟩
  have hX : w0.heap[w.heap.size]? = some (.cells #[.int .i64 (x : Int), .int .i64 (y : Int)] 41 (0, 0)) := by rw [hw0]; exact heap_alloc_new w _
  have hA : Below w.heap.size w w0 := by rw [hw0]; exact (Below.refl _ _).alloc (Nat.le_refl _) _
  have hne : w.heap.size ≠ b := by have := h.lt; omega
  have hqb : q ≠ b := by
    intro e
    subst e
    rcases h with h | h
    all_goals
      obtain ⟨_, v, hbk, _⟩ := h
      rw [hq] at hbk
      simp at hbk
  have D0 := Lib.hid (h.below hA)
  have X0 := Lib.hid hX
  have Q0 := Lib.hid (show NumV w0 q b from below_block hA hq)
  have K0 := Lib.hid (Wr.ofBelow (b := b) hA hB)
  have q0 := hq.c0
  have x0 : q < w.heap.size := lt_of_block hq
  have Hx := Lib.hid hx
  have Hy := Lib.hid hy
  clear h hX hA hq hx hy
  go_enter Try.func46, Try.ntmps46
  go_wp2_with fail
  rw [← hw0]
  clear hw0
  refine (num1_ok B b x 2 _ w0 D0.out (by have := K0.out.below.size; omega) (by (try simp only [List.length_append, bytesOf_length]); omega) (by decide) (by decide) Hx.out).mono ?_
  rintro e w1 ⟨rfl, hd, hk⟩
  have D1 := Lib.hid hd
  have K1 := Lib.hid (K0.out.trans hk)
  have Q1 := Lib.hid (show NumV w1 q b from hk.cells Q0.out hqb (by decide))
  have X1 := Lib.hid (hk.cells X0.out hne (by decide))
  have q1 := Q1.out.c0
  have x1 : w1.cell? ⟨w.heap.size, 1, none⟩ = some (.int .i64 (y : Int)) := by rw [cell_of_row w1 _ _ _ _ _ X1.out]; rfl
  clear hd hk q0 x0
  go_wp2_with fail
  refine (num1_ok B b y 1 _ w1 D1.out (by have := K1.out.below.size; omega) (by (try simp only [List.length_append, bytesOf_length]); omega) (by decide) (by decide) Hy.out).mono ?_
  rintro e w2 ⟨rfl, hd, hk⟩
  have D2 := Lib.hid hd
  have K2 := Lib.hid (K1.out.trans hk)
  have Q2 := Lib.hid (show NumV w2 q b from hk.cells Q1.out hqb (by decide))
  have X2 := Lib.hid (hk.cells X1.out hne (by decide))
  clear hd hk
  go_wp2
  go_end0
  refine ⟨rfl, ?_, K2.out⟩
  have := D2.out
  simpa [encR, List.append_assoc] using this

set_option maxHeartbeats 1000000 in
theorem writeAll_part (w0 : World) (b g : Nat) (caps : Array Value) (hent : ∀ (args : Array Value) (W : World), (callFunc g args).run Try.prog W = .ok (.enter g args) W) (v : Value) (S : List Row) (l : List UInt8) (w : World) (h : RowsAt 2 w0 v S) (hb0 : Below w0.heap.size w0 w)
    (hd : Bld w0.heap.size b l w) (hl : l.length ≤ 10000) (hf : fitsL pw S)
    (hp : ∀ (W : World) (m : List UInt8) (x y : Nat), Wr w0.heap.size b w W → Bld w0.heap.size b m W → m.length ≤ 90000 → x < 256 ^ 2 → y < 256 ^ 1 → Calls Try.prog g (#[.agg #[.int .i64 (x : Int), .int .i64 (y : Int)]] ++ caps) W fun e w' => e = okRet ∧ Bld w0.heap.size b (m ++ encR pw [(x : Int), (y : Int)]) w' ∧ Wr w0.heap.size b W w') :
    Calls Try.prog 45 #[.func (.func 42) #[] #[.pointer (some ⟨b, 0, none⟩)], v, .func (.func g) #[] caps] w fun e w' => e = okRet ∧ Bld w0.heap.size b (l ++ encL pw S) w' ∧ Wr w0.heap.size b w w' := by
  obtain ⟨a, c, rfl, ht, hT, hS⟩ := h
  obtain ⟨n, hn⟩ : ∃ n, n = S.length := ⟨_, rfl⟩
  have hlt256 : n < 256 := by have := hf.1; omega
  rw [← hn] at ht ⊢
  have hnum := num1_ok w0.heap.size b n 1 l w hd hb0.size (by omega) (by decide) (by decide) (by simpa using hlt256)
  have HNUM := Lib.hid hnum
  have HN := Lib.hid hn
  have HS := Lib.hid hS
  have HT := Lib.hid hT
  have HP := Lib.hid hp
  have B0 := Lib.hid hb0
  have FF := Lib.hid hf.2
  clear hn hS hT hp hnum hf hd hb0
  go_enter Try.func45, Try.ntmps45
  go_wp2_with fail
  refine HNUM.out.mono ?_
  rintro e w1 ⟨rfl, hd, hk⟩
  have D1 := Lib.hid hd
  have K1 := Lib.hid hk
  clear hd hk
  go_wp2_with fail
  go_loopw [14] (fun i wr => WrRel w0.heap.size b w pw (l ++ bytesOf n 1) S n i wr) (fun i _ => (n - (intOf i).toNat))
  case atStart => exact ⟨0, rfl, Nat.zero_le _, K1.out, by simpa [encS] using D1.out⟩
  case round =>
    obtain ⟨j, rfl, hj, hK, hD⟩ := hrel
    have KJ := Lib.hid hK
    have DJ := Lib.hid hD
    clear hK hD
    by_cases hlt' : j < n
    · obtain ⟨b', o, rfl, hlt, hc⟩ := HS.out.resolve_left (by intro e; have := HN.out; rw [e] at this; simp at this; omega)
      obtain ⟨x, y, hrow, c0, c1⟩ := two_cells HT.out hc j (by have := HN.out; omega)
      have hfr := FF.out _ (getD_mem (show j < S.length by have := HN.out; omega))
      have henc := encS_take pw S j (by have := HN.out; omega)
      rw [hrow] at hfr henc
      have ENC := Lib.hid henc
      have hlen := encS_len pw (S.take j)
      have hlen2 : (S.take j).length ≤ 256 := by rw [List.length_take]; omega
      have hlen3 : (encS pw (S.take j)).length ≤ 4 * 256 := Nat.le_trans hlen (Nat.mul_le_mul (by decide) hlen2)
      obtain ⟨a1, a2, b1, b2, -⟩ := hfr
      obtain ⟨x, rfl⟩ := Int.eq_ofNat_of_zero_le a1
      obtain ⟨y, rfl⟩ := Int.eq_ofNat_of_zero_le b1
      have d0 := ((B0.out.trans KJ.out.below).cell (p := ⟨b', o + j * 2, none⟩) hlt).trans c0
      have d1 := ((B0.out.trans KJ.out.below).cell (p := ⟨b', o + j * 2 + 1, none⟩) hlt).trans c1
      clear hc c0 c1 hrow henc hlen hlen2
      go_wp2_with fail
      have KA := Lib.hid (KJ.out.alloc (Nat.le_trans B0.out.size KJ.out.below.size) (.cells #[.int .i64 (x : Int), .int .i64 (y : Int)] 41))
      have DA := Lib.hid (DJ.out.below ((Below.refl wr.heap.size wr).alloc (Nat.le_refl _) (.cells #[.int .i64 (x : Int), .int .i64 (y : Int)] 41)))
      refine (HP.out _ _ x y KA.out DA.out (by simp only [List.length_append, bytesOf_length]; omega) (by exact_mod_cast a2) (by exact_mod_cast b2)).mono ?_
      rintro e w2 ⟨rfl, hd, hk⟩
      have D2 : Hid (Bld w0.heap.size b (l ++ bytesOf n 1 ++ encS pw (S.take (j + 1))) w2) := Lib.hid (by rw [ENC.out, ← List.append_assoc]; exact hd)
      have K2 := Lib.hid (KA.out.trans hk)
      clear hd hk
      go_wp2
      go_roundw
      case rel => exact ⟨j + 1, by go_num, by omega, K2.out, D2.out⟩
      case measure => simp [intOf]; omega
    · obtain rfl : j = n := by omega
      have DE : Hid (Bld w0.heap.size b (l ++ encL pw S) wr) := Lib.hid (by have := DJ.out; rwa [show S.take j = S by rw [HN.out, List.take_length], List.append_assoc, HN.out] at this)
      clear hlt'
      go_wp2
      go_end0
      exact ⟨rfl, DE.out, KJ.out⟩

set_option maxHeartbeats 1000000 in
theorem wr_win (B b q x y : Nat) (l : List UInt8) (w : World) (h : Bld B b l w) (hB : B ≤ w.heap.size) (hq : NumV w q b) (hl : l.length ≤ 90000) (hx : x < 256 ^ 1) (hy : y < 256 ^ 1) :
    Calls Try.prog 48 #[.agg #[.int .i64 (x : Int), .int .i64 (y : Int)], .pointer (some ⟨q, 0, none⟩)] w fun e w' => e = okRet ∧ Bld B b (l ++ encR ww [(x : Int), (y : Int)]) w' ∧ Wr B b w w' := by
  obtain ⟨w0, hw0⟩ : ∃ w0, w0 = w.alloc (.cells #[.int .i64 (x : Int), .int .i64 (y : Int)] 44) := ⟨_, rfl⟩
  have hX : w0.heap[w.heap.size]? = some (.cells #[.int .i64 (x : Int), .int .i64 (y : Int)] 44 (0, 0)) := by rw [hw0]; exact heap_alloc_new w _
  have hA : Below w.heap.size w w0 := by rw [hw0]; exact (Below.refl _ _).alloc (Nat.le_refl _) _
  have hne : w.heap.size ≠ b := by have := h.lt; omega
  have hqb : q ≠ b := by
    intro e
    subst e
    rcases h with h | h
    all_goals
      obtain ⟨_, v, hbk, _⟩ := h
      rw [hq] at hbk
      simp at hbk
  have D0 := Lib.hid (h.below hA)
  have X0 := Lib.hid hX
  have Q0 := Lib.hid (show NumV w0 q b from below_block hA hq)
  have K0 := Lib.hid (Wr.ofBelow (b := b) hA hB)
  have q0 := hq.c0
  have x0 : q < w.heap.size := lt_of_block hq
  have Hx := Lib.hid hx
  have Hy := Lib.hid hy
  clear h hX hA hq hx hy
  go_enter Try.func48, Try.ntmps48
  go_wp2_with fail
  rw [← hw0]
  clear hw0
  refine (num1_ok B b x 1 _ w0 D0.out (by have := K0.out.below.size; omega) (by (try simp only [List.length_append, bytesOf_length]); omega) (by decide) (by decide) Hx.out).mono ?_
  rintro e w1 ⟨rfl, hd, hk⟩
  have D1 := Lib.hid hd
  have K1 := Lib.hid (K0.out.trans hk)
  have Q1 := Lib.hid (show NumV w1 q b from hk.cells Q0.out hqb (by decide))
  have X1 := Lib.hid (hk.cells X0.out hne (by decide))
  have q1 := Q1.out.c0
  have x1 : w1.cell? ⟨w.heap.size, 1, none⟩ = some (.int .i64 (y : Int)) := by rw [cell_of_row w1 _ _ _ _ _ X1.out]; rfl
  clear hd hk q0 x0
  go_wp2_with fail
  refine (num1_ok B b y 1 _ w1 D1.out (by have := K1.out.below.size; omega) (by (try simp only [List.length_append, bytesOf_length]); omega) (by decide) (by decide) Hy.out).mono ?_
  rintro e w2 ⟨rfl, hd, hk⟩
  have D2 := Lib.hid hd
  have K2 := Lib.hid (K1.out.trans hk)
  have Q2 := Lib.hid (show NumV w2 q b from hk.cells Q1.out hqb (by decide))
  have X2 := Lib.hid (hk.cells X1.out hne (by decide))
  clear hd hk
  go_wp2
  go_end0
  refine ⟨rfl, ?_, K2.out⟩
  have := D2.out
  simpa [encR, List.append_assoc] using this

set_option maxHeartbeats 1000000 in
theorem writeAll_win (w0 : World) (b g : Nat) (caps : Array Value) (hent : ∀ (args : Array Value) (W : World), (callFunc g args).run Try.prog W = .ok (.enter g args) W) (v : Value) (S : List Row) (l : List UInt8) (w : World) (h : RowsAt 2 w0 v S) (hb0 : Below w0.heap.size w0 w)
    (hd : Bld w0.heap.size b l w) (hl : l.length ≤ 10000) (hf : fitsL ww S)
    (hp : ∀ (W : World) (m : List UInt8) (x y : Nat), Wr w0.heap.size b w W → Bld w0.heap.size b m W → m.length ≤ 90000 → x < 256 ^ 1 → y < 256 ^ 1 → Calls Try.prog g (#[.agg #[.int .i64 (x : Int), .int .i64 (y : Int)]] ++ caps) W fun e w' => e = okRet ∧ Bld w0.heap.size b (m ++ encR ww [(x : Int), (y : Int)]) w' ∧ Wr w0.heap.size b W w') :
    Calls Try.prog 47 #[.func (.func 42) #[] #[.pointer (some ⟨b, 0, none⟩)], v, .func (.func g) #[] caps] w fun e w' => e = okRet ∧ Bld w0.heap.size b (l ++ encL ww S) w' ∧ Wr w0.heap.size b w w' := by
  obtain ⟨a, c, rfl, ht, hT, hS⟩ := h
  obtain ⟨n, hn⟩ : ∃ n, n = S.length := ⟨_, rfl⟩
  have hlt256 : n < 256 := by have := hf.1; omega
  rw [← hn] at ht ⊢
  have hnum := num1_ok w0.heap.size b n 1 l w hd hb0.size (by omega) (by decide) (by decide) (by simpa using hlt256)
  have HNUM := Lib.hid hnum
  have HN := Lib.hid hn
  have HS := Lib.hid hS
  have HT := Lib.hid hT
  have HP := Lib.hid hp
  have B0 := Lib.hid hb0
  have FF := Lib.hid hf.2
  clear hn hS hT hp hnum hf hd hb0
  go_enter Try.func47, Try.ntmps47
  go_wp2_with fail
  refine HNUM.out.mono ?_
  rintro e w1 ⟨rfl, hd, hk⟩
  have D1 := Lib.hid hd
  have K1 := Lib.hid hk
  clear hd hk
  go_wp2_with fail
  go_loopw [14] (fun i wr => WrRel w0.heap.size b w ww (l ++ bytesOf n 1) S n i wr) (fun i _ => (n - (intOf i).toNat))
  case atStart => exact ⟨0, rfl, Nat.zero_le _, K1.out, by simpa [encS] using D1.out⟩
  case round =>
    obtain ⟨j, rfl, hj, hK, hD⟩ := hrel
    have KJ := Lib.hid hK
    have DJ := Lib.hid hD
    clear hK hD
    by_cases hlt' : j < n
    · obtain ⟨b', o, rfl, hlt, hc⟩ := HS.out.resolve_left (by intro e; have := HN.out; rw [e] at this; simp at this; omega)
      obtain ⟨x, y, hrow, c0, c1⟩ := two_cells HT.out hc j (by have := HN.out; omega)
      have hfr := FF.out _ (getD_mem (show j < S.length by have := HN.out; omega))
      have henc := encS_take ww S j (by have := HN.out; omega)
      rw [hrow] at hfr henc
      have ENC := Lib.hid henc
      have hlen := encS_len ww (S.take j)
      have hlen2 : (S.take j).length ≤ 256 := by rw [List.length_take]; omega
      have hlen3 : (encS ww (S.take j)).length ≤ 4 * 256 := Nat.le_trans hlen (Nat.mul_le_mul (by decide) hlen2)
      obtain ⟨a1, a2, b1, b2, -⟩ := hfr
      obtain ⟨x, rfl⟩ := Int.eq_ofNat_of_zero_le a1
      obtain ⟨y, rfl⟩ := Int.eq_ofNat_of_zero_le b1
      have d0 := ((B0.out.trans KJ.out.below).cell (p := ⟨b', o + j * 2, none⟩) hlt).trans c0
      have d1 := ((B0.out.trans KJ.out.below).cell (p := ⟨b', o + j * 2 + 1, none⟩) hlt).trans c1
      clear hc c0 c1 hrow henc hlen hlen2
      go_wp2_with fail
      have KA := Lib.hid (KJ.out.alloc (Nat.le_trans B0.out.size KJ.out.below.size) (.cells #[.int .i64 (x : Int), .int .i64 (y : Int)] 44))
      have DA := Lib.hid (DJ.out.below ((Below.refl wr.heap.size wr).alloc (Nat.le_refl _) (.cells #[.int .i64 (x : Int), .int .i64 (y : Int)] 44)))
      refine (HP.out _ _ x y KA.out DA.out (by simp only [List.length_append, bytesOf_length]; omega) (by exact_mod_cast a2) (by exact_mod_cast b2)).mono ?_
      rintro e w2 ⟨rfl, hd, hk⟩
      have D2 : Hid (Bld w0.heap.size b (l ++ bytesOf n 1 ++ encS ww (S.take (j + 1))) w2) := Lib.hid (by rw [ENC.out, ← List.append_assoc]; exact hd)
      have K2 := Lib.hid (KA.out.trans hk)
      clear hd hk
      go_wp2
      go_roundw
      case rel => exact ⟨j + 1, by go_num, by omega, K2.out, D2.out⟩
      case measure => simp [intOf]; omega
    · obtain rfl : j = n := by omega
      have DE : Hid (Bld w0.heap.size b (l ++ encL ww S) wr) := Lib.hid (by have := DJ.out; rwa [show S.take j = S by rw [HN.out, List.take_length], List.append_assoc, HN.out] at this)
      clear hlt'
      go_wp2
      go_end0
      exact ⟨rfl, DE.out, KJ.out⟩

set_option maxHeartbeats 1000000 in
theorem wr_chan (B b q x y z t : Nat) (l : List UInt8) (w : World) (h : Bld B b l w) (hB : B ≤ w.heap.size) (hq : NumV w q b) (hl : l.length ≤ 90000) (hx : x < 256 ^ 1) (hy : y < 256 ^ 1) (hz : z < 256 ^ 1) (ht : t < 256 ^ 1) :
    Calls Try.prog 50 #[.agg #[.int .i64 (x : Int), .int .i64 (y : Int), .int .i64 (z : Int), .int .i64 (t : Int)], .pointer (some ⟨q, 0, none⟩)] w fun e w' => e = okRet ∧ Bld B b (l ++ encR cw [(x : Int), (y : Int), (z : Int), (t : Int)]) w' ∧ Wr B b w w' := by
  obtain ⟨w0, hw0⟩ : ∃ w0, w0 = w.alloc (.cells #[.int .i64 (x : Int), .int .i64 (y : Int), .int .i64 (z : Int), .int .i64 (t : Int)] 46) := ⟨_, rfl⟩
  have hX : w0.heap[w.heap.size]? = some (.cells #[.int .i64 (x : Int), .int .i64 (y : Int), .int .i64 (z : Int), .int .i64 (t : Int)] 46 (0, 0)) := by rw [hw0]; exact heap_alloc_new w _
  have hA : Below w.heap.size w w0 := by rw [hw0]; exact (Below.refl _ _).alloc (Nat.le_refl _) _
  have hne : w.heap.size ≠ b := by have := h.lt; omega
  have hqb : q ≠ b := by
    intro e
    subst e
    rcases h with h | h
    all_goals
      obtain ⟨_, v, hbk, _⟩ := h
      rw [hq] at hbk
      simp at hbk
  have D0 := Lib.hid (h.below hA)
  have X0 := Lib.hid hX
  have Q0 := Lib.hid (show NumV w0 q b from below_block hA hq)
  have K0 := Lib.hid (Wr.ofBelow (b := b) hA hB)
  have q0 := hq.c0
  have x0 : q < w.heap.size := lt_of_block hq
  have Hx := Lib.hid hx
  have Hy := Lib.hid hy
  have Hz := Lib.hid hz
  have Ht := Lib.hid ht
  clear h hX hA hq hx hy hz ht
  go_enter Try.func50, Try.ntmps50
  go_wp2_with fail
  rw [← hw0]
  clear hw0
  refine (num1_ok B b x 1 _ w0 D0.out (by have := K0.out.below.size; omega) (by (try simp only [List.length_append, bytesOf_length]); omega) (by decide) (by decide) Hx.out).mono ?_
  rintro e w1 ⟨rfl, hd, hk⟩
  have D1 := Lib.hid hd
  have K1 := Lib.hid (K0.out.trans hk)
  have Q1 := Lib.hid (show NumV w1 q b from hk.cells Q0.out hqb (by decide))
  have X1 := Lib.hid (hk.cells X0.out hne (by decide))
  have q1 := Q1.out.c0
  have x1 : w1.cell? ⟨w.heap.size, 1, none⟩ = some (.int .i64 (y : Int)) := by rw [cell_of_row w1 _ _ _ _ _ X1.out]; rfl
  clear hd hk q0 x0
  go_wp2_with fail
  refine (num1_ok B b y 1 _ w1 D1.out (by have := K1.out.below.size; omega) (by (try simp only [List.length_append, bytesOf_length]); omega) (by decide) (by decide) Hy.out).mono ?_
  rintro e w2 ⟨rfl, hd, hk⟩
  have D2 := Lib.hid hd
  have K2 := Lib.hid (K1.out.trans hk)
  have Q2 := Lib.hid (show NumV w2 q b from hk.cells Q1.out hqb (by decide))
  have X2 := Lib.hid (hk.cells X1.out hne (by decide))
  have q2 := Q2.out.c0
  have x2 : w2.cell? ⟨w.heap.size, 2, none⟩ = some (.int .i64 (z : Int)) := by rw [cell_of_row w2 _ _ _ _ _ X2.out]; rfl
  clear hd hk q1 x1
  go_wp2_with fail
  refine (num1_ok B b z 1 _ w2 D2.out (by have := K2.out.below.size; omega) (by (try simp only [List.length_append, bytesOf_length]); omega) (by decide) (by decide) Hz.out).mono ?_
  rintro e w3 ⟨rfl, hd, hk⟩
  have D3 := Lib.hid hd
  have K3 := Lib.hid (K2.out.trans hk)
  have Q3 := Lib.hid (show NumV w3 q b from hk.cells Q2.out hqb (by decide))
  have X3 := Lib.hid (hk.cells X2.out hne (by decide))
  have q3 := Q3.out.c0
  have x3 : w3.cell? ⟨w.heap.size, 3, none⟩ = some (.int .i64 (t : Int)) := by rw [cell_of_row w3 _ _ _ _ _ X3.out]; rfl
  clear hd hk q2 x2
  go_wp2_with fail
  refine (num1_ok B b t 1 _ w3 D3.out (by have := K3.out.below.size; omega) (by (try simp only [List.length_append, bytesOf_length]); omega) (by decide) (by decide) Ht.out).mono ?_
  rintro e w4 ⟨rfl, hd, hk⟩
  have D4 := Lib.hid hd
  have K4 := Lib.hid (K3.out.trans hk)
  have Q4 := Lib.hid (show NumV w4 q b from hk.cells Q3.out hqb (by decide))
  have X4 := Lib.hid (hk.cells X3.out hne (by decide))
  clear hd hk
  go_wp2
  go_end0
  refine ⟨rfl, ?_, K4.out⟩
  have := D4.out
  simpa [encR, List.append_assoc] using this

set_option maxHeartbeats 1000000 in
theorem writeAll_chan (w0 : World) (b g : Nat) (caps : Array Value) (hent : ∀ (args : Array Value) (W : World), (callFunc g args).run Try.prog W = .ok (.enter g args) W) (v : Value) (S : List Row) (l : List UInt8) (w : World) (h : RowsAt 4 w0 v S) (hb0 : Below w0.heap.size w0 w)
    (hd : Bld w0.heap.size b l w) (hl : l.length ≤ 10000) (hf : fitsL cw S)
    (hp : ∀ (W : World) (m : List UInt8) (x y z t : Nat), Wr w0.heap.size b w W → Bld w0.heap.size b m W → m.length ≤ 90000 → x < 256 ^ 1 → y < 256 ^ 1 → z < 256 ^ 1 → t < 256 ^ 1 → Calls Try.prog g (#[.agg #[.int .i64 (x : Int), .int .i64 (y : Int), .int .i64 (z : Int), .int .i64 (t : Int)]] ++ caps) W fun e w' => e = okRet ∧ Bld w0.heap.size b (m ++ encR cw [(x : Int), (y : Int), (z : Int), (t : Int)]) w' ∧ Wr w0.heap.size b W w') :
    Calls Try.prog 49 #[.func (.func 42) #[] #[.pointer (some ⟨b, 0, none⟩)], v, .func (.func g) #[] caps] w fun e w' => e = okRet ∧ Bld w0.heap.size b (l ++ encL cw S) w' ∧ Wr w0.heap.size b w w' := by
  obtain ⟨a, c, rfl, ht, hT, hS⟩ := h
  obtain ⟨n, hn⟩ : ∃ n, n = S.length := ⟨_, rfl⟩
  have hlt256 : n < 256 := by have := hf.1; omega
  rw [← hn] at ht ⊢
  have hnum := num1_ok w0.heap.size b n 1 l w hd hb0.size (by omega) (by decide) (by decide) (by simpa using hlt256)
  have HNUM := Lib.hid hnum
  have HN := Lib.hid hn
  have HS := Lib.hid hS
  have HT := Lib.hid hT
  have HP := Lib.hid hp
  have B0 := Lib.hid hb0
  have FF := Lib.hid hf.2
  clear hn hS hT hp hnum hf hd hb0
  go_enter Try.func49, Try.ntmps49
  go_wp2_with fail
  refine HNUM.out.mono ?_
  rintro e w1 ⟨rfl, hd, hk⟩
  have D1 := Lib.hid hd
  have K1 := Lib.hid hk
  clear hd hk
  go_wp2_with fail
  go_loopw [14] (fun i wr => WrRel w0.heap.size b w cw (l ++ bytesOf n 1) S n i wr) (fun i _ => (n - (intOf i).toNat))
  case atStart => exact ⟨0, rfl, Nat.zero_le _, K1.out, by simpa [encS] using D1.out⟩
  case round =>
    obtain ⟨j, rfl, hj, hK, hD⟩ := hrel
    have KJ := Lib.hid hK
    have DJ := Lib.hid hD
    clear hK hD
    by_cases hlt' : j < n
    · obtain ⟨b', o, rfl, hlt, hc⟩ := HS.out.resolve_left (by intro e; have := HN.out; rw [e] at this; simp at this; omega)
      obtain ⟨x, y, z, t, hrow, c0, c1, c2, c3⟩ := four_cells HT.out hc j (by have := HN.out; omega)
      have hfr := FF.out _ (getD_mem (show j < S.length by have := HN.out; omega))
      have henc := encS_take cw S j (by have := HN.out; omega)
      rw [hrow] at hfr henc
      have ENC := Lib.hid henc
      have hlen := encS_len cw (S.take j)
      have hlen2 : (S.take j).length ≤ 256 := by rw [List.length_take]; omega
      have hlen3 : (encS cw (S.take j)).length ≤ 4 * 256 := Nat.le_trans hlen (Nat.mul_le_mul (by decide) hlen2)
      obtain ⟨a1, a2, b1, b2, u1, u2, v1, v2, -⟩ := hfr
      obtain ⟨x, rfl⟩ := Int.eq_ofNat_of_zero_le a1
      obtain ⟨y, rfl⟩ := Int.eq_ofNat_of_zero_le b1
      obtain ⟨z, rfl⟩ := Int.eq_ofNat_of_zero_le u1
      obtain ⟨t, rfl⟩ := Int.eq_ofNat_of_zero_le v1
      have d0 := ((B0.out.trans KJ.out.below).cell (p := ⟨b', o + j * 4, none⟩) hlt).trans c0
      have d1 := ((B0.out.trans KJ.out.below).cell (p := ⟨b', o + j * 4 + 1, none⟩) hlt).trans c1
      have d2 := ((B0.out.trans KJ.out.below).cell (p := ⟨b', o + j * 4 + 2, none⟩) hlt).trans c2
      have d3 := ((B0.out.trans KJ.out.below).cell (p := ⟨b', o + j * 4 + 3, none⟩) hlt).trans c3
      clear hc c0 c1 c2 c3 hrow henc hlen hlen2
      go_wp2_with fail
      have KA := Lib.hid (KJ.out.alloc (Nat.le_trans B0.out.size KJ.out.below.size) (.cells #[.int .i64 (x : Int), .int .i64 (y : Int), .int .i64 (z : Int), .int .i64 (t : Int)] 46))
      have DA := Lib.hid (DJ.out.below ((Below.refl wr.heap.size wr).alloc (Nat.le_refl _) (.cells #[.int .i64 (x : Int), .int .i64 (y : Int), .int .i64 (z : Int), .int .i64 (t : Int)] 46)))
      refine (HP.out _ _ x y z t KA.out DA.out (by simp only [List.length_append, bytesOf_length]; omega) (by exact_mod_cast a2) (by exact_mod_cast b2) (by exact_mod_cast u2) (by exact_mod_cast v2)).mono ?_
      rintro e w2 ⟨rfl, hd, hk⟩
      have D2 : Hid (Bld w0.heap.size b (l ++ bytesOf n 1 ++ encS cw (S.take (j + 1))) w2) := Lib.hid (by rw [ENC.out, ← List.append_assoc]; exact hd)
      have K2 := Lib.hid (KA.out.trans hk)
      clear hd hk
      go_wp2
      go_roundw
      case rel => exact ⟨j + 1, by go_num, by omega, K2.out, D2.out⟩
      case measure => simp [intOf]; omega
    · obtain rfl : j = n := by omega
      have DE : Hid (Bld w0.heap.size b (l ++ encL cw S) wr) := Lib.hid (by have := DJ.out; rwa [show S.take j = S by rw [HN.out, List.take_length], List.append_assoc, HN.out] at this)
      clear hlt'
      go_wp2
      go_end0
      exact ⟨rfl, DE.out, KJ.out⟩

theorem encL_len (ws : List Nat) (S : List Row) (h : fitsL ws S) (hw : ws.sum ≤ 4) : (encL ws S).length ≤ 1100 := by
  have h1 := encS_len ws S
  have h2 := h.1
  have h3 : ws.sum * S.length ≤ 4 * 256 := Nat.mul_le_mul hw (by omega)
  rw [encL, List.length_append, bytesOf_length]
  omega
set_option maxHeartbeats 2000000 in
theorem writeConf_ok (v1 v2 v3 : Value) (C : Cf) (hm : mayB C = true) (w : World) (h : CfAt w v1 v2 v3 C) : Calls Try.prog 25 #[.agg #[v1, v2, v3]] w fun e w' => e = .returned (strV (encC C)) ∧ Below w.heap.size w w' := by
  have hmf : ∀ (fn : Fn) (first cap : Array Value) (w : World), (Instr.makeFunc fn first cap).run Try.prog w = .ok (.func fn first cap) w := fun _ _ _ _ => rfl
  have hfit := mayB_fits h.shape hm
  have HFIT := Lib.hid hfit
  have HC := Lib.hid h
  obtain ⟨w1, hw1⟩ : ∃ w1, w1 = ((w.alloc (.cells #[v1, v2, v3] 26)).alloc (.cells #[.pointer none, .slice none 0 0] 66)).alloc (.cells #[.func (.func 42) #[] #[.pointer (some ⟨w.heap.size + 1, 0, none⟩)]] 72) := ⟨_, rfl⟩
  obtain ⟨wa, hwa⟩ : ∃ wa, wa = w.alloc (.cells #[v1, v2, v3] 26) := ⟨_, rfl⟩
  have hsa : wa.heap.size = w.heap.size + 1 := by rw [hwa]; simp
  have hba : Below w.heap.size w wa := by rw [hwa]; exact (Below.refl _ _).alloc (Nat.le_refl _) _
  have hXa : CBox wa w.heap.size v1 v2 v3 := by rw [hwa]; exact CBox.new w _ _ _
  have hw1' : w1 = (wa.alloc (.cells #[.pointer none, .slice none 0 0] 66)).alloc (.cells #[.func (.func 42) #[] #[.pointer (some ⟨wa.heap.size, 0, none⟩)]] 72) := by rw [hw1, hsa, hwa]
  have hb1 : Below wa.heap.size wa w1 := by rw [hw1']; exact below_two wa _ _
  have D1 : Hid (Bld w.heap.size wa.heap.size [] w1) := Lib.hid (by
    rw [hw1']
    exact (Bld.new w.heap.size wa hba.size).below ((Below.refl _ _).alloc (Nat.le_refl _) _))
  have Q1 : Hid (NumV w1 (wa.heap.size + 1) wa.heap.size) := Lib.hid (by rw [hw1']; exact heap_alloc2_new wa _ _)
  have X1 : Hid (CBox w1 w.heap.size v1 v2 v3) := Lib.hid (hXa.below hb1)
  have B1 : Hid (Below w.heap.size w w1) := Lib.hid (hba.trans (hb1.mono hba.size))
  have hne1 : w.heap.size ≠ w.heap.size + 1 := by omega
  have hne2 : w.heap.size + 1 + 1 ≠ w.heap.size + 1 := by omega
  rw [hsa] at D1 Q1
  clear hsa hba hXa hw1' hb1 h hfit hwa wa
  go_enter Try.func25, Try.ntmps25
  go_wp2_with fail
  rw [← hw1]
  clear hw1
  refine (wstr_ok w.heap.size (w.heap.size + 1) [] [80, 82, 49] w1 D1.out (by decide) B1.out.size).mono ?_
  rintro e w2 ⟨rfl, hd, hk⟩
  have D2 : Hid (Bld w.heap.size (w.heap.size + 1) magic w2) := Lib.hid hd
  have K2 := Lib.hid hk
  have Q2 := Lib.hid (show NumV w2 (w.heap.size + 1 + 1) (w.heap.size + 1) from hk.cells Q1.out hne2 (by decide))
  have X2 := Lib.hid (show CBox w2 w.heap.size v1 v2 v3 from hk.cells X1.out hne1 (by decide))
  clear hd hk
  have q0 := Q2.out.c0
  have x0 := X2.out.c0
  go_wp2_with fail
  refine (writeAll_part w (w.heap.size + 1) 46 #[.pointer (some ⟨w.heap.size + 1 + 1, 0, none⟩)] (enters Try.func46 rfl rfl) v1 C.1 magic w2 HC.out.ps (B1.out.trans K2.out.below) D2.out (by decide) HFIT.out.1 (fun W m x y hW hD hm hx hy => by
    have := wr_part w.heap.size (w.heap.size + 1) (w.heap.size + 1 + 1) x y m W hD (B1.out.trans (K2.out.below.trans hW.below)).size (hW.cells Q2.out hne2 (by decide)) hm hx hy
    simpa using this)).mono ?_
  rintro e w3 ⟨rfl, hd, hk⟩
  have D3 : Hid (Bld w.heap.size (w.heap.size + 1) (magic ++ encL pw C.1) w3) := Lib.hid hd
  have K3 := Lib.hid (K2.out.trans hk)
  have Q3 := Lib.hid (show NumV w3 (w.heap.size + 1 + 1) (w.heap.size + 1) from hk.cells Q2.out hne2 (by decide))
  have X3 := Lib.hid (show CBox w3 w.heap.size v1 v2 v3 from hk.cells X2.out hne1 (by decide))
  clear hd hk q0 x0
  have q0 := Q3.out.c0
  have x0 := X3.out.c1
  go_wp2_with fail
  refine (writeAll_win w (w.heap.size + 1) 48 #[.pointer (some ⟨w.heap.size + 1 + 1, 0, none⟩)] (enters Try.func48 rfl rfl) v2 C.2.1 (magic ++ encL pw C.1) w3 HC.out.ws (B1.out.trans K3.out.below) D3.out (by simp only [List.length_append]; have := encL_len pw C.1 HFIT.out.1 (by decide); have := encL_len ww C.2.1 HFIT.out.2.1 (by decide); have : magic.length = 3 := rfl; omega) HFIT.out.2.1 (fun W m x y hW hD hm hx hy => by
    have := wr_win w.heap.size (w.heap.size + 1) (w.heap.size + 1 + 1) x y m W hD (B1.out.trans (K3.out.below.trans hW.below)).size (hW.cells Q3.out hne2 (by decide)) hm hx hy
    simpa using this)).mono ?_
  rintro e w4 ⟨rfl, hd, hk⟩
  have D4 : Hid (Bld w.heap.size (w.heap.size + 1) (magic ++ encL pw C.1 ++ encL ww C.2.1) w4) := Lib.hid hd
  have K4 := Lib.hid (K3.out.trans hk)
  have Q4 := Lib.hid (show NumV w4 (w.heap.size + 1 + 1) (w.heap.size + 1) from hk.cells Q3.out hne2 (by decide))
  have X4 := Lib.hid (show CBox w4 w.heap.size v1 v2 v3 from hk.cells X3.out hne1 (by decide))
  clear hd hk q0 x0
  have q0 := Q4.out.c0
  have x0 := X4.out.c2
  go_wp2_with fail
  refine (writeAll_chan w (w.heap.size + 1) 50 #[.pointer (some ⟨w.heap.size + 1 + 1, 0, none⟩)] (enters Try.func50 rfl rfl) v3 C.2.2 (magic ++ encL pw C.1 ++ encL ww C.2.1) w4 HC.out.hs (B1.out.trans K4.out.below) D4.out (by simp only [List.length_append]; have := encL_len pw C.1 HFIT.out.1 (by decide); have := encL_len ww C.2.1 HFIT.out.2.1 (by decide); have : magic.length = 3 := rfl; omega) HFIT.out.2.2 (fun W m x y z t hW hD hm hx hy hz ht => by
    have := wr_chan w.heap.size (w.heap.size + 1) (w.heap.size + 1 + 1) x y z t m W hD (B1.out.trans (K4.out.below.trans hW.below)).size (hW.cells Q4.out hne2 (by decide)) hm hx hy hz ht
    simpa using this)).mono ?_
  rintro e w5 ⟨rfl, hd, hk⟩
  have D5 : Hid (Bld w.heap.size (w.heap.size + 1) (magic ++ encL pw C.1 ++ encL ww C.2.1 ++ encL cw C.2.2) w5) := Lib.hid hd
  have K5 := Lib.hid (K4.out.trans hk)
  have Q5 := Lib.hid (show NumV w5 (w.heap.size + 1 + 1) (w.heap.size + 1) from hk.cells Q4.out hne2 (by decide))
  have X5 := Lib.hid (show CBox w5 w.heap.size v1 v2 v3 from hk.cells X4.out hne1 (by decide))
  clear hd hk q0 x0
  have E5 : magic ++ encL pw C.1 ++ encL ww C.2.1 ++ encL cw C.2.2 = encC C := by simp only [encC, List.append_assoc]
  rw [E5] at D5
  have hlen : (encC C).length ≤ 1000000 ∧ encC C ≠ [] := by
    have := encL_len pw C.1 HFIT.out.1 (by decide)
    have := encL_len ww C.2.1 HFIT.out.2.1 (by decide)
    have := encL_len cw C.2.2 HFIT.out.2.2 (by decide)
    refine ⟨by simp only [encC, List.length_append]; have : magic.length = 3 := rfl; omega, by simp [encC, magic]⟩
  go_wp2_with fail
  refine (string_ok w.heap.size (w.heap.size + 1) (encC C) w5 D5.out hlen.2 hlen.1).mono ?_
  rintro e w6 ⟨rfl, hb⟩
  have B6 := Lib.hid (B1.out.trans (K5.out.below.trans hb))
  clear hb
  go_wp2
  go_ret
  exact ⟨rfl, B6.out⟩
end Go.Proofs.Ytpgoddbijkolbaa
