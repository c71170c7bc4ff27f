/- The walk of MemApart. No condition. -/
import Derived.Test.YtknihmpdghanfaaM16
namespace Go.Proofs.Ytknihmpdghanfaa
open Go.RowKit

def PagePost (w : World) (R : List Int) (e : Ending) (w' : World) : Prop := ∃ b t, e = .returned (.tuple #[.slice (some ⟨b, 0, none⟩) 32 32, .int .i64 0]) ∧ w.heap.size ≤ b ∧ w'.heap[b]? = some (.cells (wordsV R) t (0, 0)) ∧ Below w.heap.size w w'
theorem page_at (mp fb n f : Nat) (L : List Int) (w : World) (hm : MemSt w mp fb n L) (hf : f < n) : Calls Try.prog 15 #[.pointer (some ⟨mp, 0, none⟩), .int .i64 f] w (PagePost w (rowOf L f)) :=
  (page_ok mp fb n f L w hm hf).mono fun e w' ⟨v, he, ⟨b, t, hv, hb, hr⟩, hbe⟩ => ⟨b, t, by rw [he, hv, rowOf_length hm.len hf], hb, hr, hbe⟩
theorem rowX_of {w : World} {b fb : Nat} {t : TypeId} {R : List Int} (hr : w.heap[b]? = some (.cells (wordsV R) t (0, 0))) (hR : R.length = 32) (hne : b ≠ fb) : RowX w fb (.slice (some ⟨b, 0, none⟩) 32 32) R :=
  ⟨_, _, by rw [hR], Or.inr ⟨b, 0, rfl, lt_of_block hr, hne, fun i hi => by rw [cell_of_row w b _ _ _ _ hr, Nat.zero_add]; exact wordsV_get R i hi⟩⟩
theorem OwnMem.other {W w w' : World} {mp fb n bl : Nat} {L : List Int} (h : OwnMem W w mp fb n L) (hg : w.grownBy w' (some bl)) (h1 : mp ≠ bl) (h2 : fb ≠ bl) (h3 : W.heap.size ≤ bl) : OwnMem W w' mp fb n L :=
  ⟨⟨(hg.block mp (lt_of_block h.st.box) (fun e => h1 (Option.some.inj e))).trans h.st.box, (hg.block fb (lt_of_block h.st.row) (fun e => h2 (Option.some.inj e))).trans h.st.row, h.st.len, h.st.ne, h.st.pos, h.st.top⟩,
   h.below.trans (below_of_grownBy hg h.below.size h3), h.lm, h.lf⟩
theorem rowOf_put {L R : List Int} {n t f : Nat} (hl : L.length = n * 32) (ht : t < n) (hf : f < n) (hR : R.length = 32) : rowOf (putRow L t R) f = if t = f then R else rowOf L f := by
  refine ext_getD (by rw [rowOf_length (putRow_length hl ht hR) hf]; split <;> simp_all [rowOf_length hl hf]) fun j hj => ?_
  rw [rowOf_length (putRow_length hl ht hR) hf] at hj
  rw [getD_rowOf _ _ _ hj, getD_putRow hl ht hR hj]
  split
  · rfl
  · rw [getD_rowOf _ _ _ hj]
def ApartRel (W : World) (mp fb n bl : Nat) (L R : List Int) (i : Value) (wr : World) : Prop := ∃ (k : Nat) (K : List Int) (t : TypeId), i = .int .i64 k ∧ k ≤ 32 ∧ OwnMem W wr mp fb n L ∧ wr.heap[bl]? = some (.cells (wordsV K) t (0, 0)) ∧ K.length = 32 ∧ ∀ j, k ≤ j → K.getD j 0 = R.getD j 0

set_option maxRecDepth 100000 in
set_option maxHeartbeats 2000000 in
theorem apart_out (n a b p q v u : Int) (W : World) (h : n < 1 ∨ (¬ n < 1 ∧ 20 < n) ∨ (¬ n < 1 ∧ ¬ 20 < n ∧ a < 0) ∨ (¬ n < 1 ∧ ¬ 20 < n ∧ ¬ a < 0 ∧ n ≤ a) ∨ (¬ n < 1 ∧ ¬ 20 < n ∧ ¬ a < 0 ∧ ¬ n ≤ a ∧ b < 0) ∨ (¬ n < 1 ∧ ¬ 20 < n ∧ ¬ a < 0 ∧ ¬ n ≤ a ∧ ¬ b < 0 ∧ n ≤ b) ∨ (¬ n < 1 ∧ ¬ 20 < n ∧ ¬ a < 0 ∧ ¬ n ≤ a ∧ ¬ b < 0 ∧ ¬ n ≤ b ∧ p < 0) ∨ (¬ n < 1 ∧ ¬ 20 < n ∧ ¬ a < 0 ∧ ¬ n ≤ a ∧ ¬ b < 0 ∧ ¬ n ≤ b ∧ ¬ p < 0 ∧ 31 < p) ∨ (¬ n < 1 ∧ ¬ 20 < n ∧ ¬ a < 0 ∧ ¬ n ≤ a ∧ ¬ b < 0 ∧ ¬ n ≤ b ∧ ¬ p < 0 ∧ ¬ 31 < p ∧ q < 0) ∨ (¬ n < 1 ∧ ¬ 20 < n ∧ ¬ a < 0 ∧ ¬ n ≤ a ∧ ¬ b < 0 ∧ ¬ n ≤ b ∧ ¬ p < 0 ∧ ¬ 31 < p ∧ ¬ q < 0 ∧ 31 < q)) :
    Calls Try.prog 5 #[.int .i64 n, .int .i64 a, .int .i64 b, .int .i64 p, .int .i64 q, .int .u32 v, .int .u32 u] W fun e w' => e = .returned (.bool true) ∧ Below W.heap.size W w' := by
  rcases h with h1 | ⟨h1, h2⟩ | ⟨h1, h2, h3⟩ | ⟨h1, h2, h3, h4⟩ | ⟨h1, h2, h3, h4, h5⟩ | ⟨h1, h2, h3, h4, h5, h6⟩ | ⟨h1, h2, h3, h4, h5, h6, h7⟩ | ⟨h1, h2, h3, h4, h5, h6, h7, h8⟩ | ⟨h1, h2, h3, h4, h5, h6, h7, h8, h9⟩ | ⟨h1, h2, h3, h4, h5, h6, h7, h8, h9, h10⟩
  all_goals
    go_enter Try.func5, Try.ntmps5
    go_wp2_with (go_at_call 9; refine (awake_any _).mono ?_; rintro e w2 ⟨rfl, hb⟩; have B := Lib.hid hb; clear hb)
    go_ret
    exact ⟨rfl, Hid.out (by assumption)⟩

/-- What is read of the two words that were written. -/
theorem two_words (n a b p q : Nat) (v u : Int) (ha : a < n) (hb : b < n) (hp : p < 32) (hq : q < 32) (f j : Nat) (hj : j < 32) :
    (((List.replicate (n * 32) (0 : Int)).set (idx a p) v).set (idx b q) u).getD (f * 32 + j) 0 = if b = f ∧ q = j then u else if a = f ∧ p = j then v else 0 := by
  have l0 : (List.replicate (n * 32) (0 : Int)).length = n * 32 := List.length_replicate
  rw [getD_set _ _ _ _ (by rw [List.length_set, l0]; exact idx_lt (by unfold okFQ; omega)), getD_set _ _ _ _ (by rw [l0]; exact idx_lt (by unfold okFQ; omega)), replicate_get]
  have e1 : (idx b q = f * 32 + j) ↔ (b = f ∧ q = j) := by unfold idx; omega
  have e2 : (idx a p = f * 32 + j) ↔ (a = f ∧ p = j) := by unfold idx; omega
  simp only [e1, e2]

set_option maxRecDepth 100000 in
set_option maxHeartbeats 16000000 in
theorem apart_same (n a p : Nat) (v u : Int) (W : World) (h1 : 1 ≤ n) (h2 : n ≤ 20) (ha : a < n) (hp : p < 32) :
    Calls Try.prog 5 #[.int .i64 n, .int .i64 a, .int .i64 a, .int .i64 p, .int .i64 p, .int .u32 v, .int .u32 u] W fun e w' => e = .returned (.bool true) ∧ Below W.heap.size W w' := by
  have hv := two_words n a a p p v u ha ha hp hp
  have HA := Lib.hid ha
  have HB := Lib.hid ha
  have HP := Lib.hid hp
  have G0 : Hid (okFQ n a p) := Lib.hid (by unfold okFQ; omega)
  have G1 : Hid (okFQ n a p) := Lib.hid (by unfold okFQ; omega)
  have e1 := hv a p hp
  rw [if_pos ⟨rfl, rfl⟩] at e1
  have e2 := e1
  have e0 : ∀ k, k < 32 → k ≠ p → (((List.replicate (n * 32) (0 : Int)).set (idx a p) v).set (idx a p) u).getD (a * 32 + k) 0 = 0 := fun k hk h3 => by
    rw [hv a k hk, if_neg (by omega), if_neg (by omega)]
  rw [show a * 32 + p = idx a p by unfold idx; omega] at e1
  rw [show a * 32 + p = idx a p by unfold idx; omega] at e2
  have E0 := Lib.hid e0
  have E1 := Lib.hid e1
  have E2 := Lib.hid e2
  have hmk := make_32
  clear e0 e1 e2 hv  
  have LT : Hid (a < n) := HA
  clear ha
  have f1 : (n : Int) ≤ 20 := by omega
  go_enter Try.func5, Try.ntmps5
  have j1 : decide ((n : Int) < 1) = false := decide_eq_false (by omega)
  have j2 : decide (n < 1) = false := decide_eq_false (by omega)
  have j3 : decide ((20 : Int) < n) = false := decide_eq_false (by omega)
  have j4 : decide (20 < n) = false := decide_eq_false (by omega)
  have k1 : decide ((n : Int) ≤ a) = false := decide_eq_false (by have := HA.out; omega)
  have k2 : decide ((n : Int) ≤ a) = false := decide_eq_false (by have := HB.out; omega)
  have k3 : decide (n ≤ a) = false := decide_eq_false (by have := HA.out; omega)
  have k4 : decide (n ≤ a) = false := decide_eq_false (by have := HB.out; omega)
  have k5 : decide ((31 : Int) < p) = false := decide_eq_false (by have := HP.out; omega)
  have k6 : decide (31 < p) = false := decide_eq_false (by have := HP.out; omega)
  have k7 : decide ((31 : Int) < p) = false := decide_eq_false (by omega)
  have k8 : decide (31 < p) = false := decide_eq_false (by omega)
  go_wp2_with fail
  refine (new_ok n W h1 (by omega)).mono ?_
  rintro e w1 hx
  obtain ⟨mp, fb, rfl, ho⟩ := OwnMem.new hx
  have O1 := Lib.hid ho
  clear hx ho j1 j2 j3 j4 k1 k2 k3 k4 k5 k6 k7 k8
  go_wp2_with fail
  refine (write_i mp fb n _ a p v w1 O1.out.st G0.out).mono ?_
  rintro e w2 ⟨rfl, hx⟩
  have O2 := Lib.hid (O1.out.put hx)
  clear hx O1
  go_wp2_with fail
  refine (write_i mp fb n _ a p u w2 O2.out.st G1.out).mono ?_
  rintro e w3 ⟨rfl, hx⟩
  have O3 := Lib.hid (O2.out.put hx)
  clear hx O2
  generalize ((List.replicate (n * 32) (0 : Int)).set (idx a p) v).set (idx a p) u = L at *
  go_wp2_with fail
  have C := read_i mp fb n L a p w3 O3.out.st G0.out
  rw [E1.out] at C
  refine C.mono ?_
  clear C
  rintro e w4 ⟨rfl, hx⟩
  have O4 := Lib.hid (O3.out.step hx)
  clear hx O3
  go_wp2_with fail
  have C := read_i mp fb n L a p w4 O4.out.st G1.out
  rw [E2.out] at C
  refine C.mono ?_
  clear C
  rintro e w5 ⟨rfl, hx⟩
  have O5 := Lib.hid (O4.out.step hx)
  clear hx O4
  go_wp2_with fail
  have hlen := Lib.hid (rowOf_length O5.out.st.len LT.out)
  refine (page_at mp fb n a L w5 O5.out.st LT.out).mono ?_
  rintro e w6 ⟨bl, t, rfl, hbl, hr, hx⟩
  have N1 : Hid (mp ≠ bl) := Lib.hid (by have := lt_of_block O5.out.st.box; omega)
  have N2 : Hid (fb ≠ bl) := Lib.hid (by have := lt_of_block O5.out.st.row; omega)
  have N3 : Hid (W.heap.size ≤ bl) := Lib.hid (Nat.le_trans O5.out.below.size hbl)
  have O6 := Lib.hid (O5.out.step hx)
  have R6 := Lib.hid hr
  clear hx hr hbl O5
  go_wp2_with fail
  go_loopw [24] (fun i wr => ApartRel W mp fb n bl L (rowOf L a) i wr) (fun i _ => (32 - (intOf i).toNat))
  case atStart => exact ⟨0, _, t, rfl, Nat.zero_le _, O6.out, R6.out, hlen.out, fun _ _ => rfl⟩
  case round =>
    obtain ⟨k, K, t', rfl, hk, ho, hr, hK, hj⟩ := hrel
    have O7 := Lib.hid ho
    have R7 := Lib.hid hr
    have K7 := Lib.hid hK
    have J7 := Lib.hid hj
    clear ho hr hK hj
    by_cases hlt : k < 32
    · have e : (K.getD k 0) = L.getD (a * 32 + k) 0 := (J7.out k (Nat.le_refl _)).trans (getD_rowOf _ _ _ hlt)
      have E := Lib.hid e
      have c0 : wr.cell? ⟨bl, k, none⟩ = some (.int .u32 (K.getD k 0)) := by
        rw [cell_of_row wr bl _ _ _ _ R7.out]
        exact wordsV_get K k (by rw [K7.out]; exact hlt)
      have c1 : wr.frozen? ⟨bl, k, none⟩ = false := frozen_of_row wr bl k _ _ R7.out
      have hlt' : (k : Int) < 32 := by omega
      clear e
      have fin : ApartRel W mp fb n bl L (rowOf L a) (.int .i64 ((k : Int) + 1)) (wr.setCell ⟨bl, k, none⟩ (.int .u32 77)) := by
        have hg := grownBy_setCell wr bl k (.int .u32 77)
        have hr := heap_setCell_same wr bl k (wordsV K) t' (.int .u32 77) R7.out
        rw [wordsV_set] at hr
        refine ⟨k + 1, _, t', by go_num, by omega, O7.out.other hg N1.out N2.out N3.out, hr, by rw [List.length_set]; exact K7.out, fun j hj => ?_⟩
        rw [getD_set _ _ _ _ (by rw [K7.out]; exact hlt), if_neg (by omega)]
        exact J7.out j (by omega)
      have FIN := Lib.hid fin
      clear fin
      by_cases hp1 : k = p
      · subst hp1
        go_wp2
        go_roundw
        case rel => exact FIN.out
        case measure => simp [intOf]; omega
      · have d1 : ((k : Int) != (p : Int)) = true := bne_iff_ne.2 (by omega)
        have d2 : ((k : Int) == (p : Int)) = false := beq_eq_false_iff_ne.2 (by omega)
        have hz : K.getD k 0 = 0 := E.out.trans (E0.out k hlt hp1)
        rw [hz] at c0
        clear hz
        go_wp2
        go_roundw
        case rel => exact FIN.out
        case measure => simp [intOf]; omega
    · obtain rfl : k = 32 := by omega
      clear hlt hk
      have hp' : (p : Int) < 32 := by have := HP.out; omega
      go_wp2_with fail
      refine (page_at mp fb n a L wr O7.out.st LT.out).mono ?_
      rintro e w7 ⟨bk, t2, rfl, hbk, hr, hx⟩
      have O8 := Lib.hid (O7.out.step hx)
      have X8 := Lib.hid (rowX_of hr hlen.out (show bk ≠ fb by have := lt_of_block O7.out.st.row; omega))
      have c0 : w7.cell? ⟨bk, p, none⟩ = some (.int .u32 u) := by
        rw [cell_of_row w7 bk _ _ _ _ hr, wordsV_get _ p (by rw [hlen.out]; exact HP.out), getD_rowOf _ _ _ HP.out]
        have := E1.out
        rw [show idx a p = a * 32 + p by unfold idx; omega] at this
        rw [this]
      clear hx hr hbk O7 R7 K7 J7
      go_wp2_with fail
      refine (copy_ok mp fb n a a L w7 O8.out.st LT.out HB.out).mono ?_
      rintro e w8 ⟨rfl, hx⟩
      have O9 := Lib.hid (O8.out.put hx)
      have X9 := Lib.hid (X8.out.grown hx.grown)
      have r1 := rowOf_put (R := rowOf L a) O8.out.st.len HB.out HB.out hlen.out
      rw [if_pos rfl] at r1
      clear hx c0
      generalize putRow L a (rowOf L a) = L3 at *
      go_wp2_with fail
      have C := page_at mp fb n a L3 w8 O9.out.st HB.out
      rw [r1] at C
      refine C.mono ?_
      clear C
      rintro e w9 ⟨bc, t3, rfl, hbc, hr, hx⟩
      have O10 := Lib.hid (O9.out.step hx)
      have X10 := Lib.hid (X9.out.below hx)
      have Y10 := Lib.hid (rowX_of hr hlen.out (show bc ≠ fb by have := lt_of_block O9.out.st.row; omega))
      have R1 := Lib.hid r1
      clear hx hr hbc r1
      go_wp2_with fail
      refine (zero_ok mp fb n a L3 w9 O10.out.st LT.out).mono ?_
      rintro e w10 ⟨rfl, hx⟩
      have O11 := Lib.hid (O10.out.put hx)
      have X11 := Lib.hid (X10.out.grown hx.grown)
      have Y11 := Lib.hid (Y10.out.grown hx.grown)
      have r2 := rowOf_put (R := zeros) O10.out.st.len LT.out LT.out rfl
      rw [if_pos rfl] at r2
      clear hx
      generalize putRow L3 a zeros = L4 at *
      go_wp2_with fail
      have C := page_at mp fb n a L4 w10 O11.out.st LT.out
      rw [r2] at C
      refine C.mono ?_
      clear C r2
      rintro e w11 ⟨bz, t4, rfl, hbz, hr, hx⟩
      have O12 := Lib.hid (O11.out.step hx)
      have X12 := Lib.hid (X11.out.below hx)
      have Y12 := Lib.hid (Y11.out.below hx)
      have Z12 := Lib.hid (rowX_of hr rfl (show bz ≠ fb by have := lt_of_block O11.out.st.row; omega))
      clear hx hr hbz
      go_wp2_with fail
      refine (page_at mp fb n a L4 w11 O12.out.st LT.out).mono ?_
      rintro e w12 ⟨bd, t5, rfl, hbd, hr, hx⟩
      have O13 := Lib.hid (O12.out.step hx)
      have X13 := Lib.hid (X12.out.below hx)
      have Y13 := Lib.hid (Y12.out.below hx)
      have Z13 := Lib.hid (Z12.out.below hx)
      clear hx hr hbd
      go_wp2_with fail
      refine (same_yes _ _ (rowOf L a) w12 (by rw [hlen.out]; decide) Y13.out.rowAt X13.out.rowAt).mono ?_
      rintro e w13 ⟨rfl, hx⟩
      have O14 := Lib.hid (O13.out.step hx)
      have X14 := Lib.hid (X13.out.below hx)
      have Z14 := Lib.hid (Z13.out.below hx)
      clear hx
      go_wp2_with fail
      refine (same_yes _ _ zeros _ (by decide) (Z14.out.rowAt.below ((Below.refl _ _).alloc (Nat.le_refl _) _)) (made_rowAt w13)).mono ?_
      rintro e w14 ⟨rfl, hx⟩
      have B14 := (Below.refl w13.heap.size w13).alloc (Nat.le_refl _) (.cells (wordsV (List.replicate 32 0)) 36)
      have O15 := Lib.hid ((O14.out.step B14).step hx)
      clear hx B14
      go_wp2_with fail
      refine (awake_any w14).mono ?_
      rintro e w16 ⟨rfl, hx⟩
      have O17 := Lib.hid (O15.out.step hx)
      clear hx
      go_wp2
      go_ret
      exact ⟨rfl, O17.out.below⟩

set_option maxRecDepth 100000 in
set_option maxHeartbeats 16000000 in
theorem apart_row (n a p q : Nat) (v u : Int) (W : World) (h1 : 1 ≤ n) (h2 : n ≤ 20) (ha : a < n) (hp : p < 32) (hq : q < 32) (hne : p ≠ q) :
    Calls Try.prog 5 #[.int .i64 n, .int .i64 a, .int .i64 a, .int .i64 p, .int .i64 q, .int .u32 v, .int .u32 u] W fun e w' => e = .returned (.bool true) ∧ Below W.heap.size W w' := by
  have hv := two_words n a a p q v u ha ha hp hq
  have HA := Lib.hid ha
  have HB := Lib.hid ha
  have HP := Lib.hid hp
  have G0 : Hid (okFQ n a p) := Lib.hid (by unfold okFQ; omega)
  have G1 : Hid (okFQ n a q) := Lib.hid (by unfold okFQ; omega)
  have t1 : ((p : Int) == (q : Int)) = false := beq_eq_false_iff_ne.2 (by omega)
  have t2 : (p == q) = false := beq_eq_false_iff_ne.2 hne
  have e1 := hv a p hp
  rw [if_neg (by omega), if_pos ⟨rfl, rfl⟩] at e1
  have e2 := hv a q hq
  rw [if_pos ⟨rfl, rfl⟩] at e2
  have e0 : ∀ k, k < 32 → k ≠ p → k ≠ q → (((List.replicate (n * 32) (0 : Int)).set (idx a p) v).set (idx a q) u).getD (a * 32 + k) 0 = 0 := fun k hk h3 h4 => by
    rw [hv a k hk, if_neg (by omega), if_neg (by omega)]
  rw [show a * 32 + p = idx a p by unfold idx; omega] at e1
  rw [show a * 32 + q = idx a q by unfold idx; omega] at e2
  have E0 := Lib.hid e0
  have E1 := Lib.hid e1
  have E2 := Lib.hid e2
  have hmk := make_32
  clear e0 e1 e2 hv hne 
  have LT : Hid (a < n) := HA
  clear ha
  have f1 : (n : Int) ≤ 20 := by omega
  go_enter Try.func5, Try.ntmps5
  have j1 : decide ((n : Int) < 1) = false := decide_eq_false (by omega)
  have j2 : decide (n < 1) = false := decide_eq_false (by omega)
  have j3 : decide ((20 : Int) < n) = false := decide_eq_false (by omega)
  have j4 : decide (20 < n) = false := decide_eq_false (by omega)
  have k1 : decide ((n : Int) ≤ a) = false := decide_eq_false (by have := HA.out; omega)
  have k2 : decide ((n : Int) ≤ a) = false := decide_eq_false (by have := HB.out; omega)
  have k3 : decide (n ≤ a) = false := decide_eq_false (by have := HA.out; omega)
  have k4 : decide (n ≤ a) = false := decide_eq_false (by have := HB.out; omega)
  have k5 : decide ((31 : Int) < p) = false := decide_eq_false (by have := HP.out; omega)
  have k6 : decide (31 < p) = false := decide_eq_false (by have := HP.out; omega)
  have k7 : decide ((31 : Int) < q) = false := decide_eq_false (by omega)
  have k8 : decide (31 < q) = false := decide_eq_false (by omega)
  go_wp2_with fail
  refine (new_ok n W h1 (by omega)).mono ?_
  rintro e w1 hx
  obtain ⟨mp, fb, rfl, ho⟩ := OwnMem.new hx
  have O1 := Lib.hid ho
  clear hx ho j1 j2 j3 j4 k1 k2 k3 k4 k5 k6 k7 k8
  go_wp2_with fail
  refine (write_i mp fb n _ a p v w1 O1.out.st G0.out).mono ?_
  rintro e w2 ⟨rfl, hx⟩
  have O2 := Lib.hid (O1.out.put hx)
  clear hx O1
  go_wp2_with fail
  refine (write_i mp fb n _ a q u w2 O2.out.st G1.out).mono ?_
  rintro e w3 ⟨rfl, hx⟩
  have O3 := Lib.hid (O2.out.put hx)
  clear hx O2
  generalize ((List.replicate (n * 32) (0 : Int)).set (idx a p) v).set (idx a q) u = L at *
  go_wp2_with fail
  have C := read_i mp fb n L a p w3 O3.out.st G0.out
  rw [E1.out] at C
  refine C.mono ?_
  clear C
  rintro e w4 ⟨rfl, hx⟩
  have O4 := Lib.hid (O3.out.step hx)
  clear hx O3
  go_wp2_with fail
  have C := read_i mp fb n L a q w4 O4.out.st G1.out
  rw [E2.out] at C
  refine C.mono ?_
  clear C
  rintro e w5 ⟨rfl, hx⟩
  have O5 := Lib.hid (O4.out.step hx)
  clear hx O4
  go_wp2_with fail
  have hlen := Lib.hid (rowOf_length O5.out.st.len LT.out)
  refine (page_at mp fb n a L w5 O5.out.st LT.out).mono ?_
  rintro e w6 ⟨bl, t, rfl, hbl, hr, hx⟩
  have N1 : Hid (mp ≠ bl) := Lib.hid (by have := lt_of_block O5.out.st.box; omega)
  have N2 : Hid (fb ≠ bl) := Lib.hid (by have := lt_of_block O5.out.st.row; omega)
  have N3 : Hid (W.heap.size ≤ bl) := Lib.hid (Nat.le_trans O5.out.below.size hbl)
  have O6 := Lib.hid (O5.out.step hx)
  have R6 := Lib.hid hr
  clear hx hr hbl O5
  go_wp2_with fail
  go_loopw [24] (fun i wr => ApartRel W mp fb n bl L (rowOf L a) i wr) (fun i _ => (32 - (intOf i).toNat))
  case atStart => exact ⟨0, _, t, rfl, Nat.zero_le _, O6.out, R6.out, hlen.out, fun _ _ => rfl⟩
  case round =>
    obtain ⟨k, K, t', rfl, hk, ho, hr, hK, hj⟩ := hrel
    have O7 := Lib.hid ho
    have R7 := Lib.hid hr
    have K7 := Lib.hid hK
    have J7 := Lib.hid hj
    clear ho hr hK hj
    by_cases hlt : k < 32
    · have e : (K.getD k 0) = L.getD (a * 32 + k) 0 := (J7.out k (Nat.le_refl _)).trans (getD_rowOf _ _ _ hlt)
      have E := Lib.hid e
      have c0 : wr.cell? ⟨bl, k, none⟩ = some (.int .u32 (K.getD k 0)) := by
        rw [cell_of_row wr bl _ _ _ _ R7.out]
        exact wordsV_get K k (by rw [K7.out]; exact hlt)
      have c1 : wr.frozen? ⟨bl, k, none⟩ = false := frozen_of_row wr bl k _ _ R7.out
      have hlt' : (k : Int) < 32 := by omega
      clear e
      have fin : ApartRel W mp fb n bl L (rowOf L a) (.int .i64 ((k : Int) + 1)) (wr.setCell ⟨bl, k, none⟩ (.int .u32 77)) := by
        have hg := grownBy_setCell wr bl k (.int .u32 77)
        have hr := heap_setCell_same wr bl k (wordsV K) t' (.int .u32 77) R7.out
        rw [wordsV_set] at hr
        refine ⟨k + 1, _, t', by go_num, by omega, O7.out.other hg N1.out N2.out N3.out, hr, by rw [List.length_set]; exact K7.out, fun j hj => ?_⟩
        rw [getD_set _ _ _ _ (by rw [K7.out]; exact hlt), if_neg (by omega)]
        exact J7.out j (by omega)
      have FIN := Lib.hid fin
      clear fin
      by_cases hp1 : k = p
      · subst hp1
        go_wp2
        go_roundw
        case rel => exact FIN.out
        case measure => simp [intOf]; omega
      · have d1 : ((k : Int) != (p : Int)) = true := bne_iff_ne.2 (by omega)
        by_cases hq1 : k = q
        · subst hq1
          go_wp2
          go_roundw
          case rel => exact FIN.out
          case measure => simp [intOf]; omega
        · have d2 : ((k : Int) == (q : Int)) = false := beq_eq_false_iff_ne.2 (by omega)
          have hz : K.getD k 0 = 0 := E.out.trans (E0.out k hlt hp1 hq1)
          rw [hz] at c0
          clear hz
          go_wp2
          go_roundw
          case rel => exact FIN.out
          case measure => simp [intOf]; omega
    · obtain rfl : k = 32 := by omega
      clear hlt hk
      have hp' : (p : Int) < 32 := by have := HP.out; omega
      go_wp2_with fail
      refine (page_at mp fb n a L wr O7.out.st LT.out).mono ?_
      rintro e w7 ⟨bk, t2, rfl, hbk, hr, hx⟩
      have O8 := Lib.hid (O7.out.step hx)
      have X8 := Lib.hid (rowX_of hr hlen.out (show bk ≠ fb by have := lt_of_block O7.out.st.row; omega))
      have c0 : w7.cell? ⟨bk, p, none⟩ = some (.int .u32 v) := by
        rw [cell_of_row w7 bk _ _ _ _ hr, wordsV_get _ p (by rw [hlen.out]; exact HP.out), getD_rowOf _ _ _ HP.out]
        have := E1.out
        rw [show idx a p = a * 32 + p by unfold idx; omega] at this
        rw [this]
      clear hx hr hbk O7 R7 K7 J7
      go_wp2_with fail
      refine (copy_ok mp fb n a a L w7 O8.out.st LT.out HB.out).mono ?_
      rintro e w8 ⟨rfl, hx⟩
      have O9 := Lib.hid (O8.out.put hx)
      have X9 := Lib.hid (X8.out.grown hx.grown)
      have r1 := rowOf_put (R := rowOf L a) O8.out.st.len HB.out HB.out hlen.out
      rw [if_pos rfl] at r1
      clear hx c0
      generalize putRow L a (rowOf L a) = L3 at *
      go_wp2_with fail
      have C := page_at mp fb n a L3 w8 O9.out.st HB.out
      rw [r1] at C
      refine C.mono ?_
      clear C
      rintro e w9 ⟨bc, t3, rfl, hbc, hr, hx⟩
      have O10 := Lib.hid (O9.out.step hx)
      have X10 := Lib.hid (X9.out.below hx)
      have Y10 := Lib.hid (rowX_of hr hlen.out (show bc ≠ fb by have := lt_of_block O9.out.st.row; omega))
      have R1 := Lib.hid r1
      clear hx hr hbc r1
      go_wp2_with fail
      refine (zero_ok mp fb n a L3 w9 O10.out.st LT.out).mono ?_
      rintro e w10 ⟨rfl, hx⟩
      have O11 := Lib.hid (O10.out.put hx)
      have X11 := Lib.hid (X10.out.grown hx.grown)
      have Y11 := Lib.hid (Y10.out.grown hx.grown)
      have r2 := rowOf_put (R := zeros) O10.out.st.len LT.out LT.out rfl
      rw [if_pos rfl] at r2
      clear hx
      generalize putRow L3 a zeros = L4 at *
      go_wp2_with fail
      have C := page_at mp fb n a L4 w10 O11.out.st LT.out
      rw [r2] at C
      refine C.mono ?_
      clear C r2
      rintro e w11 ⟨bz, t4, rfl, hbz, hr, hx⟩
      have O12 := Lib.hid (O11.out.step hx)
      have X12 := Lib.hid (X11.out.below hx)
      have Y12 := Lib.hid (Y11.out.below hx)
      have Z12 := Lib.hid (rowX_of hr rfl (show bz ≠ fb by have := lt_of_block O11.out.st.row; omega))
      clear hx hr hbz
      go_wp2_with fail
      refine (page_at mp fb n a L4 w11 O12.out.st LT.out).mono ?_
      rintro e w12 ⟨bd, t5, rfl, hbd, hr, hx⟩
      have O13 := Lib.hid (O12.out.step hx)
      have X13 := Lib.hid (X12.out.below hx)
      have Y13 := Lib.hid (Y12.out.below hx)
      have Z13 := Lib.hid (Z12.out.below hx)
      clear hx hr hbd
      go_wp2_with fail
      refine (same_yes _ _ (rowOf L a) w12 (by rw [hlen.out]; decide) Y13.out.rowAt X13.out.rowAt).mono ?_
      rintro e w13 ⟨rfl, hx⟩
      have O14 := Lib.hid (O13.out.step hx)
      have X14 := Lib.hid (X13.out.below hx)
      have Z14 := Lib.hid (Z13.out.below hx)
      clear hx
      go_wp2_with fail
      refine (same_yes _ _ zeros _ (by decide) (Z14.out.rowAt.below ((Below.refl _ _).alloc (Nat.le_refl _) _)) (made_rowAt w13)).mono ?_
      rintro e w14 ⟨rfl, hx⟩
      have B14 := (Below.refl w13.heap.size w13).alloc (Nat.le_refl _) (.cells (wordsV (List.replicate 32 0)) 36)
      have O15 := Lib.hid ((O14.out.step B14).step hx)
      clear hx B14
      go_wp2_with fail
      refine (awake_any w14).mono ?_
      rintro e w16 ⟨rfl, hx⟩
      have O17 := Lib.hid (O15.out.step hx)
      clear hx
      go_wp2
      go_ret
      exact ⟨rfl, O17.out.below⟩

set_option maxRecDepth 100000 in
set_option maxHeartbeats 16000000 in
theorem apart_apart (n a b p q : Nat) (v u : Int) (W : World) (h1 : 1 ≤ n) (h2 : n ≤ 20) (ha : a < n) (hb : b < n) (hp : p < 32) (hq : q < 32) (hne : a ≠ b) :
    Calls Try.prog 5 #[.int .i64 n, .int .i64 a, .int .i64 b, .int .i64 p, .int .i64 q, .int .u32 v, .int .u32 u] W fun e w' => e = .returned (.bool true) ∧ Below W.heap.size W w' := by
  have hv := two_words n a b p q v u ha hb hp hq
  have HA := Lib.hid ha
  have HB := Lib.hid hb
  have HP := Lib.hid hp
  have G0 : Hid (okFQ n a p) := Lib.hid (by unfold okFQ; omega)
  have G1 : Hid (okFQ n b q) := Lib.hid (by unfold okFQ; omega)
  have t1 : ((a : Int) == (b : Int)) = false := beq_eq_false_iff_ne.2 (by omega)
  have t2 : (a == b) = false := beq_eq_false_iff_ne.2 hne
  have e1 := hv a p hp
  rw [if_neg (by omega), if_pos ⟨rfl, rfl⟩] at e1
  have e2 := hv b q hq
  rw [if_pos ⟨rfl, rfl⟩] at e2
  have e0 : ∀ k, k < 32 → k ≠ p → (((List.replicate (n * 32) (0 : Int)).set (idx a p) v).set (idx b q) u).getD (a * 32 + k) 0 = 0 := fun k hk h3 => by
    rw [hv a k hk, if_neg (by omega), if_neg (by omega)]
  rw [show a * 32 + p = idx a p by unfold idx; omega] at e1
  rw [show b * 32 + q = idx b q by unfold idx; omega] at e2
  have E0 := Lib.hid e0
  have E1 := Lib.hid e1
  have E2 := Lib.hid e2
  have hmk := make_32
  clear e0 e1 e2 hv hne hb
  have LT : Hid (a < n) := HA
  clear ha
  have f1 : (n : Int) ≤ 20 := by omega
  go_enter Try.func5, Try.ntmps5
  have j1 : decide ((n : Int) < 1) = false := decide_eq_false (by omega)
  have j2 : decide (n < 1) = false := decide_eq_false (by omega)
  have j3 : decide ((20 : Int) < n) = false := decide_eq_false (by omega)
  have j4 : decide (20 < n) = false := decide_eq_false (by omega)
  have k1 : decide ((n : Int) ≤ a) = false := decide_eq_false (by have := HA.out; omega)
  have k2 : decide ((n : Int) ≤ b) = false := decide_eq_false (by have := HB.out; omega)
  have k3 : decide (n ≤ a) = false := decide_eq_false (by have := HA.out; omega)
  have k4 : decide (n ≤ b) = false := decide_eq_false (by have := HB.out; omega)
  have k5 : decide ((31 : Int) < p) = false := decide_eq_false (by have := HP.out; omega)
  have k6 : decide (31 < p) = false := decide_eq_false (by have := HP.out; omega)
  have k7 : decide ((31 : Int) < q) = false := decide_eq_false (by omega)
  have k8 : decide (31 < q) = false := decide_eq_false (by omega)
  go_wp2_with fail
  refine (new_ok n W h1 (by omega)).mono ?_
  rintro e w1 hx
  obtain ⟨mp, fb, rfl, ho⟩ := OwnMem.new hx
  have O1 := Lib.hid ho
  clear hx ho j1 j2 j3 j4 k1 k2 k3 k4 k5 k6 k7 k8
  go_wp2_with fail
  refine (write_i mp fb n _ a p v w1 O1.out.st G0.out).mono ?_
  rintro e w2 ⟨rfl, hx⟩
  have O2 := Lib.hid (O1.out.put hx)
  clear hx O1
  go_wp2_with fail
  refine (write_i mp fb n _ b q u w2 O2.out.st G1.out).mono ?_
  rintro e w3 ⟨rfl, hx⟩
  have O3 := Lib.hid (O2.out.put hx)
  clear hx O2
  generalize ((List.replicate (n * 32) (0 : Int)).set (idx a p) v).set (idx b q) u = L at *
  go_wp2_with fail
  have C := read_i mp fb n L a p w3 O3.out.st G0.out
  rw [E1.out] at C
  refine C.mono ?_
  clear C
  rintro e w4 ⟨rfl, hx⟩
  have O4 := Lib.hid (O3.out.step hx)
  clear hx O3
  go_wp2_with fail
  have C := read_i mp fb n L b q w4 O4.out.st G1.out
  rw [E2.out] at C
  refine C.mono ?_
  clear C
  rintro e w5 ⟨rfl, hx⟩
  have O5 := Lib.hid (O4.out.step hx)
  clear hx O4
  go_wp2_with fail
  have hlen := Lib.hid (rowOf_length O5.out.st.len LT.out)
  refine (page_at mp fb n a L w5 O5.out.st LT.out).mono ?_
  rintro e w6 ⟨bl, t, rfl, hbl, hr, hx⟩
  have N1 : Hid (mp ≠ bl) := Lib.hid (by have := lt_of_block O5.out.st.box; omega)
  have N2 : Hid (fb ≠ bl) := Lib.hid (by have := lt_of_block O5.out.st.row; omega)
  have N3 : Hid (W.heap.size ≤ bl) := Lib.hid (Nat.le_trans O5.out.below.size hbl)
  have O6 := Lib.hid (O5.out.step hx)
  have R6 := Lib.hid hr
  clear hx hr hbl O5
  go_wp2_with fail
  go_loopw [24] (fun i wr => ApartRel W mp fb n bl L (rowOf L a) i wr) (fun i _ => (32 - (intOf i).toNat))
  case atStart => exact ⟨0, _, t, rfl, Nat.zero_le _, O6.out, R6.out, hlen.out, fun _ _ => rfl⟩
  case round =>
    obtain ⟨k, K, t', rfl, hk, ho, hr, hK, hj⟩ := hrel
    have O7 := Lib.hid ho
    have R7 := Lib.hid hr
    have K7 := Lib.hid hK
    have J7 := Lib.hid hj
    clear ho hr hK hj
    by_cases hlt : k < 32
    · have e : (K.getD k 0) = L.getD (a * 32 + k) 0 := (J7.out k (Nat.le_refl _)).trans (getD_rowOf _ _ _ hlt)
      have E := Lib.hid e
      have c0 : wr.cell? ⟨bl, k, none⟩ = some (.int .u32 (K.getD k 0)) := by
        rw [cell_of_row wr bl _ _ _ _ R7.out]
        exact wordsV_get K k (by rw [K7.out]; exact hlt)
      have c1 : wr.frozen? ⟨bl, k, none⟩ = false := frozen_of_row wr bl k _ _ R7.out
      have hlt' : (k : Int) < 32 := by omega
      clear e
      have fin : ApartRel W mp fb n bl L (rowOf L a) (.int .i64 ((k : Int) + 1)) (wr.setCell ⟨bl, k, none⟩ (.int .u32 77)) := by
        have hg := grownBy_setCell wr bl k (.int .u32 77)
        have hr := heap_setCell_same wr bl k (wordsV K) t' (.int .u32 77) R7.out
        rw [wordsV_set] at hr
        refine ⟨k + 1, _, t', by go_num, by omega, O7.out.other hg N1.out N2.out N3.out, hr, by rw [List.length_set]; exact K7.out, fun j hj => ?_⟩
        rw [getD_set _ _ _ _ (by rw [K7.out]; exact hlt), if_neg (by omega)]
        exact J7.out j (by omega)
      have FIN := Lib.hid fin
      clear fin
      by_cases hp1 : k = p
      · subst hp1
        go_wp2
        go_roundw
        case rel => exact FIN.out
        case measure => simp [intOf]; omega
      · have d1 : ((k : Int) != (p : Int)) = true := bne_iff_ne.2 (by omega)
        have hz : K.getD k 0 = 0 := E.out.trans (E0.out k hlt hp1)
        rw [hz] at c0
        clear hz
        go_wp2
        go_roundw
        case rel => exact FIN.out
        case measure => simp [intOf]; omega
    · obtain rfl : k = 32 := by omega
      clear hlt hk
      have hp' : (p : Int) < 32 := by have := HP.out; omega
      go_wp2_with fail
      refine (page_at mp fb n a L wr O7.out.st LT.out).mono ?_
      rintro e w7 ⟨bk, t2, rfl, hbk, hr, hx⟩
      have O8 := Lib.hid (O7.out.step hx)
      have X8 := Lib.hid (rowX_of hr hlen.out (show bk ≠ fb by have := lt_of_block O7.out.st.row; omega))
      have c0 : w7.cell? ⟨bk, p, none⟩ = some (.int .u32 v) := by
        rw [cell_of_row w7 bk _ _ _ _ hr, wordsV_get _ p (by rw [hlen.out]; exact HP.out), getD_rowOf _ _ _ HP.out]
        have := E1.out
        rw [show idx a p = a * 32 + p by unfold idx; omega] at this
        rw [this]
      clear hx hr hbk O7 R7 K7 J7
      go_wp2_with fail
      refine (copy_ok mp fb n a b L w7 O8.out.st LT.out HB.out).mono ?_
      rintro e w8 ⟨rfl, hx⟩
      have O9 := Lib.hid (O8.out.put hx)
      have X9 := Lib.hid (X8.out.grown hx.grown)
      have r1 := rowOf_put (R := rowOf L a) O8.out.st.len HB.out HB.out hlen.out
      rw [if_pos rfl] at r1
      clear hx c0
      generalize putRow L b (rowOf L a) = L3 at *
      go_wp2_with fail
      have C := page_at mp fb n b L3 w8 O9.out.st HB.out
      rw [r1] at C
      refine C.mono ?_
      clear C
      rintro e w9 ⟨bc, t3, rfl, hbc, hr, hx⟩
      have O10 := Lib.hid (O9.out.step hx)
      have X10 := Lib.hid (X9.out.below hx)
      have Y10 := Lib.hid (rowX_of hr hlen.out (show bc ≠ fb by have := lt_of_block O9.out.st.row; omega))
      have R1 := Lib.hid r1
      clear hx hr hbc r1
      go_wp2_with fail
      refine (zero_ok mp fb n a L3 w9 O10.out.st LT.out).mono ?_
      rintro e w10 ⟨rfl, hx⟩
      have O11 := Lib.hid (O10.out.put hx)
      have X11 := Lib.hid (X10.out.grown hx.grown)
      have Y11 := Lib.hid (Y10.out.grown hx.grown)
      have r2 := rowOf_put (R := zeros) O10.out.st.len LT.out LT.out rfl
      rw [if_pos rfl] at r2
      have r3 := rowOf_put (R := zeros) O10.out.st.len LT.out HB.out rfl
      rw [if_neg (by intro e; subst e; simp at t2), R1.out] at r3
      have R3 := Lib.hid r3
      clear r3
      clear hx
      generalize putRow L3 a zeros = L4 at *
      go_wp2_with fail
      have C := page_at mp fb n a L4 w10 O11.out.st LT.out
      rw [r2] at C
      refine C.mono ?_
      clear C r2
      rintro e w11 ⟨bz, t4, rfl, hbz, hr, hx⟩
      have O12 := Lib.hid (O11.out.step hx)
      have X12 := Lib.hid (X11.out.below hx)
      have Y12 := Lib.hid (Y11.out.below hx)
      have Z12 := Lib.hid (rowX_of hr rfl (show bz ≠ fb by have := lt_of_block O11.out.st.row; omega))
      clear hx hr hbz
      go_wp2_with fail
      have C := page_at mp fb n b L4 w11 O12.out.st HB.out
      rw [R3.out] at C
      refine C.mono ?_
      clear C
      rintro e w12 ⟨bd, t5, rfl, hbd, hr, hx⟩
      have D13 := Lib.hid (rowX_of hr hlen.out (show bd ≠ fb by have := lt_of_block O12.out.st.row; omega))
      have O13 := Lib.hid (O12.out.step hx)
      have X13 := Lib.hid (X12.out.below hx)
      have Y13 := Lib.hid (Y12.out.below hx)
      have Z13 := Lib.hid (Z12.out.below hx)
      clear hx hr hbd
      go_wp2_with fail
      refine (same_yes _ _ (rowOf L a) w12 (by rw [hlen.out]; decide) Y13.out.rowAt X13.out.rowAt).mono ?_
      rintro e w13 ⟨rfl, hx⟩
      have O14 := Lib.hid (O13.out.step hx)
      have X14 := Lib.hid (X13.out.below hx)
      have Z14 := Lib.hid (Z13.out.below hx)
      have D14 := Lib.hid (D13.out.below hx)
      clear hx
      go_wp2_with fail
      refine (same_yes _ _ zeros _ (by decide) (Z14.out.rowAt.below ((Below.refl _ _).alloc (Nat.le_refl _) _)) (made_rowAt w13)).mono ?_
      rintro e w14 ⟨rfl, hx⟩
      have B14 := (Below.refl w13.heap.size w13).alloc (Nat.le_refl _) (.cells (wordsV (List.replicate 32 0)) 36)
      have O15 := Lib.hid ((O14.out.step B14).step hx)
      have X15 := Lib.hid ((X14.out.below B14).below hx)
      have D15 := Lib.hid ((D14.out.below B14).below hx)
      clear hx B14
      go_wp2_with fail
      refine (same_yes _ _ (rowOf L a) w14 (by rw [hlen.out]; decide) D15.out.rowAt X15.out.rowAt).mono ?_
      rintro e w15 ⟨rfl, hx⟩
      have O16 := Lib.hid (O15.out.step hx)
      clear hx
      go_wp2_with fail
      refine (awake_any w15).mono ?_
      rintro e w16 ⟨rfl, hx⟩
      have O17 := Lib.hid (O16.out.step hx)
      clear hx
      go_wp2
      go_ret
      exact ⟨rfl, O17.out.below⟩

theorem memApart_walk (n a b p q v u : Int) (W : World) (_hn : -9223372036854775808 ≤ n ∧ n ≤ 9223372036854775807) (_ha : -9223372036854775808 ≤ a ∧ a ≤ 9223372036854775807) (_hb : -9223372036854775808 ≤ b ∧ b ≤ 9223372036854775807) (_hp : -9223372036854775808 ≤ p ∧ p ≤ 9223372036854775807) (_hq : -9223372036854775808 ≤ q ∧ q ≤ 9223372036854775807) (_hv : 0 ≤ v ∧ v ≤ 4294967295) (_hu : 0 ≤ u ∧ u ≤ 4294967295) :
    Calls Try.prog 5 #[.int .i64 n, .int .i64 a, .int .i64 b, .int .i64 p, .int .i64 q, .int .u32 v, .int .u32 u] W fun e w' => e = .returned (.bool true) ∧ Below W.heap.size W w' := by
  by_cases c0 : n < 1
  · exact apart_out n a b p q v u W (Or.inl c0)
  by_cases c1 : 20 < n
  · exact apart_out n a b p q v u W (Or.inr (Or.inl ⟨c0, c1⟩))
  by_cases c2 : a < 0
  · exact apart_out n a b p q v u W (Or.inr (Or.inr (Or.inl ⟨c0, c1, c2⟩)))
  by_cases c3 : n ≤ a
  · exact apart_out n a b p q v u W (Or.inr (Or.inr (Or.inr (Or.inl ⟨c0, c1, c2, c3⟩))))
  by_cases c4 : b < 0
  · exact apart_out n a b p q v u W (Or.inr (Or.inr (Or.inr (Or.inr (Or.inl ⟨c0, c1, c2, c3, c4⟩)))))
  by_cases c5 : n ≤ b
  · exact apart_out n a b p q v u W (Or.inr (Or.inr (Or.inr (Or.inr (Or.inr (Or.inl ⟨c0, c1, c2, c3, c4, c5⟩))))))
  by_cases c6 : p < 0
  · exact apart_out n a b p q v u W (Or.inr (Or.inr (Or.inr (Or.inr (Or.inr (Or.inr (Or.inl ⟨c0, c1, c2, c3, c4, c5, c6⟩)))))))
  by_cases c7 : 31 < p
  · exact apart_out n a b p q v u W (Or.inr (Or.inr (Or.inr (Or.inr (Or.inr (Or.inr (Or.inr (Or.inl ⟨c0, c1, c2, c3, c4, c5, c6, c7⟩))))))))
  by_cases c8 : q < 0
  · exact apart_out n a b p q v u W (Or.inr (Or.inr (Or.inr (Or.inr (Or.inr (Or.inr (Or.inr (Or.inr (Or.inl ⟨c0, c1, c2, c3, c4, c5, c6, c7, c8⟩)))))))))
  by_cases c9 : 31 < q
  · exact apart_out n a b p q v u W (Or.inr (Or.inr (Or.inr (Or.inr (Or.inr (Or.inr (Or.inr (Or.inr (Or.inr (⟨c0, c1, c2, c3, c4, c5, c6, c7, c8, c9⟩))))))))))
  · obtain ⟨n, rfl⟩ := Int.eq_ofNat_of_zero_le (show 0 ≤ n by omega)
    obtain ⟨a, rfl⟩ := Int.eq_ofNat_of_zero_le (show 0 ≤ a by omega)
    obtain ⟨b, rfl⟩ := Int.eq_ofNat_of_zero_le (show 0 ≤ b by omega)
    obtain ⟨p, rfl⟩ := Int.eq_ofNat_of_zero_le (show 0 ≤ p by omega)
    obtain ⟨q, rfl⟩ := Int.eq_ofNat_of_zero_le (show 0 ≤ q by omega)
    by_cases hab : a = b
    · subst hab
      by_cases hpq : p = q
      · subst hpq
        exact apart_same n a p v u W (by omega) (by omega) (by omega) (by omega)
      · exact apart_row n a p q v u W (by omega) (by omega) (by omega) (by omega) (by omega) hpq
    · exact apart_apart n a b p q v u W (by omega) (by omega) (by omega) (by omega) (by omega) (by omega) hab
end Go.Proofs.Ytknihmpdghanfaa

