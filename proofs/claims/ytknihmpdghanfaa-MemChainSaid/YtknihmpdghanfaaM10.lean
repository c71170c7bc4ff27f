/- The walk of MemChain. No condition. -/
import Derived.Test.YtknihmpdghanfaaM9
namespace Go.Proofs.Ytknihmpdghanfaa
open Go.RowKit

set_option maxRecDepth 100000 in
set_option maxHeartbeats 1000000 in
theorem chain_out (n p w v : Int) (W : World) (h : n < 2 ∨ (¬ n < 2 ∧ 20 < n) ∨ (¬ n < 2 ∧ ¬ 20 < n ∧ p < 0) ∨ (¬ n < 2 ∧ ¬ 20 < n ∧ ¬ p < 0 ∧ 32 ≤ p)) :
    Calls Try.prog 7 #[.int .i64 n, .int .i64 p, .int .u32 w, .int .u32 v] W fun e w' => e = .returned (.bool true) ∧ Below W.heap.size W w' := by
  rcases h with h1 | ⟨h1, h2⟩ | ⟨h1, h2, h3⟩ | ⟨h1, h2, h3, h4⟩
  all_goals
    go_enter Try.func7, Try.ntmps7
    go_wp2_with (go_at_call 9; refine (awake_any _).mono ?_; rintro e w2 ⟨rfl, hb⟩; have B := Lib.hid hb; clear hb)
    go_ret
    exact ⟨rfl, Hid.out (by assumption)⟩

/-- The first frames have the word at the place. -/
def ChainRel (W : World) (mp fb n p : Nat) (w : Int) (i : Value) (wr : World) : Prop := ∃ (k : Nat) (L : List Int), i = .int .i64 k ∧ 1 ≤ k ∧ k ≤ n ∧ OwnMem W wr mp fb n L ∧ ∀ f, f < k → L.getD (f * 32 + p) 0 = w
def ChainRel2 (W : World) (mp fb n : Nat) (L : List Int) (i : Value) (wr : World) : Prop := ∃ k : Nat, i = .int .i64 k ∧ 1 ≤ k ∧ k ≤ n ∧ OwnMem W wr mp fb n L

set_option maxRecDepth 100000 in
set_option maxHeartbeats 4000000 in
theorem chain_in (n p : Nat) (w v : Int) (W : World) (h0 : 2 ≤ n) (h1 : n ≤ 20) (hp : p < 32) :
    Calls Try.prog 7 #[.int .i64 n, .int .i64 p, .int .u32 w, .int .u32 v] W fun e w' => e = .returned (.bool true) ∧ Below W.heap.size W w' := by
  have G0 : Hid (okFQ n 0 p) := Lib.hid (by unfold okFQ; omega)
  go_enter Try.func7, Try.ntmps7
  go_wp2_with fail
  refine (new_ok n W (by omega) (by omega)).mono ?_
  rintro e w1 hq
  obtain ⟨mp, fb, rfl, ho⟩ := OwnMem.new hq
  have O1 := Lib.hid ho
  clear hq ho
  go_wp2_with fail
  refine (write_i mp fb n _ 0 p w w1 O1.out.st G0.out).mono ?_
  rintro e w2 ⟨rfl, hq⟩
  have O2 := Lib.hid (O1.out.put hq)
  clear hq O1
  go_wp2_with fail
  go_loopw [11] (fun i wr => ChainRel W mp fb n p w i wr) (fun i _ => (n - (intOf i).toNat))
  case atStart =>
    refine ⟨1, _, rfl, by omega, by omega, O2.out, fun f hf => ?_⟩
    obtain rfl : f = 0 := by omega
    rw [getD_set _ _ _ _ (by rw [List.length_replicate]; exact idx_lt G0.out), if_pos (by unfold idx; omega)]
  case round =>
    obtain ⟨k, L, rfl, hk1, hk2, ho, hL⟩ := hrel
    have O3 := Lib.hid ho
    have HL := Lib.hid hL
    clear ho hL
    by_cases hlt : k < n
    · have G1 : Hid (okFQ n k 0) := Lib.hid (by unfold okFQ; omega)
      have G2 : Hid (okFQ n ((k : Int) - 1) 0) := Lib.hid (by unfold okFQ; omega)
      go_wp2_with fail
      refine (copy_i mp fb n L _ _ wr O3.out.st G1.out G2.out).mono ?_
      rintro e w3 ⟨rfl, hq⟩
      have O4 := Lib.hid (O3.out.put hq)
      clear hq
      go_wp2
      go_roundw
      case rel =>
        refine ⟨k + 1, _, by go_num, by omega, by omega, O4.out, fun f hf => ?_⟩
        have e1 : ((k : Int)).toNat = k := by omega
        have e2 : ((k : Int) - 1).toNat = k - 1 := by omega
        rw [e1, e2, getD_putRow O3.out.st.len hlt (rowOf_length O3.out.st.len (by omega)) hp]
        split
        · rw [getD_rowOf _ _ _ hp]; exact HL.out _ (by omega)
        · exact HL.out _ (by omega)
      case measure => simp [intOf]; omega
    · obtain rfl : k = n := by omega
      clear hlt
      have e1 : ∀ f, 1 ≤ f → f < k → (L.set (idx 0 p) v).getD (idx f p) 0 = w := fun f h2 h3 => by
        rw [getD_set _ _ _ _ (by rw [O3.out.st.len]; exact idx_lt G0.out), if_neg (by unfold idx; omega)]
        have := HL.out f (by omega)
        rwa [show idx f p = f * 32 + p by unfold idx; omega]
      have e2 : (L.set (idx 0 p) v).getD (idx 0 p) 0 = v := by
        rw [getD_set _ _ _ _ (by rw [O3.out.st.len]; exact idx_lt G0.out), if_pos rfl]
      have E1 := Lib.hid e1
      have E2 := Lib.hid e2
      clear e1 e2
      go_wp2_with fail
      refine (write_i mp fb k L 0 p v wr O3.out.st G0.out).mono ?_
      rintro e w3 ⟨rfl, hq⟩
      have O4 := Lib.hid (O3.out.put hq)
      clear hq
      generalize (L.set (idx 0 p) v) = L2 at *
      go_wp2_with fail
      obtain ⟨wo, rfl⟩ : ∃ wo : World, wo = wr := ⟨_, rfl⟩
      go_loopw [12] (fun i wr => ChainRel2 W mp fb k L2 i wr) (fun i _ => (k - (intOf i).toNat))
      case atStart => exact ⟨1, rfl, by omega, by omega, O4.out⟩
      case round =>
        obtain ⟨j, rfl, hj1, hj2, ho⟩ := hrel
        have O5 := Lib.hid ho
        clear ho
        by_cases hlt : j < k
        · have G1 : Hid (okFQ k j p) := Lib.hid (by unfold okFQ; omega)
          go_wp2_with fail
          have C := read_i mp fb k L2 j p wr O5.out.st G1.out
          rw [E1.out j hj1 hlt] at C
          refine C.mono ?_
          clear C
          rintro e w4 ⟨rfl, hb⟩
          have O6 := Lib.hid (O5.out.step hb)
          clear hb
          go_wp2
          go_roundw
          case rel => exact ⟨j + 1, by go_num, by omega, by omega, O6.out⟩
          case measure => simp [intOf]; omega
        · obtain rfl : j = k := by omega
          clear hlt
          go_wp2_with fail
          have C := read_i mp fb j L2 0 p wr O5.out.st G0.out
          rw [E2.out] at C
          refine C.mono ?_
          clear C
          rintro e w4 ⟨rfl, hb⟩
          have O6 := Lib.hid (O5.out.step hb)
          clear hb
          go_wp2_with fail
          refine (awake_any w4).mono ?_
          rintro e w5 ⟨rfl, hb⟩
          have O7 := Lib.hid (O6.out.step hb)
          clear hb
          go_wp2
          go_ret
          exact ⟨rfl, O7.out.below⟩
theorem memChain_walk (n p w v : Int) (W : World) (_hn : -9223372036854775808 ≤ n ∧ n ≤ 9223372036854775807) (_hp : -9223372036854775808 ≤ p ∧ p ≤ 9223372036854775807) (_hw : 0 ≤ w ∧ w ≤ 4294967295) (_hv : 0 ≤ v ∧ v ≤ 4294967295) :
    Calls Try.prog 7 #[.int .i64 n, .int .i64 p, .int .u32 w, .int .u32 v] W fun e w' => e = .returned (.bool true) ∧ Below W.heap.size W w' := by
  by_cases h : 2 ≤ n ∧ n ≤ 20 ∧ 0 ≤ p ∧ p < 32
  · obtain ⟨n', rfl⟩ := Int.eq_ofNat_of_zero_le (show 0 ≤ n by omega)
    obtain ⟨p', rfl⟩ := Int.eq_ofNat_of_zero_le h.2.2.1
    exact chain_in n' p' w v W (by omega) (by omega) (by omega)
  · exact chain_out n p w v W (by omega)
end Go.Proofs.Ytknihmpdghanfaa
