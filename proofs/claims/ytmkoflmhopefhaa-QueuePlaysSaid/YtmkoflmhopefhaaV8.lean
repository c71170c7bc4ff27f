/- The walk of QueuePlays. Condition: the slice lies as it says. -/
import Derived.Test.YtmkoflmhopefhaaOV
namespace Go.Proofs.Ytmkoflmhopefhaa
open Go.RowKit
set_option maxRecDepth 100000

theorem queuePlays_far (q c : Nat) (a : Option Addr) (W : World) (hq : 300 < q) : Calls Try.prog 3 #[.slice a q c] W fun e w' => e = .returned (.bool true) ∧ Below W.heap.size W w' := by
  go_enter Try.func3, Try.ntmps3
  go_wp2_with (go_at_call 8; refine (awake12 _).mono ?_; rintro e w2 ⟨rfl, hb⟩; have B := Lib.hid hb; clear hb)
  go_ret
  exact ⟨rfl, B.out⟩
def PlaysV (W : World) (b q : Nat) (l i : Value) (wr : World) : Prop := ∃ (k : Nat) (L : List Int), i = .int .i64 (k : Int) ∧ k ≤ q ∧ OwnQ W wr b L ∧ ZRow wr l L
set_option maxHeartbeats 8000000 in
theorem queuePlays_in (S : List (Int × Int)) (a : Option Addr) (c : Nat) (W : World) (hl : S.length ≤ 300) (hc : S = [] ∨ ∃ b o, a = some ⟨b, o, none⟩ ∧ b < W.heap.size ∧ ∀ i, i < S.length → W.cell? ⟨b, o + i * 2, none⟩ = some (.int .i64 (S.getD i default).1) ∧ W.cell? ⟨b, o + i * 2 + 1, none⟩ = some (.int .i64 (S.getD i default).2)) :
    Calls Try.prog 3 #[.slice a S.length c] W fun e w' => e = .returned (.bool true) ∧ Below W.heap.size W w' := by
  have HC := Lib.hid hc
  obtain ⟨q, hq⟩ : ∃ q, q = S.length := ⟨_, rfl⟩
  rw [← hq] at hl ⊢
  have HQ := Lib.hid hq
  have hd : decide (300 < q) = false := decide_eq_false (by omega)
  clear hc hq
  go_enter Try.func3, Try.ntmps3
  go_wp2_with fail
  refine (OwnQ.new (Below.refl _ _)).mono ?_
  rintro e w1 ⟨b, rfl, ho, -⟩
  have O1 := Lib.hid ho
  clear ho
  go_wp2_with fail
  go_loopw [4, 5] (fun l i wr => PlaysV W b q l i wr) (fun _ i _ => q - (intOf i).toNat)
  case atStart => exact ⟨0, [], rfl, Nat.zero_le _, O1.out, ZRow.nil _⟩
  case round =>
    obtain ⟨k, L, rfl, hk, ho, hr⟩ := hrel
    have O := Lib.hid ho
    have R := Lib.hid hr
    by_cases hlt : k < q
    · obtain ⟨g, o, rfl, hbW, hcell⟩ := HC.out.resolve_left (by intro e; have := HQ.out; rw [e] at this; simp at this; omega)
      obtain ⟨x0, x1⟩ := hcell k (by have := HQ.out; omega)
      have c0 := (O.out.below.cell (p := ⟨g, o + k * 2, none⟩) hbW).trans x0
      have c1 := (O.out.below.cell (p := ⟨g, o + k * 2 + 1, none⟩) hbW).trans x1
      generalize S.getD k default = op at c0 c1
      obtain ⟨d, x⟩ := op
      simp only at c0 c1
      obtain ⟨a1, cc, rfl, _⟩ := hr.read
      have PL := Lib.hid (play_okV b L _ d x wr O.out.st R.out)
      clear hcell x0 x1 ho hr
      generalize L.length = n at PL
      generalize stepV L d x = K at PL
      go_wp2_with fail
      refine PL.out.mono ?_
      rintro e w2 ⟨v2, rfl, hz, ht⟩
      have O2 := Lib.hid (O.out.to ht)
      have R2 := Lib.hid hz
      have hK := ht.st.good.length
      obtain ⟨a2, c2, rfl, _⟩ := hz.read
      clear ht hz c0 c1
      cases K with
      | nil =>
        go_wp2_with fail
        refine (head_isV (show headA [] = (0, false) from rfl) O2.out.st).mono ?_
        rintro e w3 ⟨rfl, nq, hw3⟩
        have B3 : Hid (Below w2.heap.size w2 w3) := Lib.hid (by rw [hw3]; exact below_drawsV w2 nq)
        have O3 := Lib.hid (O2.out.step B3.out)
        have R3 := Lib.hid (R2.out.below B3.out)
        clear hw3
        go_wp2_with fail
        refine (all_okV b _ _ O3.out.st).mono ?_
        rintro e w4 ⟨v4, rfl, hown, hb⟩
        have O4 := Lib.hid (O3.out.step hb)
        have R4 := Lib.hid (R3.out.below hb)
        have V4 := Lib.hid (own_zrow hown)
        clear hown hb
        go_wp2_with fail
        refine (rsameV [] _ _ _ V4.out.read R4.out.read (by simp)).mono ?_
        rintro e w5 ⟨rfl, nq2, hw5⟩
        have B5 : Hid (Below w4.heap.size w4 w5) := Lib.hid (by rw [hw5]; exact below_drawsV w4 nq2)
        have O5 := Lib.hid (O4.out.step B5.out)
        have R5 := Lib.hid (R4.out.below B5.out)
        clear hw5
        go_wp2
        go_roundw
        case rel => exact ⟨k + 1, [], by go_num, by omega, O5.out, R5.out⟩
        case measure => simp [intOf]; omega
      | cons z r =>
        obtain ⟨m, hm⟩ : ∃ m, m = r.length := ⟨_, rfl⟩
        have hlen : (z :: r).length = m + 1 := by rw [hm]; rfl
        rw [hlen] at R2 hK ⊢
        obtain ⟨b2, o2, rfl⟩ : ∃ b2 o2, a2 = some ⟨b2, o2, none⟩ := by
          rcases R2.out with ⟨h, _⟩ | ⟨b2, o2, _, _, h, _⟩
          · cases h
          · cases h; exact ⟨b2, o2, rfl⟩
        clear hm hlen
        go_wp2_with fail
        refine (head_isV (show headA (z :: r) = (z, true) from rfl) O2.out.st).mono ?_
        rintro e w3 ⟨rfl, nq, hw3⟩
        have B3 : Hid (Below w2.heap.size w2 w3) := Lib.hid (by rw [hw3]; exact below_drawsV w2 nq)
        have O3 := Lib.hid (O2.out.step B3.out)
        have R3 := Lib.hid (R2.out.below B3.out)
        clear hw3
        go_wp2_with fail
        refine (all_okV b _ _ O3.out.st).mono ?_
        rintro e w4 ⟨v4, rfl, hown, hb⟩
        have O4 := Lib.hid (O3.out.step hb)
        have R4 := Lib.hid (R3.out.below hb)
        have V4 := Lib.hid (own_zrow hown)
        clear hown hb
        go_wp2_with fail
        refine (rsameV (z :: r) _ _ _ V4.out.read R4.out.read (Nat.le_trans O4.out.st.good.length (by decide))).mono ?_
        rintro e w5 ⟨rfl, nq2, hw5⟩
        have B5 : Hid (Below w4.heap.size w4 w5) := Lib.hid (by rw [hw5]; exact below_drawsV w4 nq2)
        have O5 := Lib.hid (O4.out.step B5.out)
        have R5 := Lib.hid (R4.out.below B5.out)
        have cz := R5.out.tail.2.2.1
        clear hw5
        go_wp2
        go_roundw
        case rel => exact ⟨k + 1, z :: r, by go_num, by omega, O5.out, R5.out⟩
        case measure => simp [intOf]; omega
    · obtain rfl : k = q := by omega
      clear ho hr
      go_wp2_with (go_at_call 8; refine (awake12 _).mono ?_; rintro e w2 ⟨rfl, hb⟩; have B := Lib.hid (O.out.step hb); clear hb)
      go_ret
      exact ⟨rfl, B.out.below⟩
theorem queuePlays_walk (v : Value) (S : List (Int × Int)) (W : World) (h : ArgOpsV W v S) : Calls Try.prog 3 #[v] W fun e w' => e = .returned (.bool true) ∧ Below W.heap.size W w' := by
  obtain ⟨a, c, rfl, _, hc⟩ := h
  by_cases hq : 300 < S.length
  · exact queuePlays_far S.length c a W hq
  · exact queuePlays_in S a c W (by omega) hc
end Go.Proofs.Ytmkoflmhopefhaa
