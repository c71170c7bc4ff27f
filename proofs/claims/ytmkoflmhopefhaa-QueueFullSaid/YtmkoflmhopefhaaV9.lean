/- The walk of QueueFull. Condition: the slice lies as it says. -/
import Derived.Test.YtmkoflmhopefhaaOV
namespace Go.Proofs.Ytmkoflmhopefhaa
open Go.RowKit
set_option maxRecDepth 100000

theorem pushL_mem {L : List Int} {n : Int} (hn : numV n = true) (x : Int) : x ∈ pushL L n ↔ x ∈ L ∨ x = n := by
  unfold pushL
  rw [if_pos hn]
  split
  · rename_i h
    constructor
    · exact Or.inl
    · rintro (h1 | rfl)
      · exact h1
      · exact h
  · simp
/-- The numbers from 1 on, pushed one after another. -/
def fillV (L : List Int) : Nat → List Int
  | 0 => L
  | k + 1 => pushL (fillV L k) ((k : Int) + 1)
theorem fillV_good {L : List Int} (h : GoodV L) : ∀ k, GoodV (fillV L k)
  | 0 => h
  | k + 1 => (fillV_good h k).push _
theorem fillV_mem (L : List Int) : ∀ k, k ≤ 8 → ∀ x, x ∈ fillV L k ↔ x ∈ L ∨ (1 ≤ x ∧ x ≤ (k : Int))
  | 0, _, x => by
    constructor
    · exact Or.inl
    · rintro (h | h)
      · exact h
      · omega
  | k + 1, hk, x => by
    rw [fillV, pushL_mem ((numV_iff _).2 (by omega)), fillV_mem L k (by omega) x]
    constructor
    · rintro ((h | h) | h)
      · exact Or.inl h
      · exact Or.inr (by omega)
      · exact Or.inr (by omega)
    · rintro (h | h)
      · exact Or.inl (Or.inl h)
      · by_cases e : x = (k : Int) + 1
        · exact Or.inr e
        · exact Or.inl (Or.inr (by omega))
theorem fillV_push {L : List Int} {k : Nat} (hk : k < 8) : pushE (fillV L k) ((k : Int) + 1) = if (k : Int) + 1 ∈ L then 5 else 0 := by
  have h1 : ((k : Int) + 1 ∈ fillV L k) ↔ (k : Int) + 1 ∈ L := by
    rw [fillV_mem L k (by omega)]
    constructor
    · rintro (h | h)
      · exact h
      · omega
    · exact Or.inl
  rw [pushE, if_pos ((numV_iff _).2 (by omega))]
  simp only [h1]
theorem sub_length : ∀ (l F : List Int), l.Nodup → (∀ x ∈ l, x ∈ F) → l.length ≤ F.length
  | [], _, _, _ => Nat.zero_le _
  | x :: r, F, hn, hs => by
    have hx := hs x (by simp)
    obtain ⟨h1, h2⟩ := List.nodup_cons.1 hn
    have := sub_length r (F.erase x) h2 (fun y hy => (List.mem_erase_of_ne (fun e => h1 (by rw [← e]; exact hy))).2 (hs y (by simp [hy])))
    rw [List.length_erase_of_mem hx] at this
    have hp : 0 < F.length := List.length_pos_of_mem hx
    rw [List.length_cons]
    omega
theorem fillV_all {L : List Int} (h : GoodV L) : (fillV L 8).length = 8 := by
  have h1 := (fillV_good h 8).length
  have h2 := sub_length [1, 2, 3, 4, 5, 6, 7, 8] (fillV L 8) (by decide) (fun x hx => (fillV_mem L 8 (by omega) x).2 (Or.inr (by
    simp only [List.mem_cons, List.not_mem_nil, or_false] at hx
    omega)))
  simp only [List.length_cons, List.length_nil] at h2
  omega
theorem fillV_in (L : List Int) {n : Int} (hn : 1 ≤ n ∧ n ≤ 8) : n ∈ fillV L 8 := (fillV_mem L 8 (by omega) n).2 (Or.inr hn)
theorem fillV_there (L : List Int) {n : Int} (hn : 1 ≤ n ∧ n ≤ 8) : pushE (fillV L 8) n = 5 ∧ pushL (fillV L 8) n = fillV L 8 := by
  have h1 := fillV_in L hn
  simp [pushE, pushL, (numV_iff n).2 hn, h1]

theorem queueFull_far (q c : Nat) (a : Option Addr) (W : World) (hq : 100 < q) : Calls Try.prog 7 #[.slice a q c] W fun e w' => e = .returned (.bool true) ∧ Below W.heap.size W w' := by
  go_enter Try.func7, Try.ntmps7
  go_wp2_with (go_at_call 8; refine (awake12 _).mono ?_; rintro e w2 ⟨rfl, hb⟩; have B := Lib.hid hb; clear hb)
  go_ret
  exact ⟨rfl, B.out⟩
set_option maxHeartbeats 8000000 in
theorem queueFull_in (S : List (Int × Int)) (a : Option Addr) (c : Nat) (W : World) (hl : S.length ≤ 100) (hc : S = [] ∨ ∃ b o, a = some ⟨b, o, none⟩ ∧ b < W.heap.size ∧ ∀ i, i < S.length → W.cell? ⟨b, o + i * 2, none⟩ = some (.int .i64 (S.getD i default).1) ∧ W.cell? ⟨b, o + i * 2 + 1, none⟩ = some (.int .i64 (S.getD i default).2)) :
    Calls Try.prog 7 #[.slice a S.length c] W fun e w' => e = .returned (.bool true) ∧ Below W.heap.size W w' := by
  have HC := Lib.hid hc
  obtain ⟨q, hq⟩ : ∃ q, q = S.length := ⟨_, rfl⟩
  rw [← hq] at hl ⊢
  have HQ := Lib.hid hq
  have hd : decide (100 < q) = false := decide_eq_false (by omega)
  clear hc hq
  go_enter Try.func7, Try.ntmps7
  go_wp2_with fail
  refine (OwnQ.new (Below.refl _ _)).mono ?_
  rintro e w1 ⟨b, rfl, ho, -⟩
  have O1 := Lib.hid ho
  clear ho
  go_wp2_with fail
  go_loopw [4] (fun i wr => ∃ (k : Nat) (L : List Int), i = .int .i64 (k : Int) ∧ k ≤ q ∧ OwnQ W wr b L) (fun i _ => q - (intOf i).toNat)
  case atStart => exact ⟨0, [], rfl, Nat.zero_le _, O1.out⟩
  case round =>
    obtain ⟨k, L, rfl, hk, ho⟩ := hrel
    have O := Lib.hid ho
    clear ho
    by_cases hlt : k < q
    · obtain ⟨g, o, rfl, hbW, hcell⟩ := HC.out.resolve_left (by intro e; have := HQ.out; rw [e] at this; simp at this; omega)
      obtain ⟨x0, x1⟩ := hcell k (by have := HQ.out; omega)
      generalize S.getD k default = op at x0 x1
      obtain ⟨d, x⟩ := op
      simp only at x0 x1
      have CA : Hid (∀ V, Below W.heap.size W V → V.cell? ⟨g, o + k * 2, none⟩ = some (.int .i64 d) ∧ V.cell? ⟨g, o + k * 2 + 1, none⟩ = some (.int .i64 x)) := Lib.hid fun V hV => ⟨(hV.cell (p := ⟨g, o + k * 2, none⟩) hbW).trans x0, (hV.cell (p := ⟨g, o + k * 2 + 1, none⟩) hbW).trans x1⟩
      obtain ⟨c0, c1⟩ := CA.out _ O.out.below
      have D := Lib.hid (O.out.step (Below.refl _ _).drew)
      have hlt2 : (k : Int) < (q : Int) := by omega
      clear hcell x0 x1
      go_wp2_with fail
      go_region_held3 (fun V => V.cell? ⟨g, o + k * 2, none⟩ = some (.int .i64 d) ∧ V.cell? ⟨g, o + k * 2 + 1, none⟩ = some (.int .i64 x)) (first | with_reducible exact CA.out _ D.out.below | with_reducible exact CA.out w4 O4.out.below | with_reducible exact CA.out w5 O5.out.below)
        (first
          | (go_at_call 13; refine (all_okV b _ _ D.out.st).mono ?_; rintro e w4 ⟨v4, rfl, hown, hb⟩; have O4 := Lib.hid (D.out.step hb); have V4 := Lib.hid (own_zrow hown); clear hown hb)
          | (go_at_call 10; refine (play_okV b L v4 d x w4 O4.out.st V4.out).mono ?_; rintro e w5 ⟨v5, rfl, hz, ht⟩; have O5 := Lib.hid (O4.out.to ht); clear hz ht))
      clear c0 c1
      go_wp2
      go_roundw
      case rel => exact ⟨k + 1, _, by go_num, by omega, O5.out⟩
      case measure => simp [intOf]; omega
    · obtain rfl : k = q := by omega
      clear hlt
      go_wp2_with fail
      refine (all_okV b _ _ O.out.st).mono ?_
      rintro e w2 ⟨v2, rfl, hown, hb⟩
      have O2 := Lib.hid (O.out.step hb)
      have V2 := Lib.hid (own_zrow hown)
      clear hown hb
      go_wp2_with fail
      go_loopw [6] (fun n wr => ∃ j : Nat, n = .int .i64 ((j : Int) + 1) ∧ j ≤ 8 ∧ OwnQ W wr b (fillV L j) ∧ ZRow wr v2 L) (fun n _ => 9 - (intOf n).toNat)
      case atStart => exact ⟨0, rfl, by omega, O2.out, V2.out⟩
      case round =>
        obtain ⟨j, rfl, hj, ho, hz⟩ := hrel
        have O3 := Lib.hid ho
        have V3 := Lib.hid hz
        clear ho hz
        by_cases hlt : j < 8
        · have hw : IntKind.i64.wrap ((j : Int) + 1 + 1) = (j : Int) + 1 + 1 := by rw [IntKind.wrap_i64]; omega
          obtain ⟨N, hN⟩ : ∃ N : Int, N = (j : Int) + 1 := ⟨_, rfl⟩
          have PU := Lib.hid (push_okV b (fillV L j) ((j : Int) + 1) _ O3.out.st)
          rw [fillV_push hlt, show pushL (fillV L j) ((j : Int) + 1) = fillV L (j + 1) from rfl] at PU
          rw [← hN] at PU hw ⊢
          have HN := Lib.hid hN
          have hn8 : N ≤ 8 := by omega
          clear hN
          by_cases hin : N ∈ L
          · rw [if_pos hin] at PU
            have HY := Lib.hid (decide_eq_true hin)
            clear hin
            go_wp2_with fail
            refine PU.out.mono ?_
            rintro e w3 ⟨rfl, ht⟩
            have V4 := Lib.hid (V3.out.to O3.out.st ht)
            have O4 := Lib.hid (O3.out.to ht)
            clear ht
            go_wp2_with fail
            refine (rhasV L _ N _ V4.out.read (Nat.le_trans O.out.st.good.length (by decide)) HY.out).mono ?_
            rintro e w4 ⟨rfl, rfl⟩
            go_wp2
            go_roundw
            case rel => exact ⟨j + 1, by rw [HN.out]; go_num, by omega, O4.out, V4.out⟩
            case measure => have := HN.out; simp [intOf]; omega
          · rw [if_neg hin] at PU
            have HY := Lib.hid (decide_eq_false hin)
            clear hin
            go_wp2_with fail
            refine PU.out.mono ?_
            rintro e w3 ⟨rfl, ht⟩
            have V4 := Lib.hid (V3.out.to O3.out.st ht)
            have O4 := Lib.hid (O3.out.to ht)
            clear ht
            go_wp2_with fail
            refine (rhasV L _ N _ V4.out.read (Nat.le_trans O.out.st.good.length (by decide)) HY.out).mono ?_
            rintro e w4 ⟨rfl, rfl⟩
            go_wp2
            go_roundw
            case rel => exact ⟨j + 1, by rw [HN.out]; go_num, by omega, O4.out, V4.out⟩
            case measure => have := HN.out; simp [intOf]; omega
        · obtain rfl : j = 8 := by omega
          have HT : Hid (∀ n : Int, 1 ≤ n ∧ n ≤ 8 → pushE (fillV L 8) n = 5 ∧ pushL (fillV L 8) n = fillV L 8 ∧ decide (n ∈ fillV L 8) = true) := Lib.hid fun n hn => ⟨(fillV_there L hn).1, (fillV_there L hn).2, decide_eq_true (fillV_in L hn)⟩
          have HLn := Lib.hid (fillV_all O.out.st.good)
          generalize fillV L 8 = F at O3 HT HLn
          clear hlt V3
          go_wp2_with fail
          refine (all_okV b _ _ O3.out.st).mono ?_
          rintro e w5 ⟨v5, rfl, hown, hb⟩
          have O5 := Lib.hid (O3.out.step hb)
          have V5 := Lib.hid (own_zrow hown)
          clear hown hb
          go_wp2_with fail
          go_loopw [9] (fun n wr => ∃ j : Nat, n = .int .i64 ((j : Int) + 1) ∧ j ≤ 8 ∧ OwnQ W wr b F ∧ ZRow wr v5 F) (fun n _ => 9 - (intOf n).toNat)
          case atStart => exact ⟨0, rfl, by omega, O5.out, V5.out⟩
          case round =>
            obtain ⟨j, rfl, hj, ho, hz⟩ := hrel
            have O6 := Lib.hid ho
            have V6 := Lib.hid hz
            clear ho hz
            by_cases hlt : j < 8
            · have hw : IntKind.i64.wrap ((j : Int) + 1 + 1) = (j : Int) + 1 + 1 := by rw [IntKind.wrap_i64]; omega
              obtain ⟨N, hN⟩ : ∃ N : Int, N = (j : Int) + 1 := ⟨_, rfl⟩
              obtain ⟨t1, t2, t3⟩ := HT.out ((j : Int) + 1) (by omega)
              rw [← hN] at t1 t2 t3 hw ⊢
              have PU := Lib.hid (push_isV t1 t2 O6.out.st)
              have HY := Lib.hid t3
              have HN := Lib.hid hN
              have hn8 : N ≤ 8 := by omega
              clear hN t1 t2 t3
              go_wp2_with fail
              refine (rhasV F _ N _ V6.out.read (Nat.le_trans O6.out.st.good.length (by decide)) HY.out).mono ?_
              rintro e w6 ⟨rfl, rfl⟩
              go_wp2_with fail
              refine PU.out.mono ?_
              rintro e w6 ⟨rfl, ht⟩
              have V7 := Lib.hid (V6.out.to O6.out.st ht)
              have O7 := Lib.hid (O6.out.to ht)
              clear ht
              go_wp2
              go_roundw
              case rel => exact ⟨j + 1, by rw [HN.out]; go_num, by omega, O7.out, V7.out⟩
              case measure => have := HN.out; simp [intOf]; omega
            · obtain rfl : j = 8 := by omega
              obtain ⟨a5, c5, rfl, _⟩ := V6.out.read
              have hF : (F.length : Int) = 8 := by have := HLn.out; omega
              clear hlt
              go_wp2_with (go_at_call 8; refine (awake12 _).mono ?_; rintro e w7 ⟨rfl, hb⟩; have B := Lib.hid (O6.out.step hb); clear hb)
              go_ret
              exact ⟨rfl, B.out.below⟩
theorem queueFull_walk (v : Value) (S : List (Int × Int)) (W : World) (h : ArgOpsV W v S) : Calls Try.prog 7 #[v] W fun e w' => e = .returned (.bool true) ∧ Below W.heap.size W w' := by
  obtain ⟨a, c, rfl, _, hc⟩ := h
  by_cases hq : 100 < S.length
  · exact queueFull_far S.length c a W hq
  · exact queueFull_in S a c W (by omega) hc
end Go.Proofs.Ytmkoflmhopefhaa
