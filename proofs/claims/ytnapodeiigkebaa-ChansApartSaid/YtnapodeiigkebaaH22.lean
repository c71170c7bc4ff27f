/- The contract of layer 20's law's untouched. Conditions: the memory lies as New of layer 2 laid it; the configuration may be; outside of the channels' frames the words are as written. -/
import Derived.Test.YtnapodeiigkebaaH14
import Derived.Test.YtnapodeiigkebaaP10
namespace Go.Proofs.Ytnapodeiigkebaa
open Go.RowKit
set_option maxRecDepth 100000

/-- What the law writes. -/
def nineH (k : Nat) : Int := if k % 32 = 7 then 99 else 0
/-- The channels' first frame. -/
def firstH (C : Cf) : Nat := if C.2.2 = [] then (framesC C).toNat else frC C 0
theorem firstH_le {C : Cf} (hk : chk C = 0) (i : Nat) (hi : i < C.2.2.length) : firstH C = frC C 0 ∧ firstH C ≤ frC C i ∧ (frC C i : Int) < framesC C := by
  have hm := (chk_zero hk).1
  have e : firstH C = frC C 0 := by unfold firstH; rw [if_neg (by intro e; rw [e] at hi; simp at hi)]
  refine ⟨e, ?_, ?_⟩
  · rw [e]
    have := frC_mono hm 0 i (by omega)
    rwa [Nat.zero_add] at this
  · have h1 := frC_apart hm i C.2.2.length hi (Nat.le_refl _)
    have h2 := frC_all hm
    have h3 : 1 ≤ wdsR (C.2.2.getD i []) := by
      obtain ⟨⟨h4, h5⟩, ⟨h6, h7⟩, -⟩ := chanF_le _ _ (chan_row hm i hi)
      unfold wdsR wdsG
      generalize (C.2.2.getD i []).getD 2 0 = x at *
      generalize (C.2.2.getD i []).getD 3 0 = y at *
      have : 1 * 1 ≤ x.toNat * (y.toNat + 1) := Nat.mul_le_mul (by omega) (by omega)
      omega
    omega
structure UntSt (w w1 V : World) (v1 v2 v3 : Value) : Prop where
  box : CBox V w.heap.size v1 v2 v3
  below : Below w1.heap.size w1 V
theorem UntSt.step {w w1 V V' : World} {v1 v2 v3 : Value} (h : UntSt w w1 V v1 v2 v3) (hb : Below V.heap.size V V') : UntSt w w1 V' v1 v2 v3 := ⟨h.box.below hb, h.below.trans (hb.mono h.below.size)⟩
set_option maxHeartbeats 4000000 in
theorem untouched_ok {w : World} {mp fb : Nat} {L : List Int} {v1 v2 v3 : Value} {C : Cf} (hm : MemSt w mp fb 1024 L) (CF : CfAt w v1 v2 v3 C) (hk : chk C = 0) (hL : ∀ i k, i < 1024 → k < 32 → (i < firstH C ∨ framesC C ≤ (i : Int)) → L.getD (i * 32 + k) 0 = nineH k) :
    Calls Try.prog 25 #[.pointer (some ⟨mp, 0, none⟩), .agg #[v1, v2, v3]] w fun e w' => e = .returned (.bool true) ∧ Below w.heap.size w w' := by
  obtain ⟨aa, cc, rfl, hl3, -, -⟩ := CF.hs
  obtain ⟨f1, f2⟩ := framesC_pos hk
  obtain ⟨N, hN⟩ := Int.eq_ofNat_of_zero_le (show 0 ≤ framesC C by omega)
  have fa : framesA C = (N : Int) := by unfold framesA; rw [if_pos (chk_zero hk).1, hN]
  obtain ⟨w1, hw1⟩ : ∃ w1, w1 = w.alloc (.cells #[v1, v2, .slice aa C.2.2.length cc] 26) := ⟨_, rfl⟩
  have B1 : Hid (Below w.heap.size w w1) := Lib.hid (by rw [hw1]; exact below_step1 _ _)
  have U1 : Hid (UntSt w w1 w1 v1 v2 (.slice aa C.2.2.length cc)) := Lib.hid ⟨by rw [hw1]; exact CBox.new w _ _ _, Below.refl _ _⟩
  have FA := Lib.hid fun V (h : UntSt w w1 V v1 v2 (.slice aa C.2.2.length cc)) => rframes_ok _ _ _ C V (CF.below (B1.out.trans (h.below.mono B1.out.size)))
  rw [fa] at FA
  have CA := Lib.hid fun V (h : UntSt w w1 V v1 v2 (.slice aa C.2.2.length cc)) (t : Nat) (ht : t < C.2.2.length) => show Calls Try.prog 47 #[.agg #[v1, v2, .slice aa C.2.2.length cc], .int .i64 (t : Int)] V fun e w' => ∃ z : Int, e = .returned (.tuple #[.int .i64 (frC C t : Int), .int .i64 z, .int .i64 0]) ∧ Below V.heap.size V w' from by
    have := rchan_ok v1 v2 _ C (t : Int) V (CF.below (B1.out.trans (h.below.mono B1.out.size)))
    rw [findA_chan hk t ht, ← frC_cast (chk_zero hk).1] at this
    exact this.mono fun e w' ⟨h1, h2⟩ => ⟨_, h1, h2⟩
  have PG := Lib.hid fun V (h : UntSt w w1 V v1 v2 (.slice aa C.2.2.length cc)) (i : Nat) (hi : i < 1024) => page_i mp fb 1024 L (i : Int) V (hm.below (B1.out.trans (h.below.mono B1.out.size))) (by unfold okFQ; omega)
  have FT := Lib.hid fun (t : Nat) (ht : t < C.2.2.length) => firstH_le hk t ht
  have F0 : Hid (C.2.2.length = 0 → firstH C = N) := Lib.hid fun h => by
    unfold firstH
    rw [if_pos (List.eq_nil_of_length_eq_zero h), hN]; rfl
  rw [hN] at FT hL
  have HL := Lib.hid hL
  have HM := Lib.hid hm.len
  obtain ⟨n, hn⟩ : ∃ n, n = C.2.2.length := ⟨_, rfl⟩
  obtain ⟨f, hf⟩ : ∃ f, f = firstH C := ⟨_, rfl⟩
  have N1024 : N ≤ 1024 := by omega
  rw [← hn] at U1 FA CA PG FT F0 hl3 ⊢
  rw [← hf] at FT F0 HL
  have HW := Lib.hid hw1
  rw [← hn] at HW
  clear hm CF hk hL f1 f2 hN fa hw1 hn hf
  go_enter Try.func25, Try.ntmps25
  go_wp2_with fail
  rw [← HW.out]
  clear HW
  refine (FA.out _ U1.out).mono ?_
  rintro e w2 ⟨rfl, hb⟩
  have U2 := Lib.hid (U1.out.step hb)
  clear hb
  go_wp2_with fail
  go_loopw [5, 6] (fun q t wr => ∃ (j x : Nat), t = .int .i64 (j : Int) ∧ q = .int .i64 (x : Int) ∧ j ≤ n ∧ x = (if j = 0 then N else f) ∧ UntSt w w1 wr v1 v2 (.slice aa n cc)) (fun _ t _ => (n - (intOf t).toNat))
  case atStart => exact ⟨0, N, rfl, rfl, Nat.zero_le _, rfl, U2.out⟩
  case round =>
    obtain ⟨j, x, rfl, rfl, hj, hx, h⟩ := hrel
    have U := Lib.hid h
    have HX := Lib.hid hx
    have x0 := U.out.box.c0
    have x1 := U.out.box.c1
    have x2 := U.out.box.c2
    clear h hx
    by_cases hlt : j < n
    · have CJ := Lib.hid (CA.out _ U.out j hlt)
      obtain ⟨g, hg⟩ : ∃ g, g = frC C j := ⟨_, rfl⟩
      have LE : Hid (((x : Int) ≤ (g : Int) → x = f) ∧ (¬ (x : Int) ≤ (g : Int) → g = f)) := Lib.hid (by
        obtain ⟨h1, h2, h3⟩ := FT.out j hlt
        rw [HX.out, hg]
        by_cases h0 : j = 0
        · subst h0
          rw [if_pos rfl]
          exact ⟨fun e => by omega, fun _ => h1.symm⟩
        · rw [if_neg h0]
          exact ⟨fun _ => rfl, fun e => absurd (by exact_mod_cast h2) e⟩)
      rw [← hg] at CJ
      clear hg
      by_cases hxg : (x : Int) ≤ (g : Int)
      · have d1 : decide ((x : Int) ≤ (g : Int)) = true := decide_eq_true hxg
        have d2 : decide (x ≤ g) = true := decide_eq_true (by omega)
        have XF := Lib.hid (LE.out.1 hxg)
        have d3 : x ≤ g := by omega
        go_wp2_with fail
        refine CJ.out.mono ?_
        rintro e w3 ⟨z, rfl, hb⟩
        have U3 := Lib.hid (U.out.step hb)
        clear hb x0 x1 x2
        go_wp2
        go_roundw
        case rel => exact ⟨j + 1, x, by go_num, rfl, by omega, by rw [if_neg (by omega)]; exact XF.out, U3.out⟩
        case measure => simp [intOf]; omega
      · have d1 : decide ((x : Int) ≤ (g : Int)) = false := decide_eq_false hxg
        have d2 : decide (x ≤ g) = false := decide_eq_false (by omega)
        have XF := Lib.hid (LE.out.2 hxg)
        have d3 : ¬ x ≤ g := by omega
        go_wp2_with fail
        refine CJ.out.mono ?_
        rintro e w3 ⟨z, rfl, hb⟩
        have U3 := Lib.hid (U.out.step hb)
        clear hb x0 x1 x2
        go_wp2
        go_roundw
        case rel => exact ⟨j + 1, g, by go_num, rfl, by omega, by rw [if_neg (by omega)]; exact XF.out, U3.out⟩
        case measure => simp [intOf]; omega
    · obtain rfl : n = j := by omega
      have XF : Hid (x = f) := Lib.hid (by
        rw [HX.out]
        by_cases h0 : n = 0
        · rw [if_pos h0]; exact (F0.out h0).symm
        · rw [if_neg h0])
      obtain rfl := XF.out
      clear XF HX FT F0 CA
      go_wp2_with fail
      clear x0 x1 x2
      go_loopw [10] (fun t wr => ∃ j : Nat, t = .int .i64 (j : Int) ∧ j ≤ 1024 ∧ UntSt w w1 wr v1 v2 (.slice aa n cc)) (fun t _ => (1024 - (intOf t).toNat))
      case atStart => exact ⟨0, rfl, Nat.zero_le _, U.out⟩
      case round =>
        obtain ⟨i, rfl, hi, h⟩ := hrel
        have U := Lib.hid h
        clear h
        by_cases hlt2 : i < 1024
        · have PI := Lib.hid (PG.out _ U.out i hlt2)
          have g0 : ((i : Int) < 1024) := by omega
          go_wp2_with fail
          refine PI.out.mono ?_
          rintro e w3 ⟨v, rfl, ⟨rb, ty, rfl, hrb, hrow⟩, hb⟩
          have U3 := Lib.hid (U.out.step hb)
          have RL : (rowOf L (i : Int).toNat).length = 32 := rowOf_length HM.out (by omega)
          have RW : Hid (∀ V, Below w3.heap.size w3 V → ∀ k, k < 32 → V.cell? ⟨rb, k, none⟩ = some (.int .u32 (L.getD (i * 32 + k) 0))) := Lib.hid fun V hV k hk => by
            rw [cell_of_row _ _ _ _ _ _ (below_block hV hrow), wordsV_get _ _ (by rw [RL]; exact hk), getD_rowOf _ _ _ hk]
            simp
          rw [RL]
          clear hb hrow RL
          go_wp2_with fail
          go_loopw [13] (fun t wr => ∃ j : Nat, t = .int .i64 (j : Int) ∧ j ≤ 32 ∧ UntSt w w1 wr v1 v2 (.slice aa n cc) ∧ Below w3.heap.size w3 wr) (fun t _ => (32 - (intOf t).toNat))
          case atStart => exact ⟨0, rfl, Nat.zero_le _, U3.out, Below.refl _ _⟩
          case round =>
            obtain ⟨k, rfl, hk, h, hb⟩ := hrel
            have UK := Lib.hid h
            have BK := Lib.hid hb
            clear h hb
            by_cases hlt3 : k < 32
            · have rk := RW.out _ BK.out k hlt3
              have x0 := UK.out.box.c0
              have x1 := UK.out.box.c1
              have x2 := UK.out.box.c2
              have k0 : 0 ≤ (k : Int) := by omega
              have k1 : (k : Int) < 32 := by omega
              by_cases hc1 : i < x
              · have d1 : decide (x ≤ i) = false := decide_eq_false (by omega)
                have d2 : decide ((x : Int) ≤ (i : Int)) = false := decide_eq_false (by omega)
                by_cases hk7 : k = 7
                · subst hk7
                  have n7 : nineH 7 = 99 := by unfold nineH; rw [if_pos (by omega)]
                  have WK := HL.out i 7 hlt2 hlt3 (by omega)
                  rw [n7] at WK
                  rw [WK] at rk
                  clear WK n7
                  rw [show ((7 : Nat) : Int) = 7 from rfl]
                  go_wp2
                  go_roundw
                  case rel => exact ⟨8, rfl, by decide, UK.out, BK.out⟩
                  case measure => simp [intOf]
                · have k7 : ((k : Int) == 7) = false := by simpa using (show ¬ (k : Int) = 7 by omega)
                  have n7 : nineH k = 0 := by unfold nineH; rw [if_neg (by omega)]
                  have WK := HL.out i k hlt2 hlt3 (by omega)
                  rw [n7] at WK
                  rw [WK] at rk
                  clear WK n7
                  go_wp2
                  rotate_left
                  · exfalso
                    rename_i h
                    omega
                  go_roundw
                  case rel => exact ⟨k + 1, by go_num, by omega, UK.out, BK.out⟩
                  case measure => simp [intOf]; omega
              have d1 : decide (x ≤ i) = true := decide_eq_true (by omega)
              have d2 : decide ((x : Int) ≤ (i : Int)) = true := decide_eq_true (by omega)
              by_cases hc2 : i < N
              · have d3 : decide (i < N) = true := decide_eq_true hc2
                have d4 : decide ((i : Int) < (N : Int)) = true := decide_eq_true (by omega)
                go_wp2_with (go_at_call 13; refine (FA.out _ UK.out).mono ?_; rintro e w5 ⟨rfl, hb⟩; have U5 := Lib.hid (UK.out.step hb); have B5 := Lib.hid (BK.out.trans (hb.mono BK.out.size)); have rk5 := RW.out _ B5.out k hlt3; clear hb)
                go_roundw
                case rel => exact ⟨k + 1, by go_num, by omega, U5.out, B5.out⟩
                case measure => simp [intOf]; omega
              have d3 : decide (i < N) = false := decide_eq_false hc2
              have d4 : decide ((i : Int) < (N : Int)) = false := decide_eq_false (by omega)
              by_cases hk7 : k = 7
              · subst hk7
                have n7 : nineH 7 = 99 := by unfold nineH; rw [if_pos (by omega)]
                have WK := HL.out i 7 hlt2 hlt3 (by omega)
                rw [n7] at WK
                have RW2 : Hid (∀ V, Below w3.heap.size w3 V → V.cell? ⟨rb, 7, none⟩ = some (.int .u32 99)) := Lib.hid fun V hV => by rw [RW.out V hV 7 hlt3, WK]
                clear rk WK n7
                rw [show ((7 : Nat) : Int) = 7 from rfl]
                go_wp2_with (go_at_call 13; refine (FA.out _ UK.out).mono ?_; rintro e w5 ⟨rfl, hb⟩; have U5 := Lib.hid (UK.out.step hb); have B5 := Lib.hid (BK.out.trans (hb.mono BK.out.size)); have rk5 := RW2.out _ B5.out; clear hb)
                go_roundw
                case rel => exact ⟨8, rfl, by decide, U5.out, B5.out⟩
                case measure => simp [intOf]
              · have k7 : ((k : Int) == 7) = false := by simpa using (show ¬ (k : Int) = 7 by omega)
                have n7 : nineH k = 0 := by unfold nineH; rw [if_neg (by omega)]
                have WK := HL.out i k hlt2 hlt3 (by omega)
                rw [n7] at WK
                have RW2 : Hid (∀ V, Below w3.heap.size w3 V → V.cell? ⟨rb, k, none⟩ = some (.int .u32 0)) := Lib.hid fun V hV => by rw [RW.out V hV k hlt3, WK]
                clear rk WK n7
                go_wp2_with (go_at_call 13; refine (FA.out _ UK.out).mono ?_; rintro e w5 ⟨rfl, hb⟩; have U5 := Lib.hid (UK.out.step hb); have B5 := Lib.hid (BK.out.trans (hb.mono BK.out.size)); have rk5 := RW2.out _ B5.out; clear hb)
                rotate_left
                · exfalso
                  rename_i h
                  omega
                go_roundw
                case rel => exact ⟨k + 1, by go_num, by omega, U5.out, B5.out⟩
                case measure => simp [intOf]; omega
            · obtain rfl : k = 32 := by omega
              go_wp2
              go_roundw
              case rel => exact ⟨i + 1, by go_num, by omega, UK.out⟩
              case measure => simp [intOf]; omega
        · obtain rfl : i = 1024 := by omega
          go_wp2
          go_ret
          exact ⟨rfl, B1.out.trans (U.out.below.mono B1.out.size)⟩
end Go.Proofs.Ytnapodeiigkebaa
