/- The law PallocPlays returns true, whatever ranges, whatever calls. Conditions: the slices lie in memory, numbers are ints; the library's table reads as its initialiser lays it. -/
import Derived.Test.YtiohnhgoddfebaaDoorA24
import Derived.Test.YtiohnhgoddfebaaDoorOA
namespace Go.Proofs.YtiohnhgoddfebaaDoor
open Go.RowKit
set_option maxRecDepth 100000

theorem rnew9_any (n : Nat) (Q : List (Int × Int)) (v : Value) (w : World) (hv : PairsAt w v Q) (hn1 : 1 ≤ n) (hn : n ≤ 1024) : Calls Tryd.prog 13 #[.int .i64 (n : Int), v] w (RNew9 n Q v w) := by
  by_cases h : Q.length < 1 ∨ 8 < Q.length
  · obtain ⟨a, c, rfl, _⟩ := hv; exact rnew9_far n _ c Q a w rfl h
  · exact rnew9_in n Q v w hv hn1 hn (by omega) (by omega)
theorem plays_far (n : Int) (k j c c' : Nat) (a b : Option Addr) (W : World) (h : n < 1 ∨ (1 ≤ n ∧ 40 < n) ∨ (1 ≤ n ∧ n ≤ 40 ∧ 300 < j) ∨ (1 ≤ n ∧ n ≤ 40 ∧ j ≤ 300 ∧ 100 < k)) (hT : LaidQ W) : Calls Tryd.prog 3 #[.int .i64 n, .slice a k c, .slice b j c'] W fun e w' => e = .returned (.bool true) ∧ Below W.heap.size W w' := by
  have HT := Lib.hid hT
  clear hT
  rcases h with h | ⟨h1, h⟩ | ⟨h1, h2, h⟩ | ⟨h1, h2, h3, h⟩
  · have d0 : decide (n < 1) = true := decide_eq_true (by omega)
    go_enter Tryd.func3, Tryd.ntmps3
    go_wp2_with (go_at_call 10; refine (awake9 _ HT.out).mono ?_; rintro e w2 ⟨rfl, hb⟩; have B := Lib.hid hb; clear hb)
    go_ret
    exact ⟨rfl, B.out⟩
  · have d0 : decide (n < 1) = false := decide_eq_false (by omega)
    have d1 : decide (40 < n) = true := decide_eq_true (by omega)
    go_enter Tryd.func3, Tryd.ntmps3
    go_wp2_with (go_at_call 10; refine (awake9 _ HT.out).mono ?_; rintro e w2 ⟨rfl, hb⟩; have B := Lib.hid hb; clear hb)
    go_ret
    exact ⟨rfl, B.out⟩
  · have d0 : decide (n < 1) = false := decide_eq_false (by omega)
    have d1 : decide (40 < n) = false := decide_eq_false (by omega)
    have d2 : decide (300 < j) = true := decide_eq_true (by omega)
    go_enter Tryd.func3, Tryd.ntmps3
    go_wp2_with (go_at_call 10; refine (awake9 _ HT.out).mono ?_; rintro e w2 ⟨rfl, hb⟩; have B := Lib.hid hb; clear hb)
    go_ret
    exact ⟨rfl, B.out⟩
  · have d0 : decide (n < 1) = false := decide_eq_false (by omega)
    have d1 : decide (40 < n) = false := decide_eq_false (by omega)
    have d2 : decide (300 < j) = false := decide_eq_false (by omega)
    have d3 : decide (100 < k) = true := decide_eq_true (by omega)
    go_enter Tryd.func3, Tryd.ntmps3
    go_wp2_with (go_at_call 10; refine (awake9 _ HT.out).mono ?_; rintro e w2 ⟨rfl, hb⟩; have B := Lib.hid hb; clear hb)
    go_ret
    exact ⟨rfl, B.out⟩
theorem both_start (n : Nat) (Q : List (Int × Int)) (k c : Nat) (a : Option Addr) (W w2 w3 : World) (X : PIx) (rb qb : Nat) (hok : OkQ n Q) (hn : n ≤ 1024) (hv : PairsAt W (.slice a k c) Q) (ho : OwnPool W w2 X (List.replicate (n * 32) 0) R0) (hb : Below w2.heap.size w2 w3)
    (hrb : w3.heap[rb]? = some (.cells (wordsV (List.replicate (n * 32) 0)) 62 (0, 0))) (hqb : w3.heap[qb]? = some (.cells (refsV n R0) 3 (0, 0))) (hl1 : w2.heap.size ≤ rb) (hl2 : w2.heap.size ≤ qb) :
    Both W (w3.alloc (.cells #[.slice a k c, .slice (some ⟨rb, 0, none⟩) (n * 32) (n * 32), .slice (some ⟨qb, 0, none⟩) n n] 37)) X ⟨w3.heap.size, rb, qb, W.heap.size, n, .slice a k c, natQ Q⟩ (List.replicate (n * 32) 0) R0 (List.replicate (n * 32) 0) R0 := by
  have hb2 := (Below.refl w3.heap.size w3).alloc (Nat.le_refl _) (.cells #[.slice a k c, .slice (some ⟨rb, 0, none⟩) (n * 32) (n * 32), .slice (some ⟨qb, 0, none⟩) n n] 37)
  have o3 := ho.step hb
  have o4 := o3.step hb2
  have hs := ho.below.size
  refine ⟨o4, ⟨heap_alloc_new w3 _, below_block hb2 hrb, by simp, below_block hb2 hqb, ?_, ?_, Nat.le_trans hs hl1, Nat.le_trans hs hl2, hok.fit hn⟩, rfl⟩
  · show PairsAt _ (.slice a k c) (intP (natQ Q))
    rw [hok.cast]
    exact hv.below o4.below
  · obtain ⟨a', c2, e, h | ⟨b, o, e2, hlt, _⟩⟩ := hv
    · have := hok.1.1; rw [h] at this; simp at this
    · intro b' hb'
      cases e
      subst e2
      simp only [Value.ownBlock] at hb'
      cases hb'
      exact hlt
def PlaysRel (W : World) (X : PIx) (Z : ZIx) (q : Nat) (iv : Value) (wr : World) : Prop := ∃ (k : Nat) (L : List Int) (R : Nat → Nat), iv = .int .i64 (k : Int) ∧ k ≤ q ∧ Both W wr X Z L R L R
set_option maxHeartbeats 4000000 in
theorem plays_in (n : Nat) (Q S : List (Int × Int)) (v u : Value) (W : World) (h1 : 1 ≤ n) (h40 : n ≤ 40) (hv : ArgPairs W v Q) (hS : ArgPairs W u S) (hk : Q.length ≤ 100) (hj : S.length ≤ 300) (hT : LaidQ W) : Calls Tryd.prog 3 #[.int .i64 (n : Int), v, u] W fun e w' => e = .returned (.bool true) ∧ Below W.heap.size W w' := by
  have HT := Lib.hid hT
  have HV := Lib.hid hv.1
  have HS := Lib.hid hS.1
  have HB := Lib.hid hS.2
  obtain ⟨⟨a, c, rfl, _⟩, _⟩ := hv
  obtain ⟨⟨s, c', rfl, _⟩, _⟩ := hS
  obtain ⟨k, hkk⟩ : ∃ k, k = Q.length := ⟨_, rfl⟩
  obtain ⟨j, hjj⟩ : ∃ j, j = S.length := ⟨_, rfl⟩
  have HV2 : Hid (PairsAt W (.slice a k c) Q) := Lib.hid (by rw [hkk]; exact HV.out)
  rw [← hkk] at hk ⊢
  rw [← hjj] at hj ⊢
  have HJ := Lib.hid hjj
  have d0 : decide ((n : Int) < 1) = false := decide_eq_false (by omega)
  have d1 : decide (40 < (n : Int)) = false := decide_eq_false (by omega)
  have d2 : decide (300 < j) = false := decide_eq_false (by omega)
  have d3 : decide (100 < k) = false := decide_eq_false (by omega)
  clear hT hkk hjj HV
  go_enter Tryd.func3, Tryd.ntmps3
  go_wp2_with fail
  refine (new_ok n W h1 (by omega)).mono ?_
  rintro e w1 hp
  obtain ⟨mp, fb, rfl, ho⟩ := OwnMem.new hp
  have M1 := Lib.hid ho
  clear hp ho
  go_wp2_with fail
  refine (newpool_any mp fb n _ Q _ _ M1.out.st (HV2.out.below M1.out.below)).mono ?_
  rintro e w2 hp
  by_cases hok : OkQ n Q
  · obtain ⟨X, rfl, ho, hmp, _, hn, hP, _⟩ := OwnPool.new_ M1.out HT.out hp hok
    subst hmp
    have O0 := Lib.hid ho
    have HP := Lib.hid hP
    have HN := Lib.hid hn
    have OK := Lib.hid hok
    clear hp ho hP hn hok M1
    go_wp2_with fail
    refine (rnew9_any n Q _ _ (HV2.out.below O0.out.below) h1 (by omega)).mono ?_
    rintro e w3 hr
    rcases hr with ⟨h, _⟩ | ⟨_, rb, qb, rfl, hrb, hqb, hl1, hl2, hb⟩
    · exact absurd OK.out h
    · have BB := Lib.hid (both_start n Q k c a W w2 w3 X rb qb OK.out (by omega) HV2.out O0.out hb hrb hqb hl1 hl2)
      have HP := Lib.hid HP.out.symm
      have HN := Lib.hid HN.out.symm
      clear hrb hqb hl1 hl2 hb O0
      go_wp2_with fail
      obtain ⟨Z, hZ⟩ : ∃ Z : ZIx, Z = ⟨w3.heap.size, rb, qb, W.heap.size, n, .slice a k c, natQ Q⟩ := ⟨_, rfl⟩
      have HZP : Hid (Z.P = X.P) := Lib.hid (by rw [hZ]; exact HP.out)
      have HZN : Hid (Z.n = X.n) := Lib.hid (by rw [hZ]; exact HN.out)
      have BB := Lib.hid (show Both W (w3.alloc (.cells #[.slice a k c, .slice (some ⟨rb, 0, none⟩) (n * 32) (n * 32), .slice (some ⟨qb, 0, none⟩) n n] 37)) X Z (List.replicate (n * 32) 0) R0 (List.replicate (n * 32) 0) R0 by rw [hZ]; exact BB.out)
      rw [show w3.heap.size = Z.rp by rw [hZ]]
      have ZN : Hid (Z.n = n) := Lib.hid (by rw [hZ])
      clear hZ
      go_loopw [13] (fun iv wr => PlaysRel W X Z j iv wr) (fun i _ => j - (intOf i).toNat)
      case atStart => exact ⟨0, _, _, rfl, Nat.zero_le _, BB.out⟩
      case round =>
        obtain ⟨i, L, R, rfl, hi, hB⟩ := hrel
        have B := Lib.hid hB
        clear hB
        by_cases hlt : i < j
        · obtain ⟨bb, o, cc, d, x, hsl, hbw, hrow, e0, e1⟩ := pair_cells HS.out i (by rw [← HJ.out]; exact hlt)
          obtain ⟨rfl, rfl⟩ : s = some ⟨bb, o, none⟩ ∧ cc = c' := by rw [← HJ.out] at hsl; cases hsl; exact ⟨rfl, rfl⟩
          have y0 := (B.out.own.below.cell (p := ⟨bb, o + i * 2, none⟩) hbw).trans e0
          have y1 := (B.out.own.below.cell (p := ⟨bb, o + i * 2 + 1, none⟩) hbw).trans e1
          have hx : I64 x := by
            have := (HB.out (S.getD i default) (by rw [List.getD_eq_getElem?_getD, List.getElem?_eq_getElem (by rw [← HJ.out]; exact hlt)]; exact List.getElem_mem _)).2
            rw [hrow] at this; exact this
          have HX := Lib.hid hx
          clear hsl e0 e1 hrow hbw hx
          go_wp2_with (go_at_call 14; refine (play_any W _ X Z L R d x B.out HZP.out HZN.out HX.out).mono ?_; rintro e w5 ⟨rfl, L2, R2, hb⟩; have B := Lib.hid hb; clear hb)
          go_roundw
          case rel => exact ⟨i + 1, _, _, by go_num, by omega, B.out⟩
          case measure => simp [intOf]; omega
        · obtain rfl : i = j := by omega
          go_wp2_with fail
          go_loopw [14] (fun iv wr => PlaysRel W X Z n iv wr) (fun i _ => n - (intOf i).toNat)
          case atStart => exact ⟨0, _, _, rfl, Nat.zero_le _, B.out⟩
          case round =>
            obtain ⟨i2, L3, R3, rfl, hi2, hB⟩ := hrel
            have B := Lib.hid hB
            clear hB
            by_cases hlt2 : i2 < n
            · have hI : I64 (i2 : Int) := by constructor <;> omega
              have HI := Lib.hid hI
              have hlen := Lib.hid (rowOf_length B.out.ref.len (f := i2) (by rw [ZN.out]; exact hlt2))
              go_wp2_with fail
              refine (page_ok X.mp X.fb X.n i2 L3 wr B.out.own.st.mem (by rw [← HZN.out, ZN.out]; exact hlt2)).mono ?_
              rintro e w5 ⟨v5, rfl, hrow, hb⟩
              have Y5 := Lib.hid hrow.rowAt
              have B := Lib.hid (B.out.step hb)
              have k1 := B.out.ref.c1
              rw [ZN.out] at k1
              clear hrow hb
              go_wp2_with fail
              refine (rpageM_yes Z.rp Z.rb n i2 L3 _ (by have := B.out.ref.memM; rw [ZN.out] at this; exact this) hlt2).mono ?_
              rintro e w6 ⟨v6, rfl, hrow, hb⟩
              have Y6 := Lib.hid hrow
              have Y5 := Lib.hid (Y5.out.below hb)
              have B := Lib.hid (B.out.step hb)
              clear hrow hb k1
              go_wp2_with fail
              refine (same_yes v5 v6 (rowOf L3 i2) w6 (by rw [hlen.out]; decide) Y5.out Y6.out).mono ?_
              rintro e w7 ⟨rfl, hb⟩
              have B := Lib.hid (B.out.step hb)
              clear hb
              go_wp2_with (go_at_call 14; refine (play_any W _ X Z L3 R3 0 (i2 : Int) B.out HZP.out HZN.out HI.out).mono ?_; rintro e w8 ⟨rfl, L2, R2, hb⟩; have B := Lib.hid hb; clear hb)
              go_roundw
              case rel => exact ⟨i2 + 1, _, _, by go_num, by omega, B.out⟩
              case measure => simp [intOf]; omega
            · obtain rfl : i2 = n := by omega
              go_wp2_with (go_at_call 10; refine (awake9 _ B.out.own.table).mono ?_; rintro e w6 ⟨rfl, hb⟩; have B := Lib.hid (B.out.step hb); clear hb)
              go_ret
              exact ⟨rfl, B.out.own.below⟩
  · rcases hp with ⟨_, rfl, hb⟩ | ⟨h, _⟩
    · have B2 := Lib.hid (M1.out.below.trans (hb.mono M1.out.below.size))
      clear hb M1
      go_wp2_with fail
      refine (rnew9_any n Q _ _ (HV2.out.below B2.out) h1 (by omega)).mono ?_
      rintro e w3 hr
      rcases hr with ⟨_, he, hb⟩ | ⟨h, _⟩
      · have he2 : e = .returned (.tuple #[.agg #[.slice none 0 0, .slice none 0 0, .slice none 0 0], .int .i64 2]) := he
        subst he2
        have B3 := Lib.hid ((B2.out.trans (hb.mono B2.out.size)).alloc (Nat.le_trans B2.out.size hb.size) (.cells #[.slice none 0 0, .slice none 0 0, .slice none 0 0] 37))
        clear hb he
        go_wp2_with (go_at_call 10; refine (awake9 _ (HT.out.below B3.out)).mono ?_; rintro e w4 ⟨rfl, hb⟩; have B4 := Lib.hid (B3.out.trans (hb.mono B3.out.size)); clear hb)
        go_ret
        exact ⟨rfl, B4.out⟩
      · exact absurd h hok
    · exact absurd h hok
theorem pallocPlays_walk (n : Int) (v : Value) (Q : List (Int × Int)) (u : Value) (S : List (Int × Int)) (W : World) (_hn : I64 n) (hv : ArgPairs W v Q) (hS : ArgPairs W u S) (hT : LaidQ W) : Calls Tryd.prog 3 #[.int .i64 n, v, u] W fun e w' => e = .returned (.bool true) ∧ Below W.heap.size W w' := by
  by_cases h : n < 1 ∨ (1 ≤ n ∧ 40 < n) ∨ (1 ≤ n ∧ n ≤ 40 ∧ 300 < S.length) ∨ (1 ≤ n ∧ n ≤ 40 ∧ S.length ≤ 300 ∧ 100 < Q.length)
  · obtain ⟨⟨a, c, rfl, _⟩, _⟩ := hv
    obtain ⟨⟨s, c', rfl, _⟩, _⟩ := hS
    exact plays_far n _ _ c c' a s W h hT
  · obtain ⟨n, rfl⟩ := Int.eq_ofNat_of_zero_le (show 0 ≤ n by omega)
    exact plays_in n Q S v u W (by omega) (by omega) hv hS (by omega) (by omega) hT
end Go.Proofs.YtiohnhgoddfebaaDoor
