/- The walk of TrapSave, layer 4, where the slot is not there. No condition. -/
import Derived.Test.YteohfonmckahgaaT16
namespace Go.Proofs.Yteohfonmckahgaa
open Go.RowKit
set_option maxRecDepth 100000

set_option maxHeartbeats 8000000 in
theorem saveLaw_no (n : Nat) (f s o p x : Int) (T U : List Int) (W : World) (h1 : 1 ≤ n) (h2 : n ≤ 10) (hT : T.length = 10) (hU : U.length = 10) (hb : ¬ (okFQ n f 0 ∧ 0 ≤ s ∧ s < 3)) (hc : decide ((0 : Int) ≤ f) = false ∨ (decide ((0 : Int) ≤ f) = true ∧ decide (f < n) = false) ∨ (decide ((0 : Int) ≤ f) = true ∧ decide (f < n) = true ∧ decide ((0 : Int) ≤ s) = false) ∨ (decide ((0 : Int) ≤ f) = true ∧ decide (f < n) = true ∧ decide ((0 : Int) ≤ s) = true ∧ decide (s < 3) = false)) :
    Calls Try.prog 4 #[.int .i64 n, .int .i64 f, .int .i64 s, .int .i64 o, .int .i64 p, .int .u32 x, .agg (wordsV T), .agg (wordsV U)] W fun e w' => e = .returned (.bool true) ∧ Below W.heap.size W w' := by
  have hz := trapZ
  have HT := Lib.hid hT
  have HU := Lib.hid hU
  have d1 : decide ((n : Int) < 1) = false := decide_eq_false (by omega)
  have d2 : decide ((10 : Int) < n) = false := decide_eq_false (by omega)
  have HB := Lib.hid hb
  clear hb
  have A0 := Lib.hid (below_two W (.cells (wordsV T) 26) (.cells (wordsV U) 26))
  have XT := Lib.hid (heap_alloc2_old W (.cells (wordsV T) 26) (.cells (wordsV U) 26))
  have XU := Lib.hid (heap_alloc2_new W (.cells (wordsV T) 26) (.cells (wordsV U) 26))
  obtain ⟨w0, hw0⟩ : ∃ w0, w0 = (W.alloc (.cells (wordsV T) 26)).alloc (.cells (wordsV U) 26) := ⟨_, rfl⟩
  have HZ : Hid (W.heap.size + 1 < w0.heap.size) := Lib.hid (by rw [hw0]; simp)
  rw [← hw0] at A0 XT XU
  have HW := Lib.hid hw0
  clear hT hU hw0
  rcases hc with e1 | ⟨e1, e2⟩ | ⟨e1, e2, e3⟩ | ⟨e1, e2, e3, e4⟩
  all_goals
    go_enter Try.func4, Try.ntmps4
    go_wp2_with fail
    rw [← HW.out]
    refine (new_ok n w0 h1 (by omega)).mono ?_
    rintro e w1 hp
    obtain ⟨mp, fb, rfl, ho⟩ := OwnMem.new hp
    have O1 := Lib.hid ho
    clear hp ho
    go_wp2_with fail
    refine (rnew_ok n w1 h1 (by omega)).mono ?_
    rintro e w2 ⟨rb, rfl, hrb, hlb, hb⟩
    have hf1 := lt_of_block O1.out.st.row
    have hm1 := lt_of_block O1.out.st.box
    have hr1 := lt_of_block hrb
    have hz1 := hb.size
    have hz0 := O1.out.below.size
    have D : Duo w0 mp fb w2.heap.size rb n (List.replicate (n * 32) 0) (List.replicate (n * 32) 0) (w2.alloc (.cells #[.slice (some ⟨rb, 0, none⟩) (n * 32) (n * 32)] 39)) :=
      have hb2 := (Below.refl w2.heap.size w2).alloc (Nat.le_refl _) (.cells #[.slice (some ⟨rb, 0, none⟩) (n * 32) (n * 32)] 39)
      have O2 := (O1.out.step hb).step hb2
      ⟨O2.st, ⟨heap_alloc_new _ _, below_block hb2 hrb, List.length_replicate, by omega, by omega⟩, O2.below, O2.lf, by omega, by omega, by omega, by omega⟩
    have S2 : Hid (SaveSt W mp fb w2.heap.size rb n W.heap.size (W.heap.size + 1) T U (List.replicate (n * 32) 0) (List.replicate (n * 32) 0) (w2.alloc (.cells #[.slice (some ⟨rb, 0, none⟩) (n * 32) (n * 32)] 39))) := Lib.hid
      ⟨D.base A0.out, ⟨below_block D.below XT.out, fun e => by have := D.lf; have := HZ.out; omega, fun e => by have := D.lr; have := HZ.out; omega⟩, ⟨below_block D.below XU.out, fun e => by have := D.lf; have := HZ.out; omega, fun e => by have := D.lr; have := HZ.out; omega⟩⟩
    clear D hrb hlb hb hf1 hm1 hr1 hz1 hz0 O1
    go_wp2_with fail
    generalize w2.alloc (.cells #[.slice (some ⟨rb, 0, none⟩) (n * 32) (n * 32)] 39) = w3 at *
    generalize w2.heap.size = rp at *
    generalize hub : W.heap.size + 1 = ub at *
    generalize htb : W.heap.size = tb at S2 ⊢
    clear hub
    obtain ⟨ke, L0, c1, c2⟩ := pair_write mp fb rp rb n (List.replicate (n * 32) 0) o p x
    have C1 := Lib.hid c1
    have C2 := Lib.hid c2
    clear c1 c2
    refine (C1.out w3 S2.out.duo.m).mono ?_
    rintro e w4 ⟨rfl, hp⟩
    have S4 := Lib.hid (S2.out.put hp)
    clear hp S2 C1
    go_wp2_with fail
    refine (C2.out w4 S4.out.duo.r).mono ?_
    rintro e w5 ⟨rfl, hp⟩
    have S5 := Lib.hid (S4.out.rput hp)
    clear hp S4 C2 A0 XT XU HW
    go_wp2_with fail
    go_loopw [21] (fun i wr => SaveRel2 W mp fb rp rb n tb ub T U i wr) (fun i _ => (2 - (intOf i).toNat))
    case atStart => exact ⟨0, L0, rfl, by omega, S5.out⟩
    case round =>
      obtain ⟨k, L, rfl, hk, hs⟩ := hrel
      have S6 := Lib.hid hs
      clear hs S5
      by_cases hlt : k < 2
      · obtain rfl | rfl : k = 0 ∨ k = 1 := by omega
        · go_wp2_with (first | (refine wpList_load_trap rfl (.tmp 14) rfl tb T 26 rfl S6.out.t.row HT.out ?_) | (refine wpList_store_trap rfl (.tmp 22) (.tmp 70) rfl wr.heap.size z10 T 26 rfl rfl (heap_alloc_new wr _) rfl HT.out ?_; obtain ⟨w7, hw7⟩ : ∃ w7, w7 = ((wr.alloc (.cells (wordsV z10) 26)).setRow wr.heap.size (wordsV T)) := ⟨_, rfl⟩; have N := S6.out.laid T; rw [← hw7] at N ⊢; clear hw7; have S7 := Lib.hid N.1; have X7 := Lib.hid N.2; clear N) | (refine wpList_load_trap rfl (.tmp 22) rfl wr.heap.size T 26 rfl X7.out.row HT.out ?_))
          clear S6
          generalize wr.heap.size = xb at *
          refine (save_bad mp fb n L f s T w7 S7.out.duo.m HB.out).mono ?_
          rintro e w8 ⟨rfl, hb⟩
          have S8 := Lib.hid (S7.out.step hb)
          clear hb S7 X7
          go_wp2_with fail
          refine (load_bad mp fb n L f s w8 S8.out.duo.m HB.out).mono ?_
          rintro e w9 ⟨rfl, hb⟩
          have S9 := Lib.hid (S8.out.step hb)
          clear hb S8
          go_wp2_with (first | (refine wpList_store_trap rfl (.tmp 25) (.tmp 99) rfl w9.heap.size z10 z10 26 rfl rfl (heap_alloc_new w9 _) rfl rfl ?_; obtain ⟨w10, hw10⟩ : ∃ w10, w10 = ((w9.alloc (.cells (wordsV z10) 26)).setRow w9.heap.size (wordsV z10)) := ⟨_, rfl⟩; have N := S9.out.laid z10; rw [← hw10] at N ⊢; clear hw10; have S10 := Lib.hid N.1; have Y10 := Lib.hid N.2; clear N) | (refine wpListG_load_trap rfl (.tmp 25) rfl w9.heap.size z10 26 rfl Y10.out.row rfl ?_) | (refine wpListG_build_none rfl rfl ?_) | (refine wpList_neq_trap rfl (.tmp 110) (.tmp 111) 26 rfl z10 rfl rfl rfl ?_))
          go_roundw
          case rel => exact ⟨0 + 1, L, by go_num, by omega, S10.out⟩
          case measure => simp [intOf]
        · go_wp2_with (first | (refine wpList_load_trap rfl (.tmp 14) rfl tb T 26 rfl S6.out.t.row HT.out ?_) | (refine wpList_store_trap rfl (.tmp 22) (.tmp 70) rfl wr.heap.size z10 T 26 rfl rfl (heap_alloc_new wr _) rfl HT.out ?_; have N := S6.out.laid T) | (refine wpList_load_trap rfl (.tmp 15) rfl ub U 26 rfl N.1.u.row HU.out ?_) | (refine wpList_store_trap rfl (.tmp 22) (.tmp 73) rfl wr.heap.size T U 26 rfl rfl N.2.row HT.out HU.out ?_; clear N; obtain ⟨w7, hw7⟩ : ∃ w7, w7 = (((wr.alloc (.cells (wordsV z10) 26)).setRow wr.heap.size (wordsV T)).setRow wr.heap.size (wordsV U)) := ⟨_, rfl⟩; have N := S6.out.laid2 T U; rw [← hw7] at N ⊢; clear hw7; have S7 := Lib.hid N.1; have X7 := Lib.hid N.2; clear N) | (refine wpList_load_trap rfl (.tmp 22) rfl wr.heap.size U 26 rfl X7.out.row HU.out ?_))
          clear S6
          generalize wr.heap.size = xb at *
          refine (save_bad mp fb n L f s U w7 S7.out.duo.m HB.out).mono ?_
          rintro e w8 ⟨rfl, hb⟩
          have S8 := Lib.hid (S7.out.step hb)
          clear hb S7 X7
          go_wp2_with fail
          refine (load_bad mp fb n L f s w8 S8.out.duo.m HB.out).mono ?_
          rintro e w9 ⟨rfl, hb⟩
          have S9 := Lib.hid (S8.out.step hb)
          clear hb S8
          go_wp2_with (first | (refine wpList_store_trap rfl (.tmp 25) (.tmp 99) rfl w9.heap.size z10 z10 26 rfl rfl (heap_alloc_new w9 _) rfl rfl ?_; obtain ⟨w10, hw10⟩ : ∃ w10, w10 = ((w9.alloc (.cells (wordsV z10) 26)).setRow w9.heap.size (wordsV z10)) := ⟨_, rfl⟩; have N := S9.out.laid z10; rw [← hw10] at N ⊢; clear hw10; have S10 := Lib.hid N.1; have Y10 := Lib.hid N.2; clear N) | (refine wpListG_load_trap rfl (.tmp 25) rfl w9.heap.size z10 26 rfl Y10.out.row rfl ?_) | (refine wpListG_build_none rfl rfl ?_) | (refine wpList_neq_trap rfl (.tmp 110) (.tmp 111) 26 rfl z10 rfl rfl rfl ?_))
          go_roundw
          case rel => exact ⟨1 + 1, L, by go_num, by omega, S10.out⟩
          case measure => simp [intOf]
      · obtain rfl : k = 2 := by omega
        have D6 := Lib.hid S6.out.duo
        clear hlt S6
        rw [show ((2 : Nat) : Int) = 2 from rfl]
        go_wp2_with fail
        go_loopw [29] (fun i wr => SaveEnd W mp fb rp rb n L i wr) (fun i _ => (n - (intOf i).toNat))
        case atStart => exact ⟨0, rfl, Nat.zero_le _, D6.out⟩
        case round =>
          obtain ⟨k, rfl, hk, hd⟩ := hrel
          have D7 := Lib.hid hd
          clear hd D6
          by_cases hlt : k < n
          · obtain ⟨ke2, R, hR, p1, p2⟩ := pair_page mp fb rp rb n L k
            have P1 := Lib.hid p1
            have P2 := Lib.hid p2
            clear p1 p2
            go_wp2_with fail
            refine (P1.out _ D7.out.m).mono ?_
            rintro e w8 ⟨v1, rfl, hr, hb⟩
            have D8 := Lib.hid (D7.out.step hb)
            have R8 := Lib.hid hr
            clear hb hr
            have cb := D8.out.r.cellB
            go_wp2_with fail
            refine (P2.out _ D8.out.r).mono ?_
            rintro e w9 ⟨v2, rfl, hr, hb⟩
            have D9 := Lib.hid (D8.out.step hb)
            have R9 := Lib.hid (R8.out.below hb)
            have Q9 := Lib.hid hr
            clear hb hr cb R8
            go_wp2_with fail
            refine (same_yes v1 v2 R w9 (by omega) R9.out Q9.out).mono ?_
            rintro e w10 ⟨rfl, hb⟩
            have D10 := Lib.hid (D9.out.step hb)
            clear hb
            go_wp2
            go_roundw
            case rel => exact ⟨k + 1, by go_num, by omega, D10.out⟩
            case measure => simp [intOf]; omega
          · go_wp2_with fail
            refine (awake4_any _).mono ?_
            rintro e w8 ⟨rfl, hb⟩
            have D8 := Lib.hid (D7.out.step hb)
            clear hb
            go_wp2
            go_ret
            exact ⟨rfl, D8.out.below⟩

set_option maxHeartbeats 2000000 in
theorem saveLaw_out (n f s o p x : Int) (T U : List Int) (W : World) (h : ¬ (1 ≤ n ∧ n ≤ 10)) :
    Calls Try.prog 4 #[.int .i64 n, .int .i64 f, .int .i64 s, .int .i64 o, .int .i64 p, .int .u32 x, .agg (wordsV T), .agg (wordsV U)] W fun e w' => e = .returned (.bool true) ∧ Below W.heap.size W w' := by
  have A0 := Lib.hid (below_two W (.cells (wordsV T) 26) (.cells (wordsV U) 26))
  have hc : decide (n < 1) = true ∨ (decide (n < 1) = false ∧ decide (10 < n) = true) := by
    simp only [decide_eq_true_eq, decide_eq_false_iff_not]; omega
  clear h
  rcases hc with d1 | ⟨d1, d2⟩
  all_goals
    go_enter Try.func4, Try.ntmps4
    go_wp2_with fail
    refine (awake4_any _).mono ?_
    rintro e w1 ⟨rfl, hb⟩
    have B1 := Lib.hid (A0.out.trans (hb.mono A0.out.size))
    clear hb
    go_wp2
    go_ret
    exact ⟨rfl, B1.out⟩
theorem trapSave_walk (n f s o p x : Int) (T U : List Int) (W : World) (_ : -9223372036854775808 ≤ n ∧ n ≤ 9223372036854775807) (_ : -9223372036854775808 ≤ f ∧ f ≤ 9223372036854775807) (_ : -9223372036854775808 ≤ s ∧ s ≤ 9223372036854775807) (_ : -9223372036854775808 ≤ o ∧ o ≤ 9223372036854775807) (_ : -9223372036854775808 ≤ p ∧ p ≤ 9223372036854775807) (_ : 0 ≤ x ∧ x ≤ 4294967295) (hT : T.length = 10) (hU : U.length = 10) :
    Calls Try.prog 4 #[.int .i64 n, .int .i64 f, .int .i64 s, .int .i64 o, .int .i64 p, .int .u32 x, .agg (wordsV T), .agg (wordsV U)] W fun e w' => e = .returned (.bool true) ∧ Below W.heap.size W w' := by
  by_cases h : 1 ≤ n ∧ n ≤ 10
  · obtain ⟨k, rfl⟩ := Int.eq_ofNat_of_zero_le (show 0 ≤ n by omega)
    by_cases hb : okFQ k f 0 ∧ 0 ≤ s ∧ s < 3
    · obtain ⟨j, rfl⟩ := Int.eq_ofNat_of_zero_le hb.2.1
      exact saveLaw_in k j f o p x T U W (by omega) (by omega) hT hU (10 * j) hb.1 (by omega) rfl
    · refine saveLaw_no k f s o p x T U W (by omega) (by omega) hT hU hb ?_
      unfold okFQ at hb
      simp only [decide_eq_true_eq, decide_eq_false_iff_not]; omega
  · exact saveLaw_out n f s o p x T U W h
end Go.Proofs.Yteohfonmckahgaa
