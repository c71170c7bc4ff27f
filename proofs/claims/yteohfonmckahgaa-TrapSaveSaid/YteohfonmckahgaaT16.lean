/- The walk of TrapSave, layer 4, where the slot is there. No condition. -/
import Derived.Test.YteohfonmckahgaaT15
namespace Go.Proofs.Yteohfonmckahgaa
open Go.RowKit
set_option maxRecDepth 100000

set_option maxHeartbeats 8000000 in
theorem saveLaw_in (n : Nat) (s : Nat) (f o p x : Int) (T U : List Int) (W : World) (h1 : 1 ≤ n) (h2 : n ≤ 10) (hT : T.length = 10) (hU : U.length = 10) (q : Nat) (hf : okFQ n f 0) (hs0 : s < 3) (hq : q = 10 * s) :
    Calls Try.prog 4 #[.int .i64 n, .int .i64 f, .int .i64 s, .int .i64 o, .int .i64 p, .int .u32 x, .agg (wordsV T), .agg (wordsV U)] W fun e w' => e = .returned (.bool true) ∧ Below W.heap.size W w' := by
  have hz := trapZ
  have HT := Lib.hid hT
  have HU := Lib.hid hU
  have d1 : decide ((n : Int) < 1) = false := decide_eq_false (by omega)
  have d2 : decide ((10 : Int) < n) = false := decide_eq_false (by omega)
  have HF := Lib.hid hf
  have HS := Lib.hid hs0
  have HQ := Lib.hid hq
  have e1 : decide ((0 : Int) ≤ f) = true := decide_eq_true (by unfold okFQ at hf; omega)
  have e2 : decide (f < n) = true := decide_eq_true (by unfold okFQ at hf; omega)
  have e3 : decide ((0 : Int) ≤ s) = true := decide_eq_true (by omega)
  have e4 : decide ((s : Int) < 3) = true := decide_eq_true (by omega)
  clear hf hs0 hq
  have A0 := Lib.hid (below_two W (.cells (wordsV T) 26) (.cells (wordsV U) 26))
  have XT := Lib.hid (heap_alloc2_old W (.cells (wordsV T) 26) (.cells (wordsV U) 26))
  have XU := Lib.hid (heap_alloc2_new W (.cells (wordsV T) 26) (.cells (wordsV U) 26))
  obtain ⟨w0, hw0⟩ : ∃ w0, w0 = (W.alloc (.cells (wordsV T) 26)).alloc (.cells (wordsV U) 26) := ⟨_, rfl⟩
  have HZ : Hid (W.heap.size + 1 < w0.heap.size) := Lib.hid (by rw [hw0]; simp)
  rw [← hw0] at A0 XT XU
  have HW := Lib.hid hw0
  clear hT hU hw0
  go_enter Try.func4, Try.ntmps4
  go_wp2_with fail
  rw [← HW.out]
  refine (new_ok n w0 h1 (by omega)).mono ?_
  rintro e w1 hp
  obtain ⟨mp, fb, rfl, ho⟩ := OwnMem.new hp
  have O1 := Lib.hid ho
  clear hp ho
  go_wp2_with fail
  refine (rnew_ok n w1 h1 (by omega)).mono ?_
  rintro e w2 ⟨rb, rfl, hrb, hlb, hb⟩
  have hf1 := lt_of_block O1.out.st.row
  have hm1 := lt_of_block O1.out.st.box
  have hr1 := lt_of_block hrb
  have hz1 := hb.size
  have hz0 := O1.out.below.size
  have D : Duo w0 mp fb w2.heap.size rb n (List.replicate (n * 32) 0) (List.replicate (n * 32) 0) (w2.alloc (.cells #[.slice (some ⟨rb, 0, none⟩) (n * 32) (n * 32)] 39)) :=
    have hb2 := (Below.refl w2.heap.size w2).alloc (Nat.le_refl _) (.cells #[.slice (some ⟨rb, 0, none⟩) (n * 32) (n * 32)] 39)
    have O2 := (O1.out.step hb).step hb2
    ⟨O2.st, ⟨heap_alloc_new _ _, below_block hb2 hrb, List.length_replicate, by omega, by omega⟩, O2.below, O2.lf, by omega, by omega, by omega, by omega⟩
  have S2 : Hid (SaveSt W mp fb w2.heap.size rb n W.heap.size (W.heap.size + 1) T U (List.replicate (n * 32) 0) (List.replicate (n * 32) 0) (w2.alloc (.cells #[.slice (some ⟨rb, 0, none⟩) (n * 32) (n * 32)] 39))) := Lib.hid
    ⟨D.base A0.out, ⟨below_block D.below XT.out, fun e => by have := D.lf; have := HZ.out; omega, fun e => by have := D.lr; have := HZ.out; omega⟩, ⟨below_block D.below XU.out, fun e => by have := D.lf; have := HZ.out; omega, fun e => by have := D.lr; have := HZ.out; omega⟩⟩
  clear D hrb hlb hb hf1 hm1 hr1 hz1 hz0 O1
  go_wp2_with fail
  generalize w2.alloc (.cells #[.slice (some ⟨rb, 0, none⟩) (n * 32) (n * 32)] 39) = w3 at *
  generalize w2.heap.size = rp at *
  generalize hub : W.heap.size + 1 = ub at *
  generalize htb : W.heap.size = tb at S2 ⊢
  clear hub
  obtain ⟨ke, L0, c1, c2⟩ := pair_write mp fb rp rb n (List.replicate (n * 32) 0) o p x
  have C1 := Lib.hid c1
  have C2 := Lib.hid c2
  clear c1 c2
  refine (C1.out w3 S2.out.duo.m).mono ?_
  rintro e w4 ⟨rfl, hp⟩
  have S4 := Lib.hid (S2.out.put hp)
  clear hp S2 C1
  go_wp2_with fail
  refine (C2.out w4 S4.out.duo.r).mono ?_
  rintro e w5 ⟨rfl, hp⟩
  have S5 := Lib.hid (S4.out.rput hp)
  clear hp S4 C2 A0 XT XU HW
  go_wp2_with fail
  go_loopw [21] (fun i wr => SaveRel2 W mp fb rp rb n tb ub T U i wr) (fun i _ => (2 - (intOf i).toNat))
  case atStart => exact ⟨0, L0, rfl, by omega, S5.out⟩
  case round =>
    obtain ⟨k, L, rfl, hk, hs⟩ := hrel
    have S6 := Lib.hid hs
    clear hs S5
    by_cases hlt : k < 2
    · obtain rfl | rfl : k = 0 ∨ k = 1 := by omega
      · go_wp2_with (first | (refine wpList_load_trap rfl (.tmp 14) rfl tb T 26 rfl S6.out.t.row HT.out ?_) | (refine wpList_store_trap rfl (.tmp 22) (.tmp 70) rfl wr.heap.size z10 T 26 rfl rfl (heap_alloc_new wr _) rfl HT.out ?_; obtain ⟨w7, hw7⟩ : ∃ w7, w7 = ((wr.alloc (.cells (wordsV z10) 26)).setRow wr.heap.size (wordsV T)) := ⟨_, rfl⟩; have N := S6.out.laid T; rw [← hw7] at N ⊢; clear hw7; have S7 := Lib.hid N.1; have X7 := Lib.hid N.2; clear N) | (refine wpList_load_trap rfl (.tmp 22) rfl wr.heap.size T 26 rfl X7.out.row HT.out ?_))
        clear S6
        generalize wr.heap.size = xb at *
        have HLB : Hid (idx f q + 10 ≤ L.length) := Lib.hid (by rw [S7.out.duo.m.len]; have := HF.out; unfold okFQ at this; have := HQ.out; have := HS.out; unfold idx; omega)
        refine (save_ok mp fb n s q L f T w7 HT.out S7.out.duo.m HF.out HS.out HQ.out).mono ?_
        rintro e w8 ⟨rfl, hp⟩
        have S8 := Lib.hid (S7.out.put hp)
        have X8 := Lib.hid (X7.out.put hp)
        have Y8 := Lib.hid (tenAt_put L (idx f q) T HT.out HLB.out)
        clear hp S7 X7
        generalize hL' : putK L (idx f q) T 10 = L' at *
        have HL := Lib.hid hL'
        clear hL'
        go_wp2_with fail
        have C := load_ok mp fb n s q L' f w8 S8.out.duo.m HF.out HS.out HQ.out
        rw [Y8.out] at C
        refine C.mono ?_
        clear C
        rintro e w9 ⟨rfl, hb⟩
        have S9 := Lib.hid (S8.out.step hb)
        have X9 := Lib.hid (X8.out.step hb)
        clear hb S8 X8 Y8
        go_wp2_with (first | (refine wpList_store_trap rfl (.tmp 25) (.tmp 99) rfl w9.heap.size z10 T 26 rfl rfl (heap_alloc_new w9 _) rfl HT.out ?_; obtain ⟨w10, hw10⟩ : ∃ w10, w10 = ((w9.alloc (.cells (wordsV z10) 26)).setRow w9.heap.size (wordsV T)) := ⟨_, rfl⟩; have N := S9.out.laid T; have N2 := laid_new w9 T; rw [← hw10] at N N2 ⊢; clear hw10; have S10 := Lib.hid N.1; have Y10 := Lib.hid N.2; have X10 := Lib.hid (X9.out.step N2.1); clear N N2) | (refine wpList_load_trap rfl (.tmp 22) rfl xb T 26 rfl X10.out.row HT.out ?_))
        clear S9 X9
        generalize w9.heap.size = yb at *
        refine (rwords_ok T HT.out w10).mono ?_
        rintro e w11 ⟨v2, rfl, ⟨b2, c2, rfl, hB, _, hc⟩, hb⟩
        have S11 := Lib.hid (S10.out.step hb)
        have X11 := Lib.hid (X10.out.step hb)
        have Y11 := Lib.hid (Y10.out.step hb)
        have V11 : Hid (TenAtB w11 b2 rb T) := Lib.hid ⟨hc, fun e => by have := lt_of_block S10.out.duo.r.row; omega⟩
        clear hb hc hB S10 X10 Y10
        go_wp2_with fail
        go_loopw [28] (fun i wr => SaveIn W mp fb rp rb n tb ub xb yb b2 T U T L (idx f q) L' i wr) (fun i _ => (10 - (intOf i).toNat))
        case atStart => exact ⟨0, rfl, by omega, S11.out, X11.out, Y11.out, V11.out⟩
        case round =>
          obtain ⟨j, rfl, hj, hs, hx, hy, hv⟩ := hrel
          have S12 := Lib.hid hs
          have X12 := Lib.hid hx
          have Y12 := Lib.hid hy
          have V12 := Lib.hid hv
          clear hs hx hy hv S11 X11 Y11 V11
          by_cases hjl : j < 10
          · have cj := V12.out.cell j hjl
            have hs3 := HS.out
            have HQ2 : Hid (okFQ n f ((s : Int) * 10 + j)) := Lib.hid (by have := HF.out; unfold okFQ at this ⊢; omega)
            have HI : Hid (idx f ((s : Int) * 10 + j) = idx f q + j) := Lib.hid (by have := HQ.out; unfold idx; omega)
            obtain ⟨y, hy⟩ : ∃ y, y = T.getD j 0 := ⟨_, rfl⟩
            rw [← hy] at cj
            have HYY := Lib.hid hy
            clear hy
            go_wp2_with fail
            refine (rwrite_i rp rb n _ f ((s : Int) * 10 + j) y _ S12.out.duo.r HQ2.out).mono ?_
            rintro e w13 ⟨rfl, hp⟩
            rw [HI.out, HYY.out] at hp
            have S13 : Hid (SaveSt W mp fb rp rb n tb ub T U L' (putK L (idx f q) T (j + 1)) w13) := Lib.hid (S12.out.rput hp)
            have X13 := Lib.hid (X12.out.rput hp)
            have Y13 := Lib.hid (Y12.out.rput hp)
            have V13 := Lib.hid (V12.out.rput hp)
            clear hp cj hs3
            go_wp2
            go_roundw
            case rel => exact ⟨j + 1, by go_num, by omega, S13.out, X13.out, Y13.out, V13.out⟩
            case measure => simp [intOf]; omega
          · obtain rfl : j = 10 := by omega
            have hs := S12.out
            rw [HL.out] at hs
            have S14 := Lib.hid hs
            clear hs S12 hjl
            go_wp2_with (first | (refine wpListG_load_trap rfl (.tmp 25) rfl yb T 26 rfl Y12.out.row HT.out ?_) | (refine wpListG_load_trap rfl (.tmp 22) rfl xb T 26 rfl X12.out.row HT.out ?_) | (refine wpList_neq_trap rfl (.tmp 139) (.tmp 140) 26 rfl T HT.out rfl rfl ?_))
            go_roundw
            case rel => exact ⟨0 + 1, L', by go_num, by omega, S14.out⟩
            case measure => simp [intOf]
      · go_wp2_with (first | (refine wpList_load_trap rfl (.tmp 14) rfl tb T 26 rfl S6.out.t.row HT.out ?_) | (refine wpList_store_trap rfl (.tmp 22) (.tmp 70) rfl wr.heap.size z10 T 26 rfl rfl (heap_alloc_new wr _) rfl HT.out ?_; have N := S6.out.laid T) | (refine wpList_load_trap rfl (.tmp 15) rfl ub U 26 rfl N.1.u.row HU.out ?_) | (refine wpList_store_trap rfl (.tmp 22) (.tmp 73) rfl wr.heap.size T U 26 rfl rfl N.2.row HT.out HU.out ?_; clear N; obtain ⟨w7, hw7⟩ : ∃ w7, w7 = (((wr.alloc (.cells (wordsV z10) 26)).setRow wr.heap.size (wordsV T)).setRow wr.heap.size (wordsV U)) := ⟨_, rfl⟩; have N := S6.out.laid2 T U; rw [← hw7] at N ⊢; clear hw7; have S7 := Lib.hid N.1; have X7 := Lib.hid N.2; clear N) | (refine wpList_load_trap rfl (.tmp 22) rfl wr.heap.size U 26 rfl X7.out.row HU.out ?_))
        clear S6
        generalize wr.heap.size = xb at *
        have HLB : Hid (idx f q + 10 ≤ L.length) := Lib.hid (by rw [S7.out.duo.m.len]; have := HF.out; unfold okFQ at this; have := HQ.out; have := HS.out; unfold idx; omega)
        refine (save_ok mp fb n s q L f U w7 HU.out S7.out.duo.m HF.out HS.out HQ.out).mono ?_
        rintro e w8 ⟨rfl, hp⟩
        have S8 := Lib.hid (S7.out.put hp)
        have X8 := Lib.hid (X7.out.put hp)
        have Y8 := Lib.hid (tenAt_put L (idx f q) U HU.out HLB.out)
        clear hp S7 X7
        generalize hL' : putK L (idx f q) U 10 = L' at *
        have HL := Lib.hid hL'
        clear hL'
        go_wp2_with fail
        have C := load_ok mp fb n s q L' f w8 S8.out.duo.m HF.out HS.out HQ.out
        rw [Y8.out] at C
        refine C.mono ?_
        clear C
        rintro e w9 ⟨rfl, hb⟩
        have S9 := Lib.hid (S8.out.step hb)
        have X9 := Lib.hid (X8.out.step hb)
        clear hb S8 X8 Y8
        go_wp2_with (first | (refine wpList_store_trap rfl (.tmp 25) (.tmp 99) rfl w9.heap.size z10 U 26 rfl rfl (heap_alloc_new w9 _) rfl HU.out ?_; obtain ⟨w10, hw10⟩ : ∃ w10, w10 = ((w9.alloc (.cells (wordsV z10) 26)).setRow w9.heap.size (wordsV U)) := ⟨_, rfl⟩; have N := S9.out.laid U; have N2 := laid_new w9 U; rw [← hw10] at N N2 ⊢; clear hw10; have S10 := Lib.hid N.1; have Y10 := Lib.hid N.2; have X10 := Lib.hid (X9.out.step N2.1); clear N N2) | (refine wpList_load_trap rfl (.tmp 22) rfl xb U 26 rfl X10.out.row HU.out ?_))
        clear S9 X9
        generalize w9.heap.size = yb at *
        refine (rwords_ok U HU.out w10).mono ?_
        rintro e w11 ⟨v2, rfl, ⟨b2, c2, rfl, hB, _, hc⟩, hb⟩
        have S11 := Lib.hid (S10.out.step hb)
        have X11 := Lib.hid (X10.out.step hb)
        have Y11 := Lib.hid (Y10.out.step hb)
        have V11 : Hid (TenAtB w11 b2 rb U) := Lib.hid ⟨hc, fun e => by have := lt_of_block S10.out.duo.r.row; omega⟩
        clear hb hc hB S10 X10 Y10
        go_wp2_with fail
        go_loopw [28] (fun i wr => SaveIn W mp fb rp rb n tb ub xb yb b2 T U U L (idx f q) L' i wr) (fun i _ => (10 - (intOf i).toNat))
        case atStart => exact ⟨0, rfl, by omega, S11.out, X11.out, Y11.out, V11.out⟩
        case round =>
          obtain ⟨j, rfl, hj, hs, hx, hy, hv⟩ := hrel
          have S12 := Lib.hid hs
          have X12 := Lib.hid hx
          have Y12 := Lib.hid hy
          have V12 := Lib.hid hv
          clear hs hx hy hv S11 X11 Y11 V11
          by_cases hjl : j < 10
          · have cj := V12.out.cell j hjl
            have hs3 := HS.out
            have HQ2 : Hid (okFQ n f ((s : Int) * 10 + j)) := Lib.hid (by have := HF.out; unfold okFQ at this ⊢; omega)
            have HI : Hid (idx f ((s : Int) * 10 + j) = idx f q + j) := Lib.hid (by have := HQ.out; unfold idx; omega)
            obtain ⟨y, hy⟩ : ∃ y, y = U.getD j 0 := ⟨_, rfl⟩
            rw [← hy] at cj
            have HYY := Lib.hid hy
            clear hy
            go_wp2_with fail
            refine (rwrite_i rp rb n _ f ((s : Int) * 10 + j) y _ S12.out.duo.r HQ2.out).mono ?_
            rintro e w13 ⟨rfl, hp⟩
            rw [HI.out, HYY.out] at hp
            have S13 : Hid (SaveSt W mp fb rp rb n tb ub T U L' (putK L (idx f q) U (j + 1)) w13) := Lib.hid (S12.out.rput hp)
            have X13 := Lib.hid (X12.out.rput hp)
            have Y13 := Lib.hid (Y12.out.rput hp)
            have V13 := Lib.hid (V12.out.rput hp)
            clear hp cj hs3
            go_wp2
            go_roundw
            case rel => exact ⟨j + 1, by go_num, by omega, S13.out, X13.out, Y13.out, V13.out⟩
            case measure => simp [intOf]; omega
          · obtain rfl : j = 10 := by omega
            have hs := S12.out
            rw [HL.out] at hs
            have S14 := Lib.hid hs
            clear hs S12 hjl
            go_wp2_with (first | (refine wpListG_load_trap rfl (.tmp 25) rfl yb U 26 rfl Y12.out.row HU.out ?_) | (refine wpListG_load_trap rfl (.tmp 22) rfl xb U 26 rfl X12.out.row HU.out ?_) | (refine wpList_neq_trap rfl (.tmp 139) (.tmp 140) 26 rfl U HU.out rfl rfl ?_))
            go_roundw
            case rel => exact ⟨1 + 1, L', by go_num, by omega, S14.out⟩
            case measure => simp [intOf]
    · obtain rfl : k = 2 := by omega
      have D6 := Lib.hid S6.out.duo
      clear hlt S6
      rw [show ((2 : Nat) : Int) = 2 from rfl]
      go_wp2_with fail
      go_loopw [29] (fun i wr => SaveEnd W mp fb rp rb n L i wr) (fun i _ => (n - (intOf i).toNat))
      case atStart => exact ⟨0, rfl, Nat.zero_le _, D6.out⟩
      case round =>
        obtain ⟨k, rfl, hk, hd⟩ := hrel
        have D7 := Lib.hid hd
        clear hd D6
        by_cases hlt : k < n
        · obtain ⟨ke2, R, hR, p1, p2⟩ := pair_page mp fb rp rb n L k
          have P1 := Lib.hid p1
          have P2 := Lib.hid p2
          clear p1 p2
          go_wp2_with fail
          refine (P1.out _ D7.out.m).mono ?_
          rintro e w8 ⟨v1, rfl, hr, hb⟩
          have D8 := Lib.hid (D7.out.step hb)
          have R8 := Lib.hid hr
          clear hb hr
          have cb := D8.out.r.cellB
          go_wp2_with fail
          refine (P2.out _ D8.out.r).mono ?_
          rintro e w9 ⟨v2, rfl, hr, hb⟩
          have D9 := Lib.hid (D8.out.step hb)
          have R9 := Lib.hid (R8.out.below hb)
          have Q9 := Lib.hid hr
          clear hb hr cb R8
          go_wp2_with fail
          refine (same_yes v1 v2 R w9 (by omega) R9.out Q9.out).mono ?_
          rintro e w10 ⟨rfl, hb⟩
          have D10 := Lib.hid (D9.out.step hb)
          clear hb
          go_wp2
          go_roundw
          case rel => exact ⟨k + 1, by go_num, by omega, D10.out⟩
          case measure => simp [intOf]; omega
        · go_wp2_with fail
          refine (awake4_any _).mono ?_
          rintro e w8 ⟨rfl, hb⟩
          have D8 := Lib.hid (D7.out.step hb)
          clear hb
          go_wp2
          go_ret
          exact ⟨rfl, D8.out.below⟩
end Go.Proofs.Yteohfonmckahgaa
