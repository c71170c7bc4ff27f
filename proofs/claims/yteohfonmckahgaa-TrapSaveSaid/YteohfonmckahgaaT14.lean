/- The walk of TrapOver, layer 4. Condition: the slice that is taken has its traps in a block. -/
import Derived.Test.YteohfonmckahgaaT13
import Derived.Test.YteohfonmckahgaaO4
namespace Go.Proofs.Yteohfonmckahgaa
open Go.RowKit
set_option maxRecDepth 100000

theorem tenAt_zero (n i : Nat) : tenAt (List.replicate n 0) i = z10 := by
  refine ext_getD (by rw [tenAt_len]; rfl) fun j hj => ?_
  rw [tenAt_len] at hj
  rw [tenAt_get _ _ _ hj, replicate_get]
  match j, hj with
  | 0, _ => rfl
  | 1, _ => rfl
  | 2, _ => rfl
  | 3, _ => rfl
  | 4, _ => rfl
  | 5, _ => rfl
  | 6, _ => rfl
  | 7, _ => rfl
  | 8, _ => rfl
  | 9, _ => rfl

set_option maxHeartbeats 2000000 in
theorem over_out (n : Int) (a : Option Addr) (m c : Nat) (O : List Int) (W : World) (h : ¬ (2 ≤ n ∧ n ≤ 10 ∧ m ≤ 30)) :
    Calls Try.prog 7 #[.int .i64 n, .slice a m c, .agg (wordsV O)] W fun e w' => e = .returned (.bool true) ∧ Below W.heap.size W w' := by
  have A0 : Hid (Below W.heap.size W (W.alloc (.cells (wordsV O) 26))) := Lib.hid ((Below.refl _ _).alloc (Nat.le_refl _) _)
  have hc : (decide (n < 2) = true) ∨ (decide (n < 2) = false ∧ decide (10 < n) = true) ∨ (decide (n < 2) = false ∧ decide (10 < n) = false ∧ decide ((30 : Int) < (m : Int)) = true ∧ decide (30 < m) = true) := by
    simp only [decide_eq_true_eq, decide_eq_false_iff_not]; omega
  clear h
  rcases hc with d1 | ⟨d1, d2⟩ | ⟨d1, d2, d3, d4⟩
  all_goals
    go_enter Try.func7, Try.ntmps7
    go_wp2_with fail
    refine (awake4_any _).mono ?_
    rintro e w1 ⟨rfl, hb⟩
    have B1 := Lib.hid (A0.out.trans (hb.mono A0.out.size))
    clear hb
    go_wp2
    go_ret
    exact ⟨rfl, B1.out⟩

def OverRel (W : World) (mp fb n tb m : Nat) (O : List Int) (i : Value) (wr : World) : Prop :=
  ∃ (k : Nat) (L : List Int), i = .int .i64 k ∧ k ≤ m ∧ OwnMem W wr mp fb n L ∧ TrapBox wr tb fb O ∧ tenAt L (idx 0 (10 : Nat)) = O ∧ tenAt L (idx 0 (20 : Nat)) = z10

set_option maxHeartbeats 4000000 in
theorem over_in (n : Nat) (a : Option Addr) (c : Nat) (S : List (List Int)) (O : List Int) (W : World) (hO : O.length = 10) (h1 : 2 ≤ n) (h2 : n ≤ 10) (hm : S.length ≤ 30) (hS : ∀ T ∈ S, T.length = 10)
    (hc : S = [] ∨ ∃ b o, a = some ⟨b, o, none⟩ ∧ b < W.heap.size ∧ ∀ i, i < S.length → ∀ j, j < 10 → W.cell? ⟨b, o + i * 10 + j, none⟩ = some (.int .u32 ((S.getD i []).getD j 0))) :
    Calls Try.prog 7 #[.int .i64 n, .slice a S.length c, .agg (wordsV O)] W fun e w' => e = .returned (.bool true) ∧ Below W.heap.size W w' := by
  have hz := trapZ
  have HO := Lib.hid hO
  have HS := Lib.hid hS
  have HC := Lib.hid hc
  obtain ⟨m, hmS⟩ : ∃ m, m = S.length := ⟨_, rfl⟩
  rw [← hmS] at hm ⊢
  have HM := Lib.hid hmS
  have HF : Hid (okFQ n ((n : Int) - 1) 0) := Lib.hid (by unfold okFQ; omega)
  have d1 : decide ((n : Int) < 2) = false := decide_eq_false (by omega)
  have d2 : decide ((10 : Int) < n) = false := decide_eq_false (by omega)
  have d3 : decide ((30 : Int) < (m : Int)) = false := decide_eq_false (by omega)
  have d4 : decide (30 < m) = false := decide_eq_false (by omega)
  have A0 : Hid (Below W.heap.size W (W.alloc (.cells (wordsV O) 26))) := Lib.hid ((Below.refl _ _).alloc (Nat.le_refl _) _)
  have X0 := Lib.hid (heap_alloc_new W (.cells (wordsV O) 26))
  clear hO hS hc hmS
  go_enter Try.func7, Try.ntmps7
  go_wp2_with fail
  refine (new_ok n _ (by omega) (by omega)).mono ?_
  rintro e w1 hp
  obtain ⟨mp, fb, rfl, ho⟩ := OwnMem.new hp
  have O1 : Hid (OwnMem W w1 mp fb n (List.replicate (n * 32) 0)) := Lib.hid ⟨ho.st, A0.out.trans (ho.below.mono A0.out.size), Nat.le_trans A0.out.size ho.lm, Nat.le_trans A0.out.size ho.lf⟩
  have T1 : Hid (TrapBox w1 W.heap.size fb O) := Lib.hid ⟨below_block ho.below X0.out, fun e => by have := ho.lf; simp at this; omega⟩
  clear hp ho X0 A0
  go_wp2_with (refine wpListG_load_trap rfl (.tmp 5) rfl W.heap.size O 26 rfl T1.out.row HO.out ?_)
  refine (save_ok mp fb n 1 10 _ 0 O w1 HO.out O1.out.st (by unfold okFQ; omega) (by decide) rfl).mono ?_
  rintro e w2 ⟨rfl, hp⟩
  have O2 := Lib.hid (O1.out.put hp)
  have T2 := Lib.hid (T1.out.put hp)
  have hb : idx 0 (10 : Nat) + 10 ≤ (List.replicate (n * 32) (0 : Int)).length := by rw [List.length_replicate]; unfold idx; simp; omega
  have K2 := Lib.hid (tenAt_put (List.replicate (n * 32) 0) (idx 0 (10 : Nat)) O HO.out hb)
  have Z2 : Hid (tenAt (putK (List.replicate (n * 32) 0) (idx 0 (10 : Nat)) O 10) (idx 0 (20 : Nat)) = z10) := Lib.hid (by rw [tenAt_other _ _ _ _ hb (by unfold idx; simp), tenAt_zero])
  clear hp hb O1 T1
  go_wp2_with fail
  generalize W.heap.size = tb at T2 ⊢
  go_loopw [9] (fun i wr => OverRel W mp fb n tb m O i wr) (fun i _ => (m - (intOf i).toNat))
  case atStart => exact ⟨0, _, rfl, Nat.zero_le _, O2.out, T2.out, K2.out, Z2.out⟩
  case round =>
    obtain ⟨k, L, rfl, hk, ho, ht, hk1, hz1⟩ := hrel
    have O3 := Lib.hid ho
    have T3 := Lib.hid ht
    have K3 := Lib.hid hk1
    have Z3 := Lib.hid hz1
    clear ho ht hk1 hz1 O2 T2 K2 Z2
    by_cases hlt : k < m
    · obtain ⟨b, o, rfl, hbW, hc⟩ := HC.out.resolve_left (by intro e; have := HM.out; rw [e] at this; simp at this; omega)
      have hcell := hc k (by have := HM.out; omega)
      have hlen : (S.getD k []).length = 10 := by
        have hkS : k < S.length := by have := HM.out; omega
        rw [show S.getD k [] = S[k] by simp [List.getD_eq_getElem?_getD, hkS]]
        exact HS.out _ (List.getElem_mem hkS)
      generalize S.getD k [] = Y at hcell hlen
      have HY := Lib.hid hlen
      have HCC := Lib.hid hcell
      clear hc hcell hlen
      go_wp2_with (refine wpList_load_trapmid rfl (.tmp 56) rfl b (o + k * 10) Y HY.out rfl (fun j hj => by rw [O3.out.below.cell (p := ⟨b, o + k * 10 + j, none⟩) hbW]; exact HCC.out j hj) ?_)
      refine (save_ok mp fb n 1 10 L ((n : Int) - 1) Y wr HY.out O3.out.st HF.out (by decide) rfl).mono ?_
      rintro e w3 ⟨rfl, hp⟩
      have O4 := Lib.hid (O3.out.put hp)
      have T4 := Lib.hid (T3.out.put hp)
      have hb : idx ((n : Int) - 1) (10 : Nat) + 10 ≤ L.length := by rw [O3.out.st.len]; unfold idx; simp; omega
      have Y4 := Lib.hid (tenAt_put L (idx ((n : Int) - 1) (10 : Nat)) Y HY.out hb)
      have K4 : Hid (tenAt (putK L (idx ((n : Int) - 1) (10 : Nat)) Y 10) (idx 0 (10 : Nat)) = O) := Lib.hid (by rw [tenAt_other _ _ _ _ hb (by unfold idx; simp; omega)]; exact K3.out)
      have Z4 : Hid (tenAt (putK L (idx ((n : Int) - 1) (10 : Nat)) Y 10) (idx 0 (20 : Nat)) = z10) := Lib.hid (by rw [tenAt_other _ _ _ _ hb (by unfold idx; simp; omega)]; exact Z3.out)
      clear hp hb O3 T3 K3 Z3
      generalize putK L (idx ((n : Int) - 1) (10 : Nat)) Y 10 = L' at *
      go_wp2_with fail
      have C := load_ok mp fb n 1 10 L' ((n : Int) - 1) w3 O4.out.st HF.out (by decide) rfl
      rw [Y4.out] at C
      refine C.mono ?_
      clear C
      rintro e w4 ⟨rfl, hb⟩
      have O5 := Lib.hid (O4.out.step hb)
      have T5 := Lib.hid (T4.out.step hb)
      clear hb O4 T4 Y4
      go_wp2_with (refine wpList_store_trap rfl (.tmp 10) (.tmp 65) rfl w4.heap.size z10 Y 26 rfl rfl (heap_alloc_new w4 _) rfl HY.out ?_)
      have N := laid_new w4 Y
      generalize (w4.alloc (.cells (wordsV z10) 26)).setRow w4.heap.size (wordsV Y) = w5 at *
      obtain ⟨hb, hr⟩ := N
      have O6 := Lib.hid (O5.out.step hb)
      have T6 := Lib.hid (T5.out.step hb)
      generalize w4.heap.size = nb at *
      have hc : ∀ j, j < 10 → w5.cell? ⟨b, o + k * 10 + j, none⟩ = some (.int .u32 (Y.getD j 0)) := fun j hj => by
        rw [O6.out.below.cell (p := ⟨b, o + k * 10 + j, none⟩) hbW]; exact HCC.out j hj
      have hlen := HY.out
      clear hb O5 T5 HCC HY
      have hreg := equalIn_regs
      match Y, hlen, hr, hc with
      | [t0, t1, t2, t3, t4, t5, t6, t7, t8, t9], _, hr, hc =>
        obtain ⟨a0, a1, a2, a3, a4, a5, a6, a7, a8, a9⟩ := ten_cells hr
        have b0 : w5.cell? ⟨b, o + k * 10, none⟩ = some (.int .u32 t0) := hc 0 (by omega)
        have b1 : w5.cell? ⟨b, o + k * 10 + 1, none⟩ = some (.int .u32 t1) := hc 1 (by omega)
        have b2 : w5.cell? ⟨b, o + k * 10 + 2, none⟩ = some (.int .u32 t2) := hc 2 (by omega)
        have b3 : w5.cell? ⟨b, o + k * 10 + 3, none⟩ = some (.int .u32 t3) := hc 3 (by omega)
        have b4 : w5.cell? ⟨b, o + k * 10 + 4, none⟩ = some (.int .u32 t4) := hc 4 (by omega)
        have b5 : w5.cell? ⟨b, o + k * 10 + 5, none⟩ = some (.int .u32 t5) := hc 5 (by omega)
        have b6 : w5.cell? ⟨b, o + k * 10 + 6, none⟩ = some (.int .u32 t6) := hc 6 (by omega)
        have b7 : w5.cell? ⟨b, o + k * 10 + 7, none⟩ = some (.int .u32 t7) := hc 7 (by omega)
        have b8 : w5.cell? ⟨b, o + k * 10 + 8, none⟩ = some (.int .u32 t8) := hc 8 (by omega)
        have b9 : w5.cell? ⟨b, o + k * 10 + 9, none⟩ = some (.int .u32 t9) := hc 9 (by omega)
        clear hr hc
        go_region_held3 (fun w' => (w'.cell? ⟨nb, 0, none⟩ = some (.int .u32 t0) ∧ w'.cell? ⟨nb, 1, none⟩ = some (.int .u32 t1) ∧ w'.cell? ⟨nb, 2, none⟩ = some (.int .u32 t2) ∧ w'.cell? ⟨nb, 3, none⟩ = some (.int .u32 t3) ∧ w'.cell? ⟨nb, 4, none⟩ = some (.int .u32 t4) ∧ w'.cell? ⟨nb, 5, none⟩ = some (.int .u32 t5) ∧ w'.cell? ⟨nb, 6, none⟩ = some (.int .u32 t6) ∧ w'.cell? ⟨nb, 7, none⟩ = some (.int .u32 t7) ∧ w'.cell? ⟨nb, 8, none⟩ = some (.int .u32 t8) ∧ w'.cell? ⟨nb, 9, none⟩ = some (.int .u32 t9)) ∧ (w'.cell? ⟨b, o + k * 10, none⟩ = some (.int .u32 t0) ∧ w'.cell? ⟨b, o + k * 10 + 1, none⟩ = some (.int .u32 t1) ∧ w'.cell? ⟨b, o + k * 10 + 2, none⟩ = some (.int .u32 t2) ∧ w'.cell? ⟨b, o + k * 10 + 3, none⟩ = some (.int .u32 t3) ∧ w'.cell? ⟨b, o + k * 10 + 4, none⟩ = some (.int .u32 t4) ∧ w'.cell? ⟨b, o + k * 10 + 5, none⟩ = some (.int .u32 t5) ∧ w'.cell? ⟨b, o + k * 10 + 6, none⟩ = some (.int .u32 t6) ∧ w'.cell? ⟨b, o + k * 10 + 7, none⟩ = some (.int .u32 t7) ∧ w'.cell? ⟨b, o + k * 10 + 8, none⟩ = some (.int .u32 t8) ∧ w'.cell? ⟨b, o + k * 10 + 9, none⟩ = some (.int .u32 t9))) (exact ⟨⟨a0, a1, a2, a3, a4, a5, a6, a7, a8, a9⟩, b0, b1, b2, b3, b4, b5, b6, b7, b8, b9⟩) (fail)
        have hdr : Below w5.heap.size w5 w5.drew := (Below.refl _ _).drew
        have O8 := Lib.hid (O6.out.step hdr)
        have T8 := Lib.hid (T6.out.step hdr)
        clear hdr hreg a0 a1 a2 a3 a4 a5 a6 a7 a8 a9 b0 b1 b2 b3 b4 b5 b6 b7 b8 b9
        go_wp2
        go_roundw
        case rel => exact ⟨k + 1, L', by go_num, by omega, O8.out, T8.out, K4.out, Z4.out⟩
        case measure => simp [intOf]; omega
    · obtain rfl : k = m := by omega
      clear hlt
      go_wp2_with fail
      have C := load_ok mp fb n 1 10 L 0 wr O3.out.st (by unfold okFQ; omega) (by decide) rfl
      rw [K3.out] at C
      refine C.mono ?_
      clear C
      rintro e w3 ⟨rfl, hb⟩
      have O4 := Lib.hid (O3.out.step hb)
      have T4 := Lib.hid (T3.out.step hb)
      clear hb O3 T3
      go_wp2_with (refine wpList_store_trap rfl (.tmp 12) (.tmp 80) rfl w3.heap.size z10 O 26 rfl rfl (heap_alloc_new w3 _) rfl HO.out ?_)
      have N := laid_new w3 O
      generalize (w3.alloc (.cells (wordsV z10) 26)).setRow w3.heap.size (wordsV O) = w4 at *
      obtain ⟨hb, hr⟩ := N
      have O5 := Lib.hid (O4.out.step hb)
      have T5 := Lib.hid (T4.out.step hb)
      have X5 := Lib.hid hr
      clear hb hr O4 T4
      generalize w3.heap.size = b12 at *
      have C := load_ok mp fb n 2 20 L 0 w4 O5.out.st (by unfold okFQ; omega) (by decide) rfl
      rw [Z3.out] at C
      refine C.mono ?_
      clear C
      rintro e w5 ⟨rfl, hb⟩
      have O6 := Lib.hid (O5.out.step hb)
      have T6 := Lib.hid (T5.out.step hb)
      have X6 := Lib.hid (below_block hb X5.out)
      clear hb O5 T5 X5
      go_wp2_with (first | (refine wpList_store_trap rfl (.tmp 14) (.tmp 85) rfl w5.heap.size z10 z10 26 rfl rfl (heap_alloc_new w5 _) rfl rfl ?_; obtain ⟨w6, hw6⟩ : ∃ w6, w6 = (w5.alloc (.cells (wordsV z10) 26)).setRow w5.heap.size (wordsV z10) := ⟨_, rfl⟩; have N := laid_new w5 z10; rw [← hw6] at N ⊢; clear hw6; have O7 := Lib.hid (O6.out.step N.1); have T7 := Lib.hid (T6.out.step N.1); have X7 := Lib.hid (below_block N.1 X6.out); have Y7 := Lib.hid N.2; clear N) | (refine wpListG_load_trap rfl (.tmp 12) rfl b12 O 26 rfl X7.out HO.out ?_) | (refine wpListG_load_trap rfl (.tmp 5) rfl tb O 26 rfl T7.out.row HO.out ?_) | (refine wpListG_load_trap rfl (.tmp 14) rfl w5.heap.size z10 26 rfl Y7.out rfl ?_) | (refine wpListG_build_none rfl rfl ?_) | (refine wpList_eql_trap rfl (.tmp 90) (.tmp 91) 26 rfl O HO.out rfl rfl ?_) | (refine wpList_eql_trap rfl (.tmp 99) (.tmp 100) 26 rfl z10 rfl rfl rfl ?_))
      refine (awake4_any _).mono ?_
      rintro e w7 ⟨rfl, hb⟩
      have O8 := Lib.hid (O7.out.step hb)
      clear hb
      go_wp2
      go_ret
      exact ⟨rfl, O8.out.below⟩

theorem trapOver_walk (n : Int) (v : Value) (S : List (List Int)) (O : List Int) (W : World) (_ : -9223372036854775808 ≤ n ∧ n ≤ 9223372036854775807) (hS : TrapsAt W v S) (hO : O.length = 10) :
    Calls Try.prog 7 #[.int .i64 n, v, .agg (wordsV O)] W fun e w' => e = .returned (.bool true) ∧ Below W.heap.size W w' := by
  obtain ⟨a, c, rfl, h10, hc⟩ := hS
  by_cases h : 2 ≤ n ∧ n ≤ 10 ∧ S.length ≤ 30
  · obtain ⟨k, rfl⟩ := Int.eq_ofNat_of_zero_le (show 0 ≤ n by omega)
    exact over_in k a c S O W hO (by omega) (by omega) h.2.2 h10 hc
  · exact over_out n a S.length c O W h
end Go.Proofs.Yteohfonmckahgaa
