/- The contract of package trap's Save. Conditions: the memory lies as made, or there is none. -/
import Derived.Test.YteohfonmckahgaaT4
namespace Go.Proofs.Yteohfonmckahgaa
open Go.RowKit
set_option maxRecDepth 100000

/-- The words with k of a frame's put from place i on. -/
def putK (L : List Int) (i : Nat) (T : List Int) : Nat → List Int
  | 0 => L
  | k + 1 => (putK L i T k).set (i + k) (T.getD k 0)
theorem putK_length (L : List Int) (i : Nat) (T : List Int) : ∀ k, (putK L i T k).length = L.length
  | 0 => rfl
  | k + 1 => by rw [putK, List.length_set, putK_length L i T k]
theorem getD_putK (L : List Int) (i : Nat) (T : List Int) (j : Nat) : ∀ k, i + k ≤ L.length → (putK L i T k).getD j 0 = if i ≤ j ∧ j < i + k then T.getD (j - i) 0 else L.getD j 0
  | 0, _ => by rw [if_neg (by omega)]; rfl
  | k + 1, h => by
    rw [putK, getD_set _ _ _ _ (by rw [putK_length]; omega), getD_putK L i T j k (by omega)]
    by_cases h1 : i + k = j
    · subst h1
      rw [if_pos rfl, if_pos (by omega), show i + k - i = k by omega]
    · rw [if_neg h1]
      by_cases h2 : i ≤ j ∧ j < i + k
      · rw [if_pos h2, if_pos (by omega)]
      · rw [if_neg h2, if_neg (by omega)]

set_option maxHeartbeats 1000000 in
theorem save_err (k : Int) (hk : (k == 0) = false) (p : Option Addr) (f s : Int) (T : List Int) (w : World) (hr : ∀ W, Below w.heap.size w W → Calls Try.prog 27 #[.pointer p, .int .i64 f, .int .i64 s] W fun e w' => e = .returned (.tuple #[.int .i64 0, .int .i64 k]) ∧ Below W.heap.size W w') :
    Calls Try.prog 18 #[.pointer p, .int .i64 f, .int .i64 s, .agg (wordsV T)] w fun e w' => e = .returned (.int .i64 k) ∧ Below w.heap.size w w' := by
  have hk1 : (k != 0) = true := by simp at hk ⊢; exact hk
  have HR := Lib.hid hr
  have B0 := Lib.hid ((Below.refl w.heap.size w).alloc (Nat.le_refl _) (.cells (wordsV T) 26))
  clear hr
  go_enter Try.func18, Try.ntmps18
  go_wp2_with fail
  refine (HR.out _ B0.out).mono ?_
  rintro e w1 ⟨rfl, hb⟩
  have HB := Lib.hid (B0.out.trans (hb.mono B0.out.size))
  clear hb
  go_wp2
  go_ret
  exact ⟨rfl, HB.out⟩
theorem save_no (p : Option Addr) (f s : Int) (T : List Int) (w : World) (hp : NoMem w p) :
    Calls Try.prog 18 #[.pointer p, .int .i64 f, .int .i64 s, .agg (wordsV T)] w fun e w' => e = .returned (.int .i64 1) ∧ Below w.heap.size w w' :=
  save_err 1 rfl p f s T w fun W hb => begin_no p f s W (hp.below hb)
theorem save_bad (mp fb n : Nat) (L : List Int) (f s : Int) (T : List Int) (w : World) (hm : MemSt w mp fb n L) (h : ¬ (okFQ n f 0 ∧ 0 ≤ s ∧ s < 3)) :
    Calls Try.prog 18 #[.pointer (some ⟨mp, 0, none⟩), .int .i64 f, .int .i64 s, .agg (wordsV T)] w fun e w' => e = .returned (.int .i64 2) ∧ Below w.heap.size w w' :=
  save_err 2 rfl _ f s T w fun W hb => begin_bad mp fb n L f s W (hm.below hb) h

def SaveRel (w : World) (mp fb n : Nat) (L : List Int) (i0 : Nat) (T : List Int) (b : Nat) (i : Value) (wr : World) : Prop :=
  ∃ k : Nat, i = .int .i64 k ∧ k ≤ 10 ∧ Puts w wr mp fb n (putK L i0 T k) ∧ wr.heap[b]? = some (.cells (wordsV T) 23 (0, 0))
set_option maxHeartbeats 2000000 in
theorem save_ok (mp fb n s q : Nat) (L : List Int) (f : Int) (T : List Int) (w : World) (hT : T.length = 10) (hm : MemSt w mp fb n L) (hf : okFQ n f 0) (hs : s < 3) (hq : q = 10 * s) :
    Calls Try.prog 18 #[.pointer (some ⟨mp, 0, none⟩), .int .i64 f, .int .i64 s, .agg (wordsV T)] w fun e w' => e = .returned (.int .i64 0) ∧ Puts w w' mp fb n (putK L (idx f q) T 10) := by
  have HM := Lib.hid hm
  have HT := Lib.hid hT
  have HF := Lib.hid hf
  have HS := Lib.hid hs
  have B0 := Lib.hid ((Below.refl w.heap.size w).alloc (Nat.le_refl _) (.cells (wordsV T) 26))
  have X0 := Lib.hid (heap_alloc_new w (.cells (wordsV T) 26))
  have HQ := Lib.hid hq
  clear hm hT hf hs hq
  go_enter Try.func18, Try.ntmps18
  go_wp2_with fail
  refine (begin_ok mp fb n s q L f _ (HM.out.below B0.out) HF.out HS.out HQ.out).mono ?_
  rintro e w1 ⟨rfl, hb⟩
  have B1 := Lib.hid (B0.out.trans (hb.mono B0.out.size))
  have X1 := Lib.hid (below_block hb X0.out)
  have hq : q ≤ 20 := by have := HS.out; have := HQ.out; omega
  clear hb
  go_wp2_with (refine wpList_load_trap rfl (.tmp 7) rfl w.heap.size T 26 rfl X1.out HT.out ?_)
  refine (words_ok T HT.out w1).mono ?_
  rintro e w2 ⟨b, rfl, hlb, hrow, hb⟩
  have B2 := Lib.hid (B1.out.trans (hb.mono B1.out.size))
  have P2 : Hid (Puts w w2 mp fb n (putK L (idx f q) T 0)) := Lib.hid (Puts.stay HM.out B2.out)
  have R2 := Lib.hid hrow
  have HNE : Hid (b ≠ fb) := Lib.hid (fun e => by have := lt_of_block (HM.out.below B1.out).row; omega)
  clear hb hrow hlb
  go_wp2_with fail
  go_loopw [26] (fun i wr => SaveRel w mp fb n L (idx f q) T b i wr) (fun i _ => (10 - (intOf i).toNat))
  case atStart => exact ⟨0, rfl, by omega, P2.out, R2.out⟩
  case round =>
    obtain ⟨k, rfl, hk, hp, hr⟩ := hrel
    have P3 := Lib.hid hp
    have R3 := Lib.hid hr
    clear hp hr
    by_cases hlt : k < 10
    · have c0 : wr.cell? ⟨b, k, none⟩ = some (.int .u32 (T.getD k 0)) := by
        rw [cell_of_row wr _ _ _ _ _ R3.out]
        exact wordsV_get T k (by rw [HT.out]; exact hlt)
      go_wp2_with fail
      refine (write_i mp fb n _ f ((q : Int) + k) (T.getD k 0) wr P3.out.st (by have := HF.out; unfold okFQ at this ⊢; omega)).mono ?_
      rintro e w3 ⟨rfl, hp⟩
      rw [show idx f ((q : Int) + k) = idx f q + k by unfold idx; omega] at hp
      have P4 := Lib.hid (P3.out.next hp)
      have R4 := Lib.hid ((hp.grown.block b (lt_of_block R3.out) (fun e => HNE.out (Option.some.inj e))).trans R3.out)
      clear hp c0
      go_wp2
      go_roundw
      case rel => exact ⟨k + 1, by go_num, by omega, P4.out, R4.out⟩
      case measure => simp [intOf]; omega
    · obtain rfl : k = 10 := by omega
      go_wp2
      go_ret
      exact ⟨rfl, P3.out⟩
end Go.Proofs.Yteohfonmckahgaa
