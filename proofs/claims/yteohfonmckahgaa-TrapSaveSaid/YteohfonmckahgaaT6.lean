/- The contract of package trap's Load. Conditions: the memory lies as made, or there is none. -/
import Derived.Test.YteohfonmckahgaaT5
namespace Go.Proofs.Yteohfonmckahgaa
open Go.RowKit
set_option maxRecDepth 100000

/-- The words of a slot. -/
def tenAt (L : List Int) (i : Nat) : List Int := (List.range 10).map fun j => L.getD (i + j) 0
theorem tenAt_len (L : List Int) (i : Nat) : (tenAt L i).length = 10 := by simp [tenAt]
theorem tenAt_get (L : List Int) (i j : Nat) (hj : j < 10) : (tenAt L i).getD j 0 = L.getD (i + j) 0 := by
  simp [tenAt, List.getD_eq_getElem?_getD, hj]
theorem tenAt_put (L : List Int) (i : Nat) (T : List Int) (hT : T.length = 10) (h : i + 10 ≤ L.length) : tenAt (putK L i T 10) i = T := by
  refine ext_getD (by rw [tenAt_len, hT]) fun j hj => ?_
  rw [tenAt_len] at hj
  rw [tenAt_get _ _ _ hj, getD_putK L i T (i + j) 10 h, if_pos (by omega), show i + j - i = j by omega]
theorem tenAt_other (L : List Int) (i i' : Nat) (T : List Int) (h : i + 10 ≤ L.length) (hne : i' + 10 ≤ i ∨ i + 10 ≤ i') : tenAt (putK L i T 10) i' = tenAt L i' := by
  refine ext_getD (by rw [tenAt_len, tenAt_len]) fun j hj => ?_
  rw [tenAt_len] at hj
  rw [tenAt_get _ _ _ hj, tenAt_get _ _ _ hj, getD_putK L i T (i' + j) 10 h, if_neg (by omega)]

set_option maxHeartbeats 1000000 in
theorem load_err (k : Int) (hk : (k == 0) = false) (p : Option Addr) (f s : Int) (w : World) (hr : ∀ W, Below w.heap.size w W → Calls Try.prog 27 #[.pointer p, .int .i64 f, .int .i64 s] W fun e w' => e = .returned (.tuple #[.int .i64 0, .int .i64 k]) ∧ Below W.heap.size W w') :
    Calls Try.prog 19 #[.pointer p, .int .i64 f, .int .i64 s] w fun e w' => e = .returned (.tuple #[.agg (wordsV z10), .int .i64 k]) ∧ Below w.heap.size w w' := by
  have hz := trapZ
  have hk1 : (k != 0) = true := by simp at hk ⊢; exact hk
  have HR := Lib.hid hr
  have B0 := Lib.hid ((Below.refl w.heap.size w).alloc (Nat.le_refl _) (.cells (wordsV z10) 26))
  have X0 := Lib.hid (heap_alloc_new w (.cells (wordsV z10) 26))
  clear hr
  go_enter Try.func19, Try.ntmps19
  go_wp2_with fail
  refine (HR.out _ B0.out).mono ?_
  rintro e w1 ⟨rfl, hb⟩
  have HB := Lib.hid (B0.out.trans (hb.mono B0.out.size))
  have X1 := Lib.hid (below_block hb X0.out)
  clear hb
  go_wp2_with (first | (refine wpList_build_none rfl rfl ?_) | (refine wpList_store_trap rfl (.tmp 6) (.tmp 21) rfl w.heap.size z10 z10 26 rfl rfl X1.out rfl rfl ?_))
  exact bodyPost_ret (v := .tuple #[.agg (wordsV z10), .int .i64 k]) (results_trap Try.results19 _ _ w.heap.size z10 _ _ rfl rfl (setRow_heap _ _ _ _ _ _ X1.out) rfl) rfl ⟨rfl, below_setRow HB.out (Nat.le_refl _) _⟩
theorem load_no (p : Option Addr) (f s : Int) (w : World) (hp : NoMem w p) :
    Calls Try.prog 19 #[.pointer p, .int .i64 f, .int .i64 s] w fun e w' => e = .returned (.tuple #[.agg (wordsV z10), .int .i64 1]) ∧ Below w.heap.size w w' :=
  load_err 1 rfl p f s w fun W hb => begin_no p f s W (hp.below hb)
theorem load_bad (mp fb n : Nat) (L : List Int) (f s : Int) (w : World) (hm : MemSt w mp fb n L) (h : ¬ (okFQ n f 0 ∧ 0 ≤ s ∧ s < 3)) :
    Calls Try.prog 19 #[.pointer (some ⟨mp, 0, none⟩), .int .i64 f, .int .i64 s] w fun e w' => e = .returned (.tuple #[.agg (wordsV z10), .int .i64 2]) ∧ Below w.heap.size w w' :=
  load_err 2 rfl _ f s w fun W hb => begin_bad mp fb n L f s W (hm.below hb) h

set_option maxHeartbeats 2000000 in
theorem load_ok (mp fb n s q : Nat) (L : List Int) (f : Int) (w : World) (hm : MemSt w mp fb n L) (hf : okFQ n f 0) (hs : s < 3) (hq : q = 10 * s) :
    Calls Try.prog 19 #[.pointer (some ⟨mp, 0, none⟩), .int .i64 f, .int .i64 s] w fun e w' => e = .returned (.tuple #[.agg (wordsV (tenAt L (idx f q))), .int .i64 0]) ∧ Below w.heap.size w w' := by
  have hz := trapZ
  have HM := Lib.hid hm
  have HF := Lib.hid hf
  have HS := Lib.hid hs
  have HQ := Lib.hid hq
  have B0 := Lib.hid ((Below.refl w.heap.size w).alloc (Nat.le_refl _) (.cells (wordsV z10) 26))
  have X0 := Lib.hid (heap_alloc_new w (.cells (wordsV z10) 26))
  clear hm hf hs hq
  go_enter Try.func19, Try.ntmps19
  go_wp2_with fail
  refine (begin_ok mp fb n s q L f _ (HM.out.below B0.out) HF.out HS.out HQ.out).mono ?_
  rintro e w1 ⟨rfl, hb⟩
  have B1 := Lib.hid (B0.out.trans (hb.mono B0.out.size))
  have X1 := Lib.hid (below_block hb X0.out)
  have hq : q ≤ 20 := by have := HS.out; have := HQ.out; omega
  clear hb
  go_wp2_with fail
  refine (page_i mp fb n L f w1 (HM.out.below B1.out) HF.out).mono ?_
  rintro e w2 ⟨v, rfl, hr, hb⟩
  obtain ⟨b, t, rfl, hlb, hr⟩ := hr
  have hlen : (rowOf L f.toNat).length = 32 := by
    have := HF.out; unfold okFQ at this
    exact rowOf_length HM.out.len (by omega)
  rw [hlen]
  have HL := Lib.hid hlen
  have R2 := Lib.hid hr
  have B2 := Lib.hid (B1.out.trans (hb.mono B1.out.size))
  have X2 := Lib.hid (below_block hb X1.out)
  clear hb hr hlb hlen
  have T2 : Hid (RowAt w2 (.slice (some ⟨b, q, none⟩) 10 (32 - q)) (tenAt L (idx f q))) := Lib.hid ⟨_, _, by rw [tenAt_len], Or.inr ⟨b, q, rfl, lt_of_block R2.out, fun i hi => by
    rw [tenAt_len] at hi
    rw [cell_of_row w2 b _ _ _ _ R2.out, wordsV_get _ _ (by rw [HL.out]; omega), getD_rowOf _ _ _ (by omega), tenAt_get _ _ _ hi, show idx f q + i = f.toNat * 32 + (q + i) by unfold idx; omega]⟩⟩
  go_wp2_with fail
  refine (of_row _ (tenAt L (idx f q)) w2 (tenAt_len _ _) T2.out).mono ?_
  rintro e w3 ⟨rfl, hb⟩
  have B3 := Lib.hid (B2.out.trans (hb.mono B2.out.size))
  have X3 := Lib.hid (below_block hb X2.out)
  clear hb
  go_wp2_with (refine wpList_store_trap rfl (.tmp 6) (.tmp 35) rfl w.heap.size z10 (tenAt L (idx f q)) 26 rfl rfl X3.out rfl (tenAt_len _ _) ?_)
  exact bodyPost_ret (v := .tuple #[.agg (wordsV (tenAt L (idx f q))), .int .i64 0]) (results_trap Try.results19 _ _ w.heap.size (tenAt L (idx f q)) _ _ rfl rfl (setRow_heap w3 _ _ _ _ _ X3.out) (tenAt_len _ _)) rfl ⟨rfl, below_setRow B3.out (Nat.le_refl _) _⟩
end Go.Proofs.Yteohfonmckahgaa
