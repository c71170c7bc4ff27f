/- The walk of TrapBack, layer 4. Condition: the slice that is taken has its words in a block. -/
import Derived.Test.YteohfonmckahgaaT11
namespace Go.Proofs.Yteohfonmckahgaa
open Go.RowKit
set_option maxRecDepth 100000

/-- Four traps' boxes. -/
structure Four (W w : World) (b1 b2 b3 b4 : Nat) (T U : List Int) : Prop where
  below : Below W.heap.size W w
  r1 : w.heap[b1]? = some (.cells (wordsV T) 26 (0, 0))
  r2 : w.heap[b2]? = some (.cells (wordsV T) 26 (0, 0))
  r3 : w.heap[b3]? = some (.cells (wordsV U) 26 (0, 0))
  r4 : w.heap[b4]? = some (.cells (wordsV z10) 26 (0, 0))
theorem Four.step {W w w' : World} {b1 b2 b3 b4 : Nat} {T U : List Int} (h : Four W w b1 b2 b3 b4 T U) (hb : Below w.heap.size w w') : Four W w' b1 b2 b3 b4 T U :=
  ⟨h.below.trans (hb.mono h.below.size), below_block hb h.r1, below_block hb h.r2, below_block hb h.r3, below_block hb h.r4⟩
/-- A trap is laid in new memory. -/
theorem laid_new (w : World) (R : List Int) : Below w.heap.size w ((w.alloc (.cells (wordsV z10) 26)).setRow w.heap.size (wordsV R)) ∧ ((w.alloc (.cells (wordsV z10) 26)).setRow w.heap.size (wordsV R)).heap[w.heap.size]? = some (.cells (wordsV R) 26 (0, 0)) :=
  ⟨below_setRow ((Below.refl _ _).alloc (Nat.le_refl _) _) (Nat.le_refl _) _, setRow_heap _ _ _ _ _ _ (heap_alloc_new w _)⟩

set_option maxHeartbeats 4000000 in
theorem trapBack_walk (T : List Int) (v : Value) (L : List Int) (f s : Int) (W : World) (hT : T.length = 10) (hL : RowAt W v L) (_ : -9223372036854775808 ≤ f ∧ f ≤ 9223372036854775807) (_ : -9223372036854775808 ≤ s ∧ s ≤ 9223372036854775807) :
    Calls Try.prog 5 #[.agg (wordsV T), v, .int .i64 f, .int .i64 s] W fun e w' => e = .returned (.bool true) ∧ Below W.heap.size W w' := by
  have hz := trapZ
  have HT := Lib.hid hT
  have HL := Lib.hid hL
  obtain ⟨ec, hec⟩ : ∃ ec, ec = ofE L := ⟨_, rfl⟩
  have HEC := Lib.hid hec
  have B0 := Lib.hid ((Below.refl W.heap.size W).alloc (Nat.le_refl _) (.cells (wordsV T) 26))
  have X0 := Lib.hid (heap_alloc_new W (.cells (wordsV T) 26))
  obtain ⟨a, c, hv, hrow⟩ := hL
  subst hv
  clear hrow hT hec
  go_enter Try.func5, Try.ntmps5
  go_wp2_with (refine wpList_load_trap rfl (.tmp 4) rfl W.heap.size T 26 rfl X0.out HT.out ?_)
  refine (words_ok T HT.out _).mono ?_
  rintro e w1 ⟨b, rfl, _, hr, hb⟩
  have B1 := Lib.hid (B0.out.trans (hb.mono B0.out.size))
  have X1 := Lib.hid (below_block hb X0.out)
  have R1 := Lib.hid (row_ten T HT.out hr)
  clear hb hr
  go_wp2_with fail
  refine (of_row _ T w1 HT.out R1.out).mono ?_
  rintro e w2 ⟨rfl, hb⟩
  have B2 := Lib.hid (B1.out.trans (hb.mono B1.out.size))
  have X2 := Lib.hid (below_block hb X1.out)
  clear hb R1
  go_wp2_with (refine wpList_store_trap rfl (.tmp 9) (.tmp 19) rfl w2.heap.size z10 T 26 rfl rfl (heap_alloc_new w2 _) rfl HT.out ?_)
  have N := laid_new w2 T
  generalize (w2.alloc (.cells (wordsV z10) 26)).setRow w2.heap.size (wordsV T) = w3 at *
  obtain ⟨hb, hr⟩ := N
  have B3 := Lib.hid (B2.out.trans (hb.mono B2.out.size))
  have X3 := Lib.hid (below_block hb X2.out)
  have Y3 := Lib.hid hr
  clear hb hr
  generalize w2.heap.size = b9 at *
  refine (of_any _ L w3 (by exact HL.out.below B3.out)).mono ?_
  rw [← HEC.out]
  rintro e w4 ⟨rfl, hb⟩
  have B4 := Lib.hid (B3.out.trans (hb.mono B3.out.size))
  have X4 := Lib.hid (below_block hb X3.out)
  have Y4 := Lib.hid (below_block hb Y3.out)
  clear hb
  go_wp2_with (refine wpList_store_trap rfl (.tmp 11) (.tmp 24) rfl w4.heap.size z10 (ofT L) 26 rfl rfl (heap_alloc_new w4 _) rfl (ofT_len L) ?_)
  have N := laid_new w4 (ofT L)
  generalize (w4.alloc (.cells (wordsV z10) 26)).setRow w4.heap.size (wordsV (ofT L)) = w5 at *
  obtain ⟨hb, hr⟩ := N
  have B5 := Lib.hid (B4.out.trans (hb.mono B4.out.size))
  have X5 := Lib.hid (below_block hb X4.out)
  have Y5 := Lib.hid (below_block hb Y4.out)
  have Z5 := Lib.hid hr
  clear hb hr
  generalize w4.heap.size = b11 at *
  refine (load_no none f s w5 (Or.inl rfl)).mono ?_
  rintro e w6 ⟨rfl, hb⟩
  have B6 := Lib.hid (B5.out.trans (hb.mono B5.out.size))
  have X6 := Lib.hid (below_block hb X5.out)
  have Y6 := Lib.hid (below_block hb Y5.out)
  have Z6 := Lib.hid (below_block hb Z5.out)
  clear hb
  by_cases hc : L.length = 10
  · have he : ec = 0 := by have := HEC.out; unfold ofE at this; rw [if_pos hc] at this; exact this
    have HC := Lib.hid hc
    subst he
    clear hc
    go_wp2_with (first | (refine wpList_store_trap rfl (.tmp 13) (.tmp 30) rfl w6.heap.size z10 z10 26 rfl rfl (heap_alloc_new w6 _) rfl rfl ?_; obtain ⟨w7, hw7⟩ : ∃ w7, w7 = (w6.alloc (.cells (wordsV z10) 26)).setRow w6.heap.size (wordsV z10) := ⟨_, rfl⟩; have F7 : Hid (Four W w7 W.heap.size b9 b11 w6.heap.size T (ofT L)) := Lib.hid (by rw [hw7]; have N := laid_new w6 z10; exact ⟨B6.out.trans (N.1.mono B6.out.size), below_block N.1 X6.out, below_block N.1 Y6.out, below_block N.1 Z6.out, N.2⟩); rw [← hw7]; clear hw7) | (refine wpList_eql_trap rfl (.tmp 32) (.tmp 33) 26 rfl T HT.out rfl rfl ?_) | (refine wpListG_load_trap rfl (.tmp 9) rfl b9 T 26 rfl F7.out.r2 HT.out ?_) | (refine wpListG_load_trap rfl (.tmp 4) rfl W.heap.size T 26 rfl F7.out.r1 HT.out ?_) | (refine wpListG_load_trap rfl (.tmp 11) rfl b11 (ofT L) 26 rfl F7.out.r3 (ofT_len L) ?_))
    refine (words_ok (ofT L) (ofT_len L) w7).mono ?_
    rintro e w8 ⟨b8, rfl, _, hr, hb⟩
    have F8 := Lib.hid (F7.out.step hb)
    have R8 : Hid (RowAt w8 (.slice (some ⟨b8, 0, none⟩) 10 10) L) := Lib.hid (by have := row_ten _ (ofT_len L) hr; unfold ofT at this; rwa [if_pos HC.out] at this)
    clear hb hr
    go_wp2_with fail
    refine (same_yes _ _ L w8 (by have := HC.out; omega) R8.out (by exact HL.out.below F8.out.below)).mono ?_
    rintro e w9 ⟨rfl, hb⟩
    have F9 := Lib.hid (F8.out.step hb)
    clear hb R8
    go_wp2_with (first | (refine wpList_eql_trap rfl (.tmp 50) (.tmp 51) 26 rfl z10 rfl rfl rfl ?_) | (refine wpListG_build_none rfl rfl ?_) | (refine wpListG_load_trap rfl (.tmp 13) rfl w6.heap.size z10 26 rfl F9.out.r4 rfl ?_) | (refine wpListG_load_trap rfl (.tmp 4) rfl W.heap.size T 26 rfl F9.out.r1 HT.out ?_))
    refine (save_no none f s T w9 (Or.inl rfl)).mono ?_
    rintro e w11 ⟨rfl, hb⟩
    have F11 := Lib.hid (F9.out.step hb)
    clear hb
    go_wp2_with fail
    refine (awake4_any w11).mono ?_
    rintro e w12 ⟨rfl, hb⟩
    have F12 := Lib.hid (F11.out.step hb)
    clear hb
    go_wp2
    go_ret
    exact ⟨rfl, F12.out.below⟩
  · have he : ec = 2 := by have := HEC.out; unfold ofE at this; rw [if_neg hc] at this; exact this
    subst he
    clear hc
    go_wp2_with (first | (refine wpList_store_trap rfl (.tmp 13) (.tmp 30) rfl w6.heap.size z10 z10 26 rfl rfl (heap_alloc_new w6 _) rfl rfl ?_; obtain ⟨w7, hw7⟩ : ∃ w7, w7 = (w6.alloc (.cells (wordsV z10) 26)).setRow w6.heap.size (wordsV z10) := ⟨_, rfl⟩; have F7 : Hid (Four W w7 W.heap.size b9 b11 w6.heap.size T (ofT L)) := Lib.hid (by rw [hw7]; have N := laid_new w6 z10; exact ⟨B6.out.trans (N.1.mono B6.out.size), below_block N.1 X6.out, below_block N.1 Y6.out, below_block N.1 Z6.out, N.2⟩); rw [← hw7]; clear hw7) | (refine wpList_eql_trap rfl (.tmp 32) (.tmp 33) 26 rfl T HT.out rfl rfl ?_) | (refine wpList_eql_trap rfl (.tmp 50) (.tmp 51) 26 rfl z10 rfl rfl rfl ?_) | (refine wpListG_build_none rfl rfl ?_) | (refine wpListG_load_trap rfl (.tmp 9) rfl b9 T 26 rfl F7.out.r2 HT.out ?_) | (refine wpListG_load_trap rfl (.tmp 4) rfl W.heap.size T 26 rfl F7.out.r1 HT.out ?_) | (refine wpListG_load_trap rfl (.tmp 13) rfl w6.heap.size z10 26 rfl F7.out.r4 rfl ?_) | (refine wpListG_load_trap rfl (.tmp 4) rfl W.heap.size T 26 rfl F7.out.r1 HT.out ?_))
    refine (save_no none f s T w7 (Or.inl rfl)).mono ?_
    rintro e w11 ⟨rfl, hb⟩
    have F11 := Lib.hid (F7.out.step hb)
    clear hb
    go_wp2_with fail
    refine (awake4_any w11).mono ?_
    rintro e w12 ⟨rfl, hb⟩
    have F12 := Lib.hid (F11.out.step hb)
    clear hb
    go_wp2
    go_ret
    exact ⟨rfl, F12.out.below⟩
end Go.Proofs.Yteohfonmckahgaa
