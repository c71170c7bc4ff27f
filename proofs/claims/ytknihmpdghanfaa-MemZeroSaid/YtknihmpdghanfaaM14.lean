/- The contract of play, layer 2's laws: it returns true, and both memories go on alike. Conditions: both have the same words. -/
import Derived.Test.YtknihmpdghanfaaM13
import Derived.Deep.RegionHeld3
namespace Go.Proofs.Ytknihmpdghanfaa
open Go.RowKit

/-- Both memories lie, in blocks of their own, behind what was there. -/
structure Duo (W : World) (mp fb rp rb n : Nat) (L K : List Int) (w : World) : Prop where
  m : MemSt w mp fb n L
  r : RefSt w rp rb n K
  below : Below W.heap.size W w
  lf : W.heap.size ≤ fb
  lr : W.heap.size ≤ rb
  ne1 : fb ≠ rp
  ne2 : fb ≠ rb
  ne3 : mp ≠ rb
theorem Duo.step {W w w' : World} {mp fb rp rb n : Nat} {L K : List Int} (h : Duo W mp fb rp rb n L K w) (k : Below w.heap.size w w') : Duo W mp fb rp rb n L K w' :=
  ⟨h.m.below k, h.r.below k, h.below.trans (k.mono h.below.size), h.lf, h.lr, h.ne1, h.ne2, h.ne3⟩
theorem Duo.put {W w w' : World} {mp fb rp rb n : Nat} {L L' K : List Int} (h : Duo W mp fb rp rb n L K w) (k : Puts w w' mp fb n L') : Duo W mp fb rp rb n L' K w' :=
  ⟨k.st, ⟨(k.grown.block rp (lt_of_block h.r.box) (fun e => h.ne1 (Option.some.inj e).symm)).trans h.r.box, (k.grown.block rb (lt_of_block h.r.row) (fun e => h.ne2 (Option.some.inj e).symm)).trans h.r.row, h.r.len, h.r.ne, h.r.top⟩,
   k.kept h.below h.below.size h.lf, h.lf, h.lr, h.ne1, h.ne2, h.ne3⟩
theorem Duo.rput {W w w' : World} {mp fb rp rb n : Nat} {L K K' : List Int} (h : Duo W mp fb rp rb n L K w) (k : RPuts w w' rp rb n K') : Duo W mp fb rp rb n L K' w' :=
  ⟨⟨(k.grown.block mp (lt_of_block h.m.box) (fun e => h.ne3 (Option.some.inj e))).trans h.m.box, (k.grown.block fb (lt_of_block h.m.row) (fun e => h.ne2 (Option.some.inj e))).trans h.m.row, h.m.len, h.m.ne, h.m.pos, h.m.top⟩, k.st,
   h.below.trans (below_of_grownBy k.grown h.below.size h.lr), h.lf, h.lr, h.ne1, h.ne2, h.ne3⟩

/-- The same, and a call's box. -/
structure PlaySt (W : World) (bx : Nat) (d a b v : Int) (mp fb rp rb n : Nat) (L K : List Int) (w : World) : Prop where
  duo : Duo W mp fb rp rb n L K w
  x1 : fb ≠ bx
  x2 : rb ≠ bx
  c : w.heap[bx]? = some (.cells #[.int .i64 d, .int .i64 a, .int .i64 b, .int .u32 v] 38 (0, 0))
theorem PlaySt.step {W w w' : World} {bx : Nat} {d a b v : Int} {mp fb rp rb n : Nat} {L K : List Int} (h : PlaySt W bx d a b v mp fb rp rb n L K w) (k : Below w.heap.size w w') : PlaySt W bx d a b v mp fb rp rb n L K w' :=
  ⟨h.duo.step k, h.x1, h.x2, below_block k h.c⟩
theorem PlaySt.put {W w w' : World} {bx : Nat} {d a b v : Int} {mp fb rp rb n : Nat} {L L' K : List Int} (h : PlaySt W bx d a b v mp fb rp rb n L K w) (k : Puts w w' mp fb n L') : PlaySt W bx d a b v mp fb rp rb n L' K w' :=
  ⟨h.duo.put k, h.x1, h.x2, (k.grown.block bx (lt_of_block h.c) (fun e => h.x1 (Option.some.inj e).symm)).trans h.c⟩
theorem PlaySt.rput {W w w' : World} {bx : Nat} {d a b v : Int} {mp fb rp rb n : Nat} {L K K' : List Int} (h : PlaySt W bx d a b v mp fb rp rb n L K w) (k : RPuts w w' rp rb n K') : PlaySt W bx d a b v mp fb rp rb n L K' w' :=
  ⟨h.duo.rput k, h.x1, h.x2, (k.grown.block bx (lt_of_block h.c) (fun e => h.x2 (Option.some.inj e).symm)).trans h.c⟩
theorem PlaySt.start {W w : World} {mp fb rp rb n : Nat} {L K : List Int} (h : Duo W mp fb rp rb n L K w) (d a b v : Int) : PlaySt W w.heap.size d a b v mp fb rp rb n L K (w.alloc (.cells #[.int .i64 d, .int .i64 a, .int .i64 b, .int .u32 v] 38)) :=
  ⟨h.step ((Below.refl _ _).alloc (Nat.le_refl _) _), Nat.ne_of_lt (lt_of_block h.m.row), Nat.ne_of_lt (lt_of_block h.r.row), heap_alloc_new w _⟩
theorem PlaySt.c0 {W w : World} {bx : Nat} {d a b v : Int} {mp fb rp rb n : Nat} {L K : List Int} (h : PlaySt W bx d a b v mp fb rp rb n L K w) : w.cell? ⟨bx, 0, none⟩ = some (.int .i64 d) := by rw [cell_of_row w bx _ _ _ _ h.c]; rfl
theorem PlaySt.c1 {W w : World} {bx : Nat} {d a b v : Int} {mp fb rp rb n : Nat} {L K : List Int} (h : PlaySt W bx d a b v mp fb rp rb n L K w) : w.cell? ⟨bx, 1, none⟩ = some (.int .i64 a) := by rw [cell_of_row w bx _ _ _ _ h.c]; rfl
theorem PlaySt.c2 {W w : World} {bx : Nat} {d a b v : Int} {mp fb rp rb n : Nat} {L K : List Int} (h : PlaySt W bx d a b v mp fb rp rb n L K w) : w.cell? ⟨bx, 2, none⟩ = some (.int .i64 b) := by rw [cell_of_row w bx _ _ _ _ h.c]; rfl
theorem PlaySt.c3 {W w : World} {bx : Nat} {d a b v : Int} {mp fb rp rb n : Nat} {L K : List Int} (h : PlaySt W bx d a b v mp fb rp rb n L K w) : w.cell? ⟨bx, 3, none⟩ = some (.int .u32 v) := by rw [cell_of_row w bx _ _ _ _ h.c]; rfl
theorem PlaySt.drew {W w : World} {bx : Nat} {d a b v : Int} {mp fb rp rb n : Nat} {L K : List Int} (h : PlaySt W bx d a b v mp fb rp rb n L K w) : PlaySt W bx d a b v mp fb rp rb n L K w.drew := h.step (Below.refl _ _).drew

def PlayPost (W : World) (mp fb rp rb n : Nat) (e : Ending) (w' : World) : Prop := ∃ L, e = .returned (.bool true) ∧ Duo W mp fb rp rb n L L w'

/-- The two sides' calls, as one. -/
theorem pair_read (mp fb rp rb n : Nat) (L : List Int) (f q : Int) : ∃ x k : Int, (∀ w, MemSt w mp fb n L → Calls Try.prog 14 #[.pointer (some ⟨mp, 0, none⟩), .int .i64 f, .int .i64 q] w fun e w' => e = .returned (.tuple #[.int .u32 x, .int .i64 k]) ∧ Below w.heap.size w w') ∧
    (∀ w, RefSt w rp rb n L → Calls Try.prog 20 #[.agg #[.slice (some ⟨rb, 0, none⟩) (n * 32) (n * 32)], .int .i64 f, .int .i64 q] w fun e w' => e = .returned (.tuple #[.int .u32 x, .int .i64 k]) ∧ Below w.heap.size w w') := by
  by_cases h : okFQ n f q
  · have h' := h
    unfold okFQ at h'
    obtain ⟨f', rfl⟩ := Int.eq_ofNat_of_zero_le h'.1
    obtain ⟨q', rfl⟩ := Int.eq_ofNat_of_zero_le h'.2.2.1
    exact ⟨_, _, fun w hw => read_ok mp fb n f' q' L w hw (by omega) (by omega), fun w hw => rread_yes rp rb n L f' q' w hw (by omega) (by omega)⟩
  · exact ⟨_, _, fun w hw => read_bad mp fb n L f q w hw h, fun w hw => rread_no _ n _ f q w hw.top h⟩
theorem pair_write (mp fb rp rb n : Nat) (L : List Int) (f q v : Int) : ∃ (k : Int) (L' : List Int), (∀ w, MemSt w mp fb n L → Calls Try.prog 16 #[.pointer (some ⟨mp, 0, none⟩), .int .i64 f, .int .i64 q, .int .u32 v] w fun e w' => e = .returned (.int .i64 k) ∧ Puts w w' mp fb n L') ∧
    (∀ w, RefSt w rp rb n L → Calls Try.prog 21 #[.pointer (some ⟨rp, 0, none⟩), .int .i64 f, .int .i64 q, .int .u32 v] w fun e w' => e = .returned (.int .i64 k) ∧ RPuts w w' rp rb n L') := by
  by_cases h : okFQ n f q
  · have h' := h
    unfold okFQ at h'
    obtain ⟨f', rfl⟩ := Int.eq_ofNat_of_zero_le h'.1
    obtain ⟨q', rfl⟩ := Int.eq_ofNat_of_zero_le h'.2.2.1
    exact ⟨_, _, fun w hw => write_ok mp fb n f' q' L v w hw (by omega) (by omega), fun w hw => rwrite_yes rp rb n L f' q' v w hw (by omega) (by omega)⟩
  · exact ⟨_, L, fun w hw => (write_bad mp fb n L f q v w hw h).mono fun e w' ⟨he, hb⟩ => ⟨he, Puts.stay hw hb⟩, fun w hw => (rwrite_no rp rb n L f q v w hw h).mono fun e w' ⟨he, hb⟩ => ⟨he, RPuts.stay hw hb⟩⟩
theorem pair_zero (mp fb rp rb n : Nat) (L : List Int) (f : Int) : ∃ (k : Int) (L' : List Int), (∀ w, MemSt w mp fb n L → Calls Try.prog 17 #[.pointer (some ⟨mp, 0, none⟩), .int .i64 f] w fun e w' => e = .returned (.int .i64 k) ∧ Puts w w' mp fb n L') ∧
    (∀ w, RefSt w rp rb n L → Calls Try.prog 22 #[.pointer (some ⟨rp, 0, none⟩), .int .i64 f] w fun e w' => e = .returned (.int .i64 k) ∧ RPuts w w' rp rb n L') := by
  by_cases h : okFQ n f 0
  · have h' := h
    unfold okFQ at h'
    obtain ⟨f', rfl⟩ := Int.eq_ofNat_of_zero_le h'.1
    exact ⟨_, _, fun w hw => zero_ok mp fb n f' L w hw (by omega), fun w hw => rzero_yes rp rb n f' L w hw (by omega)⟩
  · exact ⟨_, L, fun w hw => (zero_bad mp fb n L f w hw h).mono fun e w' ⟨he, hb⟩ => ⟨he, Puts.stay hw hb⟩, fun w hw => (rzero_no rp rb n L f w hw h).mono fun e w' ⟨he, hb⟩ => ⟨he, RPuts.stay hw hb⟩⟩
theorem pair_copy (mp fb rp rb n : Nat) (L : List Int) (t f : Int) : ∃ (k : Int) (L' : List Int), (∀ w, MemSt w mp fb n L → Calls Try.prog 18 #[.pointer (some ⟨mp, 0, none⟩), .int .i64 t, .int .i64 f] w fun e w' => e = .returned (.int .i64 k) ∧ Puts w w' mp fb n L') ∧
    (∀ w, RefSt w rp rb n L → Calls Try.prog 23 #[.pointer (some ⟨rp, 0, none⟩), .int .i64 t, .int .i64 f] w fun e w' => e = .returned (.int .i64 k) ∧ RPuts w w' rp rb n L') := by
  by_cases ht : okFQ n t 0
  · by_cases h : okFQ n f 0
    · have h' := h
      have ht' := ht
      unfold okFQ at h' ht'
      obtain ⟨f', rfl⟩ := Int.eq_ofNat_of_zero_le h'.1
      obtain ⟨t', rfl⟩ := Int.eq_ofNat_of_zero_le ht'.1
      exact ⟨_, _, fun w hw => copy_ok mp fb n f' t' L w hw (by omega) (by omega), fun w hw => rcopy_yes rp rb n t' f' L w hw (by omega) (by omega)⟩
    · exact ⟨_, L, fun w hw => (copy_bad_from mp fb n L t f w hw h).mono fun e w' ⟨he, hb⟩ => ⟨he, Puts.stay hw hb⟩, fun w hw => (rcopy_no2 rp rb n L t f w hw ht h).mono fun e w' ⟨he, hb⟩ => ⟨he, RPuts.stay hw hb⟩⟩
  · refine ⟨2, L, fun w hw => ?_, fun w hw => (rcopy_no rp rb n L t f w hw ht).mono fun e w' ⟨he, hb⟩ => ⟨he, RPuts.stay hw hb⟩⟩
    by_cases h : okFQ n f 0
    · have h' := h
      unfold okFQ at h'
      obtain ⟨f', rfl⟩ := Int.eq_ofNat_of_zero_le h'.1
      exact (copy_bad_to mp fb n f' L t w hw (by omega) ht).mono fun e w' ⟨he, hb⟩ => ⟨he, Puts.stay hw hb⟩
    · exact (copy_bad_from mp fb n L t f w hw h).mono fun e w' ⟨he, hb⟩ => ⟨he, Puts.stay hw hb⟩
theorem pair_page (mp fb rp rb n : Nat) (L : List Int) (f : Int) : ∃ (k : Int) (R : List Int), R.length ≤ 32 ∧ (∀ w, MemSt w mp fb n L → Calls Try.prog 15 #[.pointer (some ⟨mp, 0, none⟩), .int .i64 f] w fun e w' => ∃ v, e = .returned (.tuple #[v, .int .i64 k]) ∧ RowAt w' v R ∧ Below w.heap.size w w') ∧
    (∀ w, RefSt w rp rb n L → Calls Try.prog 24 #[.agg #[.slice (some ⟨rb, 0, none⟩) (n * 32) (n * 32)], .int .i64 f] w fun e w' => ∃ v, e = .returned (.tuple #[v, .int .i64 k]) ∧ RowAt w' v R ∧ Below w.heap.size w w') := by
  by_cases h : okFQ n f 0
  · have h' := h
    unfold okFQ at h'
    obtain ⟨f', rfl⟩ := Int.eq_ofNat_of_zero_le h'.1
    refine ⟨_, rowOf L f', by simp [rowOf]; omega, fun w hw => (page_ok mp fb n f' L w hw (by omega)).mono fun e w' ⟨v, he, hr, hb⟩ => ⟨v, he, hr.rowAt, hb⟩, fun w hw => rpage_yes rp rb n f' L w hw (by omega)⟩
  · exact ⟨_, [], by decide, fun w hw => (page_bad mp fb n L f w hw h).mono fun e w' ⟨he, hb⟩ => ⟨_, he, ⟨none, 0, rfl, Or.inl rfl⟩, hb⟩, fun w hw => (rpage_no _ n _ f w hw.top h).mono fun e w' ⟨he, hb⟩ => ⟨_, he, ⟨none, 0, rfl, Or.inl rfl⟩, hb⟩⟩

set_option maxRecDepth 100000 in
set_option maxHeartbeats 2000000 in
theorem play_read (W : World) (mp fb rp rb n : Nat) (L : List Int) (a b v : Int) (w : World) (hD : Duo W mp fb rp rb n L L w) :
    Calls Try.prog 12 #[.pointer (some ⟨mp, 0, none⟩), .pointer (some ⟨rp, 0, none⟩), .agg #[.int .i64 1, .int .i64 a, .int .i64 b, .int .u32 v]] w (PlayPost W mp fb rp rb n) := by
  obtain ⟨x, k, h1, h2⟩ := pair_read mp fb rp rb n L a b
  have H1 := Lib.hid h1
  have H2 := Lib.hid h2
  have S0 := Lib.hid (PlaySt.start hD 1 a b v)
  clear h1 h2 hD
  go_enter Try.func12, Try.ntmps12
  go_wp2_with fail
  refine (H1.out _ (by exact S0.out.duo.m)).mono ?_
  rintro e w1 ⟨rfl, hb⟩
  have S1 := Lib.hid (S0.out.step hb)
  have c0 := S1.out.c0
  have c1 := S1.out.c1
  have c2 := S1.out.c2
  have cb := S1.out.duo.r.cellB
  clear hb S0 H1
  go_wp2_with fail
  go_region_held3 (fun w' => w'.cell? ⟨w.heap.size, 1, none⟩ = some (.int .i64 a) ∧ w'.cell? ⟨w.heap.size, 2, none⟩ = some (.int .i64 b) ∧ w'.cell? ⟨rp, 0, none⟩ = some (.slice (some ⟨rb, 0, none⟩) (n * 32) (n * 32))) (go_keep)
    (first
      | (go_at_call 20; refine (H2.out _ (by exact S1.out.drew.duo.r)).mono ?_; rintro e w2 ⟨rfl, hb⟩; have S2 := Lib.hid (S1.out.drew.step hb); clear hb; have c1 := S2.out.c1; have c2 := S2.out.c2; have cb := S2.out.duo.r.cellB))
  go_wp2
  go_ret
  exact ⟨L, rfl, S2.out.duo⟩
set_option maxRecDepth 100000 in
set_option maxHeartbeats 2000000 in
theorem play_page (W : World) (mp fb rp rb n : Nat) (L : List Int) (a b v : Int) (w : World) (hD : Duo W mp fb rp rb n L L w) :
    Calls Try.prog 12 #[.pointer (some ⟨mp, 0, none⟩), .pointer (some ⟨rp, 0, none⟩), .agg #[.int .i64 5, .int .i64 a, .int .i64 b, .int .u32 v]] w (PlayPost W mp fb rp rb n) := by
  obtain ⟨k, R, hR, h1, h2⟩ := pair_page mp fb rp rb n L a
  have H1 := Lib.hid h1
  have H2 := Lib.hid h2
  have S0 := Lib.hid (PlaySt.start hD 5 a b v)
  clear h1 h2 hD
  go_enter Try.func12, Try.ntmps12
  go_wp2_with fail
  refine (H1.out _ (by exact S0.out.duo.m)).mono ?_
  rintro e w1 ⟨v1, rfl, hr, hb⟩
  have S1 := Lib.hid (S0.out.step hb)
  have c0 := S1.out.c0
  have c1 := S1.out.c1
  have cb := S1.out.duo.r.cellB
  have R1 := Lib.hid hr
  clear hb S0 H1 hr
  go_wp2_with fail
  go_region_held3 (fun w' => w'.cell? ⟨w.heap.size, 1, none⟩ = some (.int .i64 a) ∧ w'.cell? ⟨rp, 0, none⟩ = some (.slice (some ⟨rb, 0, none⟩) (n * 32) (n * 32))) (go_keep)
    (first
      | (go_at_call 24; refine (H2.out _ (by exact S1.out.drew.duo.r)).mono ?_; rintro e w2 ⟨v2, rfl, hr, hb⟩; have S2 := Lib.hid (S1.out.drew.step hb); have R1' := Lib.hid ((R1.out.below (Below.refl _ _).drew).below hb); have R2 := Lib.hid hr; clear hb hr; have c1 := S2.out.c1; have cb := S2.out.duo.r.cellB))
  go_wp2_with fail
  refine (same_yes v1 v2 R w2 (by omega) R1'.out R2.out).mono ?_
  rintro e w3 ⟨rfl, hb⟩
  have S3 := Lib.hid (S2.out.step hb)
  clear hb
  go_wp2
  go_ret
  exact ⟨L, rfl, S3.out.duo⟩
set_option maxRecDepth 100000 in
set_option maxHeartbeats 2000000 in
theorem play_write (W : World) (mp fb rp rb n : Nat) (L : List Int) (a b v : Int) (w : World) (hD : Duo W mp fb rp rb n L L w) :
    Calls Try.prog 12 #[.pointer (some ⟨mp, 0, none⟩), .pointer (some ⟨rp, 0, none⟩), .agg #[.int .i64 2, .int .i64 a, .int .i64 b, .int .u32 v]] w (PlayPost W mp fb rp rb n) := by
  obtain ⟨k, L', h1, h2⟩ := pair_write mp fb rp rb n L a b v
  have H1 := Lib.hid h1
  have H2 := Lib.hid h2
  have S0 := Lib.hid (PlaySt.start hD 2 a b v)
  clear h1 h2 hD
  go_enter Try.func12, Try.ntmps12
  go_wp2_with fail
  obtain ⟨w0, hw0⟩ : ∃ w0, w0 = w.alloc (.cells #[.int .i64 2, .int .i64 a, .int .i64 b, .int .u32 v] 38) := ⟨_, rfl⟩
  rw [← hw0] at S0 ⊢
  clear hw0
  have c1 := S0.out.c1
  have c2 := S0.out.c2
  have c3 := S0.out.c3
  go_region_held3 (fun w' => w'.cell? ⟨w.heap.size, 1, none⟩ = some (.int .i64 a) ∧ w'.cell? ⟨w.heap.size, 2, none⟩ = some (.int .i64 b) ∧ w'.cell? ⟨w.heap.size, 3, none⟩ = some (.int .u32 v)) (go_keep)
    (first
      | (go_at_call 16; refine (H1.out _ (by exact S0.out.drew.duo.m)).mono ?_; rintro e w1 ⟨rfl, hp⟩; have S1 := Lib.hid (S0.out.drew.put hp); clear hp; have c1 := S1.out.c1; have c2 := S1.out.c2; have c3 := S1.out.c3)
      | (go_at_call 21; refine (H2.out _ (by exact S1.out.duo.r)).mono ?_; rintro e w2 ⟨rfl, hp⟩; have S2 := Lib.hid (S1.out.rput hp); clear hp; have c1 := S2.out.c1; have c2 := S2.out.c2; have c3 := S2.out.c3))
  go_wp2
  go_ret
  exact ⟨L', rfl, S2.out.duo⟩
set_option maxRecDepth 100000 in
set_option maxHeartbeats 2000000 in
theorem play_zero (W : World) (mp fb rp rb n : Nat) (L : List Int) (a b v : Int) (w : World) (hD : Duo W mp fb rp rb n L L w) :
    Calls Try.prog 12 #[.pointer (some ⟨mp, 0, none⟩), .pointer (some ⟨rp, 0, none⟩), .agg #[.int .i64 3, .int .i64 a, .int .i64 b, .int .u32 v]] w (PlayPost W mp fb rp rb n) := by
  obtain ⟨k, L', h1, h2⟩ := pair_zero mp fb rp rb n L a
  have H1 := Lib.hid h1
  have H2 := Lib.hid h2
  have S0 := Lib.hid (PlaySt.start hD 3 a b v)
  clear h1 h2 hD
  go_enter Try.func12, Try.ntmps12
  go_wp2_with fail
  obtain ⟨w0, hw0⟩ : ∃ w0, w0 = w.alloc (.cells #[.int .i64 3, .int .i64 a, .int .i64 b, .int .u32 v] 38) := ⟨_, rfl⟩
  rw [← hw0] at S0 ⊢
  clear hw0
  have c1 := S0.out.c1
  go_region_held3 (fun w' => w'.cell? ⟨w.heap.size, 1, none⟩ = some (.int .i64 a)) (go_keep)
    (first
      | (go_at_call 17; refine (H1.out _ (by exact S0.out.drew.duo.m)).mono ?_; rintro e w1 ⟨rfl, hp⟩; have S1 := Lib.hid (S0.out.drew.put hp); clear hp; have c1 := S1.out.c1)
      | (go_at_call 22; refine (H2.out _ (by exact S1.out.duo.r)).mono ?_; rintro e w2 ⟨rfl, hp⟩; have S2 := Lib.hid (S1.out.rput hp); clear hp; have c1 := S2.out.c1))
  go_wp2
  go_ret
  exact ⟨L', rfl, S2.out.duo⟩
set_option maxRecDepth 100000 in
set_option maxHeartbeats 2000000 in
theorem play_copy (W : World) (mp fb rp rb n : Nat) (L : List Int) (a b v : Int) (w : World) (hD : Duo W mp fb rp rb n L L w) :
    Calls Try.prog 12 #[.pointer (some ⟨mp, 0, none⟩), .pointer (some ⟨rp, 0, none⟩), .agg #[.int .i64 4, .int .i64 a, .int .i64 b, .int .u32 v]] w (PlayPost W mp fb rp rb n) := by
  obtain ⟨k, L', h1, h2⟩ := pair_copy mp fb rp rb n L a b
  have H1 := Lib.hid h1
  have H2 := Lib.hid h2
  have S0 := Lib.hid (PlaySt.start hD 4 a b v)
  clear h1 h2 hD
  go_enter Try.func12, Try.ntmps12
  go_wp2_with fail
  obtain ⟨w0, hw0⟩ : ∃ w0, w0 = w.alloc (.cells #[.int .i64 4, .int .i64 a, .int .i64 b, .int .u32 v] 38) := ⟨_, rfl⟩
  rw [← hw0] at S0 ⊢
  clear hw0
  have c1 := S0.out.c1
  have c2 := S0.out.c2
  go_region_held3 (fun w' => w'.cell? ⟨w.heap.size, 1, none⟩ = some (.int .i64 a) ∧ w'.cell? ⟨w.heap.size, 2, none⟩ = some (.int .i64 b)) (go_keep)
    (first
      | (go_at_call 18; refine (H1.out _ (by exact S0.out.drew.duo.m)).mono ?_; rintro e w1 ⟨rfl, hp⟩; have S1 := Lib.hid (S0.out.drew.put hp); clear hp; have c1 := S1.out.c1; have c2 := S1.out.c2)
      | (go_at_call 23; refine (H2.out _ (by exact S1.out.duo.r)).mono ?_; rintro e w2 ⟨rfl, hp⟩; have S2 := Lib.hid (S1.out.rput hp); clear hp; have c1 := S2.out.c1; have c2 := S2.out.c2))
  go_wp2
  go_ret
  exact ⟨L', rfl, S2.out.duo⟩
set_option maxRecDepth 100000 in
set_option maxHeartbeats 2000000 in
theorem play_none (W : World) (mp fb rp rb n : Nat) (L : List Int) (d a b v : Int) (w : World) (hD : Duo W mp fb rp rb n L L w) (h1 : (d == 1) = false) (h2 : (d == 2) = false) (h3 : (d == 3) = false) (h4 : (d == 4) = false) (h5 : (d == 5) = false) :
    Calls Try.prog 12 #[.pointer (some ⟨mp, 0, none⟩), .pointer (some ⟨rp, 0, none⟩), .agg #[.int .i64 d, .int .i64 a, .int .i64 b, .int .u32 v]] w (PlayPost W mp fb rp rb n) := by
  have S0 := Lib.hid (PlaySt.start hD d a b v)
  clear hD
  go_enter Try.func12, Try.ntmps12
  go_wp2_with fail
  go_ret
  exact ⟨L, rfl, S0.out.duo⟩
theorem play_any (W : World) (mp fb rp rb n : Nat) (L : List Int) (d a b v : Int) (w : World) (hD : Duo W mp fb rp rb n L L w) :
    Calls Try.prog 12 #[.pointer (some ⟨mp, 0, none⟩), .pointer (some ⟨rp, 0, none⟩), .agg #[.int .i64 d, .int .i64 a, .int .i64 b, .int .u32 v]] w (PlayPost W mp fb rp rb n) := by
  by_cases h1 : d = 1
  · subst h1; exact play_read W mp fb rp rb n L a b v w hD
  by_cases h2 : d = 2
  · subst h2; exact play_write W mp fb rp rb n L a b v w hD
  by_cases h3 : d = 3
  · subst h3; exact play_zero W mp fb rp rb n L a b v w hD
  by_cases h4 : d = 4
  · subst h4; exact play_copy W mp fb rp rb n L a b v w hD
  by_cases h5 : d = 5
  · subst h5; exact play_page W mp fb rp rb n L a b v w hD
  exact play_none W mp fb rp rb n L d a b v w hD (by simpa using h1) (by simpa using h2) (by simpa using h3) (by simpa using h4) (by simpa using h5)
end Go.Proofs.Ytknihmpdghanfaa
