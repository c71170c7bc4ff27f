/- The contract of play, layer 2's laws: it returns true, and both memories go on alike. Conditions: both have the same words. -/
import Derived.Test.YteohfonmckahgaaM13
import Derived.Deep.RegionHeld3
namespace Go.Proofs.Yteohfonmckahgaa
open Go.RowKit
set_option maxRecDepth 100000

/-- Both memories lie, in blocks of their own, behind what was there. -/
structure Duo (W : World) (mp fb rp rb n : Nat) (L K : List Int) (w : World) : Prop where
  m : MemSt w mp fb n L
  r : RefSt w rp rb n K
  below : Below W.heap.size W w
  lf : W.heap.size ≤ fb
  lr : W.heap.size ≤ rb
  ne1 : fb ≠ rp
  ne2 : fb ≠ rb
  ne3 : mp ≠ rb
theorem Duo.step {W w w' : World} {mp fb rp rb n : Nat} {L K : List Int} (h : Duo W mp fb rp rb n L K w) (k : Below w.heap.size w w') : Duo W mp fb rp rb n L K w' :=
  ⟨h.m.below k, h.r.below k, h.below.trans (k.mono h.below.size), h.lf, h.lr, h.ne1, h.ne2, h.ne3⟩
theorem Duo.put {W w w' : World} {mp fb rp rb n : Nat} {L L' K : List Int} (h : Duo W mp fb rp rb n L K w) (k : Puts w w' mp fb n L') : Duo W mp fb rp rb n L' K w' :=
  ⟨k.st, ⟨(k.grown.block rp (lt_of_block h.r.box) (fun e => h.ne1 (Option.some.inj e).symm)).trans h.r.box, (k.grown.block rb (lt_of_block h.r.row) (fun e => h.ne2 (Option.some.inj e).symm)).trans h.r.row, h.r.len, h.r.ne, h.r.top⟩,
   k.kept h.below h.below.size h.lf, h.lf, h.lr, h.ne1, h.ne2, h.ne3⟩
theorem Duo.rput {W w w' : World} {mp fb rp rb n : Nat} {L K K' : List Int} (h : Duo W mp fb rp rb n L K w) (k : RPuts w w' rp rb n K') : Duo W mp fb rp rb n L K' w' :=
  ⟨⟨(k.grown.block mp (lt_of_block h.m.box) (fun e => h.ne3 (Option.some.inj e))).trans h.m.box, (k.grown.block fb (lt_of_block h.m.row) (fun e => h.ne2 (Option.some.inj e))).trans h.m.row, h.m.len, h.m.ne, h.m.pos, h.m.top⟩, k.st,
   h.below.trans (below_of_grownBy k.grown h.below.size h.lr), h.lf, h.lr, h.ne1, h.ne2, h.ne3⟩

def PlayPost (W : World) (mp fb rp rb n : Nat) (e : Ending) (w' : World) : Prop := ∃ L, e = .returned (.bool true) ∧ Duo W mp fb rp rb n L L w'

theorem pair_write (mp fb rp rb n : Nat) (L : List Int) (f q v : Int) : ∃ (k : Int) (L' : List Int), (∀ w, MemSt w mp fb n L → Calls Try.prog 16 #[.pointer (some ⟨mp, 0, none⟩), .int .i64 f, .int .i64 q, .int .u32 v] w fun e w' => e = .returned (.int .i64 k) ∧ Puts w w' mp fb n L') ∧
    (∀ w, RefSt w rp rb n L → Calls Try.prog 17 #[.pointer (some ⟨rp, 0, none⟩), .int .i64 f, .int .i64 q, .int .u32 v] w fun e w' => e = .returned (.int .i64 k) ∧ RPuts w w' rp rb n L') := by
  by_cases h : okFQ n f q
  · have h' := h
    unfold okFQ at h'
    obtain ⟨f', rfl⟩ := Int.eq_ofNat_of_zero_le h'.1
    obtain ⟨q', rfl⟩ := Int.eq_ofNat_of_zero_le h'.2.2.1
    exact ⟨_, _, fun w hw => write_ok mp fb n f' q' L v w hw (by omega) (by omega), fun w hw => rwrite_yes rp rb n L f' q' v w hw (by omega) (by omega)⟩
  · exact ⟨_, L, fun w hw => (write_bad mp fb n L f q v w hw h).mono fun e w' ⟨he, hb⟩ => ⟨he, Puts.stay hw hb⟩, fun w hw => (rwrite_no rp rb n L f q v w hw h).mono fun e w' ⟨he, hb⟩ => ⟨he, RPuts.stay hw hb⟩⟩
theorem pair_page (mp fb rp rb n : Nat) (L : List Int) (f : Int) : ∃ (k : Int) (R : List Int), R.length ≤ 32 ∧ (∀ w, MemSt w mp fb n L → Calls Try.prog 20 #[.pointer (some ⟨mp, 0, none⟩), .int .i64 f] w fun e w' => ∃ v, e = .returned (.tuple #[v, .int .i64 k]) ∧ RowAt w' v R ∧ Below w.heap.size w w') ∧
    (∀ w, RefSt w rp rb n L → Calls Try.prog 21 #[.agg #[.slice (some ⟨rb, 0, none⟩) (n * 32) (n * 32)], .int .i64 f] w fun e w' => ∃ v, e = .returned (.tuple #[v, .int .i64 k]) ∧ RowAt w' v R ∧ Below w.heap.size w w') := by
  by_cases h : okFQ n f 0
  · have h' := h
    unfold okFQ at h'
    obtain ⟨f', rfl⟩ := Int.eq_ofNat_of_zero_le h'.1
    refine ⟨_, rowOf L f', by simp [rowOf]; omega, fun w hw => (page_ok mp fb n f' L w hw (by omega)).mono fun e w' ⟨v, he, hr, hb⟩ => ⟨v, he, hr.rowAt, hb⟩, fun w hw => rpage_yes rp rb n f' L w hw (by omega)⟩
  · exact ⟨_, [], by decide, fun w hw => (page_bad mp fb n L f w hw h).mono fun e w' ⟨he, hb⟩ => ⟨_, he, ⟨none, 0, rfl, Or.inl rfl⟩, hb⟩, fun w hw => (rpage_no _ n _ f w hw.top h).mono fun e w' ⟨he, hb⟩ => ⟨_, he, ⟨none, 0, rfl, Or.inl rfl⟩, hb⟩⟩

end Go.Proofs.Yteohfonmckahgaa
