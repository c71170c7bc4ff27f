/- Texts of mine, joined: M8 M9 M10 M11 M12 M13 M14 M15. What each says and under which conditions stands at its head, below. -/
import Derived.Test.YtnapodeiigkebaaGC
import Derived.BigGuardPart
import Derived.LoopTactic
import Derived.Outline
import Derived.IntWalk
import Derived.OwnWalk
import Derived.Deep.RegionHeld3
/- What is read of words that were set, and the contracts of package mem's calls over any numbers; the walk of MemEdges. Conditions: none. -/
namespace Go.Proofs.Ytnapodeiigkebaa
open Go.RowKit
set_option maxRecDepth 100000

theorem getD_set (L : List Int) (i j : Nat) (v : Int) (hi : i < L.length) : (L.set i v).getD j 0 = if i = j then v else L.getD j 0 := by
  simp only [List.getD_eq_getElem?_getD, List.getElem?_set]
  by_cases h : i = j
  · subst h; simp [hi]
  · simp [h]
theorem getD_rowOf (L : List Int) (f q : Nat) (hq : q < 32) : (rowOf L f).getD q 0 = L.getD (f * 32 + q) 0 := by
  simp only [rowOf, List.getD_eq_getElem?_getD, List.getElem?_take, List.getElem?_drop, if_pos hq]
theorem replicate_get (n q : Nat) : (List.replicate n (0 : Int)).getD q 0 = 0 := by
  simp only [List.getD_eq_getElem?_getD, List.getElem?_replicate]
  split <;> rfl

/-- Where a place's word stands. -/
def idx (f q : Int) : Nat := f.toNat * 32 + q.toNat
theorem read_i (mp fb n : Nat) (L : List Int) (f q : Int) (w : World) (hm : MemSt w mp fb n L) (h : okFQ n f q) :
    Calls Try.prog 70 #[.pointer (some ⟨mp, 0, none⟩), .int .i64 f, .int .i64 q] w fun e w' => e = .returned (.tuple #[.int .u32 (L.getD (idx f q) 0), .int .i64 0]) ∧ Below w.heap.size w w' := by
  unfold okFQ at h
  obtain ⟨f', rfl⟩ := Int.eq_ofNat_of_zero_le h.1
  obtain ⟨q', rfl⟩ := Int.eq_ofNat_of_zero_le h.2.2.1
  exact read_ok mp fb n f' q' L w hm (by omega) (by omega)
theorem write_i (mp fb n : Nat) (L : List Int) (f q v : Int) (w : World) (hm : MemSt w mp fb n L) (h : okFQ n f q) :
    Calls Try.prog 21 #[.pointer (some ⟨mp, 0, none⟩), .int .i64 f, .int .i64 q, .int .u32 v] w fun e w' => e = .returned (.int .i64 0) ∧ Puts w w' mp fb n (L.set (idx f q) v) := by
  unfold okFQ at h
  obtain ⟨f', rfl⟩ := Int.eq_ofNat_of_zero_le h.1
  obtain ⟨q', rfl⟩ := Int.eq_ofNat_of_zero_le h.2.2.1
  exact write_ok mp fb n f' q' L v w hm (by omega) (by omega)
theorem page_i (mp fb n : Nat) (L : List Int) (f : Int) (w : World) (hm : MemSt w mp fb n L) (h : okFQ n f 0) :
    Calls Try.prog 48 #[.pointer (some ⟨mp, 0, none⟩), .int .i64 f] w fun e w' => ∃ v, e = .returned (.tuple #[v, .int .i64 0]) ∧ NewRow w.heap.size w' v (rowOf L f.toNat) ∧ Below w.heap.size w w' := by
  unfold okFQ at h
  obtain ⟨f', rfl⟩ := Int.eq_ofNat_of_zero_le h.1
  exact page_ok mp fb n f' L w hm (by omega)

/-- A memory of the law's own. -/
structure OwnMem (W w : World) (mp fb n : Nat) (L : List Int) : Prop where
  st : MemSt w mp fb n L
  below : Below W.heap.size W w
  lm : W.heap.size ≤ mp
  lf : W.heap.size ≤ fb
theorem OwnMem.step {W w w' : World} {mp fb n : Nat} {L : List Int} (h : OwnMem W w mp fb n L) (k : Below w.heap.size w w') : OwnMem W w' mp fb n L := ⟨h.st.below k, h.below.trans (k.mono h.below.size), h.lm, h.lf⟩
theorem OwnMem.new {W w : World} {n : Nat} {e : Ending} (h : NewPost n W e w) : ∃ mp fb, e = .returned (.tuple #[.pointer (some ⟨mp, 0, none⟩), .int .i64 0]) ∧ OwnMem W w mp fb n (List.replicate (n * 32) 0) := by
  obtain ⟨mp, fb, he, hm, h1, h2, hb⟩ := h
  exact ⟨mp, fb, he, hm, hb, h1, h2⟩

end Go.Proofs.Ytnapodeiigkebaa

/- The walk of MemNone. No condition. -/
namespace Go.Proofs.Ytnapodeiigkebaa
open Go.RowKit
set_option maxRecDepth 100000

end Go.Proofs.Ytnapodeiigkebaa

/- The walk of MemChain. No condition. -/
namespace Go.Proofs.Ytnapodeiigkebaa
open Go.RowKit
set_option maxRecDepth 100000

end Go.Proofs.Ytnapodeiigkebaa

/- The contracts of the document's own answers for layer 2: Same, In, Read, Write. Conditions: its words lie in a block. -/
namespace Go.Proofs.Ytnapodeiigkebaa
open Go.RowKit
set_option maxRecDepth 100000

/-- A slice of these words. -/
def RowAt (w : World) (v : Value) (L : List Int) : Prop := ∃ a c, v = .slice a L.length c ∧ (L = [] ∨ ∃ b o, a = some ⟨b, o, none⟩ ∧ b < w.heap.size ∧ ∀ i, i < L.length → w.cell? ⟨b, o + i, none⟩ = some (.int .u32 (L.getD i 0)))
theorem RowAt.below {w w' : World} {v : Value} {L : List Int} (h : RowAt w v L) (hb : Below w.heap.size w w') : RowAt w' v L := by
  obtain ⟨a, c, rfl, h | ⟨b, o, rfl, hlt, hc⟩⟩ := h
  · exact ⟨a, c, rfl, Or.inl h⟩
  · exact ⟨_, c, rfl, Or.inr ⟨b, o, rfl, Nat.lt_of_lt_of_le hlt hb.size, fun i hi => (hb.cell (p := ⟨b, o + i, none⟩) hlt).trans (hc i hi)⟩⟩
theorem same_nil (a b : Option Addr) (c d : Nat) (w : World) : Calls Try.prog 24 #[.slice a 0 c, .slice b 0 d] w fun e w' => e = .returned (.bool true) ∧ ∃ m, w' = w.drewN m := by
  go_enter Try.func24, Try.ntmps24
  go_wp2
  refine wp_loop_rounds 1 ?_
  rw [rounds_succ]
  go_wp2
  go_ret
  exact ⟨rfl, 0, rfl⟩

def SameRel (w : World) (n : Nat) (i : Value) (wr : World) : Prop := ∃ k m : Nat, i = .int .i64 k ∧ k ≤ n ∧ wr = w.drewN m
set_option maxRecDepth 100000 in
set_option maxHeartbeats 1000000 in
theorem same_row (b o b' o' c c' n : Nat) (f : Nat → Int) (w : World) (hn : n ≤ 1000000) (h1 : ∀ i, i < n → w.cell? ⟨b, o + i, none⟩ = some (.int .u32 (f i))) (h2 : ∀ i, i < n → w.cell? ⟨b', o' + i, none⟩ = some (.int .u32 (f i))) :
    Calls Try.prog 24 #[.slice (some ⟨b, o, none⟩) n c, .slice (some ⟨b', o', none⟩) n c'] w fun e w' => e = .returned (.bool true) ∧ ∃ m, w' = w.drewN m := by
  have H1 := Lib.hid h1
  have H2 := Lib.hid h2
  clear h1 h2
  go_enter Try.func24, Try.ntmps24
  go_wp2
  go_loopw [5] (fun i wr => SameRel w n i wr) (fun i _ => (n - (intOf i).toNat))
  case atStart => exact ⟨0, 0, rfl, Nat.zero_le _, rfl⟩
  case round =>
    obtain ⟨k, m, rfl, hk, hw⟩ := hrel
    by_cases hlt : k < n
    · have c1 : wr.cell? ⟨b, o + k, none⟩ = some (.int .u32 (f k)) := by rw [hw]; exact H1.out k hlt
      have c2 : wr.cell? ⟨b', o' + k, none⟩ = some (.int .u32 (f k)) := by rw [hw]; exact H2.out k hlt
      have HW := Lib.hid hw
      clear hw
      go_wp2
      go_quiet (fail)
      go_wp2
      go_roundw
      case rel => exact ⟨k + 1, m + nq, by go_num, by omega, by rw [HW.out]; simp [World.drewN, Nat.add_assoc]⟩
      case measure => simp [intOf]; omega
    · obtain rfl : k = n := by omega
      have HW := Lib.hid hw
      clear hw
      go_wp2
      go_ret
      exact ⟨rfl, m, HW.out⟩
theorem same_yes (v v' : Value) (L : List Int) (w : World) (hn : L.length ≤ 1000000) (h : RowAt w v L) (h' : RowAt w v' L) :
    Calls Try.prog 24 #[v, v'] w fun e w' => e = .returned (.bool true) ∧ Below w.heap.size w w' := by
  obtain ⟨a, c, rfl, h⟩ := h
  obtain ⟨a', c', rfl, h'⟩ := h'
  have done : ∀ (e : Ending) (w' : World), (e = .returned (.bool true) ∧ ∃ m, w' = w.drewN m) → e = .returned (.bool true) ∧ Below w.heap.size w w' := fun e w' ⟨he, m, hw⟩ => ⟨he, by rw [hw]; exact below_drewN (Below.refl _ _) m⟩
  by_cases hL : L = []
  · subst hL
    exact (same_nil a a' c c' w).mono done
  · rcases h with h | ⟨b, o, rfl, _, hc⟩
    · exact absurd h hL
    rcases h' with h' | ⟨b', o', rfl, _, hc'⟩
    · exact absurd h' hL
    exact (same_row b o b' o' c c' L.length (fun i => L.getD i 0) w hn hc hc').mono done

end Go.Proofs.Ytnapodeiigkebaa

/- The contracts of the document's own answers for layer 2: Zero, Copy, Page. Conditions: its words lie in a block. -/
namespace Go.Proofs.Ytnapodeiigkebaa
open Go.RowKit
set_option maxRecDepth 100000

end Go.Proofs.Ytnapodeiigkebaa

/- The contract of the document's own Page, layer 2. Conditions: its words lie in a block. -/
namespace Go.Proofs.Ytnapodeiigkebaa
open Go.RowKit
set_option maxRecDepth 100000

end Go.Proofs.Ytnapodeiigkebaa

/- The contract of play, layer 2's laws: it returns true, and both memories go on alike. Conditions: both have the same words. -/
namespace Go.Proofs.Ytnapodeiigkebaa
open Go.RowKit
set_option maxRecDepth 100000

end Go.Proofs.Ytnapodeiigkebaa

/- The contract of the document's own New, layer 2, and the walk of MemPlays. Conditions: the script lies as its slice says. -/
namespace Go.Proofs.Ytnapodeiigkebaa
open Go.RowKit
set_option maxRecDepth 100000

end Go.Proofs.Ytnapodeiigkebaa
