/- The contracts of package mem's Copy and New. Conditions: the memory lies as New laid it, or there is none. -/
import Derived.Test.YtknihmpdghanfaaM5
namespace Go.Proofs.Ytknihmpdghanfaa
open Go.RowKit

theorem copy_err (k : Int) (hk0 : (k == 0) = false) (p : Option Addr) (t f : Int) (w : World) (hk : ∀ (d : Value) (W : World) (bm bf bp : Nat), Below w.heap.size w W → AskSt W bm bf bp (.pointer p) f 0 →
      Calls Try.prog 34 #[d, .pointer (some ⟨bm, 0, none⟩), .pointer (some ⟨bf, 0, none⟩), .pointer (some ⟨bp, 0, none⟩)] W fun e w' => e = .returned (.int .i64 k) ∧ Below W.heap.size W w') :
    Calls Try.prog 18 #[.pointer p, .int .i64 t, .int .i64 f] w fun e w' => e = .returned (.int .i64 k) ∧ Below w.heap.size w w' := by
  have hmf : ∀ (fn : Fn) (first cap : Array Value) (w : World), (Instr.makeFunc fn first cap).run Try.prog w = .ok (.func fn first cap) w := fun _ _ _ _ => rfl
  have hz := pageZero
  have HK := Lib.hid hk
  have hk1 : (k != 0) = true := by simp at hk0 ⊢; exact hk0
  clear hk
  go_enter Try.func18, Try.ntmps18
  go_wp2_with fail
  refine (whole_any p f _).mono ?_
  rintro e w1 ⟨bm, bf, bp, rfl, hA, hb⟩
  have B1 := Lib.hid (((Below.refl _ _).alloc (Nat.le_refl _) (.cells (wordsV zeros) 67)).trans (hb.mono (by simp)))
  have HA := Lib.hid hA
  clear hA hb
  go_wp2_with fail
  refine (HK.out _ _ _ _ _ B1.out HA.out).mono ?_
  rintro e w2 ⟨rfl, hb⟩
  have B2 := Lib.hid (B1.out.trans (hb.mono B1.out.size))
  clear hb
  go_wp2
  go_ret
  exact ⟨rfl, B2.out⟩
theorem copy_no (p : Option Addr) (t f : Int) (w : World) (hp : NoMem w p) :
    Calls Try.prog 18 #[.pointer p, .int .i64 t, .int .i64 f] w fun e w' => e = .returned (.int .i64 1) ∧ Below w.heap.size w w' :=
  copy_err 1 rfl p t f w fun d W bm bf bp hb hA => ask_no d bm bf bp p f 0 W hA (hp.below hb)
theorem copy_bad_from (mp fb n : Nat) (L : List Int) (t f : Int) (w : World) (hm : MemSt w mp fb n L) (hbad : ¬ okFQ n f 0) :
    Calls Try.prog 18 #[.pointer (some ⟨mp, 0, none⟩), .int .i64 t, .int .i64 f] w fun e w' => e = .returned (.int .i64 2) ∧ Below w.heap.size w w' :=
  copy_err 2 rfl _ t f w fun d W bm bf bp hb hA => ask_bad d bm bf bp mp fb n f 0 L W hA (hm.below hb) hbad

set_option maxHeartbeats 1000000 in
theorem copy_bad_to (mp fb n f : Nat) (L : List Int) (t : Int) (w : World) (hm : MemSt w mp fb n L) (hf : f < n) (hbad : ¬ okFQ n t 0) :
    Calls Try.prog 18 #[.pointer (some ⟨mp, 0, none⟩), .int .i64 t, .int .i64 f] w fun e w' => e = .returned (.int .i64 2) ∧ Below w.heap.size w w' := by
  have hmf : ∀ (fn : Fn) (first cap : Array Value) (w : World), (Instr.makeFunc fn first cap).run Try.prog w = .ok (.func fn first cap) w := fun _ _ _ _ => rfl
  have hz := pageZero
  have HM := Lib.hid hm
  have HBAD := Lib.hid hbad
  clear hm hbad
  go_enter Try.func18, Try.ntmps18
  go_wp2_with fail
  refine (whole_any _ _ _).mono ?_
  rintro e w1 ⟨bm, bf, bp, rfl, hA, hb⟩
  have B1 := Lib.hid (((Below.refl _ _).alloc (Nat.le_refl _) (.cells (wordsV zeros) 67)).trans (hb.mono (by simp)))
  have hx := Lib.hid (below_block hb (heap_alloc_new w (.cells (wordsV zeros) 67)))
  have HA := Lib.hid hA
  have HM1 := Lib.hid (HM.out.below B1.out)
  clear hA hb
  go_wp2_with fail
  refine (ask_ok _ _ enters_Copy1 bm bf bp mp fb n f 0 w1 (fun w' => Below w.heap.size w1 w') HA.out HM1.out.cellM hf (by omega) (by omega) (fun m => ?_)).mono ?_
  · refine (copyFrom fb f n w.heap.size L zeros (w1.drewN m) _ _ HM1.out.row HM1.out.len hf hx.out rfl).mono ?_
    rintro e w' ⟨rfl, rfl⟩
    exact ⟨rfl, below_setRow (below_drewN (Below.refl _ _) m) (Nat.le_refl _) _⟩
  rintro e w2 ⟨rfl, hb⟩
  have B2 := Lib.hid (B1.out.trans hb)
  have HM2 := Lib.hid (HM.out.below B2.out)
  clear hb
  go_wp2_with fail
  refine (whole_any _ _ _).mono ?_
  rintro e w3 ⟨bm, bf, bp, rfl, hA, hb⟩
  have B3 := Lib.hid (B2.out.trans (hb.mono B2.out.size))
  have HA := Lib.hid hA
  have HM3 := Lib.hid (HM.out.below B3.out)
  clear hA hb
  go_wp2_with fail
  refine (ask_bad _ bm bf bp mp fb n t 0 L _ HA.out HM3.out HBAD.out).mono ?_
  rintro e w4 ⟨rfl, hb⟩
  have B4 := Lib.hid (B3.out.trans (hb.mono B3.out.size))
  clear hb
  go_wp2
  go_ret
  exact ⟨rfl, B4.out⟩

set_option maxHeartbeats 1000000 in
theorem copy_ok (mp fb n f t : Nat) (L : List Int) (w : World) (hm : MemSt w mp fb n L) (hf : f < n) (ht : t < n) :
    Calls Try.prog 18 #[.pointer (some ⟨mp, 0, none⟩), .int .i64 t, .int .i64 f] w fun e w' => e = .returned (.int .i64 0) ∧ Puts w w' mp fb n (putRow L t (rowOf L f)) := by
  have hmf : ∀ (fn : Fn) (first cap : Array Value) (w : World), (Instr.makeFunc fn first cap).run Try.prog w = .ok (.func fn first cap) w := fun _ _ _ _ => rfl
  have hz := pageZero
  have HM := Lib.hid hm
  clear hm
  go_enter Try.func18, Try.ntmps18
  go_wp2_with fail
  refine (whole_any _ _ _).mono ?_
  rintro e w1 ⟨bm, bf, bp, rfl, hA, hb⟩
  have B1 := Lib.hid (((Below.refl _ _).alloc (Nat.le_refl _) (.cells (wordsV zeros) 67)).trans (hb.mono (by simp)))
  have hx := Lib.hid (below_block hb (heap_alloc_new w (.cells (wordsV zeros) 67)))
  have HA := Lib.hid hA
  have HM1 := Lib.hid (HM.out.below B1.out)
  clear hA hb
  go_wp2_with fail
  refine (ask_ok _ _ enters_Copy1 bm bf bp mp fb n f 0 w1 (fun w' => Below w.heap.size w1 w' ∧ w'.heap[w.heap.size]? = some (.cells (wordsV (rowOf L f)) 67 (0, 0))) HA.out HM1.out.cellM hf (by omega) (by omega) (fun m => ?_)).mono ?_
  · refine (copyFrom fb f n w.heap.size L zeros (w1.drewN m) _ _ HM1.out.row HM1.out.len hf hx.out rfl).mono ?_
    rintro e w' ⟨rfl, rfl⟩
    exact ⟨rfl, below_setRow (below_drewN (Below.refl _ _) m) (Nat.le_refl _) _, setRow_heap (w1.drewN m) _ _ _ _ _ hx.out⟩
  rintro e w2 ⟨rfl, hb, hr⟩
  have B2 := Lib.hid (B1.out.trans hb)
  have HR2 := Lib.hid hr
  clear hb hr
  go_wp2_with fail
  refine (whole_any _ _ _).mono ?_
  rintro e w3 ⟨bm, bf, bp, rfl, hA, hb⟩
  have B3 := Lib.hid (B2.out.trans (hb.mono B2.out.size))
  have HR3 := Lib.hid (below_block hb HR2.out)
  have HA := Lib.hid hA
  have HM3 := Lib.hid (HM.out.below B3.out)
  clear hA hb
  go_wp2_with fail
  refine (ask_ok _ _ enters_Copy2 bm bf bp mp fb n t 0 w3 (fun w' => Puts w3 w' mp fb n (putRow L t (rowOf L f))) HA.out HM3.out.cellM ht (by omega) (by omega) (fun m => ?_)).mono ?_
  · refine (copyTo fb t n w.heap.size L (rowOf L f) (w3.drewN m) _ _ HM3.out.row HM3.out.len ht HR3.out (rowOf_length HM3.out.len hf)).mono ?_
    rintro e w' ⟨rfl, rfl⟩
    exact ⟨rfl, put_page m HM3.out ht (rowOf_length HM3.out.len hf)⟩
  rintro e w4 ⟨rfl, hb⟩
  have B4 := Lib.hid (Puts.ahead B3.out hb)
  clear hb
  go_wp2
  go_ret
  exact ⟨rfl, B4.out⟩

theorem pageInfoB : (Try.prog.info? 67).map (fun i => (i.zero, i.size, i.bytes)) = some (some (.agg (wordsV zeros)), 32, 128) := by kernel_rfl
theorem made_page (n : Nat) : madeCells (wordsV zeros) (n * 32) = wordsV (List.replicate (n * 32) 0) := by
  have e : ∀ i, i < 32 → (wordsV zeros)[i]! = .int .u32 0 := fun i hi => by
    rw [show wordsV zeros = Array.replicate 32 (.int .u32 0) from rfl, getElem!_pos _ i (by simpa using hi), Array.getElem_replicate]
  apply Array.ext
  · rw [size_madeCells, wordsV_size, List.length_replicate]
  · intro i h1 h2
    have h3 : i % (wordsV zeros).size < 32 := Nat.mod_lt _ (by decide)
    have : (madeCells (wordsV zeros) (n * 32))[i] = (wordsV zeros)[i % (wordsV zeros).size]! := by simp only [madeCells, Array.getElem_map, Array.getElem_range]
    rw [this, e _ h3]
    simp [wordsV]
theorem make_pages (n : Nat) (hn : n ≤ 1024) (w : World) : (Instr.makeSlice 41 (.int .i64 (n : Int)) (.int .i64 (n : Int))).run Try.prog w = .ok (.slice (some ⟨w.heap.size, 0, none⟩) n n) (w.alloc (.cells (wordsV (List.replicate (n * 32) 0)) 67)) := by
  have h := pageInfoB
  cases hq : Try.prog.info? 67 with
  | none => rw [hq] at h; cases h
  | some i =>
    rw [hq] at h
    simp only [Option.map_some, Option.some.injEq, Prod.mk.injEq] at h
    obtain ⟨h1, h2, h3⟩ := h
    have := run_make (P := Try.prog) w 41 67 i _ Try.underlying41 hq h1 .i64 .i64 n n (by omega) (by omega) (by rw [h3]; omega) (by omega)
    rw [h2] at this
    simpa [Value.cells, made_page] using this

set_option maxHeartbeats 400000 in
theorem new_bad (n : Int) (w : World) (hn : n < 1 ∨ 1024 < n) : Calls Try.prog 10 #[.int .i64 n] w fun e w' => e = .returned (.tuple #[.pointer none, .int .i64 2]) ∧ w = w' := by
  rcases hn with hn | hn
  all_goals
    go_enter Try.func10, Try.ntmps10
    go_wp2
    go_ret2
    exact ⟨rfl, rfl⟩
/-- What New of so many frames leaves. -/
def NewPost (n : Nat) (w : World) (e : Ending) (w' : World) : Prop := ∃ mp fb, e = .returned (.tuple #[.pointer (some ⟨mp, 0, none⟩), .int .i64 0]) ∧ MemSt w' mp fb n (List.replicate (n * 32) 0) ∧ w.heap.size ≤ mp ∧ w.heap.size ≤ fb ∧ Below w.heap.size w w'
set_option maxHeartbeats 400000 in
theorem new_ok (n : Nat) (w : World) (h0 : 1 ≤ n) (h1 : n ≤ 1024) : Calls Try.prog 10 #[.int .i64 n] w (NewPost n w) := by
  have hmk := make_pages n h1
  have a1 : ¬ (n : Int) < 1 := by omega
  have a2 : ¬ (1024 : Int) < n := by omega
  go_enter Try.func10, Try.ntmps10
  go_wp2
  go_ret2
  refine ⟨w.heap.size + 1, w.heap.size, rfl, MemSt.mk ?_ ?_ (by simp) ?_ h0 h1, ?_, ?_, ?_⟩
  · exact heap_alloc2_new _ _ _
  · exact heap_alloc2_old _ _ _
  · omega
  · omega
  · omega
  · exact ((Below.refl _ _).alloc (Nat.le_refl _) _).alloc (by simp) _
end Go.Proofs.Ytknihmpdghanfaa
