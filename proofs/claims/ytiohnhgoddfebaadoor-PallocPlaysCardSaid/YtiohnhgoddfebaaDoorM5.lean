/- The contracts of package mem's Write, Zero, Page. Conditions: the memory lies as New laid it, or there is none. -/
import Derived.Test.YtiohnhgoddfebaaDoorM4
namespace Go.Proofs.YtiohnhgoddfebaaDoor
open Go.RowKit
set_option maxRecDepth 100000

theorem grownBy_refl (w : World) (r : Option Nat) : w.grownBy w r := ⟨rfl, rfl, rfl, Nat.le_refl _, fun _ _ _ => rfl⟩
theorem grownBy_of_below {w w' : World} (h : Below w.heap.size w w') (r : Option Nat) : w.grownBy w' r := ⟨h.os, h.tape, h.output, h.size, fun k hk _ => h.block k hk⟩
theorem below_of_grownBy {w w' : World} {r : Nat} (h : w.grownBy w' (some r)) {B : Nat} (hB : B ≤ w.heap.size) (hr : B ≤ r) : Below B w w' := ⟨h.os, h.tape, h.output, h.size, fun k hk => h.block k (by omega) (fun e => by have := Option.some.inj e; omega)⟩
theorem grownBy_trans {a b c : World} {r : Option Nat} (h : a.grownBy b r) (k : b.grownBy c r) : a.grownBy c r :=
  ⟨k.os.trans h.os, k.tape.trans h.tape, k.output.trans h.output, Nat.le_trans h.size k.size, fun i hi hne => (k.block i (Nat.lt_of_lt_of_le hi h.size) hne).trans (h.block i hi hne)⟩
theorem grownBy_setCell (w : World) (g i : Nat) (u : Value) : w.grownBy (w.setCell ⟨g, i, none⟩ u) (some g) :=
  ⟨rfl, rfl, rfl, by simp [World.setCell], fun k _ hne => Below.heap_setCell _ _ _ _ (fun e => hne (by rw [e]))⟩
theorem grownBy_setRow (w : World) (g : Nat) (cs : Array Value) : w.grownBy (w.setRow g cs) (some g) :=
  ⟨rfl, rfl, rfl, by simp, fun k _ hne => by simp only [World.setRow, Array.getElem?_modify]; rw [if_neg (fun e => hne (by rw [e]))]⟩
theorem grownBy_heap {a b c : World} {r : Option Nat} (h : a.grownBy b r) (e1 : c.heap = b.heap) (e2 : c.os = b.os) (e3 : c.tape = b.tape) (e4 : c.output = b.output) : a.grownBy c r :=
  ⟨e2.trans h.os, e3.trans h.tape, e4.trans h.output, by rw [e1]; exact h.size, fun k hk hne => by rw [e1]; exact h.block k hk hne⟩
theorem grownBy_from {a b c : World} {r : Option Nat} (h : b.grownBy c r) (e1 : b.heap = a.heap) (e2 : b.os = a.os) (e3 : b.tape = a.tape) (e4 : b.output = a.output) : a.grownBy c r :=
  ⟨h.os.trans e2, h.tape.trans e3, h.output.trans e4, by rw [← e1]; exact h.size, fun k hk hne => by rw [← e1]; exact h.block k (by rw [e1]; exact hk) hne⟩

theorem MemSt.row_ne {w w' : World} {mp fb n : Nat} {L L' : List Int} (h : MemSt w mp fb n L) (hg : w.grownBy w' (some fb)) (hr : w'.heap[fb]? = some (.cells (wordsV L') 83 (0, 0))) (hl : L'.length = n * 32) : MemSt w' mp fb n L' :=
  ⟨(hg.block mp (lt_of_block h.box) (fun e => h.ne (Option.some.inj e))).trans h.box, hr, hl, h.ne, h.pos, h.top⟩

/-- What a call does that changes the memory's words. -/
structure Puts (w w' : World) (mp fb n : Nat) (L : List Int) : Prop where
  st : MemSt w' mp fb n L
  grown : w.grownBy w' (some fb)
theorem Puts.stay {w w' : World} {mp fb n : Nat} {L : List Int} (h : MemSt w mp fb n L) (hb : Below w.heap.size w w') : Puts w w' mp fb n L := ⟨h.below hb, grownBy_of_below hb _⟩
theorem Puts.ahead {w w1 w' : World} {mp fb n : Nat} {L : List Int} (hb : Below w.heap.size w w1) (h : Puts w1 w' mp fb n L) : Puts w w' mp fb n L := ⟨h.st, grownBy_trans (grownBy_of_below hb _) h.grown⟩
theorem Puts.behind {w w1 w' : World} {mp fb n : Nat} {L : List Int} (h : Puts w w1 mp fb n L) (hb : Below w1.heap.size w1 w') : Puts w w' mp fb n L := ⟨h.st.below hb, grownBy_trans h.grown (grownBy_of_below hb _)⟩
theorem Puts.next {w w1 w' : World} {mp fb n : Nat} {L L' : List Int} (h : Puts w w1 mp fb n L) (k : Puts w1 w' mp fb n L') : Puts w w' mp fb n L' := ⟨k.st, grownBy_trans h.grown k.grown⟩
theorem Puts.below {B : Nat} {a w w' : World} {mp fb n : Nat} {L : List Int} (h : Below B a w) (k : Puts w w' mp fb n L) (hw : B ≤ w.heap.size) (hf : B ≤ fb) : Below B a w' := h.trans (below_of_grownBy k.grown hw hf)

/-- The words with one of them put. -/
theorem set_page {w : World} {mp fb n f q : Nat} {L : List Int} (m : Nat) (v : Int) (h : MemSt w mp fb n L) : Puts w ((w.drewN m).setCell ⟨fb, f * 32 + q, none⟩ (.int .u32 v)).drew mp fb n (L.set (f * 32 + q) v) := by
  have hg : w.grownBy ((w.drewN m).setCell ⟨fb, f * 32 + q, none⟩ (.int .u32 v)).drew (some fb) := grownBy_from (b := w.drewN m) (grownBy_heap (grownBy_setCell _ _ _ _) rfl rfl rfl rfl) rfl rfl rfl rfl
  refine ⟨h.row_ne hg ?_ (by rw [List.length_set]; exact h.len), hg⟩
  have := heap_setCell_same (w.drewN m) fb (f * 32 + q) (wordsV L) 83 (.int .u32 v) h.row
  rw [wordsV_set] at this
  exact this
theorem put_page {w : World} {mp fb n f : Nat} {L R : List Int} (m : Nat) (h : MemSt w mp fb n L) (hf : f < n) (hR : R.length = 32) : Puts w ((w.drewN m).setRow fb (wordsV (putRow L f R))) mp fb n (putRow L f R) := by
  have hg : w.grownBy ((w.drewN m).setRow fb (wordsV (putRow L f R))) (some fb) := grownBy_from (b := w.drewN m) (grownBy_setRow _ _ _) rfl rfl rfl rfl
  exact ⟨h.row_ne hg (setRow_heap (w.drewN m) fb _ _ _ _ h.row) (putRow_length h.len hf hR), hg⟩

theorem write_err (k : Int) (p : Option Addr) (f q v : Int) (w : World) (hk : ∀ (d : Value) (W : World) (bm bf bp : Nat), Below w.heap.size w W → AskSt W bm bf bp (.pointer p) f q →
      Calls Tryd.prog 59 #[d, .pointer (some ⟨bm, 0, none⟩), .pointer (some ⟨bf, 0, none⟩), .pointer (some ⟨bp, 0, none⟩)] W fun e w' => e = .returned (.int .i64 k) ∧ Below W.heap.size W w') :
    Calls Tryd.prog 24 #[.pointer p, .int .i64 f, .int .i64 q, .int .u32 v] w fun e w' => e = .returned (.int .i64 k) ∧ Below w.heap.size w w' := by
  have hmf : ∀ (fn : Fn) (first cap : Array Value) (w : World), (Instr.makeFunc fn first cap).run Tryd.prog w = .ok (.func fn first cap) w := fun _ _ _ _ => rfl
  have HK := Lib.hid hk
  clear hk
  go_enter Tryd.func24, Tryd.ntmps24
  go_wp2_with fail
  refine (in_any p f q _).mono ?_
  rintro e w1 ⟨bm, bf, bp, rfl, hA, hb⟩
  have B1 := Lib.hid ((below_two w (.cells #[.int .i64 q] 3) (.cells #[.int .u32 v] 62)).trans (hb.mono (by simp; omega)))
  have HA := Lib.hid hA
  clear hA hb
  go_wp2_with fail
  refine (HK.out _ _ _ _ _ B1.out HA.out).mono ?_
  rintro e w2 ⟨rfl, hb⟩
  have B2 := Lib.hid (B1.out.trans (hb.mono B1.out.size))
  clear hb
  go_wp2
  go_ret
  exact ⟨rfl, B2.out⟩
theorem write_no (p : Option Addr) (f q v : Int) (w : World) (hp : NoMem w p) :
    Calls Tryd.prog 24 #[.pointer p, .int .i64 f, .int .i64 q, .int .u32 v] w fun e w' => e = .returned (.int .i64 1) ∧ Below w.heap.size w w' :=
  write_err 1 p f q v w fun d W bm bf bp hb hA => ask_no d bm bf bp p f q W hA (hp.below hb)
theorem write_bad (mp fb n : Nat) (L : List Int) (f q v : Int) (w : World) (hm : MemSt w mp fb n L) (hbad : ¬ okFQ n f q) :
    Calls Tryd.prog 24 #[.pointer (some ⟨mp, 0, none⟩), .int .i64 f, .int .i64 q, .int .u32 v] w fun e w' => e = .returned (.int .i64 2) ∧ Below w.heap.size w w' :=
  write_err 2 _ f q v w fun d W bm bf bp hb hA => ask_bad d bm bf bp mp fb n f q L W hA (hm.below hb) hbad
set_option maxRecDepth 100000 in
set_option maxHeartbeats 800000 in
theorem write_ok (mp fb n f q : Nat) (L : List Int) (v : Int) (w : World) (hm : MemSt w mp fb n L) (hf : f < n) (hq : q < 32) :
    Calls Tryd.prog 24 #[.pointer (some ⟨mp, 0, none⟩), .int .i64 f, .int .i64 q, .int .u32 v] w fun e w' => e = .returned (.int .i64 0) ∧ Puts w w' mp fb n (L.set (f * 32 + q) v) := by
  have hmf : ∀ (fn : Fn) (first cap : Array Value) (w : World), (Instr.makeFunc fn first cap).run Tryd.prog w = .ok (.func fn first cap) w := fun _ _ _ _ => rfl
  have HM := Lib.hid hm
  clear hm
  go_enter Tryd.func24, Tryd.ntmps24
  go_wp2_with fail
  refine (in_any _ _ _ _).mono ?_
  rintro e w1 ⟨bm, bf, bp, rfl, hA, hb⟩
  have B1 := Lib.hid ((below_two w (.cells #[.int .i64 q] 3) (.cells #[.int .u32 v] 62)).trans (hb.mono (by simp; omega)))
  have hw := Lib.hid (below_block hb (two_new w (.int .i64 q) (.int .u32 v) 3 62).2)
  have hq1 := Lib.hid (below_block hb (two_new w (.int .i64 q) (.int .u32 v) 3 62).1)
  have HA := Lib.hid hA
  have HM1 := Lib.hid (HM.out.below B1.out)
  clear hA hb
  go_wp2_with fail
  refine (ask_ok _ _ enters_Write1 bm bf bp mp fb n f q w1 (fun w' => Puts w1 w' mp fb n (L.set (f * 32 + q) v)) HA.out HM1.out.cellM hf (by omega) (by omega) (fun m => ?_)).mono ?_
  · refine (writeIt fb f q w.heap.size (w.heap.size + 1) v (L.getD (f * 32 + q) 0) (w1.drewN m) hq (HM1.out.cellF hf hq) (HM1.out.freeF _) (cell_of_one hq1.out) (cell_of_one hw.out)).mono ?_
    rintro e w' ⟨rfl, rfl⟩
    exact ⟨rfl, set_page m v HM1.out⟩
  rintro e w2 ⟨rfl, hb⟩
  have B2 := Lib.hid (Puts.ahead B1.out hb)
  clear hb
  go_wp2
  go_ret
  exact ⟨rfl, B2.out⟩

theorem zero_err (k : Int) (p : Option Addr) (f : Int) (w : World) (hk : ∀ (d : Value) (W : World) (bm bf bp : Nat), Below w.heap.size w W → AskSt W bm bf bp (.pointer p) f 0 →
      Calls Tryd.prog 59 #[d, .pointer (some ⟨bm, 0, none⟩), .pointer (some ⟨bf, 0, none⟩), .pointer (some ⟨bp, 0, none⟩)] W fun e w' => e = .returned (.int .i64 k) ∧ Below W.heap.size W w') :
    Calls Tryd.prog 42 #[.pointer p, .int .i64 f] w fun e w' => e = .returned (.int .i64 k) ∧ Below w.heap.size w w' := by
  have HK := Lib.hid hk
  clear hk
  go_enter Tryd.func42, Tryd.ntmps42
  go_wp2_with fail
  refine (whole_any p f _).mono ?_
  rintro e w1 ⟨bm, bf, bp, rfl, hA, hb⟩
  have B1 := Lib.hid hb
  have HA := Lib.hid hA
  clear hA hb
  go_wp2_with fail
  refine (HK.out _ _ _ _ _ B1.out HA.out).mono ?_
  rintro e w2 ⟨rfl, hb⟩
  have B2 := Lib.hid (B1.out.trans (hb.mono B1.out.size))
  clear hb
  go_wp2
  go_ret
  exact ⟨rfl, B2.out⟩
theorem zero_no (p : Option Addr) (f : Int) (w : World) (hp : NoMem w p) :
    Calls Tryd.prog 42 #[.pointer p, .int .i64 f] w fun e w' => e = .returned (.int .i64 1) ∧ Below w.heap.size w w' :=
  zero_err 1 p f w fun d W bm bf bp hb hA => ask_no d bm bf bp p f 0 W hA (hp.below hb)
theorem zero_bad (mp fb n : Nat) (L : List Int) (f : Int) (w : World) (hm : MemSt w mp fb n L) (hbad : ¬ okFQ n f 0) :
    Calls Tryd.prog 42 #[.pointer (some ⟨mp, 0, none⟩), .int .i64 f] w fun e w' => e = .returned (.int .i64 2) ∧ Below w.heap.size w w' :=
  zero_err 2 _ f w fun d W bm bf bp hb hA => ask_bad d bm bf bp mp fb n f 0 L W hA (hm.below hb) hbad
set_option maxRecDepth 100000 in
set_option maxHeartbeats 800000 in
theorem zero_ok (mp fb n f : Nat) (L : List Int) (w : World) (hm : MemSt w mp fb n L) (hf : f < n) :
    Calls Tryd.prog 42 #[.pointer (some ⟨mp, 0, none⟩), .int .i64 f] w fun e w' => e = .returned (.int .i64 0) ∧ Puts w w' mp fb n (putRow L f zeros) := by
  have HM := Lib.hid hm
  clear hm
  go_enter Tryd.func42, Tryd.ntmps42
  go_wp2_with fail
  refine (whole_any _ _ _).mono ?_
  rintro e w1 ⟨bm, bf, bp, rfl, hA, hb⟩
  have B1 := Lib.hid hb
  have HA := Lib.hid hA
  have HM1 := Lib.hid (HM.out.below B1.out)
  clear hA hb
  go_wp2_with fail
  refine (ask_ok _ _ enters_Zero1 bm bf bp mp fb n f 0 w1 (fun w' => Puts w1 w' mp fb n (putRow L f zeros)) HA.out HM1.out.cellM hf (by omega) (by omega) (fun m => ?_)).mono ?_
  · refine (zeroIt fb f n L (w1.drewN m) _ HM1.out.row HM1.out.len hf).mono ?_
    rintro e w' ⟨rfl, rfl⟩
    exact ⟨rfl, put_page m HM1.out hf rfl⟩
  rintro e w2 ⟨rfl, hb⟩
  have B2 := Lib.hid (Puts.ahead B1.out hb)
  clear hb
  go_wp2
  go_ret
  exact ⟨rfl, B2.out⟩

theorem page_err (k : Int) (hk0 : (k == 0) = false) (p : Option Addr) (f : Int) (w : World) (hk : ∀ (d : Value) (W : World) (bm bf bp : Nat), Below w.heap.size w W → AskSt W bm bf bp (.pointer p) f 0 →
      Calls Tryd.prog 59 #[d, .pointer (some ⟨bm, 0, none⟩), .pointer (some ⟨bf, 0, none⟩), .pointer (some ⟨bp, 0, none⟩)] W fun e w' => e = .returned (.int .i64 k) ∧ Below W.heap.size W w') :
    Calls Tryd.prog 15 #[.pointer p, .int .i64 f] w fun e w' => e = .returned (.tuple #[.slice none 0 0, .int .i64 k]) ∧ Below w.heap.size w w' := by
  have hmf : ∀ (fn : Fn) (first cap : Array Value) (w : World), (Instr.makeFunc fn first cap).run Tryd.prog w = .ok (.func fn first cap) w := fun _ _ _ _ => rfl
  have hz := pageZero
  have HK := Lib.hid hk
  have hk1 : (k != 0) = true := by simp at hk0 ⊢; exact hk0
  clear hk
  go_enter Tryd.func15, Tryd.ntmps15
  go_wp2_with fail
  refine (whole_any p f _).mono ?_
  rintro e w1 ⟨bm, bf, bp, rfl, hA, hb⟩
  have B1 := Lib.hid (((Below.refl _ _).alloc (Nat.le_refl _) (.cells (wordsV zeros) 83)).trans (hb.mono (by simp)))
  have HA := Lib.hid hA
  clear hA hb
  go_wp2_with fail
  refine (HK.out _ _ _ _ _ B1.out HA.out).mono ?_
  rintro e w2 ⟨rfl, hb⟩
  have B2 := Lib.hid (B1.out.trans (hb.mono B1.out.size))
  clear hb
  go_wp2
  go_ret2
  exact ⟨rfl, B2.out⟩
theorem page_no (p : Option Addr) (f : Int) (w : World) (hp : NoMem w p) :
    Calls Tryd.prog 15 #[.pointer p, .int .i64 f] w fun e w' => e = .returned (.tuple #[.slice none 0 0, .int .i64 1]) ∧ Below w.heap.size w w' :=
  page_err 1 rfl p f w fun d W bm bf bp hb hA => ask_no d bm bf bp p f 0 W hA (hp.below hb)
theorem page_bad (mp fb n : Nat) (L : List Int) (f : Int) (w : World) (hm : MemSt w mp fb n L) (hbad : ¬ okFQ n f 0) :
    Calls Tryd.prog 15 #[.pointer (some ⟨mp, 0, none⟩), .int .i64 f] w fun e w' => e = .returned (.tuple #[.slice none 0 0, .int .i64 2]) ∧ Below w.heap.size w w' :=
  page_err 2 rfl _ f w fun d W bm bf bp hb hA => ask_bad d bm bf bp mp fb n f 0 L W hA (hm.below hb) hbad

/-- A slice of new memory that has these words. -/
def NewRow (B : Nat) (w : World) (v : Value) (R : List Int) : Prop := ∃ b t, v = .slice (some ⟨b, 0, none⟩) R.length R.length ∧ B ≤ b ∧ w.heap[b]? = some (.cells (wordsV R) t (0, 0))

set_option maxRecDepth 100000 in
set_option maxHeartbeats 800000 in
theorem page_ok (mp fb n f : Nat) (L : List Int) (w : World) (hm : MemSt w mp fb n L) (hf : f < n) :
    Calls Tryd.prog 15 #[.pointer (some ⟨mp, 0, none⟩), .int .i64 f] w fun e w' => ∃ v, e = .returned (.tuple #[v, .int .i64 0]) ∧ NewRow w.heap.size w' v (rowOf L f) ∧ Below w.heap.size w w' := by
  have hmf : ∀ (fn : Fn) (first cap : Array Value) (w : World), (Instr.makeFunc fn first cap).run Tryd.prog w = .ok (.func fn first cap) w := fun _ _ _ _ => rfl
  have hz := pageZero
  have HM := Lib.hid hm
  clear hm
  go_enter Tryd.func15, Tryd.ntmps15
  go_wp2_with fail
  refine (whole_any _ _ _).mono ?_
  rintro e w1 ⟨bm, bf, bp, rfl, hA, hb⟩
  have B1 := Lib.hid (((Below.refl _ _).alloc (Nat.le_refl _) (.cells (wordsV zeros) 83)).trans (hb.mono (by simp)))
  have hx := Lib.hid (below_block hb (heap_alloc_new w (.cells (wordsV zeros) 83)))
  have HA := Lib.hid hA
  have HM1 := Lib.hid (HM.out.below B1.out)
  clear hA hb
  go_wp2_with fail
  refine (ask_ok _ _ enters_Page1 bm bf bp mp fb n f 0 w1 (fun w' => Below w.heap.size w1 w' ∧ w'.heap[w.heap.size]? = some (.cells (wordsV (rowOf L f)) 83 (0, 0))) HA.out HM1.out.cellM hf (by omega) (by omega) (fun m => ?_)).mono ?_
  · refine (pageIt fb f n w.heap.size L zeros (w1.drewN m) _ _ HM1.out.row HM1.out.len hf hx.out rfl).mono ?_
    rintro e w' ⟨rfl, rfl⟩
    exact ⟨rfl, below_setRow (below_drewN (Below.refl _ _) m) (Nat.le_refl _) _, setRow_heap (w1.drewN m) _ _ _ _ _ hx.out⟩
  rintro e w2 ⟨rfl, hb, hr⟩
  have B2 := Lib.hid (B1.out.trans hb)
  have HR := Lib.hid hr
  have hlen := Lib.hid (rowOf_length HM1.out.len hf)
  clear hb hr
  go_wp2
  go_ret2
  exact ⟨_, rfl, ⟨w.heap.size, _, by rw [hlen.out]; rfl, Nat.le_refl _, HR.out⟩, B2.out⟩
end Go.Proofs.YtiohnhgoddfebaaDoor
