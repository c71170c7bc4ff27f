/- Texts of mine, joined: M4 M5 M6 M7. What each says and under which conditions stands at its head, below. -/
import Derived.Test.YtfpcoomkbmfchaaGreatDoorGC3
import Derived.OneCell
/- The contracts of package mem's Read and Write. Conditions: the memory lies as New laid it, or there is none. -/
namespace Go.Proofs.YtfpcoomkbmfchaaGreatDoor
open Go.RowKit
set_option maxRecDepth 100000

/-- There is such a place. -/
def okFQ (n : Nat) (f q : Int) : Prop := 0 ≤ f ∧ f < n ∧ 0 ≤ q ∧ q < 32

/-- No memory: none is there, or nobody made it. -/
def NoMem (w : World) (p : Option Addr) : Prop := p = none ∨ ∃ mp, p = some ⟨mp, 0, none⟩ ∧ w.cell? ⟨mp, 0, none⟩ = some (.slice none 0 0)

theorem below_block {w w' : World} {k : Nat} {o : Obj} (hb : Below w.heap.size w w') (h : w.heap[k]? = some o) : w'.heap[k]? = some o :=
  (hb.block k (lt_of_block h)).trans h
theorem MemSt.below {w w' : World} {mp fb n : Nat} {L : List Int} (h : MemSt w mp fb n L) (hb : Below w.heap.size w w') : MemSt w' mp fb n L :=
  ⟨below_block hb h.box, below_block hb h.row, h.len, h.ne, h.pos, h.top⟩
theorem below_drewN {B : Nat} {a w : World} (h : Below B a w) (n : Nat) : Below B a (w.drewN n) := ⟨h.os, h.tape, h.output, h.size, h.block⟩
theorem below_from_drewN {B : Nat} {w w' : World} {n : Nat} (h : Below B (w.drewN n) w') : Below B w w' := ⟨h.os, h.tape, h.output, h.size, h.block⟩
theorem below_setRow {B : Nat} {a w : World} (h : Below B a w) {g : Nat} (hg : B ≤ g) (cs : Array Value) : Below B a (w.setRow g cs) :=
  h.trans ⟨rfl, rfl, rfl, by simp, fun k hk => by simp only [World.setRow, Array.getElem?_modify]; rw [if_neg (by omega)]⟩

/-- The place is none: the closure tells it. -/
theorem ask_bad (d : Value) (bm bf bp mp fb n : Nat) (f q : Int) (L : List Int) (w : World) (h : AskSt w bm bf bp (.pointer (some ⟨mp, 0, none⟩)) f q) (hm : MemSt w mp fb n L) (hbad : ¬ okFQ n f q) :
    Calls Tryz.prog 134 #[d, .pointer (some ⟨bm, 0, none⟩), .pointer (some ⟨bf, 0, none⟩), .pointer (some ⟨bp, 0, none⟩)] w fun e w' => e = .returned (.int .i64 2) ∧ Below w.heap.size w w' := by
  have done : ∀ (e : Ending) (w' : World), (e = .returned (.int .i64 2) ∧ ∃ m, w' = w.drewN m) → e = .returned (.int .i64 2) ∧ Below w.heap.size w w' := fun e w' ⟨he, m, hw⟩ => ⟨he, by rw [hw]; exact below_drewN (Below.refl _ _) m⟩
  by_cases h1 : f < 0
  · exact (ask_neg d bm bf bp mp n _ f q w h hm.pos hm.cellM h1).mono done
  by_cases h2 : n ≤ f
  · exact (ask_big d bm bf bp mp n _ f q w h hm.pos hm.cellM h2).mono done
  · exact (ask_place d bm bf bp mp n _ f q w h hm.pos hm.cellM (by omega) (by omega) (by unfold okFQ at hbad; omega)).mono done
theorem AskSt.start (w : World) (p : Value) (f q : Int) (t1 t2 t3 : TypeId) : AskSt (((w.alloc (.cells #[p] t1)).alloc (.cells #[.int .i64 f] t2)).alloc (.cells #[.int .i64 q] t3)) w.heap.size (w.heap.size + 1) (w.heap.size + 2) p f q := by
  refine ⟨?_, ?_, ?_⟩
  · rw [World.cell?_alloc_past _ _ _ (by simp; omega), World.cell?_alloc_past _ _ _ (by simp), World.cell?_alloc_at _ _ _ _ rfl]; rfl
  · rw [World.cell?_alloc_past _ _ _ (by simp), World.cell?_alloc_at _ _ _ _ (by simp)]; rfl
  · rw [World.cell?_alloc_at _ _ _ _ (by simp)]; rfl

set_option maxRecDepth 100000 in
set_option maxHeartbeats 400000 in
theorem in_any (p : Option Addr) (f q : Int) (w : World) :
    Calls Tryz.prog 83 #[.pointer p, .int .i64 f, .int .i64 q] w fun e w' => ∃ bm bf bp, e = .returned (.func (.func 134) #[] #[.pointer (some ⟨bm, 0, none⟩), .pointer (some ⟨bf, 0, none⟩), .pointer (some ⟨bp, 0, none⟩)]) ∧ AskSt w' bm bf bp (.pointer p) f q ∧ Below w.heap.size w w' := by
  have hmf : ∀ (fn : Fn) (first cap : Array Value) (w : World), (Instr.makeFunc fn first cap).run Tryz.prog w = .ok (.func fn first cap) w := fun _ _ _ _ => rfl
  go_enter Tryz.func83, Tryz.ntmps83
  go_wp2
  go_ret
  exact ⟨_, _, _, rfl, AskSt.start w (.pointer p) f q _ _ _, (((Below.refl _ _).alloc (Nat.le_refl _) _).alloc (by simp) _).alloc (by simp; omega) _⟩
set_option maxRecDepth 100000 in
set_option maxHeartbeats 400000 in
theorem whole_any (p : Option Addr) (f : Int) (w : World) :
    Calls Tryz.prog 171 #[.pointer p, .int .i64 f] w fun e w' => ∃ bm bf bp, e = .returned (.func (.func 134) #[] #[.pointer (some ⟨bm, 0, none⟩), .pointer (some ⟨bf, 0, none⟩), .pointer (some ⟨bp, 0, none⟩)]) ∧ AskSt w' bm bf bp (.pointer p) f 0 ∧ Below w.heap.size w w' := by
  go_enter Tryz.func171, Tryz.ntmps171
  go_wp2_with fail
  refine (in_any p f 0 w).mono ?_
  rintro e w1 ⟨bm, bf, bp, rfl, hA, hb⟩
  have HA := Lib.hid hA
  have HB := Lib.hid hb
  clear hA hb
  go_wp2
  go_ret
  exact ⟨_, _, _, rfl, HA.out, HB.out⟩

theorem enters_Read1 (args : Array Value) (W : World) : (callFunc 84 args).run Tryz.prog W = .ok (.enter 84 args) W := enters Tryz.func84 rfl rfl args W
theorem enters_Write1 (args : Array Value) (W : World) : (callFunc 111 args).run Tryz.prog W = .ok (.enter 111 args) W := enters Tryz.func111 rfl rfl args W
theorem enters_Zero1 (args : Array Value) (W : World) : (callFunc 172 args).run Tryz.prog W = .ok (.enter 172 args) W := enters Tryz.func172 rfl rfl args W
theorem enters_Copy1 (args : Array Value) (W : World) : (callFunc 181 args).run Tryz.prog W = .ok (.enter 181 args) W := enters Tryz.func181 rfl rfl args W
theorem enters_Copy2 (args : Array Value) (W : World) : (callFunc 182 args).run Tryz.prog W = .ok (.enter 182 args) W := enters Tryz.func182 rfl rfl args W
theorem two_new (w : World) (u v : Value) (t1 t2 : TypeId) : ((w.alloc (.cells #[u] t1)).alloc (.cells #[v] t2)).heap[w.heap.size]? = some (.cells #[u] t1 (0, 0)) ∧ ((w.alloc (.cells #[u] t1)).alloc (.cells #[v] t2)).heap[w.heap.size + 1]? = some (.cells #[v] t2 (0, 0)) :=
  ⟨heap_alloc2_old _ _ _, heap_alloc2_new _ _ _⟩
theorem below_two (w : World) (u v : Obj) : Below w.heap.size w ((w.alloc u).alloc v) := ((Below.refl _ _).alloc (Nat.le_refl _) _).alloc (by simp) _

/-- Read, where the closure answers an error. -/
theorem read_err (k : Int) (p : Option Addr) (f q : Int) (w : World) (hk : ∀ (d : Value) (W : World) (bm bf bp : Nat), Below w.heap.size w W → AskSt W bm bf bp (.pointer p) f q →
      Calls Tryz.prog 134 #[d, .pointer (some ⟨bm, 0, none⟩), .pointer (some ⟨bf, 0, none⟩), .pointer (some ⟨bp, 0, none⟩)] W fun e w' => e = .returned (.int .i64 k) ∧ Below W.heap.size W w') :
    Calls Tryz.prog 39 #[.pointer p, .int .i64 f, .int .i64 q] w fun e w' => e = .returned (.tuple #[.int .u32 0, .int .i64 k]) ∧ Below w.heap.size w w' := by
  have hmf : ∀ (fn : Fn) (first cap : Array Value) (w : World), (Instr.makeFunc fn first cap).run Tryz.prog w = .ok (.func fn first cap) w := fun _ _ _ _ => rfl
  have HK := Lib.hid hk
  clear hk
  go_enter Tryz.func39, Tryz.ntmps39
  go_wp2_with fail
  refine (in_any p f q _).mono ?_
  rintro e w1 ⟨bm, bf, bp, rfl, hA, hb⟩
  have B1 := Lib.hid ((below_two w (.cells #[.int .i64 q] 3) (.cells #[.int .u32 0] 25)).trans (hb.mono (by simp; omega)))
  have hw := Lib.hid (below_block hb (two_new w (.int .i64 q) (.int .u32 0) 3 25).2)
  have HA := Lib.hid hA
  clear hA hb
  go_wp2_with fail
  refine (HK.out _ _ _ _ _ B1.out HA.out).mono ?_
  rintro e w2 ⟨rfl, hb⟩
  have hw2 := cell_of_one (below_block hb hw.out)
  have B2 := Lib.hid (B1.out.trans (hb.mono B1.out.size))
  clear hb
  go_wp2
  go_ret2
  exact ⟨rfl, B2.out⟩
theorem read_bad (mp fb n : Nat) (L : List Int) (f q : Int) (w : World) (hm : MemSt w mp fb n L) (hbad : ¬ okFQ n f q) :
    Calls Tryz.prog 39 #[.pointer (some ⟨mp, 0, none⟩), .int .i64 f, .int .i64 q] w fun e w' => e = .returned (.tuple #[.int .u32 0, .int .i64 2]) ∧ Below w.heap.size w w' :=
  read_err 2 _ f q w fun d W bm bf bp hb hA => ask_bad d bm bf bp mp fb n f q L W hA (hm.below hb) hbad

theorem MemSt.cellF {w : World} {mp fb n : Nat} {L : List Int} (h : MemSt w mp fb n L) {f q : Nat} (hf : f < n) (hq : q < 32) : w.cell? ⟨fb, f * 32 + q, none⟩ = some (.int .u32 (L.getD (f * 32 + q) 0)) := by
  rw [cell_of_row w fb _ _ _ _ h.row]
  exact wordsV_get L _ (by rw [h.len]; omega)
theorem MemSt.freeF {w : World} {mp fb n : Nat} {L : List Int} (h : MemSt w mp fb n L) (i : Nat) : w.frozen? ⟨fb, i, none⟩ = false := frozen_of_row w fb i _ _ h.row

set_option maxRecDepth 100000 in
set_option maxHeartbeats 800000 in
theorem read_ok (mp fb n f q : Nat) (L : List Int) (w : World) (hm : MemSt w mp fb n L) (hf : f < n) (hq : q < 32) :
    Calls Tryz.prog 39 #[.pointer (some ⟨mp, 0, none⟩), .int .i64 f, .int .i64 q] w fun e w' => e = .returned (.tuple #[.int .u32 (L.getD (f * 32 + q) 0), .int .i64 0]) ∧ Below w.heap.size w w' := by
  have hmf : ∀ (fn : Fn) (first cap : Array Value) (w : World), (Instr.makeFunc fn first cap).run Tryz.prog w = .ok (.func fn first cap) w := fun _ _ _ _ => rfl
  have HM := Lib.hid hm
  clear hm
  go_enter Tryz.func39, Tryz.ntmps39
  go_wp2_with fail
  refine (in_any _ _ _ _).mono ?_
  rintro e w1 ⟨bm, bf, bp, rfl, hA, hb⟩
  have B1 := Lib.hid ((below_two w (.cells #[.int .i64 q] 3) (.cells #[.int .u32 0] 25)).trans (hb.mono (by simp; omega)))
  have hw := Lib.hid (below_block hb (two_new w (.int .i64 q) (.int .u32 0) 3 25).2)
  have hq1 := Lib.hid (below_block hb (two_new w (.int .i64 q) (.int .u32 0) 3 25).1)
  have HA := Lib.hid hA
  have HM1 := Lib.hid (HM.out.below B1.out)
  clear hA hb
  go_wp2_with fail
  refine (ask_ok _ _ enters_Read1 bm bf bp mp fb n f q w1 (fun w' => Below (w.heap.size + 1) w1 w' ∧ w'.cell? ⟨w.heap.size + 1, 0, none⟩ = some (.int .u32 (L.getD (f * 32 + q) 0))) HA.out HM1.out.cellM hf (by omega) (by omega) (fun m => ?_)).mono ?_
  · refine (readIt fb f q w.heap.size (w.heap.size + 1) (L.getD (f * 32 + q) 0) 0 (w1.drewN m) hq (HM1.out.cellF hf hq) (cell_of_one hq1.out) (cell_of_one hw.out) (free_of_one hw.out)).mono ?_
    rintro e w' ⟨rfl, rfl⟩
    refine ⟨rfl, below_from_drewN (((Below.refl _ _).setCell (p := ⟨w.heap.size + 1, 0, none⟩) (Nat.le_refl _) _).drew), ?_⟩
    exact World.cell?_setCell_same _ _ _ (cell_of_one hw.out)
  rintro e w2 ⟨rfl, hb, hw2⟩
  have B2 := Lib.hid (B1.out.trans (hb.mono (by omega)))
  clear hb
  go_wp2
  go_ret2
  exact ⟨rfl, B2.out⟩
end Go.Proofs.YtfpcoomkbmfchaaGreatDoor

/- The contracts of package mem's Write, Zero, Page. Conditions: the memory lies as New laid it, or there is none. -/
namespace Go.Proofs.YtfpcoomkbmfchaaGreatDoor
open Go.RowKit
set_option maxRecDepth 100000

theorem grownBy_of_below {w w' : World} (h : Below w.heap.size w w') (r : Option Nat) : w.grownBy w' r := ⟨h.os, h.tape, h.output, h.size, fun k hk _ => h.block k hk⟩
theorem below_of_grownBy {w w' : World} {r : Nat} (h : w.grownBy w' (some r)) {B : Nat} (hB : B ≤ w.heap.size) (hr : B ≤ r) : Below B w w' := ⟨h.os, h.tape, h.output, h.size, fun k hk => h.block k (by omega) (fun e => by have := Option.some.inj e; omega)⟩
theorem grownBy_trans {a b c : World} {r : Option Nat} (h : a.grownBy b r) (k : b.grownBy c r) : a.grownBy c r :=
  ⟨k.os.trans h.os, k.tape.trans h.tape, k.output.trans h.output, Nat.le_trans h.size k.size, fun i hi hne => (k.block i (Nat.lt_of_lt_of_le hi h.size) hne).trans (h.block i hi hne)⟩
theorem grownBy_setCell (w : World) (g i : Nat) (u : Value) : w.grownBy (w.setCell ⟨g, i, none⟩ u) (some g) :=
  ⟨rfl, rfl, rfl, by simp [World.setCell], fun k _ hne => Below.heap_setCell _ _ _ _ (fun e => hne (by rw [e]))⟩
theorem grownBy_setRow (w : World) (g : Nat) (cs : Array Value) : w.grownBy (w.setRow g cs) (some g) :=
  ⟨rfl, rfl, rfl, by simp, fun k _ hne => by simp only [World.setRow, Array.getElem?_modify]; rw [if_neg (fun e => hne (by rw [e]))]⟩
theorem grownBy_heap {a b c : World} {r : Option Nat} (h : a.grownBy b r) (e1 : c.heap = b.heap) (e2 : c.os = b.os) (e3 : c.tape = b.tape) (e4 : c.output = b.output) : a.grownBy c r :=
  ⟨e2.trans h.os, e3.trans h.tape, e4.trans h.output, by rw [e1]; exact h.size, fun k hk hne => by rw [e1]; exact h.block k hk hne⟩
theorem grownBy_from {a b c : World} {r : Option Nat} (h : b.grownBy c r) (e1 : b.heap = a.heap) (e2 : b.os = a.os) (e3 : b.tape = a.tape) (e4 : b.output = a.output) : a.grownBy c r :=
  ⟨h.os.trans e2, h.tape.trans e3, h.output.trans e4, by rw [← e1]; exact h.size, fun k hk hne => by rw [← e1]; exact h.block k (by rw [e1]; exact hk) hne⟩

theorem MemSt.row_ne {w w' : World} {mp fb n : Nat} {L L' : List Int} (h : MemSt w mp fb n L) (hg : w.grownBy w' (some fb)) (hr : w'.heap[fb]? = some (.cells (wordsV L') 205 (0, 0))) (hl : L'.length = n * 32) : MemSt w' mp fb n L' :=
  ⟨(hg.block mp (lt_of_block h.box) (fun e => h.ne (Option.some.inj e))).trans h.box, hr, hl, h.ne, h.pos, h.top⟩

/-- What a call does that changes the memory's words. -/
structure Puts (w w' : World) (mp fb n : Nat) (L : List Int) : Prop where
  st : MemSt w' mp fb n L
  grown : w.grownBy w' (some fb)
theorem Puts.ahead {w w1 w' : World} {mp fb n : Nat} {L : List Int} (hb : Below w.heap.size w w1) (h : Puts w1 w' mp fb n L) : Puts w w' mp fb n L := ⟨h.st, grownBy_trans (grownBy_of_below hb _) h.grown⟩
/-- The words with one of them put. -/
theorem set_page {w : World} {mp fb n f q : Nat} {L : List Int} (m : Nat) (v : Int) (h : MemSt w mp fb n L) : Puts w ((w.drewN m).setCell ⟨fb, f * 32 + q, none⟩ (.int .u32 v)).drew mp fb n (L.set (f * 32 + q) v) := by
  have hg : w.grownBy ((w.drewN m).setCell ⟨fb, f * 32 + q, none⟩ (.int .u32 v)).drew (some fb) := grownBy_from (b := w.drewN m) (grownBy_heap (grownBy_setCell _ _ _ _) rfl rfl rfl rfl) rfl rfl rfl rfl
  refine ⟨h.row_ne hg ?_ (by rw [List.length_set]; exact h.len), hg⟩
  have := heap_setCell_same (w.drewN m) fb (f * 32 + q) (wordsV L) 205 (.int .u32 v) h.row
  rw [wordsV_set] at this
  exact this
theorem put_page {w : World} {mp fb n f : Nat} {L R : List Int} (m : Nat) (h : MemSt w mp fb n L) (hf : f < n) (hR : R.length = 32) : Puts w ((w.drewN m).setRow fb (wordsV (putRow L f R))) mp fb n (putRow L f R) := by
  have hg : w.grownBy ((w.drewN m).setRow fb (wordsV (putRow L f R))) (some fb) := grownBy_from (b := w.drewN m) (grownBy_setRow _ _ _) rfl rfl rfl rfl
  exact ⟨h.row_ne hg (setRow_heap (w.drewN m) fb _ _ _ _ h.row) (putRow_length h.len hf hR), hg⟩

set_option maxRecDepth 100000 in
set_option maxHeartbeats 800000 in
theorem write_ok (mp fb n f q : Nat) (L : List Int) (v : Int) (w : World) (hm : MemSt w mp fb n L) (hf : f < n) (hq : q < 32) :
    Calls Tryz.prog 60 #[.pointer (some ⟨mp, 0, none⟩), .int .i64 f, .int .i64 q, .int .u32 v] w fun e w' => e = .returned (.int .i64 0) ∧ Puts w w' mp fb n (L.set (f * 32 + q) v) := by
  have hmf : ∀ (fn : Fn) (first cap : Array Value) (w : World), (Instr.makeFunc fn first cap).run Tryz.prog w = .ok (.func fn first cap) w := fun _ _ _ _ => rfl
  have HM := Lib.hid hm
  clear hm
  go_enter Tryz.func60, Tryz.ntmps60
  go_wp2_with fail
  refine (in_any _ _ _ _).mono ?_
  rintro e w1 ⟨bm, bf, bp, rfl, hA, hb⟩
  have B1 := Lib.hid ((below_two w (.cells #[.int .i64 q] 3) (.cells #[.int .u32 v] 25)).trans (hb.mono (by simp; omega)))
  have hw := Lib.hid (below_block hb (two_new w (.int .i64 q) (.int .u32 v) 3 25).2)
  have hq1 := Lib.hid (below_block hb (two_new w (.int .i64 q) (.int .u32 v) 3 25).1)
  have HA := Lib.hid hA
  have HM1 := Lib.hid (HM.out.below B1.out)
  clear hA hb
  go_wp2_with fail
  refine (ask_ok _ _ enters_Write1 bm bf bp mp fb n f q w1 (fun w' => Puts w1 w' mp fb n (L.set (f * 32 + q) v)) HA.out HM1.out.cellM hf (by omega) (by omega) (fun m => ?_)).mono ?_
  · refine (writeIt fb f q w.heap.size (w.heap.size + 1) v (L.getD (f * 32 + q) 0) (w1.drewN m) hq (HM1.out.cellF hf hq) (HM1.out.freeF _) (cell_of_one hq1.out) (cell_of_one hw.out)).mono ?_
    rintro e w' ⟨rfl, rfl⟩
    exact ⟨rfl, set_page m v HM1.out⟩
  rintro e w2 ⟨rfl, hb⟩
  have B2 := Lib.hid (Puts.ahead B1.out hb)
  clear hb
  go_wp2
  go_ret
  exact ⟨rfl, B2.out⟩

set_option maxRecDepth 100000 in
set_option maxHeartbeats 800000 in
theorem zero_ok (mp fb n f : Nat) (L : List Int) (w : World) (hm : MemSt w mp fb n L) (hf : f < n) :
    Calls Tryz.prog 158 #[.pointer (some ⟨mp, 0, none⟩), .int .i64 f] w fun e w' => e = .returned (.int .i64 0) ∧ Puts w w' mp fb n (putRow L f zeros) := by
  have HM := Lib.hid hm
  clear hm
  go_enter Tryz.func158, Tryz.ntmps158
  go_wp2_with fail
  refine (whole_any _ _ _).mono ?_
  rintro e w1 ⟨bm, bf, bp, rfl, hA, hb⟩
  have B1 := Lib.hid hb
  have HA := Lib.hid hA
  have HM1 := Lib.hid (HM.out.below B1.out)
  clear hA hb
  go_wp2_with fail
  refine (ask_ok _ _ enters_Zero1 bm bf bp mp fb n f 0 w1 (fun w' => Puts w1 w' mp fb n (putRow L f zeros)) HA.out HM1.out.cellM hf (by omega) (by omega) (fun m => ?_)).mono ?_
  · refine (zeroIt fb f n L (w1.drewN m) _ HM1.out.row HM1.out.len hf).mono ?_
    rintro e w' ⟨rfl, rfl⟩
    exact ⟨rfl, put_page m HM1.out hf rfl⟩
  rintro e w2 ⟨rfl, hb⟩
  have B2 := Lib.hid (Puts.ahead B1.out hb)
  clear hb
  go_wp2
  go_ret
  exact ⟨rfl, B2.out⟩

/-- A slice of new memory that has these words. -/
def NewRow (B : Nat) (w : World) (v : Value) (R : List Int) : Prop := ∃ b t, v = .slice (some ⟨b, 0, none⟩) R.length R.length ∧ B ≤ b ∧ w.heap[b]? = some (.cells (wordsV R) t (0, 0))

end Go.Proofs.YtfpcoomkbmfchaaGreatDoor

/- The contracts of package mem's Copy and New. Conditions: the memory lies as New laid it, or there is none. -/
namespace Go.Proofs.YtfpcoomkbmfchaaGreatDoor
open Go.RowKit
set_option maxRecDepth 100000

set_option maxRecDepth 100000 in
set_option maxHeartbeats 1000000 in
theorem copy_ok (mp fb n f t : Nat) (L : List Int) (w : World) (hm : MemSt w mp fb n L) (hf : f < n) (ht : t < n) :
    Calls Tryz.prog 173 #[.pointer (some ⟨mp, 0, none⟩), .int .i64 t, .int .i64 f] w fun e w' => e = .returned (.int .i64 0) ∧ Puts w w' mp fb n (putRow L t (rowOf L f)) := by
  have hmf : ∀ (fn : Fn) (first cap : Array Value) (w : World), (Instr.makeFunc fn first cap).run Tryz.prog w = .ok (.func fn first cap) w := fun _ _ _ _ => rfl
  have hz := pageZero
  have HM := Lib.hid hm
  clear hm
  go_enter Tryz.func173, Tryz.ntmps173
  go_wp2_with fail
  refine (whole_any _ _ _).mono ?_
  rintro e w1 ⟨bm, bf, bp, rfl, hA, hb⟩
  have B1 := Lib.hid (((Below.refl _ _).alloc (Nat.le_refl _) (.cells (wordsV zeros) 205)).trans (hb.mono (by simp)))
  have hx := Lib.hid (below_block hb (heap_alloc_new w (.cells (wordsV zeros) 205)))
  have HA := Lib.hid hA
  have HM1 := Lib.hid (HM.out.below B1.out)
  clear hA hb
  go_wp2_with fail
  refine (ask_ok _ _ enters_Copy1 bm bf bp mp fb n f 0 w1 (fun w' => Below w.heap.size w1 w' ∧ w'.heap[w.heap.size]? = some (.cells (wordsV (rowOf L f)) 205 (0, 0))) HA.out HM1.out.cellM hf (by omega) (by omega) (fun m => ?_)).mono ?_
  · refine (copyFrom fb f n w.heap.size L zeros (w1.drewN m) _ _ HM1.out.row HM1.out.len hf hx.out rfl).mono ?_
    rintro e w' ⟨rfl, rfl⟩
    exact ⟨rfl, below_setRow (below_drewN (Below.refl _ _) m) (Nat.le_refl _) _, setRow_heap (w1.drewN m) _ _ _ _ _ hx.out⟩
  rintro e w2 ⟨rfl, hb, hr⟩
  have B2 := Lib.hid (B1.out.trans hb)
  have HR2 := Lib.hid hr
  clear hb hr
  go_wp2_with fail
  refine (whole_any _ _ _).mono ?_
  rintro e w3 ⟨bm, bf, bp, rfl, hA, hb⟩
  have B3 := Lib.hid (B2.out.trans (hb.mono B2.out.size))
  have HR3 := Lib.hid (below_block hb HR2.out)
  have HA := Lib.hid hA
  have HM3 := Lib.hid (HM.out.below B3.out)
  clear hA hb
  go_wp2_with fail
  refine (ask_ok _ _ enters_Copy2 bm bf bp mp fb n t 0 w3 (fun w' => Puts w3 w' mp fb n (putRow L t (rowOf L f))) HA.out HM3.out.cellM ht (by omega) (by omega) (fun m => ?_)).mono ?_
  · refine (copyTo fb t n w.heap.size L (rowOf L f) (w3.drewN m) _ _ HM3.out.row HM3.out.len ht HR3.out (rowOf_length HM3.out.len hf)).mono ?_
    rintro e w' ⟨rfl, rfl⟩
    exact ⟨rfl, put_page m HM3.out ht (rowOf_length HM3.out.len hf)⟩
  rintro e w4 ⟨rfl, hb⟩
  have B4 := Lib.hid (Puts.ahead B3.out hb)
  clear hb
  go_wp2
  go_ret
  exact ⟨rfl, B4.out⟩

theorem pageInfoB : (Tryz.prog.info? 205).map (fun i => (i.zero, i.size, i.bytes)) = some (some (.agg (wordsV zeros)), 32, 128) := by kernel_rfl
theorem made_page (n : Nat) : madeCells (wordsV zeros) (n * 32) = wordsV (List.replicate (n * 32) 0) := by
  have e : ∀ i, i < 32 → (wordsV zeros)[i]! = .int .u32 0 := fun i hi => by
    rw [show wordsV zeros = Array.replicate 32 (.int .u32 0) from rfl, getElem!_pos _ i (by simpa using hi), Array.getElem_replicate]
  apply Array.ext
  · rw [size_madeCells, wordsV_size, List.length_replicate]
  · intro i h1 h2
    have h3 : i % (wordsV zeros).size < 32 := Nat.mod_lt _ (by decide)
    have : (madeCells (wordsV zeros) (n * 32))[i] = (wordsV zeros)[i % (wordsV zeros).size]! := by simp only [madeCells, Array.getElem_map, Array.getElem_range]
    rw [this, e _ h3]
    simp [wordsV]
theorem make_pages (n : Nat) (hn : n ≤ 1024) (w : World) : (Instr.makeSlice 113 (.int .i64 (n : Int)) (.int .i64 (n : Int))).run Tryz.prog w = .ok (.slice (some ⟨w.heap.size, 0, none⟩) n n) (w.alloc (.cells (wordsV (List.replicate (n * 32) 0)) 205)) := by
  have h := pageInfoB
  cases hq : Tryz.prog.info? 205 with
  | none => rw [hq] at h; cases h
  | some i =>
    rw [hq] at h
    simp only [Option.map_some, Option.some.injEq, Prod.mk.injEq] at h
    obtain ⟨h1, h2, h3⟩ := h
    have := run_make (P := Tryz.prog) w 113 205 i _ Tryz.underlying113 hq h1 .i64 .i64 n n (by omega) (by omega) (by rw [h3]; omega) (by omega)
    rw [h2] at this
    simpa [Value.cells, made_page] using this

/-- What New of so many frames leaves. -/
def NewPost (n : Nat) (w : World) (e : Ending) (w' : World) : Prop := ∃ mp fb, e = .returned (.tuple #[.pointer (some ⟨mp, 0, none⟩), .int .i64 0]) ∧ MemSt w' mp fb n (List.replicate (n * 32) 0) ∧ w.heap.size ≤ mp ∧ w.heap.size ≤ fb ∧ Below w.heap.size w w'
set_option maxRecDepth 100000 in
set_option maxHeartbeats 400000 in
theorem new_ok (n : Nat) (w : World) (h0 : 1 ≤ n) (h1 : n ≤ 1024) : Calls Tryz.prog 23 #[.int .i64 n] w (NewPost n w) := by
  have hmk := make_pages n h1
  have a1 : ¬ (n : Int) < 1 := by omega
  have a2 : ¬ (1024 : Int) < n := by omega
  go_enter Tryz.func23, Tryz.ntmps23
  go_wp2
  go_ret2
  refine ⟨w.heap.size + 1, w.heap.size, rfl, MemSt.mk ?_ ?_ (by simp) ?_ h0 h1, ?_, ?_, ?_⟩
  · exact heap_alloc2_new _ _ _
  · exact heap_alloc2_old _ _ _
  · omega
  · omega
  · omega
  · exact ((Below.refl _ _).alloc (Nat.le_refl _) _).alloc (by simp) _
end Go.Proofs.YtfpcoomkbmfchaaGreatDoor

/- The contract of awake, layer 2's laws: it returns true. No condition. -/
namespace Go.Proofs.YtfpcoomkbmfchaaGreatDoor
open Go.RowKit
set_option maxRecDepth 100000

end Go.Proofs.YtfpcoomkbmfchaaGreatDoor
