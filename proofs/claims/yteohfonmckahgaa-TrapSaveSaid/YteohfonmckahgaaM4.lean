/- The contracts of package mem's Read and Write. Conditions: the memory lies as New laid it, or there is none. -/
import Derived.Test.YteohfonmckahgaaM3
import Derived.OneCell
namespace Go.Proofs.Yteohfonmckahgaa
open Go.RowKit
set_option maxRecDepth 100000

/-- There is such a place. -/
def okFQ (n : Nat) (f q : Int) : Prop := 0 ≤ f ∧ f < n ∧ 0 ≤ q ∧ q < 32

/-- No memory: none is there, or nobody made it. -/
def NoMem (w : World) (p : Option Addr) : Prop := p = none ∨ ∃ mp, p = some ⟨mp, 0, none⟩ ∧ w.cell? ⟨mp, 0, none⟩ = some (.slice none 0 0)

theorem below_block {w w' : World} {k : Nat} {o : Obj} (hb : Below w.heap.size w w') (h : w.heap[k]? = some o) : w'.heap[k]? = some o :=
  (hb.block k (lt_of_block h)).trans h
theorem MemSt.below {w w' : World} {mp fb n : Nat} {L : List Int} (h : MemSt w mp fb n L) (hb : Below w.heap.size w w') : MemSt w' mp fb n L :=
  ⟨below_block hb h.box, below_block hb h.row, h.len, h.ne, h.pos, h.top⟩
theorem MemSt.heap {w w' : World} {mp fb n : Nat} {L : List Int} (h : MemSt w mp fb n L) (hb : w'.heap = w.heap) : MemSt w' mp fb n L :=
  ⟨by rw [hb]; exact h.box, by rw [hb]; exact h.row, h.len, h.ne, h.pos, h.top⟩
theorem NoMem.below {w w' : World} {p : Option Addr} (h : NoMem w p) (hb : Below w.heap.size w w') : NoMem w' p := by
  rcases h with h | ⟨mp, h, k⟩
  · exact Or.inl h
  · exact Or.inr ⟨mp, h, (hb.cell (p := ⟨mp, 0, none⟩) (block_lt_of_cell k)).trans k⟩
theorem below_drewN {B : Nat} {a w : World} (h : Below B a w) (n : Nat) : Below B a (w.drewN n) := ⟨h.os, h.tape, h.output, h.size, h.block⟩
theorem below_from_drewN {B : Nat} {w w' : World} {n : Nat} (h : Below B (w.drewN n) w') : Below B w w' := ⟨h.os, h.tape, h.output, h.size, h.block⟩
theorem below_setRow {B : Nat} {a w : World} (h : Below B a w) {g : Nat} (hg : B ≤ g) (cs : Array Value) : Below B a (w.setRow g cs) :=
  h.trans ⟨rfl, rfl, rfl, by simp, fun k hk => by simp only [World.setRow, Array.getElem?_modify]; rw [if_neg (by omega)]⟩

/-- The place is none: the closure tells it. -/
theorem ask_bad (d : Value) (bm bf bp mp fb n : Nat) (f q : Int) (L : List Int) (w : World) (h : AskSt w bm bf bp (.pointer (some ⟨mp, 0, none⟩)) f q) (hm : MemSt w mp fb n L) (hbad : ¬ okFQ n f q) :
    Calls Try.prog 31 #[d, .pointer (some ⟨bm, 0, none⟩), .pointer (some ⟨bf, 0, none⟩), .pointer (some ⟨bp, 0, none⟩)] w fun e w' => e = .returned (.int .i64 2) ∧ Below w.heap.size w w' := by
  have done : ∀ (e : Ending) (w' : World), (e = .returned (.int .i64 2) ∧ ∃ m, w' = w.drewN m) → e = .returned (.int .i64 2) ∧ Below w.heap.size w w' := fun e w' ⟨he, m, hw⟩ => ⟨he, by rw [hw]; exact below_drewN (Below.refl _ _) m⟩
  by_cases h1 : f < 0
  · exact (ask_neg d bm bf bp mp n _ f q w h hm.pos hm.cellM h1).mono done
  by_cases h2 : n ≤ f
  · exact (ask_big d bm bf bp mp n _ f q w h hm.pos hm.cellM h2).mono done
  · exact (ask_place d bm bf bp mp n _ f q w h hm.pos hm.cellM (by omega) (by omega) (by unfold okFQ at hbad; omega)).mono done
/-- There is no memory: the closure tells it. -/
theorem ask_no (d : Value) (bm bf bp : Nat) (p : Option Addr) (f q : Int) (w : World) (h : AskSt w bm bf bp (.pointer p) f q) (hp : NoMem w p) :
    Calls Try.prog 31 #[d, .pointer (some ⟨bm, 0, none⟩), .pointer (some ⟨bf, 0, none⟩), .pointer (some ⟨bp, 0, none⟩)] w fun e w' => e = .returned (.int .i64 1) ∧ Below w.heap.size w w' := by
  rcases hp with rfl | ⟨mp, rfl, hz⟩
  · exact (ask_nil d bm bf bp f q w h).mono fun e w' ⟨he, hw⟩ => ⟨he, hw ▸ Below.refl _ _⟩
  · exact (ask_none d bm bf bp mp f q w h hz).mono fun e w' ⟨he, hw⟩ => ⟨he, hw ▸ Below.refl _ _⟩

theorem AskSt.start (w : World) (p : Value) (f q : Int) (t1 t2 t3 : TypeId) : AskSt (((w.alloc (.cells #[p] t1)).alloc (.cells #[.int .i64 f] t2)).alloc (.cells #[.int .i64 q] t3)) w.heap.size (w.heap.size + 1) (w.heap.size + 2) p f q := by
  refine ⟨?_, ?_, ?_⟩
  · rw [World.cell?_alloc_past _ _ _ (by simp; omega), World.cell?_alloc_past _ _ _ (by simp), World.cell?_alloc_at _ _ _ _ rfl]; rfl
  · rw [World.cell?_alloc_past _ _ _ (by simp), World.cell?_alloc_at _ _ _ _ (by simp)]; rfl
  · rw [World.cell?_alloc_at _ _ _ _ (by simp)]; rfl

set_option maxRecDepth 100000 in
set_option maxHeartbeats 400000 in
theorem in_any (p : Option Addr) (f q : Int) (w : World) :
    Calls Try.prog 24 #[.pointer p, .int .i64 f, .int .i64 q] w fun e w' => ∃ bm bf bp, e = .returned (.func (.func 31) #[] #[.pointer (some ⟨bm, 0, none⟩), .pointer (some ⟨bf, 0, none⟩), .pointer (some ⟨bp, 0, none⟩)]) ∧ AskSt w' bm bf bp (.pointer p) f q ∧ Below w.heap.size w w' := by
  have hmf : ∀ (fn : Fn) (first cap : Array Value) (w : World), (Instr.makeFunc fn first cap).run Try.prog w = .ok (.func fn first cap) w := fun _ _ _ _ => rfl
  go_enter Try.func24, Try.ntmps24
  go_wp2
  go_ret
  exact ⟨_, _, _, rfl, AskSt.start w (.pointer p) f q _ _ _, (((Below.refl _ _).alloc (Nat.le_refl _) _).alloc (by simp) _).alloc (by simp; omega) _⟩
set_option maxRecDepth 100000 in
set_option maxHeartbeats 400000 in
theorem whole_any (p : Option Addr) (f : Int) (w : World) :
    Calls Try.prog 28 #[.pointer p, .int .i64 f] w fun e w' => ∃ bm bf bp, e = .returned (.func (.func 31) #[] #[.pointer (some ⟨bm, 0, none⟩), .pointer (some ⟨bf, 0, none⟩), .pointer (some ⟨bp, 0, none⟩)]) ∧ AskSt w' bm bf bp (.pointer p) f 0 ∧ Below w.heap.size w w' := by
  go_enter Try.func28, Try.ntmps28
  go_wp2_with fail
  refine (in_any p f 0 w).mono ?_
  rintro e w1 ⟨bm, bf, bp, rfl, hA, hb⟩
  have HA := Lib.hid hA
  have HB := Lib.hid hb
  clear hA hb
  go_wp2
  go_ret
  exact ⟨_, _, _, rfl, HA.out, HB.out⟩

theorem enters_Read1 (args : Array Value) (W : World) : (callFunc 30 args).run Try.prog W = .ok (.enter 30 args) W := enters Try.func30 rfl rfl args W
theorem enters_Write1 (args : Array Value) (W : World) : (callFunc 25 args).run Try.prog W = .ok (.enter 25 args) W := enters Try.func25 rfl rfl args W
theorem enters_Page1 (args : Array Value) (W : World) : (callFunc 29 args).run Try.prog W = .ok (.enter 29 args) W := enters Try.func29 rfl rfl args W

theorem two_new (w : World) (u v : Value) (t1 t2 : TypeId) : ((w.alloc (.cells #[u] t1)).alloc (.cells #[v] t2)).heap[w.heap.size]? = some (.cells #[u] t1 (0, 0)) ∧ ((w.alloc (.cells #[u] t1)).alloc (.cells #[v] t2)).heap[w.heap.size + 1]? = some (.cells #[v] t2 (0, 0)) :=
  ⟨heap_alloc2_old _ _ _, heap_alloc2_new _ _ _⟩
theorem below_two (w : World) (u v : Obj) : Below w.heap.size w ((w.alloc u).alloc v) := ((Below.refl _ _).alloc (Nat.le_refl _) _).alloc (by simp) _

/-- Read, where the closure answers an error. -/
theorem read_err (k : Int) (p : Option Addr) (f q : Int) (w : World) (hk : ∀ (d : Value) (W : World) (bm bf bp : Nat), Below w.heap.size w W → AskSt W bm bf bp (.pointer p) f q →
      Calls Try.prog 31 #[d, .pointer (some ⟨bm, 0, none⟩), .pointer (some ⟨bf, 0, none⟩), .pointer (some ⟨bp, 0, none⟩)] W fun e w' => e = .returned (.int .i64 k) ∧ Below W.heap.size W w') :
    Calls Try.prog 22 #[.pointer p, .int .i64 f, .int .i64 q] w fun e w' => e = .returned (.tuple #[.int .u32 0, .int .i64 k]) ∧ Below w.heap.size w w' := by
  have hmf : ∀ (fn : Fn) (first cap : Array Value) (w : World), (Instr.makeFunc fn first cap).run Try.prog w = .ok (.func fn first cap) w := fun _ _ _ _ => rfl
  have HK := Lib.hid hk
  clear hk
  go_enter Try.func22, Try.ntmps22
  go_wp2_with fail
  refine (in_any p f q _).mono ?_
  rintro e w1 ⟨bm, bf, bp, rfl, hA, hb⟩
  have B1 := Lib.hid ((below_two w (.cells #[.int .i64 q] 3) (.cells #[.int .u32 0] 23)).trans (hb.mono (by simp; omega)))
  have hw := Lib.hid (below_block hb (two_new w (.int .i64 q) (.int .u32 0) 3 23).2)
  have HA := Lib.hid hA
  clear hA hb
  go_wp2_with fail
  refine (HK.out _ _ _ _ _ B1.out HA.out).mono ?_
  rintro e w2 ⟨rfl, hb⟩
  have hw2 := cell_of_one (below_block hb hw.out)
  have B2 := Lib.hid (B1.out.trans (hb.mono B1.out.size))
  clear hb
  go_wp2
  go_ret2
  exact ⟨rfl, B2.out⟩
theorem read_no (p : Option Addr) (f q : Int) (w : World) (hp : NoMem w p) :
    Calls Try.prog 22 #[.pointer p, .int .i64 f, .int .i64 q] w fun e w' => e = .returned (.tuple #[.int .u32 0, .int .i64 1]) ∧ Below w.heap.size w w' :=
  read_err 1 p f q w fun d W bm bf bp hb hA => ask_no d bm bf bp p f q W hA (hp.below hb)
theorem read_bad (mp fb n : Nat) (L : List Int) (f q : Int) (w : World) (hm : MemSt w mp fb n L) (hbad : ¬ okFQ n f q) :
    Calls Try.prog 22 #[.pointer (some ⟨mp, 0, none⟩), .int .i64 f, .int .i64 q] w fun e w' => e = .returned (.tuple #[.int .u32 0, .int .i64 2]) ∧ Below w.heap.size w w' :=
  read_err 2 _ f q w fun d W bm bf bp hb hA => ask_bad d bm bf bp mp fb n f q L W hA (hm.below hb) hbad

theorem MemSt.cellF {w : World} {mp fb n : Nat} {L : List Int} (h : MemSt w mp fb n L) {f q : Nat} (hf : f < n) (hq : q < 32) : w.cell? ⟨fb, f * 32 + q, none⟩ = some (.int .u32 (L.getD (f * 32 + q) 0)) := by
  rw [cell_of_row w fb _ _ _ _ h.row]
  exact wordsV_get L _ (by rw [h.len]; omega)
theorem MemSt.freeF {w : World} {mp fb n : Nat} {L : List Int} (h : MemSt w mp fb n L) (i : Nat) : w.frozen? ⟨fb, i, none⟩ = false := frozen_of_row w fb i _ _ h.row

set_option maxRecDepth 100000 in
set_option maxHeartbeats 800000 in
theorem read_ok (mp fb n f q : Nat) (L : List Int) (w : World) (hm : MemSt w mp fb n L) (hf : f < n) (hq : q < 32) :
    Calls Try.prog 22 #[.pointer (some ⟨mp, 0, none⟩), .int .i64 f, .int .i64 q] w fun e w' => e = .returned (.tuple #[.int .u32 (L.getD (f * 32 + q) 0), .int .i64 0]) ∧ Below w.heap.size w w' := by
  have hmf : ∀ (fn : Fn) (first cap : Array Value) (w : World), (Instr.makeFunc fn first cap).run Try.prog w = .ok (.func fn first cap) w := fun _ _ _ _ => rfl
  have HM := Lib.hid hm
  clear hm
  go_enter Try.func22, Try.ntmps22
  go_wp2_with fail
  refine (in_any _ _ _ _).mono ?_
  rintro e w1 ⟨bm, bf, bp, rfl, hA, hb⟩
  have B1 := Lib.hid ((below_two w (.cells #[.int .i64 q] 3) (.cells #[.int .u32 0] 23)).trans (hb.mono (by simp; omega)))
  have hw := Lib.hid (below_block hb (two_new w (.int .i64 q) (.int .u32 0) 3 23).2)
  have hq1 := Lib.hid (below_block hb (two_new w (.int .i64 q) (.int .u32 0) 3 23).1)
  have HA := Lib.hid hA
  have HM1 := Lib.hid (HM.out.below B1.out)
  clear hA hb
  go_wp2_with fail
  refine (ask_ok _ _ enters_Read1 bm bf bp mp fb n f q w1 (fun w' => Below (w.heap.size + 1) w1 w' ∧ w'.cell? ⟨w.heap.size + 1, 0, none⟩ = some (.int .u32 (L.getD (f * 32 + q) 0))) HA.out HM1.out.cellM hf (by omega) (by omega) (fun m => ?_)).mono ?_
  · refine (readIt fb f q w.heap.size (w.heap.size + 1) (L.getD (f * 32 + q) 0) 0 (w1.drewN m) hq (HM1.out.cellF hf hq) (cell_of_one hq1.out) (cell_of_one hw.out) (free_of_one hw.out)).mono ?_
    rintro e w' ⟨rfl, rfl⟩
    refine ⟨rfl, below_from_drewN (((Below.refl _ _).setCell (p := ⟨w.heap.size + 1, 0, none⟩) (Nat.le_refl _) _).drew), ?_⟩
    exact World.cell?_setCell_same _ _ _ (cell_of_one hw.out)
  rintro e w2 ⟨rfl, hb, hw2⟩
  have B2 := Lib.hid (B1.out.trans (hb.mono (by omega)))
  clear hb
  go_wp2
  go_ret2
  exact ⟨rfl, B2.out⟩
end Go.Proofs.Yteohfonmckahgaa
