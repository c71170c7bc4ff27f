/- The contracts of package mem's Read and Write. Conditions: the memory lies as New laid it, or there is none. -/
import Derived.Test.YtiohnhgoddfebaaDoorM3
import Derived.OneCell
namespace Go.Proofs.YtiohnhgoddfebaaDoor
open Go.RowKit
set_option maxRecDepth 100000

/-- There is such a place. -/
def okFQ (n : Nat) (f q : Int) : Prop := 0 ≤ f ∧ f < n ∧ 0 ≤ q ∧ q < 32

/-- No memory: none is there, or nobody made it. -/
def NoMem (w : World) (p : Option Addr) : Prop := p = none ∨ ∃ mp, p = some ⟨mp, 0, none⟩ ∧ w.cell? ⟨mp, 0, none⟩ = some (.slice none 0 0)

theorem below_block {w w' : World} {k : Nat} {o : Obj} (hb : Below w.heap.size w w') (h : w.heap[k]? = some o) : w'.heap[k]? = some o :=
  (hb.block k (lt_of_block h)).trans h
theorem MemSt.below {w w' : World} {mp fb n : Nat} {L : List Int} (h : MemSt w mp fb n L) (hb : Below w.heap.size w w') : MemSt w' mp fb n L :=
  ⟨below_block hb h.box, below_block hb h.row, h.len, h.ne, h.pos, h.top⟩
theorem MemSt.heap {w w' : World} {mp fb n : Nat} {L : List Int} (h : MemSt w mp fb n L) (hb : w'.heap = w.heap) : MemSt w' mp fb n L :=
  ⟨by rw [hb]; exact h.box, by rw [hb]; exact h.row, h.len, h.ne, h.pos, h.top⟩
theorem NoMem.below {w w' : World} {p : Option Addr} (h : NoMem w p) (hb : Below w.heap.size w w') : NoMem w' p := by
  rcases h with h | ⟨mp, h, k⟩
  · exact Or.inl h
  · exact Or.inr ⟨mp, h, (hb.cell (p := ⟨mp, 0, none⟩) (block_lt_of_cell k)).trans k⟩
theorem below_drewN {B : Nat} {a w : World} (h : Below B a w) (n : Nat) : Below B a (w.drewN n) := ⟨h.os, h.tape, h.output, h.size, h.block⟩
theorem below_from_drewN {B : Nat} {w w' : World} {n : Nat} (h : Below B (w.drewN n) w') : Below B w w' := ⟨h.os, h.tape, h.output, h.size, h.block⟩
theorem below_setRow {B : Nat} {a w : World} (h : Below B a w) {g : Nat} (hg : B ≤ g) (cs : Array Value) : Below B a (w.setRow g cs) :=
  h.trans ⟨rfl, rfl, rfl, by simp, fun k hk => by simp only [World.setRow, Array.getElem?_modify]; rw [if_neg (by omega)]⟩

/-- The place is none: the closure tells it. -/
theorem ask_bad (d : Value) (bm bf bp mp fb n : Nat) (f q : Int) (L : List Int) (w : World) (h : AskSt w bm bf bp (.pointer (some ⟨mp, 0, none⟩)) f q) (hm : MemSt w mp fb n L) (hbad : ¬ okFQ n f q) :
    Calls Tryd.prog 59 #[d, .pointer (some ⟨bm, 0, none⟩), .pointer (some ⟨bf, 0, none⟩), .pointer (some ⟨bp, 0, none⟩)] w fun e w' => e = .returned (.int .i64 2) ∧ Below w.heap.size w w' := by
  have done : ∀ (e : Ending) (w' : World), (e = .returned (.int .i64 2) ∧ ∃ m, w' = w.drewN m) → e = .returned (.int .i64 2) ∧ Below w.heap.size w w' := fun e w' ⟨he, m, hw⟩ => ⟨he, by rw [hw]; exact below_drewN (Below.refl _ _) m⟩
  by_cases h1 : f < 0
  · exact (ask_neg d bm bf bp mp n _ f q w h hm.pos hm.cellM h1).mono done
  by_cases h2 : n ≤ f
  · exact (ask_big d bm bf bp mp n _ f q w h hm.pos hm.cellM h2).mono done
  · exact (ask_place d bm bf bp mp n _ f q w h hm.pos hm.cellM (by omega) (by omega) (by unfold okFQ at hbad; omega)).mono done
/-- There is no memory: the closure tells it. -/
theorem ask_no (d : Value) (bm bf bp : Nat) (p : Option Addr) (f q : Int) (w : World) (h : AskSt w bm bf bp (.pointer p) f q) (hp : NoMem w p) :
    Calls Tryd.prog 59 #[d, .pointer (some ⟨bm, 0, none⟩), .pointer (some ⟨bf, 0, none⟩), .pointer (some ⟨bp, 0, none⟩)] w fun e w' => e = .returned (.int .i64 1) ∧ Below w.heap.size w w' := by
  rcases hp with rfl | ⟨mp, rfl, hz⟩
  · exact (ask_nil d bm bf bp f q w h).mono fun e w' ⟨he, hw⟩ => ⟨he, hw ▸ Below.refl _ _⟩
  · exact (ask_none d bm bf bp mp f q w h hz).mono fun e w' ⟨he, hw⟩ => ⟨he, hw ▸ Below.refl _ _⟩

theorem AskSt.start (w : World) (p : Value) (f q : Int) (t1 t2 t3 : TypeId) : AskSt (((w.alloc (.cells #[p] t1)).alloc (.cells #[.int .i64 f] t2)).alloc (.cells #[.int .i64 q] t3)) w.heap.size (w.heap.size + 1) (w.heap.size + 2) p f q := by
  refine ⟨?_, ?_, ?_⟩
  · rw [World.cell?_alloc_past _ _ _ (by simp; omega), World.cell?_alloc_past _ _ _ (by simp), World.cell?_alloc_at _ _ _ _ rfl]; rfl
  · rw [World.cell?_alloc_past _ _ _ (by simp), World.cell?_alloc_at _ _ _ _ (by simp)]; rfl
  · rw [World.cell?_alloc_at _ _ _ _ (by simp)]; rfl

set_option maxRecDepth 100000 in
set_option maxHeartbeats 400000 in
theorem in_any (p : Option Addr) (f q : Int) (w : World) :
    Calls Tryd.prog 47 #[.pointer p, .int .i64 f, .int .i64 q] w fun e w' => ∃ bm bf bp, e = .returned (.func (.func 59) #[] #[.pointer (some ⟨bm, 0, none⟩), .pointer (some ⟨bf, 0, none⟩), .pointer (some ⟨bp, 0, none⟩)]) ∧ AskSt w' bm bf bp (.pointer p) f q ∧ Below w.heap.size w w' := by
  have hmf : ∀ (fn : Fn) (first cap : Array Value) (w : World), (Instr.makeFunc fn first cap).run Tryd.prog w = .ok (.func fn first cap) w := fun _ _ _ _ => rfl
  go_enter Tryd.func47, Tryd.ntmps47
  go_wp2
  go_ret
  exact ⟨_, _, _, rfl, AskSt.start w (.pointer p) f q _ _ _, (((Below.refl _ _).alloc (Nat.le_refl _) _).alloc (by simp) _).alloc (by simp; omega) _⟩
set_option maxRecDepth 100000 in
set_option maxHeartbeats 400000 in
theorem whole_any (p : Option Addr) (f : Int) (w : World) :
    Calls Tryd.prog 37 #[.pointer p, .int .i64 f] w fun e w' => ∃ bm bf bp, e = .returned (.func (.func 59) #[] #[.pointer (some ⟨bm, 0, none⟩), .pointer (some ⟨bf, 0, none⟩), .pointer (some ⟨bp, 0, none⟩)]) ∧ AskSt w' bm bf bp (.pointer p) f 0 ∧ Below w.heap.size w w' := by
  go_enter Tryd.func37, Tryd.ntmps37
  go_wp2_with fail
  refine (in_any p f 0 w).mono ?_
  rintro e w1 ⟨bm, bf, bp, rfl, hA, hb⟩
  have HA := Lib.hid hA
  have HB := Lib.hid hb
  clear hA hb
  go_wp2
  go_ret
  exact ⟨_, _, _, rfl, HA.out, HB.out⟩

theorem enters_Write1 (args : Array Value) (W : World) : (callFunc 48 args).run Tryd.prog W = .ok (.enter 48 args) W := enters Tryd.func48 rfl rfl args W
theorem enters_Zero1 (args : Array Value) (W : World) : (callFunc 56 args).run Tryd.prog W = .ok (.enter 56 args) W := enters Tryd.func56 rfl rfl args W
theorem enters_Page1 (args : Array Value) (W : World) : (callFunc 38 args).run Tryd.prog W = .ok (.enter 38 args) W := enters Tryd.func38 rfl rfl args W

theorem two_new (w : World) (u v : Value) (t1 t2 : TypeId) : ((w.alloc (.cells #[u] t1)).alloc (.cells #[v] t2)).heap[w.heap.size]? = some (.cells #[u] t1 (0, 0)) ∧ ((w.alloc (.cells #[u] t1)).alloc (.cells #[v] t2)).heap[w.heap.size + 1]? = some (.cells #[v] t2 (0, 0)) :=
  ⟨heap_alloc2_old _ _ _, heap_alloc2_new _ _ _⟩
theorem below_two (w : World) (u v : Obj) : Below w.heap.size w ((w.alloc u).alloc v) := ((Below.refl _ _).alloc (Nat.le_refl _) _).alloc (by simp) _

theorem MemSt.cellF {w : World} {mp fb n : Nat} {L : List Int} (h : MemSt w mp fb n L) {f q : Nat} (hf : f < n) (hq : q < 32) : w.cell? ⟨fb, f * 32 + q, none⟩ = some (.int .u32 (L.getD (f * 32 + q) 0)) := by
  rw [cell_of_row w fb _ _ _ _ h.row]
  exact wordsV_get L _ (by rw [h.len]; omega)
theorem MemSt.freeF {w : World} {mp fb n : Nat} {L : List Int} (h : MemSt w mp fb n L) (i : Nat) : w.frozen? ⟨fb, i, none⟩ = false := frozen_of_row w fb i _ _ h.row

end Go.Proofs.YtiohnhgoddfebaaDoor
