/- The contracts of package cow: what asks for a page's entry, what makes one, Fork, Write, Set. No condition. -/
import Derived.Test.YtgalcafpkfakdaaW3
import Derived.StillTailTactics
import Derived.Deep.RegionHeld3
namespace Go.Proofs.Ytgalcafpkfakdaa
open Go.RowKit
set_option maxRecDepth 100000

/-- Is it the entry of a page? -/
def pgE (p w c : Bool) (f : Int) : Bool := okE p w c f && p
theorem pgE_yes {p w c : Bool} {f : Int} (h : pgE p w c f = true) : p = true ∧ (w = false ∨ c = false) ∧ 0 ≤ f ∧ f < 1024 := by
  unfold pgE okE at h
  cases p <;> cases w <;> cases c <;> simp at h <;> refine ⟨rfl, ?_, by omega, by omega⟩ <;> simp
/-- An entry lies in four cells of a block. -/
structure EntAt (w : World) (b : Nat) (p x c : Bool) (f : Int) : Prop where
  c0 : w.cell? ⟨b, 0, none⟩ = some (.bool p)
  c1 : w.cell? ⟨b, 1, none⟩ = some (.bool x)
  c2 : w.cell? ⟨b, 2, none⟩ = some (.bool c)
  c3 : w.cell? ⟨b, 3, none⟩ = some (.int .i64 f)
theorem EntAt.lt {w : World} {b : Nat} {p x c : Bool} {f : Int} (h : EntAt w b p x c f) : b < w.heap.size := cell_lt (a := ⟨b, 0, none⟩) h.c0
theorem EntAt.below {w w' : World} {b : Nat} {p x c : Bool} {f : Int} (h : EntAt w b p x c f) (hb : Below w.heap.size w w') : EntAt w' b p x c f :=
  have k := bcell hb
  ⟨(k.1 b 0 h.lt).trans h.c0, (k.1 b 1 h.lt).trans h.c1, (k.1 b 2 h.lt).trans h.c2, (k.1 b 3 h.lt).trans h.c3⟩
theorem EntAt.alloc {w : World} {b : Nat} {p x c : Bool} {f : Int} (h : EntAt w b p x c f) (o : Obj) : EntAt (w.alloc o) b p x c f := h.below ((Below.refl _ _).alloc (Nat.le_refl _) _)
theorem EntAt.new (w : World) (p x c : Bool) (f : Int) (t : TypeId) : EntAt (w.alloc (.cells #[.bool p, .bool x, .bool c, .int .i64 f] t)) w.heap.size p x c f :=
  ⟨World.cell?_alloc_new .., World.cell?_alloc_new .., World.cell?_alloc_new .., World.cell?_alloc_new ..⟩
/-- A result's cells, beside it: they may be written. -/
structure ResAt (w : World) (b : Nat) : Prop where
  e : EntAt w b false false false 0
  f0 : w.frozen? ⟨b, 0, none⟩ = false
  f1 : w.frozen? ⟨b, 1, none⟩ = false
  f2 : w.frozen? ⟨b, 2, none⟩ = false
  f3 : w.frozen? ⟨b, 3, none⟩ = false
theorem ResAt.below {w w' : World} {b : Nat} (h : ResAt w b) (hb : Below w.heap.size w w') : ResAt w' b :=
  have k := bcell hb
  ⟨h.e.below hb, (k.2 b 0 h.e.lt).trans h.f0, (k.2 b 1 h.e.lt).trans h.f1, (k.2 b 2 h.e.lt).trans h.f2, (k.2 b 3 h.e.lt).trans h.f3⟩
theorem ResAt.new (w : World) (t : TypeId) : ResAt (w.alloc (.cells #[.bool false, .bool false, .bool false, .int .i64 0] t)) w.heap.size :=
  ⟨EntAt.new .., World.frozen?_alloc_new .., World.frozen?_alloc_new .., World.frozen?_alloc_new .., World.frozen?_alloc_new ..⟩
theorem below_ent {W w : World} {B b : Nat} (h : Below B W w) (hb : B ≤ b) (x y z u : Value) : Below B W ((((w.setCell ⟨b, 0, none⟩ x).setCell ⟨b, 1, none⟩ y).setCell ⟨b, 2, none⟩ z).setCell ⟨b, 3, none⟩ u) :=
  (((h.setCell (p := ⟨b, 0, none⟩) hb _).setCell (p := ⟨b, 1, none⟩) hb _).setCell (p := ⟨b, 2, none⟩) hb _).setCell (p := ⟨b, 3, none⟩) hb _
theorem below_step {B : Nat} {W w w' : World} (h : Below B W w) (hb : Below w.heap.size w w') (hB : B ≤ w.heap.size) : Below B W w' := h.trans (hb.mono hB)

set_option maxHeartbeats 1000000 in
theorem isPage_any (p w c : Bool) (f : Int) (W : World) : Calls Try.prog 15 #[ent p w c f] W fun e w' => e = .returned (.bool (pgE p w c f)) ∧ Below W.heap.size W w' := by
  unfold pgE
  cases hok : okE p w c f
  · have H := Lib.hid hok
    clear hok
    go_enter Try.func15, Try.ntmps15
    go_wp2_with fail
    refine (check_no p w c f _ H.out).mono ?_
    rintro e w1 ⟨rfl, hb⟩
    have HB := Lib.hid hb
    clear hb
    go_wp2
    go_ret
    exact ⟨rfl, ((Below.refl _ _).alloc (Nat.le_refl _) _).trans (HB.out.mono (by simp))⟩
  · have H := Lib.hid hok
    clear hok
    go_enter Try.func15, Try.ntmps15
    go_wp2_with fail
    refine (check_yes p w c f _ H.out).mono ?_
    rintro e w1 ⟨rfl, hb⟩
    have k0 := (box_cell hb 0).trans rfl
    have HB := Lib.hid hb
    clear hb
    go_wp2
    go_ret
    exact ⟨rfl, ((Below.refl _ _).alloc (Nat.le_refl _) _).trans (HB.out.mono (by simp))⟩

theorem toRead_any (f : Int) (W : World) : Calls Try.prog 19 #[.int .i64 f] W fun e w' => e = .returned (ent true false false f) ∧ Below W.heap.size W w' := by
  go_enter Try.func19, Try.ntmps19
  go_wp2
  exact bodyPost_ret (v := ent true false false f) (by simp [results, Try.results19, go_sem]) rfl ⟨rfl, (Below.refl _ _).alloc (Nat.le_refl _) _⟩
theorem toWrite_any (f : Int) (W : World) : Calls Try.prog 16 #[.int .i64 f] W fun e w' => e = .returned (ent true true false f) ∧ Below W.heap.size W w' := by
  go_enter Try.func16, Try.ntmps16
  go_wp2
  exact bodyPost_ret (v := ent true true false f) (by simp [results, Try.results16, go_sem]) rfl ⟨rfl, (Below.refl _ _).alloc (Nat.le_refl _) _⟩
theorem toCopy_any (f : Int) (W : World) : Calls Try.prog 17 #[.int .i64 f] W fun e w' => e = .returned (ent true false true f) ∧ Below W.heap.size W w' := by
  go_enter Try.func17, Try.ntmps17
  go_wp2
  exact bodyPost_ret (v := ent true false true f) (by simp [results, Try.results17, go_sem]) rfl ⟨rfl, (Below.refl _ _).alloc (Nat.le_refl _) _⟩
end Go.Proofs.Ytgalcafpkfakdaa
