/- A budget of a law's own; the contracts of its calls; awake; calls without a budget. Condition: the budget is the law's own, or there is none. -/
import Derived.Test.YtedeifejokcleaaU14
import Derived.Test.YtedeifejokcleaaU11
namespace Go.Proofs.Ytedeifejokcleaa
open Go.RowKit Go.Maps
set_option maxRecDepth 100000

/-- A budget of the law's own; of none of these blocks. -/
structure OB (W w : World) (b : Nat) (F : Nat → Prop) (L : List Nd) : Prop where
  ex : ∃ m P, BudAt w b m P L ∧ ∀ k, bB m P k → W.heap.size ≤ k ∧ ¬ F k
  below : Below W.heap.size W w
  nb : W.heap.size ≤ b
  flt : ∀ k, F k → k < w.heap.size
theorem OB.good {W w : World} {b : Nat} {F : Nat → Prop} {L : List Nd} (h : OB W w b F L) : Good L := let ⟨_, _, h1, _⟩ := h.ex; h1.good
/-- New blocks are none of the budget's. -/
theorem OB.more {W w w' : World} {b : Nat} {F F' : Nat → Prop} {L : List Nd} (h : OB W w b F L) (hb : Below w.heap.size w w') (hF : ∀ k, F' k → (F k ∨ w.heap.size ≤ k) ∧ k < w'.heap.size) : OB W w' b F' L := by
  obtain ⟨m, P, h1, h2⟩ := h.ex
  refine ⟨⟨m, P, h1.step hb, fun k hk => ⟨(h2 k hk).1, fun hf => ?_⟩⟩, h.below.trans (hb.mono h.below.size), h.nb, fun k hk => (hF k hk).2⟩
  rcases (hF k hf).1 with e | e
  · exact (h2 k hk).2 e
  · have := h1.lt hk; omega
theorem OB.step {W w w' : World} {b : Nat} {F : Nat → Prop} {L : List Nd} (h : OB W w b F L) (hb : Below w.heap.size w w') : OB W w' b F L :=
  h.more hb fun k hk => ⟨Or.inl hk, Nat.lt_of_lt_of_le (h.flt k hk) hb.size⟩
theorem OB.less {W w : World} {b : Nat} {F F' : Nat → Prop} {L : List Nd} (h : OB W w b F L) (hF : ∀ k, F' k → F k) : OB W w b F' L :=
  h.more (Below.refl _ _) fun k hk => ⟨Or.inl (hF k hk), h.flt k (hF k hk)⟩
/-- These blocks are as they were. -/
structure Kept (F : Nat → Prop) (w w' : World) : Prop where
  size : w.heap.size ≤ w'.heap.size
  block : ∀ k, F k → w'.heap[k]? = w.heap[k]?
theorem Kept.below {F : Nat → Prop} {w w' : World} (hb : Below w.heap.size w w') (hF : ∀ k, F k → k < w.heap.size) : Kept F w w' := ⟨hb.size, fun k hk => hb.block k (hF k hk)⟩
theorem Kept.trans {F : Nat → Prop} {a b c : World} (h : Kept F a b) (k : Kept F b c) : Kept F a c := ⟨Nat.le_trans h.size k.size, fun i hi => (k.block i hi).trans (h.block i hi)⟩
theorem Kept.own {F : Nat → Prop} {w w' : World} (k : Kept F w w') {base q n : Nat} {e : TypeId} {v : Value} {xs : List Value} (h : w.ownsRow base e q v n xs) (hF : ∀ g, v.ownBlock = some g → F g) : w'.ownsRow base e q v n xs := by
  refine ⟨h.1, ?_⟩
  rcases h.2 with hn | ⟨g, cap, cur, rfl, hb, hgg, rest⟩
  · exact .inl hn
  · exact .inr ⟨g, cap, cur, rfl, hb, (k.block g (hF g rfl)).trans hgg, rest⟩
theorem OB.turn {W w w' : World} {b m : Nat} {P : Pt} {F : Nat → Prop} {L L' : List Nd} (h : OB W w b F L) (h2 : ∀ k, bB m P k → W.heap.size ≤ k ∧ ¬ F k) (T : Turned w w' b m P L') : OB W w' b F L' ∧ Kept F w w' := by
  obtain ⟨⟨P', t1, t2⟩, t3⟩ := T
  refine ⟨⟨⟨m, P', t1, fun k hk => ?_⟩, Only.old h.below t3 h.below.size (fun k hk => (h2 k hk).1), h.nb, fun k hk => Nat.lt_of_lt_of_le (h.flt k hk) t3.size⟩, t3.size, fun k hk => t3.block k (h.flt k hk) (fun e => (h2 k e).2 hk)⟩
  rcases hk with e | ⟨i, hi⟩
  · exact h2 k (Or.inl e)
  · rcases t2 i k hi with e | e
    · exact h2 k (Or.inr ⟨i, e⟩)
    · exact ⟨Nat.le_trans h.below.size e, fun hf => by have := h.flt k hf; omega⟩
section
variable {W w : World} {b : Nat} {F : Nat → Prop} {L : List Nd} (h : OB W w b F L)
include h
theorem ob_open (id up q : Int) {er : Int} (he : openE L id up q = er) : Calls Try.prog 17 #[.pointer (some ⟨b, 0, none⟩), .int .i64 id, .int .i64 up, .int .i64 q] w fun e w' => e = .returned (.int .i64 er) ∧ OB W w' b F (openL L id up q) ∧ Kept F w w' := by
  obtain ⟨m, P, h1, h2⟩ := h.ex
  exact (open11 h1 id up q he).mono fun e w' ⟨a, T⟩ => ⟨a, h.turn h2 T⟩
theorem ob_close (id : Int) {er : Int} (he : closeE L id = er) : Calls Try.prog 18 #[.pointer (some ⟨b, 0, none⟩), .int .i64 id] w fun e w' => e = .returned (.int .i64 er) ∧ OB W w' b F (closeL L id) ∧ Kept F w w' := by
  obtain ⟨m, P, h1, h2⟩ := h.ex
  exact (close11 h1 id he).mono fun e w' ⟨a, T⟩ => ⟨a, h.turn h2 T⟩
theorem ob_charge (id n : Int) {er : Int} (he : chargeE L id n = er) : Calls Try.prog 19 #[.pointer (some ⟨b, 0, none⟩), .int .i64 id, .int .i64 n] w fun e w' => e = .returned (.int .i64 er) ∧ OB W w' b F (chargeL L id n) ∧ Kept F w w' := by
  obtain ⟨m, P, h1, h2⟩ := h.ex
  exact (charge11 h1 id n he).mono fun e w' ⟨a, T⟩ => ⟨a, h.turn h2 T⟩
theorem ob_refund (id n : Int) {er : Int} (he : refundE L id n = er) : Calls Try.prog 20 #[.pointer (some ⟨b, 0, none⟩), .int .i64 id, .int .i64 n] w fun e w' => e = .returned (.int .i64 er) ∧ OB W w' b F (refundL L id n) ∧ Kept F w w' := by
  obtain ⟨m, P, h1, h2⟩ := h.ex
  exact (refund11 h1 id n he).mono fun e w' ⟨a, T⟩ => ⟨a, h.turn h2 T⟩
theorem ob_left (id : Int) {d : Int} (hd : leftL L id = d) : Calls Try.prog 13 #[.pointer (some ⟨b, 0, none⟩), .int .i64 id] w fun e w' => e = .returned (.int .i64 d) ∧ Below w.heap.size w w' := by
  obtain ⟨m, P, h1, _⟩ := h.ex
  exact left_is h1 id hd
theorem ob_all : Calls Try.prog 16 #[.pointer (some ⟨b, 0, none⟩)] w (AllPost11 w L) := by
  obtain ⟨m, P, h1, _⟩ := h.ex
  exact allm11_ok h1
end
theorem ob_new {W w : World} (q : Int) (hb : Below W.heap.size W w) (h : numB q = true) : Calls Try.prog 10 #[.int .i64 q] w fun e w' => ∃ b, e = .returned (.tuple #[.pointer (some ⟨b, 0, none⟩), .int .i64 0]) ∧ OB W w' b (fun _ => False) [(1, 0, q, 0)] ∧ Below w.heap.size w w' := by
  refine (new11_ok q w h).mono fun e w' N => ?_
  obtain ⟨b, m, P, he, h1, h2, h3⟩ := N.ex
  exact ⟨b, he, ⟨⟨m, P, h1, fun k hk => ⟨Nat.le_trans hb.size (h3 k hk), id⟩⟩, hb.trans (N.below.mono hb.size), Nat.le_trans hb.size h2, fun k hk => hk.elim⟩, N.below⟩

set_option maxHeartbeats 2000000 in
theorem awake11 (W : World) : Calls Try.prog 9 #[] W fun e w' => e = .returned (.bool true) ∧ Below W.heap.size W w' := by
  go_enter Try.func9, Try.ntmps9
  go_wp2_with fail
  refine (ob_new (W := W) 10 (Below.refl _ _) (by decide)).mono ?_
  rintro e w1 ⟨b, rfl, h, -⟩
  have H1 := Lib.hid h
  clear h
  go_wp2_with fail
  refine (ob_open H1.out 2 1 4 (er := 0) (by decide)).mono ?_
  rintro e w2 ⟨rfl, h, -⟩
  rw [show openL [(1, 0, 10, 0)] 2 1 4 = [(1, 0, 10, 0), (2, 1, 4, 0)] by decide] at h
  have H2 := Lib.hid h
  clear h
  go_wp2_with fail
  refine (ob_charge H2.out 2 3 (er := 0) (by decide)).mono ?_
  rintro e w3 ⟨rfl, h, -⟩
  rw [show chargeL [(1, 0, 10, 0), (2, 1, 4, 0)] 2 3 = [(1, 0, 10, 0), (2, 1, 4, 3)] by decide] at h
  have H3 := Lib.hid h
  clear h
  go_wp2_with fail
  refine (ob_left H3.out 1 (d := 6) (by decide)).mono ?_
  rintro e w4 ⟨rfl, hb⟩
  have H4 := Lib.hid (H3.out.step hb)
  clear hb
  go_wp2_with fail
  refine (ob_left H4.out 2 (d := 1) (by decide)).mono ?_
  rintro e w5 ⟨rfl, hb⟩
  have H5 := Lib.hid (H4.out.step hb)
  clear hb
  go_wp2_with fail
  refine (ob_open H5.out 3 2 2 (er := 3) (by decide)).mono ?_
  rintro e w6 ⟨rfl, h, -⟩
  have H6 := Lib.hid h
  clear h
  go_wp2
  go_ret
  exact ⟨rfl, H6.out.below⟩

/-! Without a budget. -/
theorem open_no (p : Option Addr) (id up q : Int) (w : World) (h : NoBud w p) :
    Calls Try.prog 17 #[.pointer p, .int .i64 id, .int .i64 up, .int .i64 q] w fun e w' => e = .returned (.int .i64 1) ∧ Below w.heap.size w w' := by
  obtain ⟨w1, hw1⟩ : ∃ w1, w1 = w.alloc (.cells #[.int .i64 id, .int .i64 up] 3) := ⟨_, rfl⟩
  have B1 : Hid (Below w.heap.size w w1) := Lib.hid (by rw [hw1]; exact (Below.refl _ _).alloc (Nat.le_refl _) _)
  have N1 : Hid (w1.heap[w.heap.size]? = some (.cells #[.int .i64 id, .int .i64 up] 3 (0, 0))) := Lib.hid (by rw [hw1]; exact heap_alloc_new w _)
  have H1 := Lib.hid (h.step B1.out)
  have AK : Hid (Calls Try.prog 33 #[.pointer p, .int .i64 q, .slice (some ⟨w.heap.size, 0, none⟩) 2 2] w1 fun e w' => e = .returned (.int .i64 1) ∧ w1 = w') := Lib.hid (ask_any p false q [id, up] w.heap.size 2 w1 rfl (isThere_no p w1 H1.out) (by decide) (fun i hi => by
    rcases (show i = 0 ∨ i = 1 by omega) with rfl | rfl <;> (rw [cell_of_row _ _ _ _ _ _ N1.out]; rfl)))
  clear h
  go_enter Try.func17, Try.ntmps17
  go_wp2_with fail
  rw [← hw1]
  clear hw1
  refine AK.out.mono ?_
  rintro e w2 ⟨rfl, rfl⟩
  go_wp2
  go_ret
  exact ⟨rfl, B1.out⟩
theorem close_no (p : Option Addr) (id : Int) (w : World) (h : NoBud w p) :
    Calls Try.prog 18 #[.pointer p, .int .i64 id] w fun e w' => e = .returned (.int .i64 1) ∧ Below w.heap.size w w' := by
  obtain ⟨w1, hw1⟩ : ∃ w1, w1 = w.alloc (.cells #[.int .i64 id] 3) := ⟨_, rfl⟩
  have B1 : Hid (Below w.heap.size w w1) := Lib.hid (by rw [hw1]; exact (Below.refl _ _).alloc (Nat.le_refl _) _)
  have H1 := Lib.hid (h.step B1.out)
  clear h
  go_enter Try.func18, Try.ntmps18
  go_wp2_with fail
  rw [← hw1]
  clear hw1
  refine (of_no p id 0 w1 H1.out).mono ?_
  rintro e w2 ⟨rfl, hb⟩
  have B2 := Lib.hid (B1.out.trans (hb.mono B1.out.size))
  clear hb
  go_wp2
  go_ret
  exact ⟨rfl, B2.out.alloc B2.out.size _⟩
theorem charge_no (p : Option Addr) (id n : Int) (w : World) (h : NoBud w p) :
    Calls Try.prog 19 #[.pointer p, .int .i64 id, .int .i64 n] w fun e w' => e = .returned (.int .i64 1) ∧ Below w.heap.size w w' := by
  go_enter Try.func19, Try.ntmps19
  go_wp2_with fail
  refine (of_no p id n w h).mono ?_
  rintro e w2 ⟨rfl, hb⟩
  have B2 := Lib.hid hb
  clear hb
  go_wp2
  go_ret
  exact ⟨rfl, B2.out⟩
theorem refund_no (p : Option Addr) (id n : Int) (w : World) (h : NoBud w p) :
    Calls Try.prog 20 #[.pointer p, .int .i64 id, .int .i64 n] w fun e w' => e = .returned (.int .i64 1) ∧ Below w.heap.size w w' := by
  go_enter Try.func20, Try.ntmps20
  go_wp2_with fail
  refine (of_no p id n w h).mono ?_
  rintro e w2 ⟨rfl, hb⟩
  have B2 := Lib.hid hb
  clear hb
  go_wp2
  go_ret
  exact ⟨rfl, B2.out⟩
end Go.Proofs.Ytedeifejokcleaa
