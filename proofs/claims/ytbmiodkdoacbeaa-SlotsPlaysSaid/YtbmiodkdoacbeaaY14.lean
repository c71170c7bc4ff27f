/- A table of a law's own; the contracts of its calls; awake; calls without a table. Condition: the table is the law's own, or there is none. -/
import Derived.Test.YtbmiodkdoacbeaaY13
namespace Go.Proofs.Ytbmiodkdoacbeaa
open Go.RowKit Go.Maps
set_option maxRecDepth 100000

/-- A table of the law's own; of none of these blocks. -/
structure OT (W w : World) (b : Nat) (n : Int) (F : Nat → Prop) (L : List Nd) : Prop where
  ex : ∃ m P, TabAt w b m n P L ∧ ∀ k, tB m P k → W.heap.size ≤ k ∧ ¬ F k
  below : Below W.heap.size W w
  nb : W.heap.size ≤ b
  flt : ∀ k, F k → k < w.heap.size
theorem OT.good {W w : World} {b : Nat} {n : Int} {F : Nat → Prop} {L : List Nd} (h : OT W w b n F L) : GoodY n L := let ⟨_, _, h1, _⟩ := h.ex; h1.good
/-- New blocks are none of the table's. -/
theorem OT.more {W w w' : World} {b : Nat} {n : Int} {F F' : Nat → Prop} {L : List Nd} (h : OT W w b n F L) (hb : Below w.heap.size w w') (hF : ∀ k, F' k → (F k ∨ w.heap.size ≤ k) ∧ k < w'.heap.size) : OT W w' b n F' L := by
  obtain ⟨m, P, h1, h2⟩ := h.ex
  refine ⟨⟨m, P, h1.later hb, fun k hk => ⟨(h2 k hk).1, fun hf => ?_⟩⟩, h.below.trans (hb.mono h.below.size), h.nb, fun k hk => (hF k hk).2⟩
  rcases (hF k hf).1 with e | e
  · exact (h2 k hk).2 e
  · have := h1.lt hk; omega
theorem OT.step {W w w' : World} {b : Nat} {n : Int} {F : Nat → Prop} {L : List Nd} (h : OT W w b n F L) (hb : Below w.heap.size w w') : OT W w' b n F L :=
  h.more hb fun k hk => ⟨Or.inl hk, Nat.lt_of_lt_of_le (h.flt k hk) hb.size⟩
theorem OT.less {W w : World} {b : Nat} {n : Int} {F F' : Nat → Prop} {L : List Nd} (h : OT W w b n F L) (hF : ∀ k, F' k → F k) : OT W w b n F' L :=
  h.more (Below.refl _ _) fun k hk => ⟨Or.inl (hF k hk), h.flt k (hF k hk)⟩
/-- These blocks are as they were. -/
structure KeptY (F : Nat → Prop) (w w' : World) : Prop where
  size : w.heap.size ≤ w'.heap.size
  block : ∀ k, F k → w'.heap[k]? = w.heap[k]?
theorem KeptY.below {F : Nat → Prop} {w w' : World} (hb : Below w.heap.size w w') (hF : ∀ k, F k → k < w.heap.size) : KeptY F w w' := ⟨hb.size, fun k hk => hb.block k (hF k hk)⟩
theorem KeptY.trans {F : Nat → Prop} {a b c : World} (h : KeptY F a b) (k : KeptY F b c) : KeptY F a c := ⟨Nat.le_trans h.size k.size, fun i hi => (k.block i hi).trans (h.block i hi)⟩
theorem KeptY.own {F : Nat → Prop} {w w' : World} (k : KeptY F w w') {base q n : Nat} {e : TypeId} {v : Value} {xs : List Value} (h : w.ownsRow base e q v n xs) (hF : ∀ g, v.ownBlock = some g → F g) : w'.ownsRow base e q v n xs := by
  refine ⟨h.1, ?_⟩
  rcases h.2 with hn | ⟨g, cap, cur, rfl, hb, hgg, rest⟩
  · exact .inl hn
  · exact .inr ⟨g, cap, cur, rfl, hb, (k.block g (hF g rfl)).trans hgg, rest⟩
theorem OT.turn {W w w' : World} {b m : Nat} {n : Int} {P : Pt} {F : Nat → Prop} {L L' : List Nd} (h : OT W w b n F L) (h2 : ∀ k, tB m P k → W.heap.size ≤ k ∧ ¬ F k) (T : ToY w w' b m n P L') : OT W w' b n F L' ∧ KeptY F w w' := by
  obtain ⟨⟨P', t1, t2⟩, t3⟩ := T
  refine ⟨⟨⟨m, P', t1, fun k hk => ?_⟩, Only.old h.below t3 h.below.size (fun k hk => (h2 k hk).1), h.nb, fun k hk => Nat.lt_of_lt_of_le (h.flt k hk) t3.size⟩, t3.size, fun k hk => t3.block k (h.flt k hk) (fun e => (h2 k e).2 hk)⟩
  rcases hk with e | ⟨i, hi⟩
  · exact h2 k (Or.inl e)
  · rcases t2 i k hi with e | e
    · exact h2 k (Or.inr ⟨i, e⟩)
    · exact ⟨Nat.le_trans h.below.size e, fun hf => by have := h.flt k hf; omega⟩
/-- What Exit and Wait tell: a row of the call's own. -/
def ReapOut (w : World) (R : List Rp) (v : Value) (w' : World) : Prop := w'.ownsRow w.heap.size 58 3 v R.length (rpV R)
section
variable {W w : World} {b : Nat} {n : Int} {F : Nat → Prop} {L : List Nd} (h : OT W w b n F L)
include h
theorem ot_add (parent : Int) (hi : I64 parent) {pr er : Int} {L' : List Nd} (hp : addP n L parent = pr) (he : addE n L parent = er) (hL : addL n L parent = L') : Calls Try.prog 17 #[.pointer (some ⟨b, 0, none⟩), .int .i64 parent] w fun e w' => e = .returned (.tuple #[.int .i64 pr, .int .i64 er]) ∧ OT W w' b n F L' ∧ KeptY F w w' := by
  obtain ⟨m, P, h1, h2⟩ := h.ex
  rw [← hp, ← he, ← hL]
  exact (addY_ok h1 parent hi).mono fun e w' ⟨a, T⟩ => ⟨a, h.turn h2 T⟩
theorem ot_exit (pid c : Int) (hi : I64 pid) (hc : 0 ≤ c ∧ c ≤ 4294967295) {er : Int} {L' : List Nd} {R : List Rp} (he : exitE L pid = er) (hL : exitL n L pid c = L') (hR : exitR n L pid c = R) : Calls Try.prog 18 #[.pointer (some ⟨b, 0, none⟩), .int .i64 pid, .int .u32 c] w fun e w' => ∃ v, e = .returned (.tuple #[v, .int .i64 er]) ∧ ReapOut w R v w' ∧ OT W w' b n F L' ∧ KeptY F w w' := by
  obtain ⟨m, P, h1, h2⟩ := h.ex
  rw [← hR, ← he, ← hL]
  exact (exitY_ok h1 pid c hi hc).mono fun e w' ⟨⟨v, a, r⟩, T⟩ => ⟨v, a, r, h.turn h2 T⟩
theorem ot_wait (pid : Int) (hi : I64 pid) {er : Int} {L' : List Nd} {R : List Rp} (he : waitE L pid = er) (hL : waitL n L pid = L') (hR : waitR n L pid = R) : Calls Try.prog 19 #[.pointer (some ⟨b, 0, none⟩), .int .i64 pid] w fun e w' => ∃ v, e = .returned (.tuple #[v, .int .i64 er]) ∧ ReapOut w R v w' ∧ OT W w' b n F L' ∧ KeptY F w w' := by
  obtain ⟨m, P, h1, h2⟩ := h.ex
  rw [← hR, ← he, ← hL]
  exact (waitY_ok h1 pid hi).mono fun e w' ⟨⟨v, a, r⟩, T⟩ => ⟨v, a, r, h.turn h2 T⟩
theorem ot_get (pid : Int) (hi : I64 pid) {g : Nd} {is : Bool} (hg : getP L pid = g) (his : (atN pid L).isSome = is) : Calls Try.prog 15 #[.pointer (some ⟨b, 0, none⟩), .int .i64 pid] w fun e w' => e = .returned (.tuple #[prV g, .bool is]) ∧ Below w.heap.size w w' := by
  obtain ⟨m, P, h1, _⟩ := h.ex
  rw [← hg, ← his]
  exact getY_ok h1 hi
theorem ot_all : Calls Try.prog 14 #[.pointer (some ⟨b, 0, none⟩)] w (AllPostY w L) := by
  obtain ⟨m, P, h1, _⟩ := h.ex
  exact allY_ok h1
end
theorem ot_new {W w : World} (n : Int) (hb : Below W.heap.size W w) (h : 1 ≤ n ∧ n ≤ 8) : Calls Try.prog 10 #[.int .i64 n] w fun e w' => ∃ b, e = .returned (.tuple #[.pointer (some ⟨b, 0, none⟩), .int .i64 0]) ∧ OT W w' b n (fun _ => False) [(1, 0, 1, 0)] ∧ Below w.heap.size w w' := by
  refine (newY_ok n w h).mono fun e w' N => ?_
  obtain ⟨b, m, P, he, h1, h2, h3⟩ := N.ex
  exact ⟨b, he, ⟨⟨m, P, h1, fun k hk => ⟨Nat.le_trans hb.size (h3 k hk), id⟩⟩, hb.trans (N.below.mono hb.size), Nat.le_trans hb.size h2, fun k hk => hk.elim⟩, N.below⟩
/-- An empty row; a row of one. -/
theorem ReapOut.nil {w w' : World} {v : Value} (h : ReapOut w [] v w') : ∃ a c, v = .slice a 0 c := owns_slice h
theorem ReapOut.one {w w' : World} {v : Value} {r : Rp} (h : ReapOut w [r] v w') : ∃ g c, v = .slice (some ⟨g, 0, none⟩) 1 c ∧ w.heap.size ≤ g ∧ g < w'.heap.size ∧ w'.cell? ⟨g, 0, none⟩ = some (.int .i64 r.1) ∧ w'.cell? ⟨g, 1, none⟩ = some (.int .i64 r.2.1) ∧ w'.cell? ⟨g, 2, none⟩ = some (.int .u32 r.2.2) := by
  have h0 : w'.ownsRow w.heap.size 58 3 v 1 [.int .i64 r.1, .int .i64 r.2.1, .int .u32 r.2.2] := h
  rcases h0.2 with ⟨_, h1⟩ | ⟨g, cap, cur, rfl, hb, hgg, _⟩
  · cases h1
  · refine ⟨g, cap, rfl, hb, lt_of_block hgg, ?_, ?_, ?_⟩
    · exact h0.cells (g := g) rfl 0 _ rfl
    · exact h0.cells (g := g) rfl 1 _ rfl
    · exact h0.cells (g := g) rfl 2 _ rfl

set_option maxHeartbeats 4000000 in
theorem awake13 (W : World) : Calls Try.prog 9 #[] W fun e w' => e = .returned (.bool true) ∧ Below W.heap.size W w' := by
  go_enter Try.func9, Try.ntmps9
  go_wp2_with fail
  refine (ot_new (W := W) 3 (Below.refl _ _) (by decide)).mono ?_
  rintro e w1 ⟨b, rfl, h, -⟩
  have H1 := Lib.hid h
  clear h
  go_wp2_with fail
  refine (ot_add H1.out 1 (by decide) (pr := 2) (er := 0) (L' := [(1, 0, 1, 0), (2, 1, 1, 0)]) (by decide) (by decide) (by decide)).mono ?_
  rintro e w2 ⟨rfl, h, -⟩
  have H2 := Lib.hid h
  clear h
  go_wp2_with fail
  refine (ot_add H2.out 2 (by decide) (pr := 3) (er := 0) (L' := [(1, 0, 1, 0), (2, 1, 1, 0), (3, 2, 1, 0)]) (by decide) (by decide) (by decide)).mono ?_
  rintro e w3 ⟨rfl, h, -⟩
  have H3 := Lib.hid h
  clear h
  go_wp2_with fail
  refine (ot_add H3.out 1 (by decide) (pr := 0) (er := 3) (L' := [(1, 0, 1, 0), (2, 1, 1, 0), (3, 2, 1, 0)]) (by decide) (by decide) (by decide)).mono ?_
  rintro e w4 ⟨rfl, h, -⟩
  have H4 := Lib.hid h
  clear h
  go_wp2_with fail
  refine (ot_wait H4.out 1 (by decide) (er := 0) (L' := [(1, 0, 2, 0), (2, 1, 1, 0), (3, 2, 1, 0)]) (R := []) (by decide) (by decide) (by decide)).mono ?_
  rintro e w5 ⟨v5, rfl, r5, h, -⟩
  have H5 := Lib.hid h
  obtain ⟨a5, c5, rfl⟩ := r5.nil
  clear h r5
  go_wp2_with fail
  refine (ot_exit H5.out 2 7 (by decide) (by decide) (er := 0) (L' := [(1, 0, 1, 0), (3, 1, 1, 0)]) (R := [(1, 2, 7)]) (by decide) (by decide) (by decide)).mono ?_
  rintro e w6 ⟨v6, rfl, r6, h, -⟩
  have H6 := Lib.hid h
  obtain ⟨g6, c6, rfl, hg1, hg2, q0, q1, q2⟩ := r6.one
  have Q := Lib.hid (And.intro hg2 (And.intro q0 (And.intro q1 q2)))
  clear h r6 hg1 q0 q1 q2
  go_wp2_with fail
  refine (ot_get H6.out 3 (by decide) (g := (3, 1, 1, 0)) (is := true) (by decide) (by decide)).mono ?_
  rintro e w7 ⟨rfl, hb⟩
  have H7 := Lib.hid (H6.out.step hb)
  have q0 := (hb.cell (p := ⟨g6, 0, none⟩) Q.out.1).trans Q.out.2.1
  have q1 := (hb.cell (p := ⟨g6, 1, none⟩) Q.out.1).trans Q.out.2.2.1
  have q2 := (hb.cell (p := ⟨g6, 2, none⟩) Q.out.1).trans Q.out.2.2.2
  have hl7 : g6 < w7.heap.size := Nat.lt_of_lt_of_le hg2 hb.size
  clear hb hg2
  unfold prV
  go_wp2
  go_ret
  exact ⟨rfl, H7.out.below.alloc H7.out.below.size _⟩
end Go.Proofs.Ytbmiodkdoacbeaa
