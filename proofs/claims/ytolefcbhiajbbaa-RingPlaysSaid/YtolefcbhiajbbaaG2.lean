/- What keeps words, and what puts and tells them, as contracts; the contracts of package ring's guard, putter, teller, their closures, and length. Condition: the ring lies as New laid it. -/
import Derived.Test.YtolefcbhiajbbaaG1
import Derived.Recover
import Derived.Laws.Pointers
namespace Go.Proofs.Ytolefcbhiajbbaa
open Go.RowKit
set_option maxRecDepth 100000

/-- What keeps words: a state of memory that says which word each place has, over these blocks. -/
structure KeepG (St : (Nat → Int) → World → Prop) (S : Nat → Prop) (N : Nat) : Prop where
  lt : ∀ g V, St g V → ∀ k, S k → k < V.heap.size
  stay : ∀ g V V', St g V → Only V V' (fun k => ¬ S k) → St g V'
  wd : ∀ g V, St g V → ∀ i, i < N → 0 ≤ g i ∧ g i < 4294967296
/-- A function that tells words. -/
structure GetsG (St : (Nat → Int) → World → Prop) (N : Nat) (k : Nat) (first caps : Array Value) : Prop where
  ent : ∀ (args : Array Value) (W : World), (callFunc k args).run Try.prog W = .ok (.enter k args) W
  run : ∀ g V (i : Nat), St g V → i < N → Calls Try.prog k (first ++ #[.int .i64 (i : Int)] ++ caps) V fun e w' => e = .returned (.int .u32 (g i)) ∧ Below V.heap.size V w'
def upG (g : Nat → Int) (i : Nat) (x : Int) : Nat → Int := fun j => if j = i then x else g j
/-- A function that puts words. -/
structure PutsG (St : (Nat → Int) → World → Prop) (S : Nat → Prop) (N : Nat) (k : Nat) (first caps : Array Value) : Prop where
  ent : ∀ (args : Array Value) (W : World), (callFunc k args).run Try.prog W = .ok (.enter k args) W
  run : ∀ g V (i : Nat) (x : Int), St g V → i < N → 0 ≤ x → x < 4294967296 → Calls Try.prog k (first ++ #[.int .i64 (i : Int), .int .u32 x] ++ caps) V fun e w' => e = .returned (.tuple #[]) ∧ St (upG g i x) w' ∧ Only V w' S
theorem KeepG.below {St : (Nat → Int) → World → Prop} {S : Nat → Prop} {N : Nat} (K : KeepG St S N) {g : Nat → Int} {V V' : World} (h : St g V) (hb : Below V.heap.size V V') : St g V' := K.stay g V V' h (Only.below hb)

/-- A closure's boxes: a function, and where a message begins. -/
structure CapG (t : TypeId) (w : World) (v : Value) (bp bb at_ : Nat) : Prop where
  p : w.heap[bp]? = some (.cells #[v] t (0, 0))
  b : w.heap[bb]? = some (.cells #[.int .i64 (at_ : Int)] 3 (0, 0))
section
variable {t : TypeId} {w w' : World} {v : Value} {bp bb at_ : Nat} (C : CapG t w v bp bb at_)
include C
theorem CapG.cp : w.cell? ⟨bp, 0, none⟩ = some v := cell_of_one C.p
theorem CapG.cb : w.cell? ⟨bb, 0, none⟩ = some (.int .i64 (at_ : Int)) := cell_of_one C.b
theorem CapG.below (hb : Below w.heap.size w w') : CapG t w' v bp bb at_ := ⟨below_block hb C.p, below_block hb C.b⟩
theorem CapG.only {S : Nat → Prop} (h : Only w w' S) (h1 : ¬ S bp) (h2 : ¬ S bb) : CapG t w' v bp bb at_ := ⟨h.kept C.p h1, h.kept C.b h2⟩
end
theorem putter_okG {w : World} {b c d f m : Nat} (R : RngAt w b c d f m) (k : Nat) (first caps : Array Value) : Calls Try.prog 26 #[.pointer (some ⟨b, 0, none⟩), .func (.func k) first caps] w fun e w' =>
    ∃ bp bb, e = .returned (.func (.func 34) #[] #[.pointer (some ⟨bp, 0, none⟩), .pointer (some ⟨bb, 0, none⟩)]) ∧ CapG 42 w' (.func (.func k) first caps) bp bb (begG c d f m) ∧ w.heap.size ≤ bp ∧ w.heap.size ≤ bb ∧ Below w.heap.size w w' := by
  have hmf : ∀ (fn : Fn) (first cap : Array Value) (w : World), (Instr.makeFunc fn first cap).run Try.prog w = .ok (.func fn first cap) w := fun _ _ _ _ => rfl
  have B1 := Lib.hid ((Below.refl w.heap.size w).alloc (Nat.le_refl _) (.cells #[.func (.func k) first caps] 42))
  have BG := Lib.hid (begin_okG (R.below B1.out) m (by have := R.mc; have := R.c8; omega))
  have N1 := Lib.hid (heap_alloc_new w (.cells #[.func (.func k) first caps] 42))
  have cm := (R.below B1.out).many
  clear R
  generalize begG c d f m = at_ at BG ⊢
  go_enter Try.func26, Try.ntmps26
  go_wp2_with fail
  refine BG.out.mono ?_
  rintro e w2 ⟨rfl, q, hq⟩
  have B2 : Hid (Below w.heap.size w w2) := Lib.hid (by rw [hq]; exact below_drewN B1.out q)
  have N2 : Hid (w2.heap[w.heap.size]? = some (.cells #[.func (.func k) first caps] 42 (0, 0))) := Lib.hid (by rw [hq]; exact N1.out)
  clear hq
  go_wp2
  go_ret
  have B3 := (Below.refl w2.heap.size w2).alloc (Nat.le_refl _) (.cells #[.int .i64 (at_ : Int)] 3)
  exact ⟨_, _, rfl, ⟨below_block B3 N2.out, heap_alloc_new w2 _⟩, Nat.le_refl _, B2.out.size, B2.out.trans (B3.mono B2.out.size)⟩
theorem teller_okG {w : World} {b c d f m : Nat} (R : RngAt w b c d f m) (k : Nat) (first caps : Array Value) : Calls Try.prog 28 #[.pointer (some ⟨b, 0, none⟩), .func (.func k) first caps] w fun e w' =>
    ∃ bp bb, e = .returned (.func (.func 35) #[] #[.pointer (some ⟨bp, 0, none⟩), .pointer (some ⟨bb, 0, none⟩)]) ∧ CapG 47 w' (.func (.func k) first caps) bp bb (begG c d f 0) ∧ w.heap.size ≤ bp ∧ w.heap.size ≤ bb ∧ Below w.heap.size w w' := by
  have hmf : ∀ (fn : Fn) (first cap : Array Value) (w : World), (Instr.makeFunc fn first cap).run Try.prog w = .ok (.func fn first cap) w := fun _ _ _ _ => rfl
  have B1 := Lib.hid ((Below.refl w.heap.size w).alloc (Nat.le_refl _) (.cells #[.func (.func k) first caps] 47))
  have BG := Lib.hid (begin_okG (R.below B1.out) 0 (by decide))
  have N1 := Lib.hid (heap_alloc_new w (.cells #[.func (.func k) first caps] 47))
  clear R
  generalize begG c d f 0 = at_ at BG ⊢
  go_enter Try.func28, Try.ntmps28
  go_wp2_with fail
  refine BG.out.mono ?_
  rintro e w2 ⟨rfl, q, hq⟩
  have B2 : Hid (Below w.heap.size w w2) := Lib.hid (by rw [hq]; exact below_drewN B1.out q)
  have N2 : Hid (w2.heap[w.heap.size]? = some (.cells #[.func (.func k) first caps] 47 (0, 0))) := Lib.hid (by rw [hq]; exact N1.out)
  clear hq
  go_wp2
  go_ret
  have B3 := (Below.refl w2.heap.size w2).alloc (Nat.le_refl _) (.cells #[.int .i64 (at_ : Int)] 3)
  exact ⟨_, _, rfl, ⟨below_block B3 N2.out, heap_alloc_new w2 _⟩, Nat.le_refl _, B2.out.size, B2.out.trans (B3.mono B2.out.size)⟩

section
variable {St : (Nat → Int) → World → Prop} {S : Nat → Prop} {N : Nat} {k : Nat} {first caps : Array Value} {g : Nat → Int} {w : World} {bp bb at_ : Nat}
theorem tell_okG (G : GetsG St N k first caps) (hs : St g w) (C : CapG 47 w (.func (.func k) first caps) bp bb at_) (i : Nat) (hi : at_ + i < N) (hN : N ≤ 1000000) :
    Calls Try.prog 35 #[.int .i64 (i : Int), .pointer (some ⟨bp, 0, none⟩), .pointer (some ⟨bb, 0, none⟩)] w fun e w' => e = .returned (.int .u32 (g (at_ + i))) ∧ Below w.heap.size w w' := by
  have hent := G.ent
  have GR := Lib.hid (G.run g w (at_ + i) hs hi)
  have c1 := C.cp
  have c2 := C.cb
  have b1 : (at_ : Int) + (i : Int) ≤ 1000000 := by omega
  have e1 : ((at_ + i : Nat) : Int) = (at_ : Int) + (i : Int) := by push_cast; rfl
  rw [e1] at GR
  generalize g (at_ + i) = x at GR ⊢
  clear G C hs hi e1
  go_enter Try.func35, Try.ntmps35
  go_wp2_with fail
  refine GR.out.mono ?_
  rintro e w2 ⟨rfl, hb⟩
  have B2 := Lib.hid hb
  clear hb
  go_wp2
  go_ret
  exact ⟨rfl, B2.out⟩
theorem put_okG (P : PutsG St S N k first caps) (hs : St g w) (C : CapG 42 w (.func (.func k) first caps) bp bb at_) (i : Nat) (hi : at_ + i < N) (hN : N ≤ 1000000) (x : Int) (hx : 0 ≤ x ∧ x < 4294967296) :
    Calls Try.prog 34 #[.int .i64 (i : Int), .int .u32 x, .pointer (some ⟨bp, 0, none⟩), .pointer (some ⟨bb, 0, none⟩)] w fun e w' => e = .returned (.tuple #[]) ∧ St (upG g (at_ + i) x) w' ∧ Only w w' S := by
  have hent := P.ent
  have GR := Lib.hid (P.run g w (at_ + i) x hs hi hx.1 hx.2)
  have c1 := C.cp
  have c2 := C.cb
  have b1 : (at_ : Int) + (i : Int) ≤ 1000000 := by omega
  have e1 : ((at_ + i : Nat) : Int) = (at_ : Int) + (i : Int) := by push_cast; rfl
  rw [e1, Array.append_assoc] at GR
  clear P C hs hi e1 hx
  go_enter Try.func34, Try.ntmps34
  go_wp2_with fail
  refine GR.out.mono ?_
  rintro e w2 ⟨rfl, hb⟩
  have B2 := Lib.hid hb
  clear hb
  go_wp2
  go_end0
  exact ⟨rfl, B2.out⟩
end

/-- How many words a message has. -/
def lenG (d : Nat) (x : Int) : Nat := if x = 0 ∨ (d : Int) < x then d else x.toNat
theorem lenG_is {d : Nat} {x : Int} (h : 1 ≤ x ∧ x ≤ d) : (lenG d x : Int) = x := by unfold lenG; rw [if_neg (by omega)]; omega
theorem lenG_ge {d : Nat} {x : Int} (hd : 1 ≤ d) (hx : 0 ≤ x) : 1 ≤ lenG d x ∧ lenG d x ≤ d := by unfold lenG; split <;> omega
theorem length_okG {w : World} {b c d f m : Nat} (R : RngAt w b c d f m) {x : Int} (hx : 0 ≤ x ∧ x < 4294967296) (bp bb : Nat) (T : Calls Try.prog 35 #[.int .i64 0, .pointer (some ⟨bp, 0, none⟩), .pointer (some ⟨bb, 0, none⟩)] w fun e w' => e = .returned (.int .u32 x) ∧ Below w.heap.size w w') :
    Calls Try.prog 29 #[.pointer (some ⟨b, 0, none⟩), .func (.func 35) #[] #[.pointer (some ⟨bp, 0, none⟩), .pointer (some ⟨bb, 0, none⟩)]] w fun e w' => e = .returned (.int .i64 (lenG d x : Int)) ∧ Below w.heap.size w w' := by
  have H := Lib.hid T
  have RR := Lib.hid R
  have hd := R.d8
  have dw : IntKind.u32.wrap (d : Int) = (d : Int) := IntWalk.u32_in _ (by omega)
  have x64 : IntKind.i64.wrap x = x := IntWalk.i64_in _ (by omega)
  clear T R
  by_cases h0 : x = 0
  · subst h0
    have e : lenG d 0 = d := by unfold lenG; rw [if_pos (Or.inl rfl)]
    rw [e]
    clear e
    go_enter Try.func29, Try.ntmps29
    go_wp2_with (go_at_call 35; refine H.out.mono ?_; rintro e w2 ⟨rfl, hb⟩; have B2 := Lib.hid hb; have c1 := (RR.out.below hb).wid; clear hb)
    go_ret
    exact ⟨rfl, B2.out⟩
  have z0 : (x == 0) = false := by simpa using h0
  by_cases h1 : (d : Int) < x
  · have e : lenG d x = d := by unfold lenG; rw [if_pos (Or.inr h1)]
    have d1 : decide ((d : Int) < x) = true := decide_eq_true h1
    rw [e]
    clear e
    go_enter Try.func29, Try.ntmps29
    go_wp2_with (go_at_call 35; refine H.out.mono ?_; rintro e w2 ⟨rfl, hb⟩; have B2 := Lib.hid hb; have c1 := (RR.out.below hb).wid; clear hb)
    go_ret
    exact ⟨rfl, B2.out⟩
  · have e : (lenG d x : Int) = x := lenG_is (by omega)
    have d1 : decide ((d : Int) < x) = false := decide_eq_false h1
    rw [e]
    clear e
    go_enter Try.func29, Try.ntmps29
    go_wp2_with (go_at_call 35; refine H.out.mono ?_; rintro e w2 ⟨rfl, hb⟩; have B2 := Lib.hid hb; have c1 := (RR.out.below hb).wid; clear hb)
    go_ret
    exact ⟨rfl, B2.out⟩
end Go.Proofs.Ytolefcbhiajbbaa
