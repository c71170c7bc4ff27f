/- Texts of mine, joined: G1 G2 G3 G4 G5 G6 G7 G19. What each says and under which conditions stands at its head, below. -/
import Derived.Test.YtnapodeiigkebaaGA0
import Derived.Test.YtnapodeiigkebaaGD8
import Derived.OwnWalk
import Derived.Recover
import Derived.Laws.Pointers
import Derived.BigQuiet
import Derived.Maps.AppendAt
import Derived.Deep.RegionHeld3
/- A ring in memory; the contracts of package ring's isThere, Len, Words, begin, New. Condition: the ring lies as New laid it, or there is none, or nobody made it. -/
namespace Go.Proofs.Ytnapodeiigkebaa
open Go.RowKit
set_option maxRecDepth 100000

/-- A ring's cells: its cap and its width, where the first message stands, how many there are. -/
def rngA (c d f m : Nat) : Array Value := #[.int .i64 (c : Int), .int .i64 (d : Int), .int .i64 (f : Int), .int .i64 (m : Int)]
/-- A ring lies at block b. -/
structure RngAt (w : World) (b c d f m : Nat) : Prop where
  c1 : 1 ≤ c
  c8 : c ≤ 8
  d1 : 1 ≤ d
  d8 : d ≤ 8
  fc : f < c
  mc : m ≤ c
  box : w.heap[b]? = some (.cells (rngA c d f m) 120 (0, 0))
section
variable {w : World} {b c d f m : Nat} (R : RngAt w b c d f m)
include R
theorem RngAt.cap : w.cell? ⟨b, 0, none⟩ = some (.int .i64 (c : Int)) := by rw [cell_of_row w b _ _ _ _ R.box]; rfl
theorem RngAt.wid : w.cell? ⟨b, 1, none⟩ = some (.int .i64 (d : Int)) := by rw [cell_of_row w b _ _ _ _ R.box]; rfl
theorem RngAt.fst : w.cell? ⟨b, 2, none⟩ = some (.int .i64 (f : Int)) := by rw [cell_of_row w b _ _ _ _ R.box]; rfl
theorem RngAt.many : w.cell? ⟨b, 3, none⟩ = some (.int .i64 (m : Int)) := by rw [cell_of_row w b _ _ _ _ R.box]; rfl
theorem RngAt.free (i : Nat) : w.frozen? ⟨b, i, none⟩ = false := frozen_of_row w b i _ _ R.box
theorem RngAt.lt : b < w.heap.size := lt_of_block R.box
theorem RngAt.kept {w' : World} (h : w'.heap[b]? = w.heap[b]?) : RngAt w' b c d f m := ⟨R.c1, R.c8, R.d1, R.d8, R.fc, R.mc, h.trans R.box⟩
theorem RngAt.below {w' : World} (hb : Below w.heap.size w w') : RngAt w' b c d f m := R.kept (hb.block b R.lt)
theorem RngAt.only {w' : World} {S : Nat → Prop} (h : Only w w' S) (hS : ¬ S b) : RngAt w' b c d f m := R.kept (h.block b R.lt hS)
theorem RngAt.drewN (n : Nat) : RngAt (w.drewN n) b c d f m := R.kept rfl
theorem RngAt.setFirst (f' : Nat) (h : f' < c) : RngAt (w.setCell ⟨b, 2, none⟩ (.int .i64 (f' : Int))) b c d f' m :=
  ⟨R.c1, R.c8, R.d1, R.d8, h, R.mc, by rw [heap_setCell_same w b 2 _ _ _ R.box]; rfl⟩
theorem RngAt.setMany (m' : Nat) (h : m' ≤ c) : RngAt (w.setCell ⟨b, 3, none⟩ (.int .i64 (m' : Int))) b c d f m' :=
  ⟨R.c1, R.c8, R.d1, R.d8, R.fc, h, by rw [heap_setCell_same w b 3 _ _ _ R.box]; rfl⟩
end
theorem thereG_cell (b c : Nat) (w : World) (h : w.cell? ⟨b, 0, none⟩ = some (.int .i64 (c : Int))) : Calls Try.prog 61 #[.pointer (some ⟨b, 0, none⟩)] w fun e w' => e = .returned (.bool (decide (0 < c))) ∧ w = w' := by
  go_enter Try.func61, Try.ntmps61
  go_wp2
  go_ret
  exact ⟨rfl, rfl⟩
theorem thereG_yes {w : World} {b c d f m : Nat} (R : RngAt w b c d f m) : Calls Try.prog 61 #[.pointer (some ⟨b, 0, none⟩)] w fun e w' => e = .returned (.bool true) ∧ w = w' := by
  have := thereG_cell b c w R.cap
  rwa [decide_eq_true (by have := R.c1; omega)] at this
theorem len_okG {w : World} {b c d f m : Nat} (R : RngAt w b c d f m) : Calls Try.prog 40 #[.pointer (some ⟨b, 0, none⟩)] w fun e w' => e = .returned (.int .i64 (m : Int)) ∧ w = w' := by
  have H := Lib.hid (thereG_yes R)
  have c3 := R.many
  clear R
  go_enter Try.func40, Try.ntmps40
  go_wp2_with (go_at_call 61; refine H.out.mono ?_; rintro e w' ⟨rfl, rfl⟩)
  go_ret
  exact ⟨rfl, rfl⟩
/-- How many words a ring needs. -/
def wdsG (c d : Nat) : Nat := c * (d + 1)
theorem wdsG_le {c d : Nat} (hc : c ≤ 8) (hd : d ≤ 8) : wdsG c d ≤ 72 := by unfold wdsG; have := Nat.mul_le_mul hc (show d + 1 ≤ 9 by omega); omega
/-- Where the message begins that stands so many behind the first one. -/
def begG (c d f i : Nat) : Nat := (f + i) % c * (d + 1)
theorem begG_lt {c d f i : Nat} (hc : 1 ≤ c) : begG c d f i + (d + 1) ≤ wdsG c d := by
  unfold begG wdsG
  have h : (f + i) % c < c := Nat.mod_lt _ (by omega)
  calc (f + i) % c * (d + 1) + (d + 1) = ((f + i) % c + 1) * (d + 1) := by rw [Nat.succ_mul]
    _ ≤ c * (d + 1) := Nat.mul_le_mul_right _ h
theorem begin_okG {w : World} {b c d f m : Nat} (R : RngAt w b c d f m) (i : Nat) (hi : i ≤ 8) : Calls Try.prog 90 #[.pointer (some ⟨b, 0, none⟩), .int .i64 (i : Int)] w fun e w' => e = .returned (.int .i64 (begG c d f i : Int)) ∧ ∃ n, w' = w.drewN n := by
  have c0 := R.cap
  have c1 := R.wid
  have c2 := R.fst
  have hd := R.d8
  have hc := R.c1
  have hc8 := R.c8
  have hf := R.fc
  have hn : ¬ (c : Int) = 0 := by omega
  obtain ⟨z, hz⟩ : ∃ z, (f + i) % c = z := ⟨_, rfl⟩
  have hzc : z < c := by rw [← hz]; exact Nat.mod_lt _ (by omega)
  have ht : ((f : Int) + (i : Int)).tmod (c : Int) = (z : Int) := by rw [Int.tmod_eq_emod_of_nonneg (by omega), ← hz]; push_cast; rfl
  have hm : (z : Int) * ((d : Int) + 1) = (begG c d f i : Int) := by unfold begG; rw [hz]; push_cast; rfl
  have hw : begG c d f i ≤ 72 := by have := begG_lt (d := d) (f := f) (i := i) hc; have := wdsG_le R.c8 R.d8; omega
  clear R hz
  generalize begG c d f i = n at hm hw ⊢
  go_enter Try.func90, Try.ntmps90
  go_wp2_with fail
  go_quiet (fail)
  go_wp2
  go_ret
  exact ⟨rfl, _, rfl⟩

theorem new_okG (c d : Nat) (hc : 1 ≤ c ∧ c ≤ 8) (hd : 1 ≤ d ∧ d ≤ 8) (w : World) : Calls Try.prog 57 #[.int .i64 (c : Int), .int .i64 (d : Int)] w fun e w' => ∃ b, e = .returned (.tuple #[.pointer (some ⟨b, 0, none⟩), .int .i64 0]) ∧ RngAt w' b c d 0 0 ∧ w.heap.size ≤ b ∧ Below w.heap.size w w' := by
  have H := Lib.hid hc
  have D := Lib.hid hd
  have d1 : decide ((c : Int) < 1) = false := decide_eq_false (by omega)
  have d2 : decide (8 < (c : Int)) = false := decide_eq_false (by omega)
  have d3 : decide ((d : Int) < 1) = false := decide_eq_false (by omega)
  have d4 : decide (8 < (d : Int)) = false := decide_eq_false (by omega)
  have d5 : decide (8 < c) = false := decide_eq_false (by omega)
  have d6 : decide (8 < d) = false := decide_eq_false (by omega)
  clear hc hd
  go_enter Try.func57, Try.ntmps57
  go_wp2
  go_ret2
  refine ⟨_, rfl, ⟨H.out.1, H.out.2, D.out.1, D.out.2, by have := H.out; omega, Nat.zero_le _, heap_alloc_new w _⟩, Nat.le_refl _, (Below.refl _ _).alloc (Nat.le_refl _) _⟩
end Go.Proofs.Ytnapodeiigkebaa

/- What keeps words, and what puts and tells them, as contracts; the contracts of package ring's guard, putter, teller, their closures, and length. Condition: the ring lies as New laid it. -/
namespace Go.Proofs.Ytnapodeiigkebaa
open Go.RowKit
set_option maxRecDepth 100000

/-- What keeps words: a state of memory that says which word each place has, over these blocks. -/
structure KeepG (St : (Nat → Int) → World → Prop) (S : Nat → Prop) (N : Nat) : Prop where
  lt : ∀ g V, St g V → ∀ k, S k → k < V.heap.size
  stay : ∀ g V V', St g V → Only V V' (fun k => ¬ S k) → St g V'
  wd : ∀ g V, St g V → ∀ i, i < N → 0 ≤ g i ∧ g i < 4294967296
/-- A function that tells words. -/
structure GetsG (St : (Nat → Int) → World → Prop) (N : Nat) (k : Nat) (first caps : Array Value) : Prop where
  ent : ∀ (args : Array Value) (W : World), (callFunc k args).run Try.prog W = .ok (.enter k args) W
  run : ∀ g V (i : Nat), St g V → i < N → Calls Try.prog k (first ++ #[.int .i64 (i : Int)] ++ caps) V fun e w' => e = .returned (.int .u32 (g i)) ∧ Below V.heap.size V w'
def upG (g : Nat → Int) (i : Nat) (x : Int) : Nat → Int := fun j => if j = i then x else g j
/-- A function that puts words. -/
structure PutsG (St : (Nat → Int) → World → Prop) (S : Nat → Prop) (N : Nat) (k : Nat) (first caps : Array Value) : Prop where
  ent : ∀ (args : Array Value) (W : World), (callFunc k args).run Try.prog W = .ok (.enter k args) W
  run : ∀ g V (i : Nat) (x : Int), St g V → i < N → 0 ≤ x → x < 4294967296 → Calls Try.prog k (first ++ #[.int .i64 (i : Int), .int .u32 x] ++ caps) V fun e w' => e = .returned (.tuple #[]) ∧ St (upG g i x) w' ∧ Only V w' S
theorem KeepG.below {St : (Nat → Int) → World → Prop} {S : Nat → Prop} {N : Nat} (K : KeepG St S N) {g : Nat → Int} {V V' : World} (h : St g V) (hb : Below V.heap.size V V') : St g V' := K.stay g V V' h (Only.below hb)

/-- A closure's boxes: a function, and where a message begins. -/
structure CapG (t : TypeId) (w : World) (v : Value) (bp bb at_ : Nat) : Prop where
  p : w.heap[bp]? = some (.cells #[v] t (0, 0))
  b : w.heap[bb]? = some (.cells #[.int .i64 (at_ : Int)] 3 (0, 0))
section
variable {t : TypeId} {w w' : World} {v : Value} {bp bb at_ : Nat} (C : CapG t w v bp bb at_)
include C
theorem CapG.cp : w.cell? ⟨bp, 0, none⟩ = some v := cell_of_one C.p
theorem CapG.cb : w.cell? ⟨bb, 0, none⟩ = some (.int .i64 (at_ : Int)) := cell_of_one C.b
theorem CapG.below (hb : Below w.heap.size w w') : CapG t w' v bp bb at_ := ⟨below_block hb C.p, below_block hb C.b⟩
theorem CapG.only {S : Nat → Prop} (h : Only w w' S) (h1 : ¬ S bp) (h2 : ¬ S bb) : CapG t w' v bp bb at_ := ⟨h.kept C.p h1, h.kept C.b h2⟩
end
theorem putter_okG {w : World} {b c d f m : Nat} (R : RngAt w b c d f m) (k : Nat) (first caps : Array Value) : Calls Try.prog 66 #[.pointer (some ⟨b, 0, none⟩), .func (.func k) first caps] w fun e w' =>
    ∃ bp bb, e = .returned (.func (.func 91) #[] #[.pointer (some ⟨bp, 0, none⟩), .pointer (some ⟨bb, 0, none⟩)]) ∧ CapG 102 w' (.func (.func k) first caps) bp bb (begG c d f m) ∧ w.heap.size ≤ bp ∧ w.heap.size ≤ bb ∧ Below w.heap.size w w' := by
  have hmf : ∀ (fn : Fn) (first cap : Array Value) (w : World), (Instr.makeFunc fn first cap).run Try.prog w = .ok (.func fn first cap) w := fun _ _ _ _ => rfl
  have B1 := Lib.hid ((Below.refl w.heap.size w).alloc (Nat.le_refl _) (.cells #[.func (.func k) first caps] 102))
  have BG := Lib.hid (begin_okG (R.below B1.out) m (by have := R.mc; have := R.c8; omega))
  have N1 := Lib.hid (heap_alloc_new w (.cells #[.func (.func k) first caps] 102))
  have cm := (R.below B1.out).many
  clear R
  generalize begG c d f m = at_ at BG ⊢
  go_enter Try.func66, Try.ntmps66
  go_wp2_with fail
  refine BG.out.mono ?_
  rintro e w2 ⟨rfl, q, hq⟩
  have B2 : Hid (Below w.heap.size w w2) := Lib.hid (by rw [hq]; exact below_drewN B1.out q)
  have N2 : Hid (w2.heap[w.heap.size]? = some (.cells #[.func (.func k) first caps] 102 (0, 0))) := Lib.hid (by rw [hq]; exact N1.out)
  clear hq
  go_wp2
  go_ret
  have B3 := (Below.refl w2.heap.size w2).alloc (Nat.le_refl _) (.cells #[.int .i64 (at_ : Int)] 3)
  exact ⟨_, _, rfl, ⟨below_block B3 N2.out, heap_alloc_new w2 _⟩, Nat.le_refl _, B2.out.size, B2.out.trans (B3.mono B2.out.size)⟩
theorem teller_okG {w : World} {b c d f m : Nat} (R : RngAt w b c d f m) (k : Nat) (first caps : Array Value) : Calls Try.prog 68 #[.pointer (some ⟨b, 0, none⟩), .func (.func k) first caps] w fun e w' =>
    ∃ bp bb, e = .returned (.func (.func 92) #[] #[.pointer (some ⟨bp, 0, none⟩), .pointer (some ⟨bb, 0, none⟩)]) ∧ CapG 104 w' (.func (.func k) first caps) bp bb (begG c d f 0) ∧ w.heap.size ≤ bp ∧ w.heap.size ≤ bb ∧ Below w.heap.size w w' := by
  have hmf : ∀ (fn : Fn) (first cap : Array Value) (w : World), (Instr.makeFunc fn first cap).run Try.prog w = .ok (.func fn first cap) w := fun _ _ _ _ => rfl
  have B1 := Lib.hid ((Below.refl w.heap.size w).alloc (Nat.le_refl _) (.cells #[.func (.func k) first caps] 104))
  have BG := Lib.hid (begin_okG (R.below B1.out) 0 (by decide))
  have N1 := Lib.hid (heap_alloc_new w (.cells #[.func (.func k) first caps] 104))
  clear R
  generalize begG c d f 0 = at_ at BG ⊢
  go_enter Try.func68, Try.ntmps68
  go_wp2_with fail
  refine BG.out.mono ?_
  rintro e w2 ⟨rfl, q, hq⟩
  have B2 : Hid (Below w.heap.size w w2) := Lib.hid (by rw [hq]; exact below_drewN B1.out q)
  have N2 : Hid (w2.heap[w.heap.size]? = some (.cells #[.func (.func k) first caps] 104 (0, 0))) := Lib.hid (by rw [hq]; exact N1.out)
  clear hq
  go_wp2
  go_ret
  have B3 := (Below.refl w2.heap.size w2).alloc (Nat.le_refl _) (.cells #[.int .i64 (at_ : Int)] 3)
  exact ⟨_, _, rfl, ⟨below_block B3 N2.out, heap_alloc_new w2 _⟩, Nat.le_refl _, B2.out.size, B2.out.trans (B3.mono B2.out.size)⟩

section
variable {St : (Nat → Int) → World → Prop} {S : Nat → Prop} {N : Nat} {k : Nat} {first caps : Array Value} {g : Nat → Int} {w : World} {bp bb at_ : Nat}
theorem tell_okG (G : GetsG St N k first caps) (hs : St g w) (C : CapG 104 w (.func (.func k) first caps) bp bb at_) (i : Nat) (hi : at_ + i < N) (hN : N ≤ 1000000) :
    Calls Try.prog 92 #[.int .i64 (i : Int), .pointer (some ⟨bp, 0, none⟩), .pointer (some ⟨bb, 0, none⟩)] w fun e w' => e = .returned (.int .u32 (g (at_ + i))) ∧ Below w.heap.size w w' := by
  have hent := G.ent
  have GR := Lib.hid (G.run g w (at_ + i) hs hi)
  have c1 := C.cp
  have c2 := C.cb
  have b1 : (at_ : Int) + (i : Int) ≤ 1000000 := by omega
  have e1 : ((at_ + i : Nat) : Int) = (at_ : Int) + (i : Int) := by push_cast; rfl
  rw [e1] at GR
  generalize g (at_ + i) = x at GR ⊢
  clear G C hs hi e1
  go_enter Try.func92, Try.ntmps92
  go_wp2_with fail
  refine GR.out.mono ?_
  rintro e w2 ⟨rfl, hb⟩
  have B2 := Lib.hid hb
  clear hb
  go_wp2
  go_ret
  exact ⟨rfl, B2.out⟩
theorem put_okG (P : PutsG St S N k first caps) (hs : St g w) (C : CapG 102 w (.func (.func k) first caps) bp bb at_) (i : Nat) (hi : at_ + i < N) (hN : N ≤ 1000000) (x : Int) (hx : 0 ≤ x ∧ x < 4294967296) :
    Calls Try.prog 91 #[.int .i64 (i : Int), .int .u32 x, .pointer (some ⟨bp, 0, none⟩), .pointer (some ⟨bb, 0, none⟩)] w fun e w' => e = .returned (.tuple #[]) ∧ St (upG g (at_ + i) x) w' ∧ Only w w' S := by
  have hent := P.ent
  have GR := Lib.hid (P.run g w (at_ + i) x hs hi hx.1 hx.2)
  have c1 := C.cp
  have c2 := C.cb
  have b1 : (at_ : Int) + (i : Int) ≤ 1000000 := by omega
  have e1 : ((at_ + i : Nat) : Int) = (at_ : Int) + (i : Int) := by push_cast; rfl
  rw [e1, Array.append_assoc] at GR
  clear P C hs hi e1 hx
  go_enter Try.func91, Try.ntmps91
  go_wp2_with fail
  refine GR.out.mono ?_
  rintro e w2 ⟨rfl, hb⟩
  have B2 := Lib.hid hb
  clear hb
  go_wp2
  go_end0
  exact ⟨rfl, B2.out⟩
end

/-- How many words a message has. -/
def lenG (d : Nat) (x : Int) : Nat := if x = 0 ∨ (d : Int) < x then d else x.toNat
theorem lenG_is {d : Nat} {x : Int} (h : 1 ≤ x ∧ x ≤ d) : (lenG d x : Int) = x := by unfold lenG; rw [if_neg (by omega)]; omega
theorem lenG_ge {d : Nat} {x : Int} (hd : 1 ≤ d) (hx : 0 ≤ x) : 1 ≤ lenG d x ∧ lenG d x ≤ d := by unfold lenG; split <;> omega
theorem length_okG {w : World} {b c d f m : Nat} (R : RngAt w b c d f m) {x : Int} (hx : 0 ≤ x ∧ x < 4294967296) (bp bb : Nat) (T : Calls Try.prog 92 #[.int .i64 0, .pointer (some ⟨bp, 0, none⟩), .pointer (some ⟨bb, 0, none⟩)] w fun e w' => e = .returned (.int .u32 x) ∧ Below w.heap.size w w') :
    Calls Try.prog 69 #[.pointer (some ⟨b, 0, none⟩), .func (.func 92) #[] #[.pointer (some ⟨bp, 0, none⟩), .pointer (some ⟨bb, 0, none⟩)]] w fun e w' => e = .returned (.int .i64 (lenG d x : Int)) ∧ Below w.heap.size w w' := by
  have H := Lib.hid T
  have RR := Lib.hid R
  have hd := R.d8
  have dw : IntKind.u32.wrap (d : Int) = (d : Int) := IntWalk.u32_in _ (by omega)
  have x64 : IntKind.i64.wrap x = x := IntWalk.i64_in _ (by omega)
  clear T R
  by_cases h0 : x = 0
  · subst h0
    have e : lenG d 0 = d := by unfold lenG; rw [if_pos (Or.inl rfl)]
    rw [e]
    clear e
    go_enter Try.func69, Try.ntmps69
    go_wp2_with (go_at_call 92; refine H.out.mono ?_; rintro e w2 ⟨rfl, hb⟩; have B2 := Lib.hid hb; have c1 := (RR.out.below hb).wid; clear hb)
    go_ret
    exact ⟨rfl, B2.out⟩
  have z0 : (x == 0) = false := by simpa using h0
  by_cases h1 : (d : Int) < x
  · have e : lenG d x = d := by unfold lenG; rw [if_pos (Or.inr h1)]
    have d1 : decide ((d : Int) < x) = true := decide_eq_true h1
    rw [e]
    clear e
    go_enter Try.func69, Try.ntmps69
    go_wp2_with (go_at_call 92; refine H.out.mono ?_; rintro e w2 ⟨rfl, hb⟩; have B2 := Lib.hid hb; have c1 := (RR.out.below hb).wid; clear hb)
    go_ret
    exact ⟨rfl, B2.out⟩
  · have e : (lenG d x : Int) = x := lenG_is (by omega)
    have d1 : decide ((d : Int) < x) = false := decide_eq_false h1
    rw [e]
    clear e
    go_enter Try.func69, Try.ntmps69
    go_wp2_with (go_at_call 92; refine H.out.mono ?_; rintro e w2 ⟨rfl, hb⟩; have B2 := Lib.hid hb; have c1 := (RR.out.below hb).wid; clear hb)
    go_ret
    exact ⟨rfl, B2.out⟩
end Go.Proofs.Ytnapodeiigkebaa

/- The contract of package ring's guard. Condition: the ring lies as New laid it; what is done is a function that does not panic. -/
namespace Go.Proofs.Ytnapodeiigkebaa
open Go.RowKit
set_option maxRecDepth 100000

theorem rngTy : RowTy 120 4 := ⟨⟨_, Try.underlying120, rfl⟩, by kernel_rfl⟩
theorem rngOne (c d f m : Nat) : (rngA c d f m).all (·.oneCell') = true := by simp [rngA, Value.oneCell']
theorem guard_idle (p q r : Addr) (w : World) : CallsD Try.prog 89 #[.pointer (some p), .pointer (some q), .pointer (some r)] .returning w fun e u' w' => e = .returned (.tuple #[]) ∧ u' = .returning ∧ w' = w := by
  refine callsD_of_wpS Try.func89 rfl fun c₀ cs hu => ?_
  apply wpS_seq
  apply wpS_region
  simp [wpOpsS, go_sem, recoverD, hu, Try.ntmps89, Exit.thenS]
  refine wpS_cond (t := false) (by simp [Act.eval, Array.replicate]) ?_
  simp only [Bool.false_eq_true, if_false]
  refine wpS_of_wp (wp_skip ?_)
  cases c₀
  simp_all [bodyPostS, results, Try.results89]
theorem cell_set_sameG (w : World) (a : Addr) (u v : Value) (h : w.cell? a = some u) : (w.setCell a v).cell? a = some v := World.cell?_setCell_same' w a v (by rw [h]; rfl)
/-- What is done is done in a world with three variables more. -/
theorem guard_okG {w : World} {b c d f m : Nat} (R : RngAt w b c d f m) (k : Nat) (caps : Array Value) (hent : ∀ (args : Array Value) (W : World), (callFunc k args).run Try.prog W = .ok (.enter k args) W) (Q : World → Prop) (B : Nat → Prop) (hB : ∀ j, B j → j < w.heap.size)
    (hdo : ∀ V, Below w.heap.size w V → w.heap.size + 3 ≤ V.heap.size → Calls Try.prog k caps V fun e w' => e = .returned (.tuple #[]) ∧ Q w' ∧ Only V w' B) :
    Calls Try.prog 64 #[.pointer (some ⟨b, 0, none⟩), .func (.func k) #[] caps] w fun e w' => e = .returned (.int .i64 0) ∧ ∃ w1, Q w1 ∧ Only w w1 B ∧ w.heap.size + 1 < w1.heap.size ∧ w' = w1.setCell ⟨w.heap.size + 1, 0, none⟩ (.int .i64 0) := by
  have hmf : ∀ (fn : Fn) (first cap : Array Value) (w : World), (Instr.makeFunc fn first cap).run Try.prog w = .ok (.func fn first cap) w := fun _ _ _ _ => rfl
  have HD := Lib.hid hdo
  have HB := Lib.hid hB
  have R0 := Lib.hid R
  clear hdo hB R
  obtain ⟨V0, hV0⟩ : ∃ V0, V0 = (w.alloc (.cells #[.pointer (some ⟨b, 0, none⟩)] 89)).alloc (.cells #[.int .i64 0] 31) := ⟨_, rfl⟩
  have sz0 : V0.heap.size = w.heap.size + 2 := by rw [hV0]; simp
  have B0 : Hid (Below w.heap.size w V0) := Lib.hid (by rw [hV0]; exact below_two _ _ _)
  have E0 : Hid (V0.heap[w.heap.size + 1]? = some (.cells #[.int .i64 0] 31 (0, 0))) := Lib.hid (by rw [hV0]; exact heap_alloc2_new _ _ _)
  have X0 : Hid (V0.heap[b]? = some (.cells (rngA c d f m) 120 (0, 0))) := Lib.hid (R0.out.below B0.out).box
  have N1 := Lib.hid (heap_alloc_new V0 (.cells #[.int .i64 0, .int .i64 0, .int .i64 0, .int .i64 0] 120))
  rw [sz0] at N1
  have V1 : Hid (Below w.heap.size w ((V0.alloc (.cells #[.int .i64 0, .int .i64 0, .int .i64 0, .int .i64 0] 120)).setRow (w.heap.size + 2) (rngA c d f m))) := Lib.hid (below_setRow (B0.out.alloc B0.out.size _) (by omega) _)
  have E1 : Hid (((V0.alloc (.cells #[.int .i64 0, .int .i64 0, .int .i64 0, .int .i64 0] 120)).setRow (w.heap.size + 2) (rngA c d f m)).heap[w.heap.size + 1]? = some (.cells #[.int .i64 0] 31 (0, 0))) := Lib.hid (rowOtherJ _ _ (by omega) ((heap_alloc_old _ _ (lt_of_block E0.out)).trans E0.out))
  have HV := Lib.hid hV0
  clear hV0
  go_enter_defers Try.func64, Try.ntmps64
  go_wp2_with (first | (refine wpR_load rngTy rfl (.tmp 7) rfl b rfl (rngA c d f m) (by have := X0.out; rwa [HV.out] at this) rfl ?_) | (refine wpR_store rngTy rfl (.tmp 5) (.tmp 8) rfl (w.heap.size + 2) (rngA c d f m) rfl rfl _ (by have := N1.out; rwa [HV.out] at this) rfl rfl (rngOne c d f m) ?_))
  rw [← HV.out]
  refine (HD.out _ V1.out (by simp [World.setRow]; omega)).mono ?_
  rintro e w1 ⟨rfl, hq, ho⟩
  have HQ := Lib.hid hq
  have O1 : Hid (Only w w1 B) := Lib.hid ⟨ho.os.trans V1.out.os, ho.tape.trans V1.out.tape, ho.output.trans V1.out.output, Nat.le_trans V1.out.size ho.size, fun j hj hb => (ho.block j (Nat.lt_of_lt_of_le hj V1.out.size) hb).trans (V1.out.block j hj)⟩
  have x1 : w1.heap[w.heap.size + 1]? = some (.cells #[.int .i64 0] 31 (0, 0)) := ho.kept E1.out (fun h => by have := HB.out _ h; omega)
  have S1 := Lib.hid (lt_of_block x1)
  have c0 := cell_of_one x1
  have f0 : w1.frozen? ⟨w.heap.size + 1, 0, none⟩ = false := frozen_of_row w1 _ 0 _ _ x1
  clear hq ho x1
  go_wp2
  refine leaves_cons (f := 89) (args := #[.pointer (some ⟨w.heap.size + 2, 0, none⟩), .pointer (some ⟨w.heap.size, 0, none⟩), .pointer (some ⟨w.heap.size + 1, 0, none⟩)]) (by simp) (by simp [go_sem]) ?_
  refine (guard_idle _ _ _ _).mono ?_
  rintro e u' w'' ⟨rfl, rfl, rfl⟩
  have c1 := cell_set_sameG w1 _ _ (.int .i64 0) c0
  simp [Leaves, settle, results, Try.results64, go_sem, c1]
  exact ⟨w1, HQ.out, O1.out, S1.out, rfl⟩
end Go.Proofs.Ytnapodeiigkebaa

/- The contract of package ring's Send. Condition: the ring lies as New laid it, or there is none, or nobody made it; what puts words has a contract. -/
namespace Go.Proofs.Ytnapodeiigkebaa
open Go.RowKit
set_option maxRecDepth 100000

/-- A message in a block of its own. -/
def MsgG (w : World) (g : Nat) (L : List Int) : Prop := ∃ cs, w.heap[g]? = some (.cells cs 57 (0, 0)) ∧ ∀ i, i < L.length → cs[i]? = some (.int .u32 (L.getD i 0))
theorem MsgG.cell {w : World} {g : Nat} {L : List Int} (h : MsgG w g L) (i : Nat) (hi : i < L.length) : w.cell? ⟨g, i, none⟩ = some (.int .u32 (L.getD i 0)) := by
  obtain ⟨cs, h1, h2⟩ := h
  rw [cell_of_row w g _ _ _ _ h1]; exact h2 i hi
theorem MsgG.only {w w' : World} {g : Nat} {L : List Int} {S : Nat → Prop} (h : MsgG w g L) (hw : Only w w' S) (hS : ¬ S g) : MsgG w' g L := let ⟨cs, h1, h2⟩ := h; ⟨cs, hw.kept h1 hS, h2⟩
theorem MsgG.below {w w' : World} {g : Nat} {L : List Int} (h : MsgG w g L) (hb : Below w.heap.size w w') : MsgG w' g L := let ⟨cs, h1, h2⟩ := h; ⟨cs, below_block hb h1, h2⟩
theorem MsgG.rowAt {w : World} {g c : Nat} {L : List Int} (h : MsgG w g L) : RowAt w (.slice (some ⟨g, 0, none⟩) L.length c) L :=
  ⟨_, c, rfl, Or.inr ⟨g, 0, rfl, let ⟨_, h1, _⟩ := h; lt_of_block h1, fun i hi => by rw [Nat.zero_add]; exact h.cell i hi⟩⟩
def wdsL (L : List Int) : List Value := L.map (Value.int .u32)
theorem wdsL_get (L : List Int) (i : Nat) (h : i < L.length) : (wdsL L)[i]? = some (.int .u32 (L.getD i 0)) := by simp [wdsL, h]
theorem wdsL_one (L : List Int) : ∀ u ∈ wdsL L, u.oneCell' = true := fun u hu => by
  obtain ⟨x, _, rfl⟩ := List.mem_map.1 hu; rfl
/-- A row of words of one's own. -/
abbrev OwnW (w : World) (base : Nat) (v : Value) (L : List Int) : Prop := w.ownsRow base 57 1 v L.length (wdsL L)
theorem OwnW.msg {w : World} {base : Nat} {v : Value} {L : List Int} (h : OwnW w base v L) (hL : 1 ≤ L.length) : ∃ g c, v = .slice (some ⟨g, 0, none⟩) L.length c ∧ base ≤ g ∧ MsgG w g L := by
  have hc := h
  rcases h.2 with ⟨rfl, h0⟩ | ⟨g, cap, cur, rfl, hb, hg, _⟩
  · omega
  · refine ⟨g, cap, rfl, hb, cur, hg, fun i hi => ?_⟩
    have := hc.cells (g := g) rfl i _ (wdsL_get L i hi)
    rw [Addr.add_mid, cell_of_row w g _ _ _ _ hg, Nat.zero_add] at this
    exact this
theorem wordInfoG : (Try.prog.info? 57).map (fun i => (i.zero, i.size, i.bytes)) = some (some (.int .u32 0), 1, 4) := by kernel_rfl
set_option maxHeartbeats 1000000 in
theorem clone_okG (L : List Int) (v : Value) (w : World) (h : RowAt w v L) (h1 : 1 ≤ L.length) (hl : L.length ≤ 1000) : Calls Try.prog 63 #[v] w fun e w' => ∃ g c, e = .returned (.slice (some ⟨g, 0, none⟩) L.length c) ∧ w.heap.size ≤ g ∧ MsgG w' g L ∧ Below w.heap.size w w' := by
  obtain ⟨ii, hi, hi0, hi1, hi2⟩ := info_parts wordInfoG
  have OM := Lib.hid (World.ownsRow_lit (base := w.heap.size) (e := 57) (size := 1) w #[] 0 (Nat.le_refl _) (by decide) rfl)
  have AM : Hid (Below w.heap.size w (w.alloc (.cells #[] 57))) := Lib.hid ((Below.refl _ _).alloc (Nat.le_refl _) _)
  obtain ⟨a, c, rfl, h⟩ := h
  obtain ⟨b, o, rfl, hlt, hc⟩ := h.resolve_left (by rintro rfl; simp at h1)
  have CC : Hid (∀ j u, (wdsL L)[j]? = some u → (w.alloc (.cells #[] 57)).cell? ((⟨b, o, none⟩ : Addr).add j) = some u) := Lib.hid fun j u hu => by
    have hj : j < L.length := by have := (List.getElem?_eq_some_iff.1 hu).1; simpa [wdsL] using this
    rw [wdsL_get L j hj] at hu
    rw [Addr.add_mid, ← Option.some.inj hu]
    exact (AM.out.cell (p := ⟨b, o + j, none⟩) hlt).trans (hc j hj)
  have LL : Hid ((wdsL L).length = L.length * 1) := Lib.hid (by simp [wdsL])
  have OU : Hid (∀ v V, OwnW V w.heap.size v L → ∃ g c, v = .slice (some ⟨g, 0, none⟩) L.length c ∧ w.heap.size ≤ g ∧ MsgG V g L) := Lib.hid fun v V h => OwnW.msg h h1
  have q0 : ∀ (n : Nat) (w : World), (binOp .eql 43 (.slice (some ⟨b, o, none⟩) n c) (.slice none 0 0)).run Try.prog w = .ok (.bool false) w := fun _ _ => rfl
  have X1 := Lib.hid (wdsL_one L)
  unfold OwnW at OU
  generalize wdsL L = xs at CC LL OU X1
  obtain ⟨n, hn⟩ : ∃ n, n = L.length := ⟨_, rfl⟩
  rw [← hn] at hl LL OU ⊢
  clear hc h h1 hlt hn
  go_enter Try.func63, Try.ntmps63
  go_wp2_with (first
    | (at_builtin; (refine wpList_append_own _ rfl (.tmp 5) (.tmp 6) 43 rfl w.heap.size 57 ii (.int .u32 0) 1 4 Try.underlying43 hi hi0 hi1 hi2 rfl (by decide) _ 0 [] rfl OM.out ⟨b, o, none⟩ n c xs rfl LL.out CC.out X1.out (by unfold maxLen; omega) (by omega) (by simp) ?_; intro v5 w5 ho hg _; have B5 : Hid (Below w.heap.size w w5) := Lib.hid (AM.out.grown hg (by simp) (fun g h => (World.ownsRow.lt OM.out g h).1)); rw [Nat.zero_add] at ho; have OW := Lib.hid (OU.out _ _ ho); clear ho hg)))
  go_ret
  obtain ⟨g, c5, rfl, h1, h2⟩ := OW.out
  exact ⟨g, ⟨c5, rfl⟩, h1, h2, B5.out⟩

/-- Words in which the first so many of a message are put. -/
def msgF (g : Nat → Int) (at_ : Nat) (L : List Int) (i : Nat) : Nat → Int := fun j => if j = at_ then (L.length : Int) else if at_ < j ∧ j ≤ at_ + i then L.getD (j - at_ - 1) 0 else g j
theorem msgF_zero (g : Nat → Int) (at_ : Nat) (L : List Int) : upG g (at_ + 0) (L.length : Int) = msgF g at_ L 0 := by
  funext j
  unfold upG msgF
  by_cases h : j = at_
  · simp [h]
  · rw [if_neg (by omega), if_neg h, if_neg (by omega)]
theorem msgF_step (g : Nat → Int) (at_ : Nat) (L : List Int) (i : Nat) : upG (msgF g at_ L i) (at_ + (1 + i)) (L.getD i 0) = msgF g at_ L (i + 1) := by
  funext j
  unfold upG msgF
  by_cases h : j = at_ + (1 + i)
  · rw [if_pos h, if_neg (by omega), if_pos (by omega), show j - at_ - 1 = i by omega]
  · rw [if_neg h]
    by_cases h2 : j = at_
    · rw [if_pos h2, if_pos h2]
    · rw [if_neg h2, if_neg h2]
      by_cases h3 : at_ < j ∧ j ≤ at_ + i
      · rw [if_pos h3, if_pos (by omega)]
      · rw [if_neg h3, if_neg (by omega)]
section
variable {St : (Nat → Int) → World → Prop} {S : Nat → Prop} {N : Nat} {k : Nat} {first caps : Array Value} {g0 : Nat → Int} {w : World} {b c d f m : Nat}
theorem RngAt.of_box {t : TypeId} {cs : Array Value} {j : Nat} (R : RngAt w b c d f m) (h : w.heap[j]? = some (.cells cs t (0, 0))) (ht : t ≠ 120) : j ≠ b := kind_ne h R.box (by simp only [kindOf]; intro e; exact ht (Option.some.inj e))
/-- What the closure of Send keeps while it puts words. -/
structure SendG (St : (Nat → Int) → World → Prop) (S : Nat → Prop) (b c d f m : Nat) (k : Nat) (first caps : Array Value) (g0 : Nat → Int) (L : List Int) (w : World) (bp bb g : Nat) (j : Nat) (V : World) : Prop where
  r : RngAt V b c d f (m + 1)
  st : St (msgF g0 (begG c d f m) L j) V
  cap : CapG 102 V (.func (.func k) first caps) bp bb (begG c d f m)
  msg : MsgG V g L
  only : Only w V (fun j => j = b ∨ S j)
theorem SendG.put {L : List Int} {w : World} {bp bb g j : Nat} {V V' : World} (h : SendG St S b c d f m k first caps g0 L w bp bb g j V) (hb : ¬ S b) (h1 : ¬ S bp) (h2 : ¬ S bb) (h3 : ¬ S g) (hs : St (upG (msgF g0 (begG c d f m) L j) (begG c d f m + (1 + j)) (L.getD j 0)) V') (ho : Only V V' S) : SendG St S b c d f m k first caps g0 L w bp bb g (j + 1) V' :=
  ⟨h.r.only ho hb, msgF_step _ _ _ _ ▸ hs, h.cap.only ho h1 h2, h.msg.only ho h3, h.only.trans (ho.mono fun _ h => Or.inr h)⟩
set_option maxHeartbeats 1000000 in
theorem sendIt_okG (K : KeepG St S N) (P : PutsG St S N k first caps) (R : RngAt w b c d f m) (hb : ¬ S b) (hm : m < c) (hN : wdsG c d ≤ N) (hN2 : N ≤ 1000000) (hs : St g0 w) (L : List Int) (hL : 1 ≤ L.length ∧ L.length ≤ d) (hw : ∀ x ∈ L, 0 ≤ x ∧ x < 4294967296)
    (rb pb lb g n cl : Nat) (hn : n = L.length) (M : MsgG w g L) (hg : ¬ S g) (X1 : w.heap[rb]? = some (.cells #[.pointer (some ⟨b, 0, none⟩)] 89 (0, 0))) (X2 : w.heap[pb]? = some (.cells #[.func (.func k) first caps] 102 (0, 0))) (X3 : w.heap[lb]? = some (.cells #[.slice (some ⟨g, 0, none⟩) n cl] 43 (0, 0))) (h3 : ¬ S lb) :
    Calls Try.prog 65 #[.pointer (some ⟨rb, 0, none⟩), .pointer (some ⟨pb, 0, none⟩), .pointer (some ⟨lb, 0, none⟩)] w fun e w' => e = .returned (.tuple #[]) ∧ (RngAt w' b c d f (m + 1) ∧ St (msgF g0 (begG c d f m) L L.length) w') ∧ Only w w' (fun j => j = b ∨ S j) := by
  have c1 := cell_of_one X1
  have c2 := cell_of_one X2
  have PT := Lib.hid (putter_okG R k first caps)
  have BG := Lib.hid (begG_lt (c := c) (d := d) (f := f) (i := m) R.c1)
  have HK := Lib.hid K
  have HP := Lib.hid P
  have HR := Lib.hid R
  have HS := Lib.hid hs
  have HM := Lib.hid M
  have HW := Lib.hid hw
  have HL := Lib.hid hL
  have HN := Lib.hid hn
  have X3 := Lib.hid X3
  have L3 := Lib.hid (R.of_box X3.out (by decide) : lb ≠ b)
  have nb := Lib.hid hb
  have ng := Lib.hid hg
  have n3 := Lib.hid h3
  have hc8 := R.c8
  have hd8 := R.d8
  have SL := Lib.hid (K.lt g0 w hs)
  have n8 : n ≤ 8 := by omega
  have nw : IntKind.u32.wrap (n : Int) = (n : Int) := IntWalk.u32_in _ (by omega)
  have R1 := Lib.hid (lt_of_block X1)
  clear K P R hs M hw hL X1 X2 hn
  go_enter Try.func65, Try.ntmps65
  go_wp2_with fail
  refine PT.out.mono ?_
  rintro e w1 ⟨bp, bb, rfl, hC, hp, hq, hb1⟩
  have x1 := (hb1.cell (p := ⟨rb, 0, none⟩) R1.out).trans c1
  have R2 := HR.out.below hb1
  have c3 := R2.many
  have f3 := R2.free 3
  obtain ⟨w2, hw2⟩ : ∃ w2, w2 = w1.setCell ⟨b, 3, none⟩ (.int .i64 ((m : Int) + 1)) := ⟨_, rfl⟩
  have O2 : Only w1 w2 (fun j => j = b) := Only.grown (hw2 ▸ grownBy_setCell w1 b 3 _) rfl
  have np : ¬ S bp := fun h => by have := SL.out _ h; omega
  have nq : ¬ S bb := fun h => by have := SL.out _ h; omega
  have I2 : Hid (RngAt w2 b c d f (m + 1) ∧ St g0 w2 ∧ CapG 102 w2 (.func (.func k) first caps) bp bb (begG c d f m) ∧ MsgG w2 g L ∧ Only w w2 (fun j => j = b ∨ S j)) := Lib.hid ⟨hw2 ▸ R2.setMany (m + 1) (by omega), HK.out.stay _ _ _ (HK.out.below HS.out hb1) (O2.mono fun j e h => nb.out (e ▸ h)), hC.only O2 (hC.p |> fun h e => R2.of_box h (by decide) e) (hC.b |> fun h e => R2.of_box h (by decide) e), (HM.out.below hb1).only O2 (let ⟨_, h, _⟩ := HM.out.below hb1; R2.of_box h (by decide)), (Only.below hb1).trans (O2.mono fun _ e => Or.inl e)⟩
  have x3 := cell_of_one (below_block hb1 X3.out)
  have l1 : ¬ lb = b := L3.out
  have l2 : ¬ b = lb := fun e => L3.out e.symm
  have NP := Lib.hid np
  have NQ := Lib.hid nq
  clear hC hp hq O2 R2 hb1 np nq c1 c2
  go_wp2_with fail
  rw [← hw2]
  clear x1 c3 f3 hw2 x3 l1 l2
  have P0 := put_okG HP.out I2.out.2.1 I2.out.2.2.1 0 (by have := BG.out; omega) hN2 (n : Int) (by have := HL.out; have := HN.out; omega)
  rw [show ((0 : Nat) : Int) = 0 from rfl] at P0
  refine P0.mono ?_
  clear P0
  rintro e w3 ⟨rfl, hs3, ho3⟩
  rw [HN.out, msgF_zero] at hs3
  have S3 : Hid (SendG St S b c d f m k first caps g0 L w bp bb g 0 w3) := Lib.hid ⟨I2.out.1.only ho3 nb.out, hs3, I2.out.2.2.1.only ho3 NP.out NQ.out, I2.out.2.2.2.1.only ho3 ng.out, I2.out.2.2.2.2.trans (ho3.mono fun _ h => Or.inr h)⟩
  have x3 := cell_of_one (I2.out.2.2.2.2.trans (ho3.mono fun _ h => Or.inr h) |>.kept X3.out (fun h => h.elim L3.out n3.out))
  clear hs3 ho3 I2
  go_wp2_with fail
  go_loopw [23] (fun i wr => ∃ j : Nat, i = .int .i64 (j : Int) ∧ j ≤ n ∧ SendG St S b c d f m k first caps g0 L w bp bb g j wr) (fun i _ => (n - (intOf i).toNat))
  case atStart => exact ⟨0, rfl, Nat.zero_le _, S3.out⟩
  case round =>
    obtain ⟨j, rfl, hj, hR⟩ := hrel
    have HR := Lib.hid hR
    clear hR
    by_cases hlt : j < n
    · have ck := HR.out.msg.cell j (by have := HN.out; omega)
      have PK := Lib.hid (put_okG HP.out HR.out.st HR.out.cap (1 + j) (by have := BG.out; have := HL.out; have := HN.out; omega) hN2 (L.getD j 0) (HW.out _ (by have := HN.out; rw [List.getD_eq_getElem?_getD, List.getElem?_eq_getElem (by omega)]; exact List.getElem_mem _)))
      obtain ⟨x, hx⟩ : ∃ x, x = L.getD j 0 := ⟨_, rfl⟩
      rw [← hx] at ck PK
      rw [show ((1 + j : Nat) : Int) = 1 + (j : Int) by push_cast; rfl] at PK
      have HX := Lib.hid hx
      clear hx
      go_wp2_with fail
      refine PK.out.mono ?_
      rintro e w4 ⟨rfl, hs4, ho4⟩
      rw [HX.out] at hs4
      have S4 := Lib.hid (HR.out.put nb.out NP.out NQ.out ng.out hs4 ho4)
      clear hs4 ho4
      go_wp2
      go_roundw
      case rel => exact ⟨j + 1, by go_num, by omega, S4.out⟩
      case measure => simp [intOf]; omega
    · obtain rfl : j = n := by omega
      go_wp2
      go_end0
      exact ⟨rfl, ⟨HR.out.r, by have := HR.out.st; rwa [HN.out] at this⟩, HR.out.only⟩
end
end Go.Proofs.Ytnapodeiigkebaa

/- The contract of package ring's Send. Condition: the ring lies as New laid it, or there is none, or nobody made it; what puts words has a contract. -/
namespace Go.Proofs.Ytnapodeiigkebaa
open Go.RowKit
set_option maxRecDepth 100000

/-- The boxes of Send. -/
def sndG (w : World) (p : Option Addr) (v fv : Value) : World := ((w.alloc (.cells #[.pointer p] 89)).alloc (.cells #[v] 43)).alloc (.cells #[fv] 102)
section
variable {w : World} {p : Option Addr} {v fv : Value}
theorem sndG_below : Below w.heap.size w (sndG w p v fv) := (below_two w _ _).alloc (by simp; omega) _
theorem sndG_size : (sndG w p v fv).heap.size = w.heap.size + 3 := by simp [sndG]
theorem sndG_0 : (sndG w p v fv).heap[w.heap.size]? = some (.cells #[.pointer p] 89 (0, 0)) := (heap_alloc_old _ _ (by simp; omega)).trans (heap_alloc2_old _ _ _)
theorem sndG_1 : (sndG w p v fv).heap[w.heap.size + 1]? = some (.cells #[v] 43 (0, 0)) := (heap_alloc_old _ _ (by simp)).trans (heap_alloc2_new _ _ _)
theorem sndG_2 : (sndG w p v fv).heap[w.heap.size + 1 + 1]? = some (.cells #[fv] 102 (0, 0)) := by
  rw [show w.heap.size + 1 + 1 = ((w.alloc (.cells #[.pointer p] 89)).alloc (.cells #[v] 43)).heap.size by simp]; exact heap_alloc_new _ _
end
theorem fnEqG (k : Nat) (first caps : Array Value) (w : World) : (binOp .eql 102 (.func (.func k) first caps) .nilFunc).run Try.prog w = .ok (.bool false) w := by kernel_rfl
section
variable {w : World} {b c d f m : Nat}
set_option maxHeartbeats 1000000 in
theorem send_badG (R : RngAt w b c d f m) (a : Option Addr) (n cl k : Nat) (first caps : Array Value) (hn : n < 1 ∨ (1 ≤ n ∧ d < n)) : Calls Try.prog 43 #[.pointer (some ⟨b, 0, none⟩), .slice a n cl, .func (.func k) first caps] w fun e w' => e = .returned (.int .i64 2) ∧ Below w.heap.size w w' := by
  have B := Lib.hid (sndG_below (w := w) (p := some ⟨b, 0, none⟩) (v := .slice a n cl) (fv := .func (.func k) first caps))
  have R1 := R.below B.out
  have H := Lib.hid (thereG_yes R1)
  have q0 := fnEqG k first caps
  have c1 := R1.wid
  clear R R1
  rcases hn with hn | ⟨h1, h2⟩
  · obtain rfl : n = 0 := by omega
    unfold sndG at H B c1
    go_enter Try.func43, Try.ntmps43
    go_wp2_with (go_at_call 61; refine H.out.mono ?_; rintro e w' ⟨rfl, rfl⟩)
    go_quiet (fail)
    go_wp2
    go_ret
    exact ⟨rfl, below_drewN B.out _⟩
  · have d1 : decide ((n : Int) < 1) = false := decide_eq_false (by omega)
    have d0 : decide (n < 1) = false := decide_eq_false (by omega)
    have d2 : decide ((d : Int) < (n : Int)) = true := decide_eq_true (by omega)
    have d3 : decide (d < n) = true := decide_eq_true (by omega)
    unfold sndG at H B c1
    go_enter Try.func43, Try.ntmps43
    go_wp2_with (go_at_call 61; refine H.out.mono ?_; rintro e w' ⟨rfl, rfl⟩)
    go_quiet (fail)
    go_wp2
    go_ret
    exact ⟨rfl, below_drewN B.out _⟩
set_option maxHeartbeats 1000000 in
theorem send_fullG (R : RngAt w b c d f c) (a : Option Addr) (n cl k : Nat) (first caps : Array Value) (hn : 1 ≤ n ∧ n ≤ d) : Calls Try.prog 43 #[.pointer (some ⟨b, 0, none⟩), .slice a n cl, .func (.func k) first caps] w fun e w' => e = .returned (.int .i64 12) ∧ Below w.heap.size w w' := by
  have B := Lib.hid (sndG_below (w := w) (p := some ⟨b, 0, none⟩) (v := .slice a n cl) (fv := .func (.func k) first caps))
  have H := Lib.hid (thereG_yes (R.below B.out))
  have q0 := fnEqG k first caps
  have R1 := R.below B.out
  have c0 := R1.cap
  have c1 := R1.wid
  have c3 := R1.many
  have d1 : decide ((n : Int) < 1) = false := decide_eq_false (by omega)
  have d0 : decide (n < 1) = false := decide_eq_false (by omega)
  have d2 : decide ((d : Int) < (n : Int)) = false := decide_eq_false (by omega)
  have d3 : decide (d < n) = false := decide_eq_false (by omega)
  clear R R1 hn
  unfold sndG at H B c0 c1 c3
  go_enter Try.func43, Try.ntmps43
  go_wp2_with (go_at_call 61; refine H.out.mono ?_; rintro e w' ⟨rfl, rfl⟩)
  go_quiet (fail)
  go_wp2
  go_quiet (fail)
  go_wp2
  go_ret
  exact ⟨rfl, below_drewN (below_drewN B.out _) _⟩
end
/-- What is turned later and was not there counts for nothing. -/
theorem Only.late {w w1 w' : World} {B C : Nat → Prop} (h : Only w w1 B) (k : Only w1 w' C) (hC : ∀ j, C j → j < w.heap.size → B j) : Only w w' B :=
  ⟨k.os.trans h.os, k.tape.trans h.tape, k.output.trans h.output, Nat.le_trans h.size k.size, fun j hj hB => (k.block j (Nat.lt_of_lt_of_le hj h.size) (fun e => hB (hC j e hj))).trans (h.block j hj hB)⟩
theorem enters_Send1G (args : Array Value) (W : World) : (callFunc 65 args).run Try.prog W = .ok (.enter 65 args) W := enters Try.func65 rfl rfl args W
section
variable {St : (Nat → Int) → World → Prop} {S : Nat → Prop} {N : Nat} {k : Nat} {first caps : Array Value} {g0 : Nat → Int} {w : World} {b c d f m : Nat}
set_option maxHeartbeats 1000000 in
theorem send_okG (K : KeepG St S N) (P : PutsG St S N k first caps) (R : RngAt w b c d f m) (hb : ¬ S b) (hm : m < c) (hN : wdsG c d ≤ N) (hN2 : N ≤ 1000000) (hs : St g0 w) (L : List Int) (hL : 1 ≤ L.length ∧ L.length ≤ d) (hw : ∀ x ∈ L, 0 ≤ x ∧ x < 4294967296) (v : Value) (M : RowAt w v L) :
    Calls Try.prog 43 #[.pointer (some ⟨b, 0, none⟩), v, .func (.func k) first caps] w fun e w' => e = .returned (.int .i64 0) ∧ RngAt w' b c d f (m + 1) ∧ St (msgF g0 (begG c d f m) L L.length) w' ∧ Only w w' (fun j => j = b ∨ S j) := by
  have hmf : ∀ (fn : Fn) (first cap : Array Value) (w : World), (Instr.makeFunc fn first cap).run Try.prog w = .ok (.func fn first cap) w := fun _ _ _ _ => rfl
  have HMm := Lib.hid M
  obtain ⟨a, cl, rfl, -⟩ := M
  have B := Lib.hid (sndG_below (w := w) (p := some ⟨b, 0, none⟩) (v := .slice a L.length cl) (fv := .func (.func k) first caps))
  have X0 := Lib.hid (sndG_0 (w := w) (p := some ⟨b, 0, none⟩) (v := .slice a L.length cl) (fv := .func (.func k) first caps))
  have X1 := Lib.hid (sndG_1 (w := w) (p := some ⟨b, 0, none⟩) (v := .slice a L.length cl) (fv := .func (.func k) first caps))
  have X2 := Lib.hid (sndG_2 (w := w) (p := some ⟨b, 0, none⟩) (v := .slice a L.length cl) (fv := .func (.func k) first caps))
  have q0 := fnEqG k first caps
  have R1 := R.below B.out
  have H := Lib.hid (thereG_yes R1)
  have c0 := R1.cap
  have c1 := R1.wid
  have c3 := R1.many
  have CL : Hid (∀ W, Below w.heap.size w W → Calls Try.prog 63 #[.slice a L.length cl] W fun e w' => ∃ g c, e = .returned (.slice (some ⟨g, 0, none⟩) L.length c) ∧ W.heap.size ≤ g ∧ MsgG w' g L ∧ Below W.heap.size W w') := Lib.hid fun W hb => clone_okG L _ W (HMm.out.below hb) hL.1 (by have := R.d8; omega)
  have IT := Lib.hid fun (V : World) (R : RngAt V b c d f m) (hs : St g0 V) (rb pb lb g n cl : Nat) (hn : n = L.length) => sendIt_okG K P R hb hm hN hN2 hs L hL hw rb pb lb g n cl hn
  have KB := Lib.hid fun (g : Nat → Int) (V V' : World) (h : St g V) (hb : Below V.heap.size V V') => K.below h hb
  have KS := Lib.hid K.stay
  have SL := Lib.hid (K.lt g0 w hs)
  have HS := Lib.hid hs
  have HR := Lib.hid R
  have nb := Lib.hid hb
  have hd8 := R.d8
  obtain ⟨n, hn⟩ : ∃ n, n = L.length := ⟨_, rfl⟩
  rw [← hn] at B X0 X1 X2 H c0 c1 c3 CL hL ⊢
  have d1 : decide ((n : Int) < 1) = false := decide_eq_false (by omega)
  have d0 : decide (n < 1) = false := decide_eq_false (by omega)
  have d2 : decide ((d : Int) < (n : Int)) = false := decide_eq_false (by omega)
  have d3 : decide (d < n) = false := decide_eq_false (by omega)
  have d4 : ((m : Int) == (c : Int)) = false := by simp; omega
  have d5 : (m == c) = false := by simp; omega
  have HN := Lib.hid hn
  clear R R1 K P hs hw HMm hb hL hn
  obtain ⟨W0, hW0⟩ : ∃ W0, W0 = sndG w (some ⟨b, 0, none⟩) (.slice a n cl) (.func (.func k) first caps) := ⟨_, rfl⟩
  rw [← hW0] at B X0 X1 X2
  have HW0 := Lib.hid hW0
  unfold sndG at H c0 c1 c3 hW0
  go_enter Try.func43, Try.ntmps43
  go_wp2_with (go_at_call 61; refine H.out.mono ?_; rintro e w' ⟨rfl, rfl⟩)
  go_quiet (fail)
  generalize nq = n1
  go_wp2
  go_quiet (fail)
  go_wp2_with fail
  rw [← hW0]
  generalize n1 + nq = n2
  have BD : Below w.heap.size w (W0.drewN n2) := below_drewN B.out n2
  refine (CL.out _ BD).mono ?_
  rintro e w2 ⟨g, c5, rfl, hg, hM, hb2⟩
  have g1 : w.heap.size + 3 ≤ g := by have := sndG_size (w := w) (p := some ⟨b, 0, none⟩) (v := .slice a n cl) (fv := .func (.func k) first caps); rw [← HW0.out] at this; have hg : W0.heap.size ≤ g := hg; omega
  have B2 : Below w.heap.size w w2 := BD.trans (hb2.mono BD.size)
  have y0 : w2.heap[w.heap.size]? = some (.cells #[.pointer (some ⟨b, 0, none⟩)] 89 (0, 0)) := below_block hb2 X0.out
  have y1 : w2.heap[w.heap.size + 1]? = some (.cells #[.slice a n cl] 43 (0, 0)) := below_block hb2 X1.out
  have y2 : w2.heap[w.heap.size + 1 + 1]? = some (.cells #[.func (.func k) first caps] 102 (0, 0)) := below_block hb2 X2.out
  have z0 := cell_of_one y0
  have z1 := cell_of_one y1
  have f1 := free_of_one y1
  obtain ⟨w3, hw3⟩ : ∃ w3, w3 = w2.setCell ⟨w.heap.size + 1, 0, none⟩ (.slice (some ⟨g, 0, none⟩) n c5) := ⟨_, rfl⟩
  have O3 : Only w2 w3 (fun j => j = w.heap.size + 1) := Only.grown (hw3 ▸ grownBy_setCell w2 _ 0 _) rfl
  have B3 : Hid (Below w.heap.size w w3) := Lib.hid (Only.old B2 O3 B2.size (fun j e => by omega))
  have Y0 := Lib.hid (O3.kept y0 (by omega))
  have Y1 : Hid (w3.heap[w.heap.size + 1]? = some (.cells #[.slice (some ⟨g, 0, none⟩) n c5] 43 (0, 0))) := Lib.hid (by rw [hw3, heap_setCell_same _ _ 0 _ _ _ y1]; rfl)
  have Y2 := Lib.hid (O3.kept y2 (by omega))
  have M3 := Lib.hid (hM.only O3 (by omega))
  have R3 := Lib.hid (HR.out.below B3.out)
  have S3 := Lib.hid (KB.out _ _ _ HS.out B3.out)
  have sz : Hid (w.heap.size + 3 ≤ w3.heap.size) := Lib.hid (by have := lt_of_block Y2.out; omega)
  have ns : Hid (∀ j, w.heap.size ≤ j → ¬ S j) := Lib.hid fun j hj h => by have := SL.out j h; omega
  have G1 := Lib.hid g1
  clear BD hg hM hb2 g1 y0 y1 y2 O3 B2
  go_wp2_with fail
  rw [← hw3]
  clear z0 z1 f1 hw3
  refine (guard_okG R3.out 65 _ enters_Send1G (fun w1 => RngAt w1 b c d f (m + 1) ∧ St (msgF g0 (begG c d f m) L L.length) w1) (fun j => j = b ∨ S j) (fun j h => h.elim (fun e => e ▸ R3.out.lt) (fun h => by have := SL.out j h; have := sz.out; omega)) (fun V hV _ => ?_)).mono ?_
  · exact IT.out V (R3.out.below hV) (KB.out _ _ _ S3.out hV) _ _ _ g n c5 HN.out (M3.out.below hV) (ns.out g (by have := G1.out; omega)) (below_block hV Y0.out) (below_block hV Y2.out) (below_block hV Y1.out) (ns.out _ (by omega))
  rintro e w5 ⟨rfl, w4, ⟨hr, hs4⟩, ho, hz, hw5⟩
  have O5 : Only w4 w5 (fun j => j = w3.heap.size + 1) := Only.grown (hw5 ▸ grownBy_setCell w4 _ 0 _) rfl
  have D5 : Hid (RngAt w5 b c d f (m + 1) ∧ St (msgF g0 (begG c d f m) L L.length) w5 ∧ Only w w5 (fun j => j = b ∨ S j)) := Lib.hid ⟨hr.only O5 (by have := R3.out.lt; omega), KS.out _ _ _ hs4 (O5.mono fun j e h => by have := SL.out j h; have := sz.out; omega), ((Only.below B3.out).trans (Only.refl w3 _) |>.late ho (fun j h _ => h)) |>.late O5 (fun j e h => by have := sz.out; omega)⟩
  clear hr hs4 ho hz hw5 O5
  go_wp2
  go_ret
  exact ⟨rfl, by have := D5.out; rwa [← HN.out] at this⟩
end
end Go.Proofs.Ytnapodeiigkebaa

/- The contract of what Recv of package ring does within its guard. Condition: the ring lies as New laid it; what tells words has a contract. -/
namespace Go.Proofs.Ytnapodeiigkebaa
open Go.RowKit
set_option maxRecDepth 100000

theorem made_wordsG (n : Nat) : madeCells #[.int .u32 0] n = wordsV (List.replicate n 0) := by
  apply Array.ext
  · rw [size_madeCells, wordsV_size, List.length_replicate]
  · intro i h1 h2
    have h3 : i % 1 = 0 := Nat.mod_one i
    simp [madeCells, wordsV, h3]
theorem make_wordsG (n : Nat) (hn : n ≤ 1000000) (w : World) : (Instr.makeSlice 43 (.int .i64 (n : Int)) (.int .i64 (n : Int))).run Try.prog w = .ok (.slice (some ⟨w.heap.size, 0, none⟩) n n) (w.alloc (.cells (wordsV (List.replicate n 0)) 57)) := by
  obtain ⟨i, hi, h1, h2, h3⟩ := info_parts wordInfoG
  have := run_make (P := Try.prog) w 43 57 i _ Try.underlying43 hi h1 .i64 .i64 n n (by omega) (by omega) (by rw [h3]; omega) (by omega)
  rw [h2] at this
  simpa [Value.cells, made_wordsG] using this
/-- A row of words, its first k filled. -/
def fillG (h : Nat → Int) (k n : Nat) : List Int := (List.range n).map fun j => if j < k then h j else 0
theorem fillG_len (h : Nat → Int) (k n : Nat) : (fillG h k n).length = n := by simp [fillG]
theorem fillG_zero (h : Nat → Int) (n : Nat) : fillG h 0 n = List.replicate n 0 := by
  refine List.ext_getElem (by simp [fillG]) fun i h1 h2 => ?_
  simp [fillG]
theorem fillG_set (h : Nat → Int) (k n : Nat) : (fillG h k n).set k (h k) = fillG h (k + 1) n := by
  refine List.ext_getElem (by simp [fillG]) fun i h1 h2 => ?_
  rw [List.getElem_set]
  simp only [fillG, List.getElem_map, List.getElem_range]
  by_cases e : k = i
  · subst e; simp
  · rw [if_neg e]
    by_cases e2 : i < k
    · rw [if_pos e2, if_pos (by omega)]
    · rw [if_neg e2, if_neg (by omega)]
/-- The words of a message: so many behind its length. -/
def msgOf (g : Nat → Int) (at_ n : Nat) : List Int := (List.range n).map fun j => g (at_ + (1 + j))
theorem fillG_all (g : Nat → Int) (at_ n : Nat) : fillG (fun j => g (at_ + (1 + j))) n n = msgOf g at_ n := by
  unfold fillG msgOf
  exact List.map_congr_left fun j hj => by rw [if_pos (List.mem_range.1 hj)]
theorem msg_of_row {w : World} {g : Nat} {L : List Int} (h : w.heap[g]? = some (.cells (wordsV L) 57 (0, 0))) : MsgG w g L := ⟨_, h, fun i hi => wordsV_get L i hi⟩
section
variable {St : (Nat → Int) → World → Prop} {S : Nat → Prop} {N : Nat} {k : Nat} {first caps : Array Value} {g0 : Nat → Int} {w : World} {b c d f m : Nat}
/-- What the closure of Recv keeps while it takes words. -/
structure RecvG (St : (Nat → Int) → World → Prop) (b c d f m at_ : Nat) (k : Nat) (first caps : Array Value) (g0 : Nat → Int) (w : World) (bp bb lb gw n : Nat) (lv : Value) (j : Nat) (V : World) : Prop where
  r : RngAt V b c d f m
  st : St g0 V
  cap : CapG 104 V (.func (.func k) first caps) bp bb at_
  row : V.heap[gw]? = some (.cells (wordsV (fillG (fun j => g0 (at_ + (1 + j))) j n)) 57 (0, 0))
  lbox : V.heap[lb]? = some (.cells #[lv] 43 (0, 0))
  only : Only w V (fun j => j = b)
theorem below_step1 (w : World) (o : Obj) : Below w.heap.size w (w.alloc o) := (Below.refl _ _).alloc (Nat.le_refl _) o
set_option maxHeartbeats 4000000 in
theorem recvIt_okG (K : KeepG St S N) (G : GetsG St N k first caps) (R : RngAt w b c d f (m + 1)) (hb : ¬ S b) (hN : wdsG c d ≤ N) (hN2 : N ≤ 1000000) (hs : St g0 w)
    (rb pb lb : Nat) (lv : Value) (X1 : w.heap[rb]? = some (.cells #[.pointer (some ⟨b, 0, none⟩)] 89 (0, 0))) (X2 : w.heap[pb]? = some (.cells #[.func (.func k) first caps] 104 (0, 0))) (X3 : w.heap[lb]? = some (.cells #[lv] 43 (0, 0))) :
    Calls Try.prog 67 #[.pointer (some ⟨rb, 0, none⟩), .pointer (some ⟨pb, 0, none⟩), .pointer (some ⟨lb, 0, none⟩)] w fun e w' => e = .returned (.tuple #[]) ∧ (RngAt w' b c d ((f + 1) % c) m ∧ ∃ g, w.heap.size ≤ g ∧ w'.heap[lb]? = some (.cells #[.slice (some ⟨g, 0, none⟩) (lenG d (g0 (begG c d f 0))) (lenG d (g0 (begG c d f 0)))] 43 (0, 0)) ∧ MsgG w' g (msgOf g0 (begG c d f 0) (lenG d (g0 (begG c d f 0))))) ∧ Only w w' (fun j => j = b ∨ j = lb) := by
  have c1 := cell_of_one X1
  have c2 := cell_of_one X2
  have PT := Lib.hid (teller_okG R k first caps)
  have BG := Lib.hid (begG_lt (c := c) (d := d) (f := f) (i := 0) R.c1)
  have WX := Lib.hid (K.wd g0 w hs (begG c d f 0) (by have := begG_lt (c := c) (d := d) (f := f) (i := 0) R.c1; omega))
  have HK := Lib.hid K
  have HG := Lib.hid G
  have HR := Lib.hid R
  have HS := Lib.hid hs
  have X3 := Lib.hid X3
  have X1 := Lib.hid X1
  have L1 := Lib.hid (R.of_box X1.out (by decide) : rb ≠ b)
  have nb := Lib.hid hb
  have L3 := Lib.hid (R.of_box X3.out (by decide) : lb ≠ b)
  have hc1 := R.c1
  have hc8 := R.c8
  have hd8 := R.d8
  have hfc := R.fc
  have hmc := R.mc
  have LN := Lib.hid (lenG_ge (d := d) (x := g0 (begG c d f 0)) R.d1 WX.out.1)
  have R1 := Lib.hid (lt_of_block X1.out)
  have SL := Lib.hid (K.lt g0 w hs)
  obtain ⟨f', hf'⟩ : ∃ f', f' = (f + 1) % c := ⟨_, rfl⟩
  have hf2 : f' < c := by rw [hf']; exact Nat.mod_lt _ (by omega)
  have ht : ((f : Int) + 1).tmod (c : Int) = (f' : Int) := by rw [Int.tmod_eq_emod_of_nonneg (by omega), hf']; push_cast; rfl
  have hcz : ¬ (c : Int) = 0 := by omega
  rw [← hf']
  obtain ⟨at_, hat⟩ : ∃ a, a = begG c d f 0 := ⟨_, rfl⟩
  rw [← hat] at PT BG WX LN ⊢
  obtain ⟨n, hn⟩ : ∃ n, n = lenG d (g0 at_) := ⟨_, rfl⟩
  rw [← hn] at LN ⊢
  have HN := Lib.hid hn
  clear K G R hs X2 hb hf' hat hn
  go_enter Try.func67, Try.ntmps67
  go_wp2_with fail
  refine PT.out.mono ?_
  rintro e w1 ⟨bp, bb, rfl, hC, hp, hq, hb1⟩
  have x1 := (hb1.cell (p := ⟨rb, 0, none⟩) R1.out).trans c1
  have R2 := HR.out.below hb1
  have r0 := R2.cap
  have r2 := R2.fst
  have r3 : w1.cell? ⟨b, 3, none⟩ = some (.int .i64 ((m : Int) + 1)) := R2.many
  have f2 := R2.free 2
  have f3 := R2.free 3
  have C1 := Lib.hid hC
  have B1 := Lib.hid hb1
  have RR := Lib.hid R2
  have HP := Lib.hid hp
  have HQ := Lib.hid hq
  have wr1 : (m : Int) + 1 ≤ 8 := by omega
  clear hC hp hq R2 hb1 c1 c2
  go_wp2_with fail
  refine Code.wp_mono (Q := fun e a' w' => e = .normal ∧ a' = { tmps := #[.pointer (some ⟨rb, 0, none⟩), .pointer (some ⟨pb, 0, none⟩), .pointer (some ⟨lb, 0, none⟩), .func (.func 92) #[] #[.pointer (some ⟨bp, 0, none⟩), .pointer (some ⟨bb, 0, none⟩)], undef, undef, .pointer (some ⟨b, 0, none⟩), .func (.func k) first caps, .func (.func 92) #[] #[.pointer (some ⟨bp, 0, none⟩), .pointer (some ⟨bb, 0, none⟩)], .pointer (some ⟨b, 0, none⟩), .pointer (some ⟨b, 0, none⟩), .pointer (some ⟨b, 0, none⟩), .pointer (some ⟨b, 0, none⟩), .pointer (some ⟨b, 2, none⟩), .int .i64 (f : Int), .int .i64 ((f : Int) + 1), .pointer (some ⟨b, 0, none⟩), .pointer (some ⟨b, 0, none⟩), .pointer (some ⟨b, 0, none⟩), .int .i64 (c : Int), .int .i64 (f' : Int), .pointer (some ⟨b, 0, none⟩), .pointer (some ⟨b, 0, none⟩), .pointer (some ⟨b, 3, none⟩), .int .i64 ((m : Int) + 1), .int .i64 (m : Int), .pointer (some ⟨b, 0, none⟩), .pointer (some ⟨b, 2, none⟩), .pointer (some ⟨b, 0, none⟩), .pointer (some ⟨b, 3, none⟩), undef, undef, undef, undef, undef, undef, undef, undef, undef, undef, undef, undef, undef, undef, undef, undef, undef, undef], defers := [] } ∧ w' = ((w1.setCell ⟨b, 2, none⟩ (.int .i64 (f' : Int))).setCell ⟨b, 3, none⟩ (.int .i64 (m : Int))).drew) ?rest ?reg
  case reg =>
    have he : ((f : Int) + 1) % (c : Int) = (f' : Int) := by rw [← ht, Int.tmod_eq_emod_of_nonneg (by omega)]
    have hcn : ¬ c = 0 := by omega
    have wf : IntKind.i64.wrap ((f : Int) + 1) = (f : Int) + 1 := IntWalk.i64_in _ (by omega)
    have wm : IntKind.i64.wrap (m : Int) = (m : Int) := IntWalk.i64_in _ (by omega)
    have KS2 : ∀ v, (w1.setCell ⟨b, 2, none⟩ v).drew.cell? ⟨rb, 0, none⟩ = some (.pointer (some ⟨b, 0, none⟩)) ∧ (w1.setCell ⟨b, 2, none⟩ v).drew.cell? ⟨b, 0, none⟩ = some (.int .i64 (c : Int)) := fun v => ⟨(World.cell?_setCell_far _ _ _ _ L1.out.symm).trans x1, (World.cell?_setCell_other _ _ _ _ (by simp)).trans r0⟩
    have KS3 : ∀ v u, ((w1.setCell ⟨b, 2, none⟩ v).setCell ⟨b, 3, none⟩ u).drew.cell? ⟨rb, 0, none⟩ = some (.pointer (some ⟨b, 0, none⟩)) ∧ ((w1.setCell ⟨b, 2, none⟩ v).setCell ⟨b, 3, none⟩ u).drew.cell? ⟨b, 0, none⟩ = some (.int .i64 (c : Int)) := fun v u => ⟨(World.cell?_setCell_far _ _ _ _ L1.out.symm).trans (KS2 v).1, (World.cell?_setCell_other _ _ _ _ (by simp)).trans (KS2 v).2⟩
    clear HK HG HR HS X1 X3 nb L1 L3 R1 SL PT BG WX LN HN C1 B1 RR HP HQ
    as_aux_lemma =>
      refine wp_region_noPanic ?_
      refine wp_region_held_drew (S := fun V => V.cell? ⟨rb, 0, none⟩ = some (.pointer (some ⟨b, 0, none⟩)) ∧ V.cell? ⟨b, 0, none⟩ = some (.int .i64 (c : Int))) (by kernel_rfl) (by exact ⟨x1, r0⟩) (fun hHeld => ?_)
      refine wpAnyH_take (i := 0) (oi := _) (v := .pointer (some ⟨b, 0, none⟩)) rfl (by kernel_rfl) (by kernel_rfl) (by kernel_rfl) (fun _ _ _ h => h) (Or.inl ⟨by rfl, ?_⟩) (by assumption) ?_
      · intro w hSw
        try dsimp only at hSw
        go_split_ands
        go_simp
      try simp only [Act.put, List.getElem_toArray, List.getElem_cons_zero, List.setIfInBounds_toArray, List.set_cons_zero, List.set_cons_succ]
      refine wpAnyH_take (i := 1) (oi := _) (v := .pointer (some ⟨b, 0, none⟩)) rfl (by kernel_rfl) (by kernel_rfl) (by kernel_rfl) (fun _ _ _ h => h) (Or.inl ⟨by rfl, ?_⟩) (by assumption) ?_
      · intro w hSw
        try dsimp only at hSw
        go_split_ands
        go_simp
      try simp only [Act.put, List.getElem_toArray, List.getElem_cons_zero, List.getElem_cons_succ, List.setIfInBounds_toArray, List.set_cons_zero, List.set_cons_succ]
      refine wpAnyH_take (i := 2) (oi := _) (v := .pointer (some ⟨b, 0, none⟩)) rfl (by kernel_rfl) (by kernel_rfl) (by kernel_rfl) (fun _ _ _ h => h) (Or.inl ⟨by rfl, ?_⟩) (by assumption) ?_
      · intro w hSw
        try dsimp only at hSw
        go_split_ands
        go_simp
      try simp only [Act.put, List.getElem_toArray, List.getElem_cons_zero, List.getElem_cons_succ, List.setIfInBounds_toArray, List.set_cons_zero, List.set_cons_succ]
      refine wpAnyH_take (i := 3) (oi := _) (v := .pointer (some ⟨b, 0, none⟩)) rfl (by kernel_rfl) (by kernel_rfl) (by kernel_rfl) (fun _ _ _ h => h) (Or.inl ⟨by rfl, ?_⟩) (by assumption) ?_
      · intro w hSw
        try dsimp only at hSw
        go_split_ands
        go_simp
      try simp only [Act.put, List.getElem_toArray, List.getElem_cons_zero, List.getElem_cons_succ, List.setIfInBounds_toArray, List.set_cons_zero, List.set_cons_succ]
      refine wpAnyH_take (i := 4) (oi := _) (v := .pointer (some ⟨b, 2, none⟩)) rfl (by kernel_rfl) (by kernel_rfl) (by kernel_rfl) (fun _ _ _ h => h) (Or.inl ⟨by rfl, ?_⟩) (by assumption) ?_
      · intro w hSw
        try dsimp only at hSw
        go_split_ands
        go_simp
      try simp only [Act.put, List.getElem_toArray, List.getElem_cons_zero, List.getElem_cons_succ, List.setIfInBounds_toArray, List.set_cons_zero, List.set_cons_succ]
      refine wpAnyH_take (i := 7) (oi := _) (v := .pointer (some ⟨b, 0, none⟩)) rfl (by kernel_rfl) (by kernel_rfl) (by kernel_rfl) (fun _ _ _ h => h) (Or.inl ⟨by rfl, ?_⟩) (by assumption) ?_
      · intro w hSw
        try dsimp only at hSw
        go_split_ands
        go_simp
      try simp only [Act.put, List.getElem_toArray, List.getElem_cons_zero, List.getElem_cons_succ, List.setIfInBounds_toArray, List.set_cons_zero, List.set_cons_succ]
      refine wpAnyH_take (i := 8) (oi := _) (v := .pointer (some ⟨b, 0, none⟩)) rfl (by kernel_rfl) (by kernel_rfl) (by kernel_rfl) (fun _ _ _ h => h) (Or.inl ⟨by rfl, ?_⟩) (by assumption) ?_
      · intro w hSw
        try dsimp only at hSw
        go_split_ands
        go_simp
      try simp only [Act.put, List.getElem_toArray, List.getElem_cons_zero, List.getElem_cons_succ, List.setIfInBounds_toArray, List.set_cons_zero, List.set_cons_succ]
      refine wpAnyH_take (i := 9) (oi := _) (v := .pointer (some ⟨b, 0, none⟩)) rfl (by kernel_rfl) (by kernel_rfl) (by kernel_rfl) (fun _ _ _ h => h) (Or.inl ⟨by rfl, ?_⟩) (by assumption) ?_
      · intro w hSw
        try dsimp only at hSw
        go_split_ands
        go_simp
      try simp only [Act.put, List.getElem_toArray, List.getElem_cons_zero, List.getElem_cons_succ, List.setIfInBounds_toArray, List.set_cons_zero, List.set_cons_succ]
      refine wpAnyH_take (i := 10) (oi := _) (v := .int .i64 (c : Int)) rfl (by kernel_rfl) (by kernel_rfl) (by kernel_rfl) (fun _ _ _ h => h) (Or.inl ⟨by rfl, ?_⟩) (by assumption) ?_
      · intro w hSw
        try dsimp only at hSw
        go_split_ands
        go_simp
      try simp only [Act.put, List.getElem_toArray, List.getElem_cons_zero, List.getElem_cons_succ, List.setIfInBounds_toArray, List.set_cons_zero, List.set_cons_succ]
      refine wpAnyH_take (i := 12) (oi := _) (v := .pointer (some ⟨b, 0, none⟩)) rfl (by kernel_rfl) (by kernel_rfl) (by kernel_rfl) (fun _ _ _ h => h) (Or.inl ⟨by rfl, ?_⟩) (by assumption) ?_
      · intro w hSw
        try dsimp only at hSw
        go_split_ands
        go_simp
      try simp only [Act.put, List.getElem_toArray, List.getElem_cons_zero, List.getElem_cons_succ, List.setIfInBounds_toArray, List.set_cons_zero, List.set_cons_succ]
      refine wpAnyH_take (i := 13) (oi := _) (v := .pointer (some ⟨b, 0, none⟩)) rfl (by kernel_rfl) (by kernel_rfl) (by kernel_rfl) (fun _ _ _ h => h) (Or.inl ⟨by rfl, ?_⟩) (by assumption) ?_
      · intro w hSw
        try dsimp only at hSw
        go_split_ands
        go_simp
      try simp only [Act.put, List.getElem_toArray, List.getElem_cons_zero, List.getElem_cons_succ, List.setIfInBounds_toArray, List.set_cons_zero, List.set_cons_succ]
      refine wpAnyH_take (i := 14) (oi := _) (v := .pointer (some ⟨b, 3, none⟩)) rfl (by kernel_rfl) (by kernel_rfl) (by kernel_rfl) (fun _ _ _ h => h) (Or.inl ⟨by rfl, ?_⟩) (by assumption) ?_
      · intro w hSw
        try dsimp only at hSw
        go_split_ands
        go_simp
      try simp only [Act.put, List.getElem_toArray, List.getElem_cons_zero, List.getElem_cons_succ, List.setIfInBounds_toArray, List.set_cons_zero, List.set_cons_succ]
      refine wpAnyH_ready (rs := [5, 15]) (by kernel_rfl) (by simp) ?_
      refine AllReadyH.cons (o := _) rfl (fun K1 hK => ?_) (AllReadyH.cons (o := _) rfl (fun K1 hK => ?_) AllReadyH.nil)
      · clear hHeld
        go_simp
        refine hK.out _ _ ⟨x1, r0⟩ (fun hHeld => ?_)
        clear hK K1
        try simp only [Act.put, List.getElem_toArray, List.getElem_cons_zero, List.getElem_cons_succ, List.setIfInBounds_toArray, List.set_cons_zero, List.set_cons_succ]
        refine wpAnyH_take (i := 6) (oi := _) (v := .int .i64 ((f : Int) + 1)) rfl (by kernel_rfl) (by kernel_rfl) (by kernel_rfl) (fun _ _ _ h => h) (Or.inl ⟨by rfl, ?_⟩) (by assumption) ?_
        · intro w hSw
          try dsimp only at hSw
          go_split_ands
          go_simp
        try simp only [Act.put, List.getElem_toArray, List.getElem_cons_zero, List.getElem_cons_succ, List.setIfInBounds_toArray, List.set_cons_zero, List.set_cons_succ]
        refine wpAnyH_take (i := 11) (oi := _) (v := .int .i64 (f' : Int)) rfl (by kernel_rfl) (by kernel_rfl) (by kernel_rfl) (fun _ _ _ h => h) (Or.inl ⟨by rfl, ?_⟩) (by assumption) ?_
        · intro w hSw
          try dsimp only at hSw
          go_split_ands
          go_simp
        try simp only [Act.put, List.getElem_toArray, List.getElem_cons_zero, List.getElem_cons_succ, List.setIfInBounds_toArray, List.set_cons_zero, List.set_cons_succ]
        refine wpAnyH_ready (rs := [15]) (by kernel_rfl) (by simp) ?_
        refine AllReadyH.cons (o := _) rfl (fun K1 hK => ?_) AllReadyH.nil
        clear hHeld
        go_simp
        refine hK.out _ _ ⟨x1, r0⟩ (fun hHeld => ?_)
        clear hK K1
        try simp only [Act.put, List.getElem_toArray, List.getElem_cons_zero, List.getElem_cons_succ, List.setIfInBounds_toArray, List.set_cons_zero, List.set_cons_succ]
        refine wpAnyH_take (i := 16) (oi := _) (v := .int .i64 (m : Int)) rfl (by kernel_rfl) (by kernel_rfl) (by kernel_rfl) (fun _ _ _ h => h) (Or.inl ⟨by rfl, ?_⟩) (by assumption) ?_
        · intro w hSw
          try dsimp only at hSw
          go_split_ands
          go_simp
        try simp only [Act.put, List.getElem_toArray, List.getElem_cons_zero, List.getElem_cons_succ, List.setIfInBounds_toArray, List.set_cons_zero, List.set_cons_succ]
        refine wpAnyH_take (i := 17) (oi := _) (v := .pointer (some ⟨b, 0, none⟩)) rfl (by kernel_rfl) (by kernel_rfl) (by kernel_rfl) (fun _ _ _ h => h) (Or.inl ⟨by rfl, ?_⟩) (by assumption) ?_
        · intro w hSw
          try dsimp only at hSw
          go_split_ands
          go_simp
        try simp only [Act.put, List.getElem_toArray, List.getElem_cons_zero, List.getElem_cons_succ, List.setIfInBounds_toArray, List.set_cons_zero, List.set_cons_succ]
        refine wpAnyH_take (i := 18) (oi := _) (v := .pointer (some ⟨b, 2, none⟩)) rfl (by kernel_rfl) (by kernel_rfl) (by kernel_rfl) (fun _ _ _ h => h) (Or.inl ⟨by rfl, ?_⟩) (by assumption) ?_
        · intro w hSw
          try dsimp only at hSw
          go_split_ands
          go_simp
        try simp only [Act.put, List.getElem_toArray, List.getElem_cons_zero, List.getElem_cons_succ, List.setIfInBounds_toArray, List.set_cons_zero, List.set_cons_succ]
        refine wpAnyH_ready (rs := [19]) (by kernel_rfl) (by simp) ?_
        refine AllReadyH.cons (o := _) rfl (fun K1 hK => ?_) AllReadyH.nil
        clear hHeld
        go_simp
        refine hK.out _ _ (KS2 _) (fun hHeld => ?_)
        clear hK K1
        try simp only [Act.put, List.getElem_toArray, List.getElem_cons_zero, List.getElem_cons_succ, List.setIfInBounds_toArray, List.set_cons_zero, List.set_cons_succ]
        refine wpAnyH_take (i := 20) (oi := _) (v := .pointer (some ⟨b, 0, none⟩)) rfl (by kernel_rfl) (by kernel_rfl) (by kernel_rfl) (fun _ _ _ h => h) (Or.inl ⟨by rfl, ?_⟩) (by assumption) ?_
        · intro w hSw
          try dsimp only at hSw
          go_split_ands
          go_simp
        try simp only [Act.put, List.getElem_toArray, List.getElem_cons_zero, List.getElem_cons_succ, List.setIfInBounds_toArray, List.set_cons_zero, List.set_cons_succ]
        refine wpAnyH_take (i := 21) (oi := _) (v := .pointer (some ⟨b, 3, none⟩)) rfl (by kernel_rfl) (by kernel_rfl) (by kernel_rfl) (fun _ _ _ h => h) (Or.inl ⟨by rfl, ?_⟩) (by assumption) ?_
        · intro w hSw
          try dsimp only at hSw
          go_split_ands
          go_simp
        try simp only [Act.put, List.getElem_toArray, List.getElem_cons_zero, List.getElem_cons_succ, List.setIfInBounds_toArray, List.set_cons_zero, List.set_cons_succ]
        refine wpAnyH_ready (rs := [22]) (by kernel_rfl) (by simp) ?_
        refine AllReadyH.cons (o := _) rfl (fun K1 hK => ?_) AllReadyH.nil
        clear hHeld
        go_simp
        refine hK.out _ _ (KS3 _ _) (fun hHeld => ?_)
        clear hK K1
        try simp only [Act.put, List.getElem_toArray, List.getElem_cons_zero, List.getElem_cons_succ, List.setIfInBounds_toArray, List.set_cons_zero, List.set_cons_succ]
        refine wpAnyH_done (by kernel_rfl) ?_ _
        refine NoPanic.normal ?_
        exact ⟨rfl, rfl, rfl⟩
      · clear hHeld
        go_simp
        refine hK.out _ _ ⟨x1, r0⟩ (fun hHeld => ?_)
        clear hK K1
        try simp only [Act.put, List.getElem_toArray, List.getElem_cons_zero, List.getElem_cons_succ, List.setIfInBounds_toArray, List.set_cons_zero, List.set_cons_succ]
        refine wpAnyH_take (i := 16) (oi := _) (v := .int .i64 (m : Int)) rfl (by kernel_rfl) (by kernel_rfl) (by kernel_rfl) (fun _ _ _ h => h) (Or.inl ⟨by rfl, ?_⟩) (by assumption) ?_
        · intro w hSw
          try dsimp only at hSw
          go_split_ands
          go_simp
        try simp only [Act.put, List.getElem_toArray, List.getElem_cons_zero, List.getElem_cons_succ, List.setIfInBounds_toArray, List.set_cons_zero, List.set_cons_succ]
        refine wpAnyH_ready (rs := [5]) (by kernel_rfl) (by simp) ?_
        refine AllReadyH.cons (o := _) rfl (fun K1 hK => ?_) AllReadyH.nil
        clear hHeld
        go_simp
        refine hK.out _ _ ⟨x1, r0⟩ (fun hHeld => ?_)
        clear hK K1
        try simp only [Act.put, List.getElem_toArray, List.getElem_cons_zero, List.getElem_cons_succ, List.setIfInBounds_toArray, List.set_cons_zero, List.set_cons_succ]
        refine wpAnyH_take (i := 6) (oi := _) (v := .int .i64 ((f : Int) + 1)) rfl (by kernel_rfl) (by kernel_rfl) (by kernel_rfl) (fun _ _ _ h => h) (Or.inl ⟨by rfl, ?_⟩) (by assumption) ?_
        · intro w hSw
          try dsimp only at hSw
          go_split_ands
          go_simp
        try simp only [Act.put, List.getElem_toArray, List.getElem_cons_zero, List.getElem_cons_succ, List.setIfInBounds_toArray, List.set_cons_zero, List.set_cons_succ]
        refine wpAnyH_take (i := 11) (oi := _) (v := .int .i64 (f' : Int)) rfl (by kernel_rfl) (by kernel_rfl) (by kernel_rfl) (fun _ _ _ h => h) (Or.inl ⟨by rfl, ?_⟩) (by assumption) ?_
        · intro w hSw
          try dsimp only at hSw
          go_split_ands
          go_simp
        try simp only [Act.put, List.getElem_toArray, List.getElem_cons_zero, List.getElem_cons_succ, List.setIfInBounds_toArray, List.set_cons_zero, List.set_cons_succ]
        refine wpAnyH_take (i := 17) (oi := _) (v := .pointer (some ⟨b, 0, none⟩)) rfl (by kernel_rfl) (by kernel_rfl) (by kernel_rfl) (fun _ _ _ h => h) (Or.inl ⟨by rfl, ?_⟩) (by assumption) ?_
        · intro w hSw
          try dsimp only at hSw
          go_split_ands
          go_simp
        try simp only [Act.put, List.getElem_toArray, List.getElem_cons_zero, List.getElem_cons_succ, List.setIfInBounds_toArray, List.set_cons_zero, List.set_cons_succ]
        refine wpAnyH_take (i := 18) (oi := _) (v := .pointer (some ⟨b, 2, none⟩)) rfl (by kernel_rfl) (by kernel_rfl) (by kernel_rfl) (fun _ _ _ h => h) (Or.inl ⟨by rfl, ?_⟩) (by assumption) ?_
        · intro w hSw
          try dsimp only at hSw
          go_split_ands
          go_simp
        try simp only [Act.put, List.getElem_toArray, List.getElem_cons_zero, List.getElem_cons_succ, List.setIfInBounds_toArray, List.set_cons_zero, List.set_cons_succ]
        refine wpAnyH_ready (rs := [19]) (by kernel_rfl) (by simp) ?_
        refine AllReadyH.cons (o := _) rfl (fun K1 hK => ?_) AllReadyH.nil
        clear hHeld
        go_simp
        refine hK.out _ _ (KS2 _) (fun hHeld => ?_)
        clear hK K1
        try simp only [Act.put, List.getElem_toArray, List.getElem_cons_zero, List.getElem_cons_succ, List.setIfInBounds_toArray, List.set_cons_zero, List.set_cons_succ]
        refine wpAnyH_take (i := 20) (oi := _) (v := .pointer (some ⟨b, 0, none⟩)) rfl (by kernel_rfl) (by kernel_rfl) (by kernel_rfl) (fun _ _ _ h => h) (Or.inl ⟨by rfl, ?_⟩) (by assumption) ?_
        · intro w hSw
          try dsimp only at hSw
          go_split_ands
          go_simp
        try simp only [Act.put, List.getElem_toArray, List.getElem_cons_zero, List.getElem_cons_succ, List.setIfInBounds_toArray, List.set_cons_zero, List.set_cons_succ]
        refine wpAnyH_take (i := 21) (oi := _) (v := .pointer (some ⟨b, 3, none⟩)) rfl (by kernel_rfl) (by kernel_rfl) (by kernel_rfl) (fun _ _ _ h => h) (Or.inl ⟨by rfl, ?_⟩) (by assumption) ?_
        · intro w hSw
          try dsimp only at hSw
          go_split_ands
          go_simp
        try simp only [Act.put, List.getElem_toArray, List.getElem_cons_zero, List.getElem_cons_succ, List.setIfInBounds_toArray, List.set_cons_zero, List.set_cons_succ]
        refine wpAnyH_ready (rs := [22]) (by kernel_rfl) (by simp) ?_
        refine AllReadyH.cons (o := _) rfl (fun K1 hK => ?_) AllReadyH.nil
        clear hHeld
        go_simp
        refine hK.out _ _ (KS3 _ _) (fun hHeld => ?_)
        clear hK K1
        try simp only [Act.put, List.getElem_toArray, List.getElem_cons_zero, List.getElem_cons_succ, List.setIfInBounds_toArray, List.set_cons_zero, List.set_cons_succ]
        refine wpAnyH_done (by kernel_rfl) ?_ _
        refine NoPanic.normal ?_
        exact ⟨rfl, rfl, rfl⟩
  rintro _ _ _ ⟨rfl, rfl, rfl⟩
  obtain ⟨w2, hw2⟩ : ∃ w2, w2 = ((w1.setCell ⟨b, 2, none⟩ (.int .i64 (f' : Int))).setCell ⟨b, 3, none⟩ (.int .i64 (m : Int))).drew := ⟨_, rfl⟩
  rw [← hw2]
  have O2 : Only w1 w2 (fun j => j = b) := by
    rw [hw2]
    exact ((Only.grown (B := fun j => j = b) (r := b) (grownBy_setCell _ _ _ _) rfl).trans (Only.grown (B := fun j => j = b) (r := b) (grownBy_setCell _ _ _ _) rfl)).trans (Only.drewN _ 1 _)
  have R2 : RngAt w2 b c d f' m := by
    rw [hw2]
    exact ((RR.out.setFirst f' hf2).setMany m (by omega)).drewN 1
  have C2 := C1.out.only O2 (fun e => RR.out.of_box C1.out.p (by decide) e) (fun e => RR.out.of_box C1.out.b (by decide) e)
  have S2 := HK.out.stay _ _ _ (HK.out.below HS.out B1.out) (O2.mono fun j e h => nb.out (e ▸ h))
  have x0 := cell_of_one (O2.kept (below_block B1.out (show w.heap[rb]? = some (.cells #[.pointer (some ⟨b, 0, none⟩)] 89 (0, 0)) from X1.out)) L1.out)
  have Y3 := Lib.hid (O2.kept (below_block B1.out X3.out) L3.out)
  have OO : Hid (Only w w2 (fun j => j = b)) := Lib.hid ((Only.below B1.out).trans O2)
  have T0 := tell_okG HG.out S2 C2 0 (by have := BG.out; omega) hN2
  rw [show ((0 : Nat) : Int) = 0 from rfl, Nat.add_zero] at T0
  have LG := Lib.hid (length_okG R2 WX.out bp bb T0)
  have H2 := Lib.hid (And.intro R2 (And.intro C2 S2))
  rw [← HN.out] at LG
  have n8 : n ≤ 8 := by have := LN.out; omega
  clear hw2 O2 R2 C2 S2 T0 x1 r0 r2 r3 f2 f3 ht hcz RR
  go_wp2_with fail
  refine LG.out.mono ?_
  rintro e w3 ⟨rfl, hb3⟩
  have mk := make_wordsG n (by omega) w3
  have B3 := below_step1 w3 (.cells (wordsV (List.replicate n 0)) 57)
  have B4 := Lib.hid (hb3.trans (B3.mono hb3.size))
  have I0 : Hid (RecvG St b c d f' m at_ k first caps g0 w bp bb lb w3.heap.size n lv 0 (w3.alloc (.cells (wordsV (List.replicate n 0)) 57))) := Lib.hid ⟨H2.out.1.below B4.out, HK.out.below H2.out.2.2 B4.out, H2.out.2.1.below B4.out, by rw [fillG_zero]; exact heap_alloc_new _ _, below_block B4.out Y3.out, OO.out.trans (Only.below B4.out)⟩
  have GW : Hid (w.heap.size ≤ w3.heap.size) := Lib.hid (Nat.le_trans OO.out.size hb3.size)
  have BP := Lib.hid (show w3.heap.size ≠ bp ∧ w3.heap.size ≠ bb ∧ ¬ S w3.heap.size ∧ w3.heap.size ≠ b ∧ w3.heap.size ≠ lb from ⟨fun e => by have := lt_of_block H2.out.2.1.p; have := hb3.size; omega, fun e => by have := lt_of_block H2.out.2.1.b; have := hb3.size; omega, fun h => by have := SL.out _ h; have := GW.out; omega, fun e => by have := H2.out.1.lt; have := hb3.size; omega, fun e => by have := lt_of_block Y3.out; have := hb3.size; omega⟩)
  generalize w3.heap.size = gw at *
  clear hb3 B3 B4 x0 LG
  go_wp2_with fail
  go_loopw [36] (fun i wr => ∃ j : Nat, i = .int .i64 (j : Int) ∧ j ≤ n ∧ RecvG St b c d f' m at_ k first caps g0 w bp bb lb gw n lv j wr) (fun i _ => (n - (intOf i).toNat))
  case atStart => exact ⟨0, rfl, Nat.zero_le _, I0.out⟩
  case round =>
    obtain ⟨j, rfl, hj, hR⟩ := hrel
    have HR := Lib.hid hR
    clear hR
    by_cases hlt : j < n
    · have TK := tell_okG HG.out HR.out.st HR.out.cap (1 + j) (by have := BG.out; have := LN.out; omega) hN2
      rw [show ((1 + j : Nat) : Int) = 1 + (j : Int) by push_cast; rfl] at TK
      obtain ⟨x, hx⟩ : ∃ x, x = g0 (at_ + (1 + j)) := ⟨_, rfl⟩
      rw [← hx] at TK
      have TK := Lib.hid TK
      have HX := Lib.hid hx
      clear hx
      go_wp2_with fail
      refine TK.out.mono ?_
      rintro e w5 ⟨rfl, hb5⟩
      have row5 := below_block hb5 HR.out.row
      have c5 : w5.cell? ⟨gw, j, none⟩ = some (.int .u32 0) := by
        rw [cell_of_row w5 gw _ _ _ _ row5, wordsV_get _ _ (by rw [fillG_len]; exact hlt)]
        simp [fillG, List.getD_eq_getElem?_getD, hlt]
      have f5 := frozen_of_row w5 gw j _ _ row5
      obtain ⟨w6, hw6⟩ : ∃ w6, w6 = w5.setCell ⟨gw, j, none⟩ (.int .u32 x) := ⟨_, rfl⟩
      have O6 : Only w5 w6 (fun i => i = gw) := Only.grown (hw6 ▸ grownBy_setCell w5 _ _ _) rfl
      have I6 : Hid (RecvG St b c d f' m at_ k first caps g0 w bp bb lb gw n lv (j + 1) w6) := Lib.hid ⟨(HR.out.r.below hb5).only O6 (fun e => BP.out.2.2.2.1 e.symm), HK.out.stay _ _ _ (HK.out.below HR.out.st hb5) (O6.mono fun i e h => BP.out.2.2.1 (e ▸ h)), (HR.out.cap.below hb5).only O6 (fun e => BP.out.1 e.symm) (fun e => BP.out.2.1 e.symm), by
        rw [hw6, heap_setCell_same _ _ _ _ _ _ row5, wordsV_set, HX.out, fillG_set (fun j => g0 (at_ + (1 + j)))], O6.kept (below_block hb5 HR.out.lbox) (fun e => BP.out.2.2.2.2 e.symm), (HR.out.only.trans (Only.below hb5)).late O6 (fun i e h => by have := GW.out; omega)⟩
      clear row5 O6 hb5
      go_wp2_with fail
      rw [← hw6]
      clear hw6 c5 f5
      go_roundw
      case rel => exact ⟨j + 1, by go_num, by omega, I6.out⟩
      case measure => simp [intOf]; omega
    · obtain rfl : j = n := by omega
      have z0 := cell_of_one HR.out.lbox
      have f0 := free_of_one HR.out.lbox
      obtain ⟨w6, hw6⟩ : ∃ w6, w6 = wr.setCell ⟨lb, 0, none⟩ (.slice (some ⟨gw, 0, none⟩) j j) := ⟨_, rfl⟩
      have O6 : Only wr w6 (fun i => i = lb) := Only.grown (hw6 ▸ grownBy_setCell wr _ _ _) rfl
      have D6 : Hid ((RngAt w6 b c d f' m ∧ ∃ g, w.heap.size ≤ g ∧ w6.heap[lb]? = some (.cells #[.slice (some ⟨g, 0, none⟩) j j] 43 (0, 0)) ∧ MsgG w6 g (msgOf g0 at_ j)) ∧ Only w w6 (fun i => i = b ∨ i = lb)) := Lib.hid ⟨⟨HR.out.r.only O6 (fun e => L3.out e.symm), gw, GW.out, by rw [hw6, heap_setCell_same _ _ 0 _ _ _ HR.out.lbox]; rfl, by
        have := msg_of_row HR.out.row
        rw [fillG_all] at this
        exact this.only O6 BP.out.2.2.2.2⟩, (HR.out.only.mono fun _ e => Or.inl e).trans (O6.mono fun _ e => Or.inr e)⟩
      clear O6
      go_wp2_with fail
      rw [← hw6]
      go_end0
      exact ⟨rfl, D6.out⟩
end
end Go.Proofs.Ytnapodeiigkebaa

/- The contracts of package ring's Recv and Next. Condition: the ring lies as New laid it, or there is none, or nobody made it; what tells words has a contract. -/
namespace Go.Proofs.Ytnapodeiigkebaa
open Go.RowKit
set_option maxRecDepth 100000

/-- The boxes of Recv and Next. -/
def rcvG (w : World) (p : Option Addr) (fv : Value) : World := (w.alloc (.cells #[.pointer p] 89)).alloc (.cells #[fv] 104)
section
variable {w : World} {p : Option Addr} {fv : Value}
theorem rcvG_below : Below w.heap.size w (rcvG w p fv) := below_two w _ _
theorem rcvG_size : (rcvG w p fv).heap.size = w.heap.size + 2 := by simp [rcvG]
theorem rcvG_0 : (rcvG w p fv).heap[w.heap.size]? = some (.cells #[.pointer p] 89 (0, 0)) := heap_alloc2_old _ _ _
theorem rcvG_1 : (rcvG w p fv).heap[w.heap.size + 1]? = some (.cells #[fv] 104 (0, 0)) := heap_alloc2_new _ _ _
end
theorem gnEqG (k : Nat) (first caps : Array Value) (w : World) : (binOp .eql 104 (.func (.func k) first caps) .nilFunc).run Try.prog w = .ok (.bool false) w := by kernel_rfl
section
variable {w : World} {b c d f m : Nat}
theorem recv_emptyG (R : RngAt w b c d f 0) (k : Nat) (first caps : Array Value) : Calls Try.prog 45 #[.pointer (some ⟨b, 0, none⟩), .func (.func k) first caps] w fun e w' => e = .returned (.tuple #[.slice none 0 0, .int .i64 12]) ∧ Below w.heap.size w w' := by
  have B := Lib.hid (rcvG_below (w := w) (p := some ⟨b, 0, none⟩) (fv := .func (.func k) first caps))
  have H := Lib.hid (thereG_yes (R.below B.out))
  have q0 := gnEqG k first caps
  have c3 : _ = some (Value.int .i64 0) := (R.below B.out).many
  unfold rcvG at H B c3
  clear R
  go_enter Try.func45, Try.ntmps45
  go_wp2_with (go_at_call 61; refine H.out.mono ?_; rintro e w' ⟨rfl, rfl⟩)
  go_ret2
  exact ⟨rfl, B.out⟩
end
theorem enters_Recv1G (args : Array Value) (W : World) : (callFunc 67 args).run Try.prog W = .ok (.enter 67 args) W := enters Try.func67 rfl rfl args W
theorem enters_Next1G (args : Array Value) (W : World) : (callFunc 87 args).run Try.prog W = .ok (.enter 87 args) W := enters Try.func87 rfl rfl args W
section
variable {St : (Nat → Int) → World → Prop} {S : Nat → Prop} {N : Nat} {k : Nat} {first caps : Array Value} {g0 : Nat → Int} {w : World} {b c d f m : Nat}
set_option maxHeartbeats 1000000 in
theorem recv_okG (K : KeepG St S N) (G : GetsG St N k first caps) (R : RngAt w b c d f (m + 1)) (hb : ¬ S b) (hN : wdsG c d ≤ N) (hN2 : N ≤ 1000000) (hs : St g0 w) :
    Calls Try.prog 45 #[.pointer (some ⟨b, 0, none⟩), .func (.func k) first caps] w fun e w' => ∃ g, e = .returned (.tuple #[.slice (some ⟨g, 0, none⟩) (lenG d (g0 (begG c d f 0))) (lenG d (g0 (begG c d f 0))), .int .i64 0]) ∧ w.heap.size ≤ g ∧ MsgG w' g (msgOf g0 (begG c d f 0) (lenG d (g0 (begG c d f 0)))) ∧ RngAt w' b c d ((f + 1) % c) m ∧ St g0 w' ∧ Only w w' (fun j => j = b) := by
  have hmf : ∀ (fn : Fn) (first cap : Array Value) (w : World), (Instr.makeFunc fn first cap).run Try.prog w = .ok (.func fn first cap) w := fun _ _ _ _ => rfl
  have B := Lib.hid (rcvG_below (w := w) (p := some ⟨b, 0, none⟩) (fv := .func (.func k) first caps))
  have X0 := Lib.hid (rcvG_0 (w := w) (p := some ⟨b, 0, none⟩) (fv := .func (.func k) first caps))
  have X1 := Lib.hid (rcvG_1 (w := w) (p := some ⟨b, 0, none⟩) (fv := .func (.func k) first caps))
  have ZZ := Lib.hid (rcvG_size (w := w) (p := some ⟨b, 0, none⟩) (fv := .func (.func k) first caps))
  have q0 := gnEqG k first caps
  have H := Lib.hid (thereG_yes (R.below B.out))
  have c3 := (R.below B.out).many
  have IT := Lib.hid fun (V : World) (R : RngAt V b c d f (m + 1)) (hs : St g0 V) (rb pb lb : Nat) (lv : Value) => recvIt_okG K G R hb hN hN2 hs rb pb lb lv
  have KB := Lib.hid fun (g : Nat → Int) (V V' : World) (h : St g V) (hb : Below V.heap.size V V') => K.below h hb
  have KS := Lib.hid K.stay
  have SL := Lib.hid (K.lt g0 w hs)
  have HS := Lib.hid hs
  have HR := Lib.hid R
  have nb := Lib.hid hb
  have d4 : ((m : Int) + 1 == 0) = false := by simp; omega
  obtain ⟨f', hf'⟩ : ∃ f', f' = (f + 1) % c := ⟨_, rfl⟩
  obtain ⟨at_, hat⟩ : ∃ a, a = begG c d f 0 := ⟨_, rfl⟩
  obtain ⟨n, hn⟩ : ∃ n, n = lenG d (g0 (begG c d f 0)) := ⟨_, rfl⟩
  rw [← hn, ← hat, ← hf'] at IT
  rw [← hn, ← hat, ← hf']
  clear K G R hs hb hf' hat hn
  obtain ⟨W0, hW0⟩ : ∃ W0, W0 = rcvG w (some ⟨b, 0, none⟩) (.func (.func k) first caps) := ⟨_, rfl⟩
  rw [← hW0] at B X0 X1 ZZ
  unfold rcvG at H c3 hW0
  go_enter Try.func45, Try.ntmps45
  go_wp2_with (go_at_call 61; refine H.out.mono ?_; rintro e w' ⟨rfl, rfl⟩)
  rw [← hW0]
  obtain ⟨w3, hw3⟩ : ∃ w3, w3 = W0.alloc (.cells #[.slice none 0 0] 43) := ⟨_, rfl⟩
  rw [← hw3]
  have B1 := (Below.refl W0.heap.size W0).alloc (Nat.le_refl _) (.cells #[.slice none 0 0] 43)
  rw [← hw3] at B1
  have B3 : Hid (Below w.heap.size w w3) := Lib.hid (B.out.trans (B1.mono B.out.size))
  have Y0 := Lib.hid (below_block B1 X0.out)
  have Y1 := Lib.hid (below_block B1 X1.out)
  have Y2 : Hid (w3.heap[w.heap.size + 1 + 1]? = some (.cells #[.slice none 0 0] 43 (0, 0))) := Lib.hid (by rw [hw3, show w.heap.size + 1 + 1 = W0.heap.size from ZZ.out.symm]; exact heap_alloc_new _ _)
  have sz : Hid (w3.heap.size = w.heap.size + 3) := Lib.hid (by rw [hw3]; simp; have := ZZ.out; omega)
  have R3 := Lib.hid (HR.out.below B3.out)
  have S3 := Lib.hid (KB.out _ _ _ HS.out B3.out)
  have ns : Hid (∀ j, w.heap.size ≤ j → ¬ S j) := Lib.hid fun j hj h => by have := SL.out j h; omega
  clear hw3 B1 H c3 q0 hW0
  refine (guard_okG R3.out 67 _ enters_Recv1G (fun w1 => RngAt w1 b c d f' m ∧ ∃ g, w.heap.size + 6 ≤ g ∧ w1.heap[w.heap.size + 1 + 1]? = some (.cells #[.slice (some ⟨g, 0, none⟩) n n] 43 (0, 0)) ∧ MsgG w1 g (msgOf g0 at_ n)) (fun j => j = b ∨ j = w.heap.size + 1 + 1) (fun j h => h.elim (fun e => e ▸ R3.out.lt) (fun e => by have := sz.out; omega)) (fun V hV hz => ?_)).mono ?_
  · refine (IT.out V (R3.out.below hV) (KB.out _ _ _ S3.out hV) _ _ _ _ (below_block hV Y0.out) (below_block hV Y1.out) (below_block hV Y2.out)).mono ?_
    rintro e w' ⟨he, ⟨h1, g, h2, h3, h4⟩, h5⟩
    exact ⟨he, ⟨h1, g, by have := sz.out; omega, h3, h4⟩, h5⟩
  rintro e w5 ⟨rfl, w4, ⟨hr, g, hg, hl, hm4⟩, ho, hz, hw5⟩
  have O5 : Only w4 w5 (fun j => j = w3.heap.size + 1) := Only.grown (hw5 ▸ grownBy_setCell w4 _ 0 _) rfl
  have l5 := cell_of_one (O5.kept hl (by have := sz.out; omega))
  have OA : Only w w5 (fun j => j = b) := ((Only.below B3.out).trans (Only.refl w3 _) |>.late ho (fun j h hj => h.elim (fun e => e) (fun e => by omega))) |>.late O5 (fun j e h => by have := sz.out; omega)
  have D5 : Hid (w.heap.size ≤ g ∧ MsgG w5 g (msgOf g0 at_ n) ∧ RngAt w5 b c d f' m ∧ St g0 w5 ∧ Only w w5 (fun j => j = b)) := Lib.hid ⟨by omega, hm4.only O5 (by have := sz.out; omega), hr.only O5 (by have := R3.out.lt; omega), KS.out _ _ _ HS.out (OA.mono fun j e h => nb.out (e ▸ h)), OA⟩
  clear hr hg hl hm4 ho hz hw5 O5 OA
  go_wp2
  go_ret2
  exact ⟨g, rfl, D5.out⟩
set_option maxHeartbeats 1000000 in
theorem nextIt_okG (K : KeepG St S N) (G : GetsG St N k first caps) (R : RngAt w b c d f m) (hN : wdsG c d ≤ N) (hN2 : N ≤ 1000000) (hs : St g0 w)
    (rb pb lb : Nat) (x : Int) (X1 : w.heap[rb]? = some (.cells #[.pointer (some ⟨b, 0, none⟩)] 89 (0, 0))) (X2 : w.heap[pb]? = some (.cells #[.func (.func k) first caps] 104 (0, 0))) (X3 : w.heap[lb]? = some (.cells #[.int .i64 x] 3 (0, 0))) :
    Calls Try.prog 87 #[.pointer (some ⟨rb, 0, none⟩), .pointer (some ⟨pb, 0, none⟩), .pointer (some ⟨lb, 0, none⟩)] w fun e w' => e = .returned (.tuple #[]) ∧ w'.heap[lb]? = some (.cells #[.int .i64 (lenG d (g0 (begG c d f 0)) : Int)] 3 (0, 0)) ∧ Only w w' (fun j => j = lb) := by
  have c1 := cell_of_one X1
  have c2 := cell_of_one X2
  have BG := begG_lt (c := c) (d := d) (f := f) (i := 0) R.c1
  have WX := Lib.hid (K.wd g0 w hs (begG c d f 0) (by omega))
  have TL := Lib.hid fun V (hb : Below w.heap.size w V) => teller_okG (R.below hb) k first caps
  have LG := Lib.hid fun V (hb : Below w.heap.size w V) bp bb (C : CapG 104 V (.func (.func k) first caps) bp bb (begG c d f 0)) => by
    have T0 := tell_okG G (K.below hs hb) C 0 (by omega) hN2
    rw [show ((0 : Nat) : Int) = 0 from rfl, Nat.add_zero] at T0
    exact length_okG (R.below hb) WX.out bp bb T0
  have CC : Hid (∀ V, Below w.heap.size w V → V.cell? ⟨rb, 0, none⟩ = some (.pointer (some ⟨b, 0, none⟩)) ∧ V.cell? ⟨pb, 0, none⟩ = some (.func (.func k) first caps)) := Lib.hid fun V hb => ⟨cell_of_one (below_block hb X1), cell_of_one (below_block hb X2)⟩
  have Z3 : Hid (∀ V, Below w.heap.size w V → V.heap[lb]? = some (.cells #[.int .i64 x] 3 (0, 0))) := Lib.hid fun V hb => below_block hb X3
  have n1 := Lib.hid (kind_ne X3 X1 (by simp only [kindOf]; decide))
  have n2 := Lib.hid (kind_ne X3 X2 (by simp only [kindOf]; decide))
  obtain ⟨at_, hat⟩ : ∃ a, a = begG c d f 0 := ⟨_, rfl⟩
  rw [← hat] at TL LG WX ⊢
  obtain ⟨n, hn⟩ : ∃ n, n = lenG d (g0 at_) := ⟨_, rfl⟩
  rw [← hn] at LG ⊢
  clear K G R hs BG hat hn X1 X2 X3
  go_enter Try.func87, Try.ntmps87
  go_wp2_with fail
  go_region_held3 (fun V => V.cell? ⟨rb, 0, none⟩ = some (.pointer (some ⟨b, 0, none⟩)) ∧ V.cell? ⟨pb, 0, none⟩ = some (.func (.func k) first caps)) (first | exact ⟨c1, c2⟩ | exact CC.out _ (by assumption) | exact ⟨(World.cell?_setCell_far _ _ _ _ n1.out).trans (CC.out _ B3).1, (World.cell?_setCell_far _ _ _ _ n2.out).trans (CC.out _ B3).2⟩)
    (first
      | (go_at_call 68; refine (TL.out _ (Below.refl _ _).drew).mono ?_; rintro e w2 ⟨bp, bb, rfl, hC, -, -, hb2⟩; have B2 : Below w.heap.size w w2 := (Below.refl _ _).drew.trans hb2; have C2 := Lib.hid hC; clear hC hb2)
      | (go_at_call 69; refine (LG.out w2 B2 bp bb C2.out).mono ?_; rintro e w3 ⟨rfl, hb3⟩; have B3 : Below w.heap.size w w3 := B2.trans (hb3.mono B2.size); have z3 := cell_of_one (Z3.out w3 B3); have f3 := free_of_one (Z3.out w3 B3); clear hb3))
  go_end0
  have O4 : Only w3 (w3.setCell ⟨lb, 0, none⟩ (.int .i64 (n : Int))) (fun j => j = lb) := Only.grown (grownBy_setCell w3 _ 0 _) rfl
  exact ⟨rfl, by rw [heap_setCell_same _ _ 0 _ _ _ (Z3.out w3 B3)]; rfl, (Only.below B3).trans O4⟩
set_option maxHeartbeats 1000000 in
theorem next_okG (K : KeepG St S N) (G : GetsG St N k first caps) (R : RngAt w b c d f (m + 1)) (hN : wdsG c d ≤ N) (hN2 : N ≤ 1000000) (hs : St g0 w) :
    Calls Try.prog 55 #[.pointer (some ⟨b, 0, none⟩), .func (.func k) first caps] w fun e w' => e = .returned (.int .i64 (lenG d (g0 (begG c d f 0)) : Int)) ∧ Below w.heap.size w w' := by
  have hmf : ∀ (fn : Fn) (first cap : Array Value) (w : World), (Instr.makeFunc fn first cap).run Try.prog w = .ok (.func fn first cap) w := fun _ _ _ _ => rfl
  have B := Lib.hid (rcvG_below (w := w) (p := some ⟨b, 0, none⟩) (fv := .func (.func k) first caps))
  have X0 := Lib.hid (rcvG_0 (w := w) (p := some ⟨b, 0, none⟩) (fv := .func (.func k) first caps))
  have X1 := Lib.hid (rcvG_1 (w := w) (p := some ⟨b, 0, none⟩) (fv := .func (.func k) first caps))
  have ZZ := Lib.hid (rcvG_size (w := w) (p := some ⟨b, 0, none⟩) (fv := .func (.func k) first caps))
  have q0 := gnEqG k first caps
  have H := Lib.hid (thereG_yes (R.below B.out))
  have c3 := (R.below B.out).many
  have IT := Lib.hid fun (V : World) (hV : Below w.heap.size w V) (rb pb lb : Nat) (x : Int) => nextIt_okG K G (R.below hV) hN hN2 (K.below hs hV) rb pb lb x
  have HR := Lib.hid R
  have d4 : ((m : Int) + 1 == 0) = false := by simp; omega
  obtain ⟨n, hn⟩ : ∃ n, n = lenG d (g0 (begG c d f 0)) := ⟨_, rfl⟩
  rw [← hn] at IT ⊢
  clear K G R hs hn
  obtain ⟨W0, hW0⟩ : ∃ W0, W0 = rcvG w (some ⟨b, 0, none⟩) (.func (.func k) first caps) := ⟨_, rfl⟩
  rw [← hW0] at B X0 X1 ZZ
  unfold rcvG at H c3 hW0
  go_enter Try.func55, Try.ntmps55
  go_wp2_with (go_at_call 61; refine H.out.mono ?_; rintro e w' ⟨rfl, rfl⟩)
  rw [← hW0]
  obtain ⟨w3, hw3⟩ : ∃ w3, w3 = W0.alloc (.cells #[.int .i64 0] 3) := ⟨_, rfl⟩
  rw [← hw3]
  have B1 := (Below.refl W0.heap.size W0).alloc (Nat.le_refl _) (.cells #[.int .i64 0] 3)
  rw [← hw3] at B1
  have B3 : Hid (Below w.heap.size w w3) := Lib.hid (B.out.trans (B1.mono B.out.size))
  have Y0 := Lib.hid (below_block B1 X0.out)
  have Y1 := Lib.hid (below_block B1 X1.out)
  have Y2 : Hid (w3.heap[w.heap.size + 1 + 1]? = some (.cells #[.int .i64 0] 3 (0, 0))) := Lib.hid (by rw [hw3, show w.heap.size + 1 + 1 = W0.heap.size from ZZ.out.symm]; exact heap_alloc_new _ _)
  have sz : Hid (w3.heap.size = w.heap.size + 3) := Lib.hid (by rw [hw3]; simp; have := ZZ.out; omega)
  clear hw3 B1 H c3 q0 hW0
  refine (guard_okG (HR.out.below B3.out) 87 _ enters_Next1G (fun w1 => w1.heap[w.heap.size + 1 + 1]? = some (.cells #[.int .i64 (n : Int)] 3 (0, 0))) (fun j => j = w.heap.size + 1 + 1) (fun j e => by have := sz.out; omega) (fun V hV _ => IT.out V (B3.out.trans (hV.mono B3.out.size)) _ _ _ _ (below_block hV Y0.out) (below_block hV Y1.out) (below_block hV Y2.out))).mono ?_
  rintro e w5 ⟨rfl, w4, hl, ho, hz, hw5⟩
  have O5 : Only w4 w5 (fun j => j = w3.heap.size + 1) := Only.grown (hw5 ▸ grownBy_setCell w4 _ 0 _) rfl
  have l5 := cell_of_one (O5.kept hl (by have := sz.out; omega))
  have D5 : Hid (Below w.heap.size w w5) := Lib.hid (Only.old (Only.old B3.out ho B3.out.size (fun j e => by omega)) O5 (Nat.le_trans B3.out.size ho.size) (fun j e => by have := sz.out; omega))
  clear hl ho hz hw5 O5
  go_wp2
  go_ret
  exact ⟨rfl, D5.out⟩
end
end Go.Proofs.Ytnapodeiigkebaa

/- Where messages lie among the words, in lists and functions alone. (Split off XG12, XG16, XG17 in round 20: plain moves.) No condition. -/
namespace Go.Proofs.Ytnapodeiigkebaa
open Go.RowKit
set_option maxRecDepth 100000

theorem msgF_at (g : Nat → Int) (at_ : Nat) (L : List Int) (i : Nat) : msgF g at_ L i at_ = (L.length : Int) := by simp [msgF]
/-- The messages lie where the document says. -/
def LieG (c d out : Nat) (g : Nat → Int) (Ls : List (List Int)) : Prop := ∀ i, i < Ls.length → (1 ≤ (Ls.getD i []).length ∧ (Ls.getD i []).length ≤ d) ∧ g (begG c d out i) = ((Ls.getD i []).length : Int) ∧ ∀ n, n < (Ls.getD i []).length → g (begG c d out i + (1 + n)) = (Ls.getD i []).getD n 0
theorem begG_mod (c d out k : Nat) : begG c d (out % c) k = begG c d out k := by unfold begG; rw [Nat.mod_add_mod]
theorem begG_apart {c d out i k : Nat} (hi : i < k) (hk : k < c) : begG c d out i + (d + 1) ≤ begG c d out k ∨ begG c d out k + (d + 1) ≤ begG c d out i := by
  unfold begG
  have hne : (out + i) % c ≠ (out + k) % c := fun e => by
    have h := Nat.sub_mod_eq_zero_of_mod_eq e.symm
    rw [show out + k - (out + i) = k - i by omega, Nat.mod_eq_of_lt (by omega)] at h
    omega
  rcases Nat.lt_or_gt_of_ne hne with h | h
  · left
    calc (out + i) % c * (d + 1) + (d + 1) = ((out + i) % c + 1) * (d + 1) := by rw [Nat.succ_mul]
      _ ≤ (out + k) % c * (d + 1) := Nat.mul_le_mul_right _ h
  · right
    calc (out + k) % c * (d + 1) + (d + 1) = ((out + k) % c + 1) * (d + 1) := by rw [Nat.succ_mul]
      _ ≤ (out + i) % c * (d + 1) := Nat.mul_le_mul_right _ h
theorem msgF_out (g : Nat → Int) (at_ : Nat) (L : List Int) (n j : Nat) (h : j < at_ ∨ at_ + n < j) : msgF g at_ L n j = g j := by
  unfold msgF
  rw [if_neg (by omega), if_neg (by omega)]
theorem msgF_in (g : Nat → Int) (at_ : Nat) (L : List Int) (n j : Nat) (h : j < n) : msgF g at_ L n (at_ + (1 + j)) = L.getD j 0 := by
  unfold msgF
  rw [if_neg (by omega), if_pos (by omega), show at_ + (1 + j) - at_ - 1 = j by omega]
theorem getD_appG (Ls : List (List Int)) (L : List Int) (i : Nat) : (Ls ++ [L]).getD i [] = if i < Ls.length then Ls.getD i [] else if i = Ls.length then L else [] := by
  simp only [List.getD_eq_getElem?_getD]
  by_cases h : i < Ls.length
  · rw [List.getElem?_append_left h, if_pos h]
  · rw [List.getElem?_append_right (by omega), if_neg h]
    by_cases e : i = Ls.length
    · rw [if_pos e, e, Nat.sub_self]; rfl
    · rw [if_neg e, List.getElem?_eq_none (by simp; omega)]; rfl
theorem LieG.snoc {c d out : Nat} {g : Nat → Int} {Ls : List (List Int)} (h : LieG c d out g Ls) (L : List Int) (hL : 1 ≤ L.length ∧ L.length ≤ d) (hm : Ls.length < c) : LieG c d out (msgF g (begG c d out Ls.length) L L.length) (Ls ++ [L]) := by
  intro i hi
  rw [getD_appG]
  rw [List.length_append, List.length_singleton] at hi
  by_cases hlt : i < Ls.length
  · rw [if_pos hlt]
    obtain ⟨h1, h2, h3⟩ := h i hlt
    have ap := begG_apart (d := d) (out := out) hlt hm
    refine ⟨h1, ?_, fun n hn => ?_⟩
    · rw [msgF_out _ _ _ _ _ (by omega)]; exact h2
    · rw [msgF_out _ _ _ _ _ (by omega)]; exact h3 n hn
  · obtain rfl : i = Ls.length := by omega
    rw [if_neg hlt, if_pos rfl]
    exact ⟨hL, msgF_at _ _ _ _, fun n hn => msgF_in _ _ _ _ _ hn⟩
theorem LieG.tail {c d out : Nat} {g : Nat → Int} {L : List Int} {Ls : List (List Int)} (h : LieG c d out g (L :: Ls)) : LieG c d (out + 1) g Ls := by
  intro i hi
  have := h (i + 1) (by simp; omega)
  rw [show begG c d out (i + 1) = begG c d (out + 1) i by unfold begG; rw [show out + (i + 1) = out + 1 + i by omega]] at this
  simpa using this
theorem LieG.head {c d out : Nat} {g : Nat → Int} {L : List Int} {Ls : List (List Int)} (h : LieG c d out g (L :: Ls)) : lenG d (g (begG c d out 0)) = L.length ∧ msgOf g (begG c d out 0) L.length = L := by
  obtain ⟨h1, h2, h3⟩ := h 0 (by simp)
  simp only [List.getD_cons_zero] at h1 h2 h3
  refine ⟨by have := lenG_is (d := d) (x := (L.length : Int)) (by omega); rw [h2]; omega, ?_⟩
  refine List.ext_getElem (by simp [msgOf]) fun i h4 h5 => ?_
  simp only [msgOf, List.getElem_map, List.getElem_range]
  rw [h3 i h5]
  simp [List.getD_eq_getElem?_getD, h5]
end Go.Proofs.Ytnapodeiigkebaa
