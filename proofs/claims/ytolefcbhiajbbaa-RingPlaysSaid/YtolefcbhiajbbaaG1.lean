/- A ring in memory; the contracts of package ring's isThere, Len, Words, begin, New. Condition: the ring lies as New laid it, or there is none, or nobody made it. -/
import Derived.Test.YtolefcbhiajbbaaA0
import Derived.Test.YtolefcbhiajbbaaM11
import Derived.OwnWalk
namespace Go.Proofs.Ytolefcbhiajbbaa
open Go.RowKit
set_option maxRecDepth 100000

/-- A ring's cells: its cap and its width, where the first message stands, how many there are. -/
def rngA (c d f m : Nat) : Array Value := #[.int .i64 (c : Int), .int .i64 (d : Int), .int .i64 (f : Int), .int .i64 (m : Int)]
/-- A ring lies at block b. -/
structure RngAt (w : World) (b c d f m : Nat) : Prop where
  c1 : 1 ≤ c
  c8 : c ≤ 8
  d1 : 1 ≤ d
  d8 : d ≤ 8
  fc : f < c
  mc : m ≤ c
  box : w.heap[b]? = some (.cells (rngA c d f m) 57 (0, 0))
section
variable {w : World} {b c d f m : Nat} (R : RngAt w b c d f m)
include R
theorem RngAt.cap : w.cell? ⟨b, 0, none⟩ = some (.int .i64 (c : Int)) := by rw [cell_of_row w b _ _ _ _ R.box]; rfl
theorem RngAt.wid : w.cell? ⟨b, 1, none⟩ = some (.int .i64 (d : Int)) := by rw [cell_of_row w b _ _ _ _ R.box]; rfl
theorem RngAt.fst : w.cell? ⟨b, 2, none⟩ = some (.int .i64 (f : Int)) := by rw [cell_of_row w b _ _ _ _ R.box]; rfl
theorem RngAt.many : w.cell? ⟨b, 3, none⟩ = some (.int .i64 (m : Int)) := by rw [cell_of_row w b _ _ _ _ R.box]; rfl
theorem RngAt.free (i : Nat) : w.frozen? ⟨b, i, none⟩ = false := frozen_of_row w b i _ _ R.box
theorem RngAt.lt : b < w.heap.size := lt_of_block R.box
theorem RngAt.kept {w' : World} (h : w'.heap[b]? = w.heap[b]?) : RngAt w' b c d f m := ⟨R.c1, R.c8, R.d1, R.d8, R.fc, R.mc, h.trans R.box⟩
theorem RngAt.below {w' : World} (hb : Below w.heap.size w w') : RngAt w' b c d f m := R.kept (hb.block b R.lt)
theorem RngAt.only {w' : World} {S : Nat → Prop} (h : Only w w' S) (hS : ¬ S b) : RngAt w' b c d f m := R.kept (h.block b R.lt hS)
theorem RngAt.drewN (n : Nat) : RngAt (w.drewN n) b c d f m := R.kept rfl
theorem RngAt.setFirst (f' : Nat) (h : f' < c) : RngAt (w.setCell ⟨b, 2, none⟩ (.int .i64 (f' : Int))) b c d f' m :=
  ⟨R.c1, R.c8, R.d1, R.d8, h, R.mc, by rw [heap_setCell_same w b 2 _ _ _ R.box]; rfl⟩
theorem RngAt.setMany (m' : Nat) (h : m' ≤ c) : RngAt (w.setCell ⟨b, 3, none⟩ (.int .i64 (m' : Int))) b c d f m' :=
  ⟨R.c1, R.c8, R.d1, R.d8, R.fc, h, by rw [heap_setCell_same w b 3 _ _ _ R.box]; rfl⟩
end
/-- No ring: none is there, or nobody made it. -/
def NoR (w : World) (p : Option Addr) : Prop := p = none ∨ ∃ b, p = some ⟨b, 0, none⟩ ∧ w.cell? ⟨b, 0, none⟩ = some (.int .i64 0)
theorem NoR.below {w w' : World} {p : Option Addr} (h : NoR w p) (hp : ∀ b, p = some ⟨b, 0, none⟩ → b < w.heap.size) (hb : Below w.heap.size w w') : NoR w' p := by
  rcases h with h | ⟨b, e, h⟩
  · exact Or.inl h
  · exact Or.inr ⟨b, e, (hb.cell (p := ⟨b, 0, none⟩) (hp b e)).trans h⟩
theorem thereG_cell (b c : Nat) (w : World) (h : w.cell? ⟨b, 0, none⟩ = some (.int .i64 (c : Int))) : Calls Try.prog 22 #[.pointer (some ⟨b, 0, none⟩)] w fun e w' => e = .returned (.bool (decide (0 < c))) ∧ w = w' := by
  go_enter Try.func22, Try.ntmps22
  go_wp2
  go_ret
  exact ⟨rfl, rfl⟩
theorem thereG_nil (w : World) : Calls Try.prog 22 #[.pointer none] w fun e w' => e = .returned (.bool false) ∧ w = w' := by
  go_enter Try.func22, Try.ntmps22
  go_wp2
  go_ret
  exact ⟨rfl, rfl⟩
theorem thereG_no (p : Option Addr) (w : World) (h : NoR w p) : Calls Try.prog 22 #[.pointer p] w fun e w' => e = .returned (.bool false) ∧ w = w' := by
  rcases h with rfl | ⟨b, rfl, k⟩
  · exact thereG_nil w
  · exact thereG_cell b 0 w k
theorem thereG_yes {w : World} {b c d f m : Nat} (R : RngAt w b c d f m) : Calls Try.prog 22 #[.pointer (some ⟨b, 0, none⟩)] w fun e w' => e = .returned (.bool true) ∧ w = w' := by
  have := thereG_cell b c w R.cap
  rwa [decide_eq_true (by have := R.c1; omega)] at this
theorem len_noG (p : Option Addr) (w : World) (h : NoR w p) : Calls Try.prog 18 #[.pointer p] w fun e w' => e = .returned (.int .i64 0) ∧ w = w' := by
  have H := Lib.hid h
  clear h
  go_enter Try.func18, Try.ntmps18
  go_wp2_with (go_at_call 22; refine (thereG_no p _ H.out).mono ?_; rintro e w' ⟨rfl, rfl⟩)
  go_ret
  exact ⟨rfl, rfl⟩
theorem len_okG {w : World} {b c d f m : Nat} (R : RngAt w b c d f m) : Calls Try.prog 18 #[.pointer (some ⟨b, 0, none⟩)] w fun e w' => e = .returned (.int .i64 (m : Int)) ∧ w = w' := by
  have H := Lib.hid (thereG_yes R)
  have c3 := R.many
  clear R
  go_enter Try.func18, Try.ntmps18
  go_wp2_with (go_at_call 22; refine H.out.mono ?_; rintro e w' ⟨rfl, rfl⟩)
  go_ret
  exact ⟨rfl, rfl⟩
theorem words_noG (p : Option Addr) (w : World) (h : NoR w p) : Calls Try.prog 19 #[.pointer p] w fun e w' => e = .returned (.int .i64 0) ∧ w = w' := by
  have H := Lib.hid h
  clear h
  go_enter Try.func19, Try.ntmps19
  go_wp2_with (go_at_call 22; refine (thereG_no p _ H.out).mono ?_; rintro e w' ⟨rfl, rfl⟩)
  go_ret
  exact ⟨rfl, rfl⟩
/-- How many words a ring needs. -/
def wdsG (c d : Nat) : Nat := c * (d + 1)
theorem wdsG_le {c d : Nat} (hc : c ≤ 8) (hd : d ≤ 8) : wdsG c d ≤ 72 := by unfold wdsG; have := Nat.mul_le_mul hc (show d + 1 ≤ 9 by omega); omega
theorem words_okG {w : World} {b c d f m : Nat} (R : RngAt w b c d f m) : Calls Try.prog 19 #[.pointer (some ⟨b, 0, none⟩)] w fun e w' => e = .returned (.int .i64 (wdsG c d : Int)) ∧ ∃ n, w' = w.drewN n := by
  have H := Lib.hid (thereG_yes R)
  have c0 := R.cap
  have c1 := R.wid
  have hd := R.d8
  have hm : (c : Int) * ((d : Int) + 1) = (wdsG c d : Int) := by unfold wdsG; push_cast; rfl
  have hw := wdsG_le R.c8 R.d8
  clear R
  generalize wdsG c d = n at hm hw ⊢
  go_enter Try.func19, Try.ntmps19
  go_wp2_with (go_at_call 22; refine H.out.mono ?_; rintro e w' ⟨rfl, rfl⟩)
  go_quiet (fail)
  go_wp2
  go_ret
  exact ⟨rfl, _, rfl⟩
/-- Where the message begins that stands so many behind the first one. -/
def begG (c d f i : Nat) : Nat := (f + i) % c * (d + 1)
theorem begG_lt {c d f i : Nat} (hc : 1 ≤ c) : begG c d f i + (d + 1) ≤ wdsG c d := by
  unfold begG wdsG
  have h : (f + i) % c < c := Nat.mod_lt _ (by omega)
  calc (f + i) % c * (d + 1) + (d + 1) = ((f + i) % c + 1) * (d + 1) := by rw [Nat.succ_mul]
    _ ≤ c * (d + 1) := Nat.mul_le_mul_right _ h
theorem begin_okG {w : World} {b c d f m : Nat} (R : RngAt w b c d f m) (i : Nat) (hi : i ≤ 8) : Calls Try.prog 33 #[.pointer (some ⟨b, 0, none⟩), .int .i64 (i : Int)] w fun e w' => e = .returned (.int .i64 (begG c d f i : Int)) ∧ ∃ n, w' = w.drewN n := by
  have c0 := R.cap
  have c1 := R.wid
  have c2 := R.fst
  have hd := R.d8
  have hc := R.c1
  have hc8 := R.c8
  have hf := R.fc
  have hn : ¬ (c : Int) = 0 := by omega
  obtain ⟨z, hz⟩ : ∃ z, (f + i) % c = z := ⟨_, rfl⟩
  have hzc : z < c := by rw [← hz]; exact Nat.mod_lt _ (by omega)
  have ht : ((f : Int) + (i : Int)).tmod (c : Int) = (z : Int) := by rw [Int.tmod_eq_emod_of_nonneg (by omega), ← hz]; push_cast; rfl
  have hm : (z : Int) * ((d : Int) + 1) = (begG c d f i : Int) := by unfold begG; rw [hz]; push_cast; rfl
  have hw : begG c d f i ≤ 72 := by have := begG_lt (d := d) (f := f) (i := i) hc; have := wdsG_le R.c8 R.d8; omega
  clear R hz
  generalize begG c d f i = n at hm hw ⊢
  go_enter Try.func33, Try.ntmps33
  go_wp2_with fail
  go_quiet (fail)
  go_wp2
  go_ret
  exact ⟨rfl, _, rfl⟩

theorem built_ring (c d : Int) : (Try.prog.built 57 [(0, .int .i64 c), (1, .int .i64 d)]) = some #[.int .i64 c, .int .i64 d, .int .i64 0, .int .i64 0] := by kernel_rfl
theorem new_okG (c d : Nat) (hc : 1 ≤ c ∧ c ≤ 8) (hd : 1 ≤ d ∧ d ≤ 8) (w : World) : Calls Try.prog 9 #[.int .i64 (c : Int), .int .i64 (d : Int)] w fun e w' => ∃ b, e = .returned (.tuple #[.pointer (some ⟨b, 0, none⟩), .int .i64 0]) ∧ RngAt w' b c d 0 0 ∧ w.heap.size ≤ b ∧ Below w.heap.size w w' := by
  have H := Lib.hid hc
  have D := Lib.hid hd
  have d1 : decide ((c : Int) < 1) = false := decide_eq_false (by omega)
  have d2 : decide (8 < (c : Int)) = false := decide_eq_false (by omega)
  have d3 : decide ((d : Int) < 1) = false := decide_eq_false (by omega)
  have d4 : decide (8 < (d : Int)) = false := decide_eq_false (by omega)
  have d5 : decide (8 < c) = false := decide_eq_false (by omega)
  have d6 : decide (8 < d) = false := decide_eq_false (by omega)
  clear hc hd
  go_enter Try.func9, Try.ntmps9
  go_wp2
  go_ret2
  refine ⟨_, rfl, ⟨H.out.1, H.out.2, D.out.1, D.out.2, by have := H.out; omega, Nat.zero_le _, heap_alloc_new w _⟩, Nat.le_refl _, (Below.refl _ _).alloc (Nat.le_refl _) _⟩
theorem new_badG (c d : Int) (h : ¬ (1 ≤ c ∧ c ≤ 8 ∧ 1 ≤ d ∧ d ≤ 8)) (w : World) : Calls Try.prog 9 #[.int .i64 c, .int .i64 d] w fun e w' => e = .returned (.tuple #[.pointer none, .int .i64 2]) ∧ w = w' := by
  by_cases h1 : c < 1
  · have d1 : decide (c < 1) = true := decide_eq_true h1
    clear h
    go_enter Try.func9, Try.ntmps9
    go_wp2
    go_ret2
    exact ⟨rfl, rfl⟩
  have d1 : decide (c < 1) = false := decide_eq_false h1
  by_cases h2 : 8 < c
  · have d2 : decide (8 < c) = true := decide_eq_true h2
    clear h
    go_enter Try.func9, Try.ntmps9
    go_wp2
    go_ret2
    exact ⟨rfl, rfl⟩
  have d2 : decide (8 < c) = false := decide_eq_false h2
  by_cases h3 : d < 1
  · have d3 : decide (d < 1) = true := decide_eq_true h3
    clear h
    go_enter Try.func9, Try.ntmps9
    go_wp2
    go_ret2
    exact ⟨rfl, rfl⟩
  have d3 : decide (d < 1) = false := decide_eq_false h3
  have d4 : decide (8 < d) = true := decide_eq_true (by omega)
  clear h
  go_enter Try.func9, Try.ntmps9
  go_wp2
  go_ret2
  exact ⟨rfl, rfl⟩
end Go.Proofs.Ytolefcbhiajbbaa
