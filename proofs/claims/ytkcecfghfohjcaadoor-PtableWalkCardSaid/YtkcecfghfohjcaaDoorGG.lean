/- Texts of mine, joined: K1 K2. What each says and under which conditions stands at its head, below. -/
import Derived.Test.YtkcecfghfohjcaaDoorGB10
import Derived.Test.YtkcecfghfohjcaaDoorGF
/- What a word says as an entry (decode), and what stands at a place of a table (entAt), as numbers; Get of package word and the document's own in these terms. Conditions: the two tables read as laid. -/
namespace Go.Proofs.YtkcecfghfohjcaaDoor
open Go.RowKit
set_option maxRecDepth 100000

/-- An entry's four fields. -/
abbrev Ent := Bool × Bool × Bool × Int
def entV (e : Ent) : Value := ent e.1 e.2.1 e.2.2.1 e.2.2.2
def z0 : Ent := (false, false, false, 0)

/-- What a word says as an entry. -/
def decode (a : Int) : Option Ent :=
  let p := decide (a % 2 = 1)
  let w := decide (a / 2 % 2 = 1)
  let c := decide (a / 4 % 2 = 1)
  if okE p w c (a / 256 % 1024) = true ∧ wordOf p w c (a / 256 % 1024) = a then some (p, w, c, a / 256 % 1024) else none

theorem bit_of_mod (a : Int) : a % 2 = bit (decide (a % 2 = 1)) := by
  by_cases h : a % 2 = 1 <;> simp [bit, h]; omega

theorem get_some (a : Int) (e : Ent) (W : World) (h0 : 0 ≤ a) (h1 : a < 4294967296) (h : decode a = some e) (hL : LaidW W) :
    Calls Tryd.prog 78 #[.int .u32 a] W fun r w' => r = .returned (.tuple #[entV e, .int .i64 0]) ∧ Below W.heap.size W w' := by
  unfold decode at h
  simp only [] at h
  split at h
  · rename_i hg
    obtain rfl := (Option.some.inj h).symm
    exact get_yes a _ _ _ _ W h0 h1 (by rw [Int.ediv_one]; exact bit_of_mod a) (bit_of_mod _) (bit_of_mod _) rfl hg.1 hg.2 hL
  · exact absurd h (by simp)
theorem get_none (a : Int) (W : World) (h0 : 0 ≤ a) (h1 : a < 4294967296) (h : decode a = none) (hL : LaidW W) :
    Calls Tryd.prog 78 #[.int .u32 a] W fun r w' => r = .returned (.tuple #[entV z0, .int .i64 6]) ∧ Below W.heap.size W w' := by
  unfold decode at h
  simp only [] at h
  split at h
  · exact absurd h (by simp)
  · rename_i hg
    exact get_bad a _ _ _ _ W h0 h1 (by rw [Int.ediv_one]; exact bit_of_mod a) (bit_of_mod _) (bit_of_mod _) rfl hg hL
theorem okE_low {p w c : Bool} {f : Int} (h : okE p w c f = true) : 0 ≤ f ∧ f < 1024 ∧ (p = false → f = 0 ∧ w = false ∧ c = false) := by
  cases p <;> cases w <;> cases c <;> simp [okE] at h ⊢ <;> omega
/-- A frame's number, of an entry that a word says; an entry that is not Present is zero. -/
theorem decode_low {a : Int} {e : Ent} (h : decode a = some e) : 0 ≤ e.2.2.2 ∧ e.2.2.2 < 1024 ∧ (e.1 = false → e = z0) := by
  unfold decode at h
  simp only [] at h
  split at h
  · rename_i hg
    obtain rfl := (Option.some.inj h).symm
    obtain ⟨h1, h2, h3⟩ := okE_low hg.1
    refine ⟨h1, h2, fun hp => ?_⟩
    obtain ⟨k1, k2, k3⟩ := h3 hp
    simp only [z0, Prod.mk.injEq]
    exact ⟨hp, k2, k3, k1⟩
  · exact absurd h (by simp)

instance (n : Nat) (f q : Int) : Decidable (okFQ n f q) := by unfold okFQ; exact inferInstance

/-- What stands at a place of a table: an entry that may be, of a frame that there is. -/
def entAt (n : Nat) (L : List Int) (f q : Int) : Option Ent :=
  if okFQ n f q then (match decode (L.getD (idx f q) 0) with
    | some e => if e.2.2.2 < (n : Int) then some e else none
    | none => none) else none

/-- All are words. -/
def Words (L : List Int) : Prop := ∀ i, 0 ≤ L.getD i 0 ∧ L.getD i 0 < 4294967296

theorem entAt_some {n : Nat} {L : List Int} {f q : Int} {e : Ent} (h : entAt n L f q = some e) : okFQ n f q ∧ decode (L.getD (idx f q) 0) = some e ∧ e.2.2.2 < (n : Int) := by
  unfold entAt at h
  split at h
  · rename_i hk
    split at h
    · rename_i e' hd
      split at h
      · rename_i hl
        obtain rfl := Option.some.inj h
        exact ⟨hk, hd, hl⟩
      · exact absurd h (by simp)
    · exact absurd h (by simp)
  · exact absurd h (by simp)
theorem entAt_none {n : Nat} {L : List Int} {f q : Int} (h : entAt n L f q = none) : ¬ okFQ n f q ∨ (okFQ n f q ∧ decode (L.getD (idx f q) 0) = none) ∨ (okFQ n f q ∧ ∃ e, decode (L.getD (idx f q) 0) = some e ∧ (n : Int) ≤ e.2.2.2) := by
  unfold entAt at h
  split at h
  · rename_i hk
    split at h
    · rename_i e' hd
      split at h
      · exact absurd h (by simp)
      · rename_i hl
        exact Or.inr (Or.inr ⟨hk, e', hd, by omega⟩)
    · rename_i hd
      exact Or.inr (Or.inl ⟨hk, hd⟩)
  · rename_i hk
    exact Or.inl hk

/-- The walk to the entry of a page: the entry, and the fault. -/
def pageE (n : Nat) (L : List Int) (root pg : Int) : Ent × Int :=
  match entAt n L root (pg / 32) with
  | none => (z0, 6)
  | some t => if t.1 = false then (z0, 2) else
    match entAt n L t.2.2.2 (pg % 32) with
    | none => (z0, 6)
    | some x => if x.1 = false then (z0, 3) else (x, 0)

/-- Where an address is: the frame, the place, the fault. -/
def atE (n : Nat) (L : List Int) (root va : Int) (wr : Bool) : Int × Int × Int :=
  if 32768 ≤ va then (0, 0, 1) else
  if (pageE n L root (va / 32)).2 ≠ 0 then (0, 0, (pageE n L root (va / 32)).2) else
  if wr = true ∧ (pageE n L root (va / 32)).1.2.2.1 = true then (0, 0, 5) else
  if wr = true ∧ (pageE n L root (va / 32)).1.2.1 = false then (0, 0, 4) else
  ((pageE n L root (va / 32)).1.2.2.2, va % 32, 0)

/-- How the walk to a page's entry may end. -/
theorem pageE_cases (n : Nat) (L : List Int) (root pg : Int) :
    (entAt n L root (pg / 32) = none ∧ pageE n L root pg = (z0, 6)) ∨
    (∃ t, entAt n L root (pg / 32) = some t ∧ t.1 = false ∧ pageE n L root pg = (z0, 2)) ∨
    (∃ t, entAt n L root (pg / 32) = some t ∧ t.1 = true ∧ entAt n L t.2.2.2 (pg % 32) = none ∧ pageE n L root pg = (z0, 6)) ∨
    (∃ t x, entAt n L root (pg / 32) = some t ∧ t.1 = true ∧ entAt n L t.2.2.2 (pg % 32) = some x ∧ x.1 = false ∧ pageE n L root pg = (z0, 3)) ∨
    (∃ t x, entAt n L root (pg / 32) = some t ∧ t.1 = true ∧ entAt n L t.2.2.2 (pg % 32) = some x ∧ x.1 = true ∧ pageE n L root pg = (x, 0)) := by
  unfold pageE
  cases h1 : entAt n L root (pg / 32) with
  | none => exact Or.inl ⟨rfl, rfl⟩
  | some t =>
    right
    by_cases h2 : t.1 = false
    · exact Or.inl ⟨t, rfl, h2, by show (if t.1 = false then _ else _) = _; rw [if_pos h2]⟩
    · right
      have h2' : t.1 = true := by simpa using h2
      cases h3 : entAt n L t.2.2.2 (pg % 32) with
      | none => exact Or.inl ⟨t, rfl, h2', h3, by show (if t.1 = false then _ else _) = _; rw [if_neg h2, h3]⟩
      | some x =>
        right
        by_cases h4 : x.1 = false
        · exact Or.inl ⟨t, x, rfl, h2', h3, h4, by show (if t.1 = false then _ else _) = _; rw [if_neg h2, h3]; exact if_pos h4⟩
        · exact Or.inr ⟨t, x, rfl, h2', h3, by simpa using h4, by show (if t.1 = false then _ else _) = _; rw [if_neg h2, h3]; exact if_neg h4⟩
end Go.Proofs.YtkcecfghfohjcaaDoor

/- The contract of the walker's step: the entry at a place of the frame where the walker is, and on to the frame that it names; FtBad else. Conditions: the tables of package word read as laid; the walker and the memory lie as made. -/
namespace Go.Proofs.YtkcecfghfohjcaaDoor
open Go.RowKit
set_option maxRecDepth 100000

/-- A walker lies at block kb. -/
def WkSt (w : World) (kb : Nat) (p : Option Addr) (f : Int) : Prop := w.heap[kb]? = some (.cells #[.pointer p, .int .i64 f] 143 (0, 0))
theorem WkSt.below {w w' : World} {kb : Nat} {p : Option Addr} {f : Int} (h : WkSt w kb p f) (hb : Below w.heap.size w w') : WkSt w' kb p f := below_block hb h
theorem WkSt.c0 {w : World} {kb : Nat} {p : Option Addr} {f : Int} (h : WkSt w kb p f) : w.cell? ⟨kb, 0, none⟩ = some (.pointer p) := by rw [cell_of_row w kb _ _ _ _ h]; rfl
theorem WkSt.c1 {w : World} {kb : Nat} {p : Option Addr} {f : Int} (h : WkSt w kb p f) : w.cell? ⟨kb, 1, none⟩ = some (.int .i64 f) := by rw [cell_of_row w kb _ _ _ _ h]; rfl
theorem WkSt.free {w : World} {kb : Nat} {p : Option Addr} {f : Int} (h : WkSt w kb p f) (i : Nat) : w.frozen? ⟨kb, i, none⟩ = false := frozen_of_row w kb i _ _ h

/-- Four cells of a block. -/
theorem box4 {w : World} {k : Nat} {a b c d : Value} {t : TypeId} (h : w.heap[k]? = some (.cells #[a, b, c, d] t (0, 0))) :
    w.cell? ⟨k, 0, none⟩ = some a ∧ w.cell? ⟨k, 1, none⟩ = some b ∧ w.cell? ⟨k, 2, none⟩ = some c ∧ w.cell? ⟨k, 3, none⟩ = some d ∧ (∀ i, w.frozen? ⟨k, i, none⟩ = false) := by
  refine ⟨?_, ?_, ?_, ?_, fun i => frozen_of_row w k i _ _ h⟩ <;> (rw [cell_of_row w k _ _ _ _ h]; rfl)

abbrev zeroCells : Obj := .cells #[.bool false, .bool false, .bool false, .int .i64 0] 37 (0, 0)

set_option maxHeartbeats 1000000 in
/-- Nothing is read: FtBad. -/
theorem step_err (kb : Nat) (p : Option Addr) (f q k : Int) (hk : (k != 0) = true) (w : World) (hw : WkSt w kb p f)
    (hr : ∀ W, Below w.heap.size w W → Calls Tryd.prog 77 #[.pointer p, .int .i64 f, .int .i64 q] W fun e w' => e = .returned (.tuple #[.int .u32 0, .int .i64 k]) ∧ Below W.heap.size W w') :
    Calls Tryd.prog 72 #[.pointer (some ⟨kb, 0, none⟩), .int .i64 q] w fun e w' => e = .returned (.tuple #[ent false false false 0, .int .u8 6]) ∧ Below w.heap.size w w' := by
  have HR := Lib.hid hr
  have HW := Lib.hid hw
  clear hr hw
  go_enter Tryd.func72, Tryd.ntmps72
  go_wp2_with fail
  obtain ⟨w0, hw0⟩ : ∃ w0, w0 = w.alloc (.cells #[.bool false, .bool false, .bool false, .int .i64 0] 37) := ⟨_, rfl⟩
  have B0 : Hid (Below w.heap.size w w0) := Lib.hid (by rw [hw0]; exact (Below.refl _ _).alloc (Nat.le_refl _) _)
  have R0 : Hid (w0.heap[w.heap.size]? = some zeroCells) := Lib.hid (by rw [hw0]; exact heap_alloc_new w _)
  have W0 := Lib.hid (HW.out.below B0.out)
  have c0 := W0.out.c0
  have c1 := W0.out.c1
  rw [← hw0]
  clear hw0
  go_region_held3 (fun w' => w'.cell? ⟨kb, 0, none⟩ = some (.pointer p) ∧ w'.cell? ⟨kb, 1, none⟩ = some (.int .i64 f)) (go_keep)
    (first
      | (go_at_call 77; refine (HR.out _ (by exact B0.out.drew)).mono ?_; rintro e w1 ⟨rfl, hb⟩; have B1 := Lib.hid (B0.out.drew.trans (hb.mono (by exact B0.out.drew.size))); have R1 := Lib.hid (below_block hb (show w0.drew.heap[w.heap.size]? = some zeroCells from R0.out)); have W1 := Lib.hid ((W0.out.below (Below.refl _ _).drew).below hb); clear hb; have c0 := W1.out.c0; have c1 := W1.out.c1))
  obtain ⟨r0, r1, r2, r3, rf⟩ := box4 R1.out
  have f0 := rf 0
  have f1 := rf 1
  have f2 := rf 2
  have f3 := rf 3
  clear rf
  go_wp2
  exact bodyPost_ret (v := .tuple #[ent false false false 0, .int .u8 6]) (by simp [results, Tryd.results72, go_sem, r0, r1, r2, r3]) rfl ⟨rfl, below_four B1.out _ _ _ _⟩

set_option maxHeartbeats 1000000 in
/-- The word is no entry's: FtBad. -/
theorem step_no (kb mp : Nat) (f q a : Int) (w : World) (hw : WkSt w kb (some ⟨mp, 0, none⟩) f)
    (hr : ∀ W, Below w.heap.size w W → Calls Tryd.prog 77 #[.pointer (some ⟨mp, 0, none⟩), .int .i64 f, .int .i64 q] W fun e w' => e = .returned (.tuple #[.int .u32 a, .int .i64 0]) ∧ Below W.heap.size W w')
    (hg : ∀ W, Below w.heap.size w W → Calls Tryd.prog 78 #[.int .u32 a] W fun e w' => e = .returned (.tuple #[ent false false false 0, .int .i64 6]) ∧ Below W.heap.size W w') :
    Calls Tryd.prog 72 #[.pointer (some ⟨kb, 0, none⟩), .int .i64 q] w fun e w' => e = .returned (.tuple #[ent false false false 0, .int .u8 6]) ∧ Below w.heap.size w w' := by
  have HR := Lib.hid hr
  have HG := Lib.hid hg
  have HW := Lib.hid hw
  clear hr hg hw
  go_enter Tryd.func72, Tryd.ntmps72
  go_wp2_with fail
  obtain ⟨w0, hw0⟩ : ∃ w0, w0 = w.alloc (.cells #[.bool false, .bool false, .bool false, .int .i64 0] 37) := ⟨_, rfl⟩
  have B0 : Hid (Below w.heap.size w w0) := Lib.hid (by rw [hw0]; exact (Below.refl _ _).alloc (Nat.le_refl _) _)
  have R0 : Hid (w0.heap[w.heap.size]? = some zeroCells) := Lib.hid (by rw [hw0]; exact heap_alloc_new w _)
  have W0 := Lib.hid (HW.out.below B0.out)
  have c0 := W0.out.c0
  have c1 := W0.out.c1
  rw [← hw0]
  clear hw0
  go_region_held3 (fun w' => w'.cell? ⟨kb, 0, none⟩ = some (.pointer (some ⟨mp, 0, none⟩)) ∧ w'.cell? ⟨kb, 1, none⟩ = some (.int .i64 f)) (go_keep)
    (first
      | (go_at_call 77; refine (HR.out _ (by exact B0.out.drew)).mono ?_; rintro e w1 ⟨rfl, hb⟩; have B1 := Lib.hid (B0.out.drew.trans (hb.mono (by exact B0.out.drew.size))); have R1 := Lib.hid (below_block hb (show w0.drew.heap[w.heap.size]? = some zeroCells from R0.out)); have W1 := Lib.hid ((W0.out.below (Below.refl _ _).drew).below hb); clear hb; have c0 := W1.out.c0; have c1 := W1.out.c1))
  clear c0 c1
  go_wp2_with fail
  refine (HG.out _ (by exact B1.out)).mono ?_
  rintro e w2 ⟨rfl, hb⟩
  have B2 := Lib.hid (B1.out.trans (hb.mono B1.out.size))
  have R2 := Lib.hid (below_block hb R1.out)
  have W2 := Lib.hid (W1.out.below hb)
  clear hb
  go_wp2_with fail
  obtain ⟨w3, hw3⟩ : ∃ w3, w3 = w2.alloc (.cells #[.bool false, .bool false, .bool false, .int .i64 0] 37) := ⟨_, rfl⟩
  have A3 : Hid (Below w2.heap.size w2 w3) := Lib.hid (by rw [hw3]; exact (Below.refl _ _).alloc (Nat.le_refl _) _)
  have hne : w2.heap.size ≠ w.heap.size := fun e => by have := lt_of_block R2.out; omega
  have hne2 : w2.heap.size ≠ kb := fun e => by have := lt_of_block W2.out; omega
  have E3 := box4 (show w3.heap[w2.heap.size]? = some (.cells #[.bool false, .bool false, .bool false, .int .i64 0] 37 (0, 0)) by rw [hw3]; exact heap_alloc_new w2 _)
  rw [← hw3]
  clear hw3
  have B3 := Lib.hid (B2.out.trans (A3.out.mono B2.out.size))
  have R3 := Lib.hid (below_block A3.out R2.out)
  have W3 := Lib.hid (W2.out.below A3.out)
  obtain ⟨r0, r1, r2, r3, rf⟩ := box4 R3.out
  have f0 := rf 0
  have f1 := rf 1
  have f2 := rf 2
  have f3 := rf 3
  have c0 := W3.out.c0
  have c1 := W3.out.c1
  obtain ⟨e0, e1, e2, e3, ef⟩ := E3
  clear rf ef
  go_quiet (fail)
  go_wp2
  exact bodyPost_ret (v := .tuple #[ent false false false 0, .int .u8 6]) (by simp [results, Tryd.results72, go_sem, r0, r1, r2, r3]) rfl ⟨rfl, below_four (below_drewN B3.out _) _ _ _ _⟩

set_option maxHeartbeats 1000000 in
/-- The entry is of a frame that there is not: FtBad. -/
theorem step_far (kb mp fb n : Nat) (f q a : Int) (p x c : Bool) (g : Int) (w : World) (hm : w.cell? ⟨mp, 0, none⟩ = some (.slice (some ⟨fb, 0, none⟩) n n)) (hf : (n : Int) ≤ g) (hw : WkSt w kb (some ⟨mp, 0, none⟩) f)
    (hr : ∀ W, Below w.heap.size w W → Calls Tryd.prog 77 #[.pointer (some ⟨mp, 0, none⟩), .int .i64 f, .int .i64 q] W fun e w' => e = .returned (.tuple #[.int .u32 a, .int .i64 0]) ∧ Below W.heap.size W w')
    (hg : ∀ W, Below w.heap.size w W → Calls Tryd.prog 78 #[.int .u32 a] W fun e w' => e = .returned (.tuple #[ent p x c g, .int .i64 0]) ∧ Below W.heap.size W w') :
    Calls Tryd.prog 72 #[.pointer (some ⟨kb, 0, none⟩), .int .i64 q] w fun e w' => e = .returned (.tuple #[ent false false false 0, .int .u8 6]) ∧ Below w.heap.size w w' := by
  have HM := Lib.hid hm
  clear hm
  have HR := Lib.hid hr
  have HG := Lib.hid hg
  have HW := Lib.hid hw
  clear hr hg hw
  go_enter Tryd.func72, Tryd.ntmps72
  go_wp2_with fail
  obtain ⟨w0, hw0⟩ : ∃ w0, w0 = w.alloc (.cells #[.bool false, .bool false, .bool false, .int .i64 0] 37) := ⟨_, rfl⟩
  have B0 : Hid (Below w.heap.size w w0) := Lib.hid (by rw [hw0]; exact (Below.refl _ _).alloc (Nat.le_refl _) _)
  have R0 : Hid (w0.heap[w.heap.size]? = some zeroCells) := Lib.hid (by rw [hw0]; exact heap_alloc_new w _)
  have W0 := Lib.hid (HW.out.below B0.out)
  have c0 := W0.out.c0
  have c1 := W0.out.c1
  rw [← hw0]
  clear hw0
  go_region_held3 (fun w' => w'.cell? ⟨kb, 0, none⟩ = some (.pointer (some ⟨mp, 0, none⟩)) ∧ w'.cell? ⟨kb, 1, none⟩ = some (.int .i64 f)) (go_keep)
    (first
      | (go_at_call 77; refine (HR.out _ (by exact B0.out.drew)).mono ?_; rintro e w1 ⟨rfl, hb⟩; have B1 := Lib.hid (B0.out.drew.trans (hb.mono (by exact B0.out.drew.size))); have R1 := Lib.hid (below_block hb (show w0.drew.heap[w.heap.size]? = some zeroCells from R0.out)); have W1 := Lib.hid ((W0.out.below (Below.refl _ _).drew).below hb); clear hb; have c0 := W1.out.c0; have c1 := W1.out.c1))
  clear c0 c1
  go_wp2_with fail
  refine (HG.out _ (by exact B1.out)).mono ?_
  rintro e w2 ⟨rfl, hb⟩
  have B2 := Lib.hid (B1.out.trans (hb.mono B1.out.size))
  have R2 := Lib.hid (below_block hb R1.out)
  have W2 := Lib.hid (W1.out.below hb)
  clear hb
  go_wp2_with fail
  obtain ⟨w3, hw3⟩ : ∃ w3, w3 = w2.alloc (.cells #[.bool p, .bool x, .bool c, .int .i64 g] 37) := ⟨_, rfl⟩
  have A3 : Hid (Below w2.heap.size w2 w3) := Lib.hid (by rw [hw3]; exact (Below.refl _ _).alloc (Nat.le_refl _) _)
  have hne : w2.heap.size ≠ w.heap.size := fun e => by have := lt_of_block R2.out; omega
  have hne2 : w2.heap.size ≠ kb := fun e => by have := lt_of_block W2.out; omega
  have E3 := box4 (show w3.heap[w2.heap.size]? = some (.cells #[.bool p, .bool x, .bool c, .int .i64 g] 37 (0, 0)) by rw [hw3]; exact heap_alloc_new w2 _)
  rw [← hw3]
  clear hw3
  have B3 := Lib.hid (B2.out.trans (A3.out.mono B2.out.size))
  have R3 := Lib.hid (below_block A3.out R2.out)
  have W3 := Lib.hid (W2.out.below A3.out)
  obtain ⟨r0, r1, r2, r3, rf⟩ := box4 R3.out
  have f0 := rf 0
  have f1 := rf 1
  have f2 := rf 2
  have f3 := rf 3
  have c0 := W3.out.c0
  have c1 := W3.out.c1
  obtain ⟨e0, e1, e2, e3, ef⟩ := E3
  clear rf ef
  have hd : decide ((n : Int) ≤ g) = true := decide_eq_true hf
  have HM3 : Hid (w3.cell? ⟨mp, 0, none⟩ = some (.slice (some ⟨fb, 0, none⟩) n n)) := Lib.hid ((B3.out.cell (p := ⟨mp, 0, none⟩) (block_lt_of_cell HM.out)).trans HM.out)
  go_quiet ((go_at_call 54; exact Calls.quiet_of_same ((frames_some _ _ _ _ _ (by exact HM3.out)).mono fun _ _ h => ⟨h.1, h.2.symm⟩)))
  go_wp2
  exact bodyPost_ret (v := .tuple #[ent false false false 0, .int .u8 6]) (by simp [results, Tryd.results72, go_sem, r0, r1, r2, r3]) rfl ⟨rfl, below_four (below_drewN B3.out _) _ _ _ _⟩

/-- The walker goes on to a frame; nothing else of old changes. -/
structure WkGo (w w' : World) (kb : Nat) (p : Option Addr) (f : Int) : Prop where
  st : WkSt w' kb p f
  grown : w.grownBy w' (some kb)
theorem grownBy_own {W w : World} {r : Option Nat} (h : W.grownBy w r) (i : Nat) (u : Value) : W.grownBy (w.setCell ⟨W.heap.size, i, none⟩ u) r :=
  ⟨h.os, h.tape, h.output, by simpa [World.setCell] using h.size, fun k hk hne => (Below.heap_setCell _ _ _ _ (Nat.ne_of_lt hk)).trans (h.block k hk hne)⟩
theorem grown_four {W w : World} {r : Option Nat} (h : W.grownBy w r) (a b c d : Value) : W.grownBy ((((w.setCell ⟨W.heap.size, 0, none⟩ a).setCell ⟨W.heap.size, 1, none⟩ b).setCell ⟨W.heap.size, 2, none⟩ c).setCell ⟨W.heap.size, 3, none⟩ d) r :=
  grownBy_own (grownBy_own (grownBy_own (grownBy_own h 0 a) 1 b) 2 c) 3 d
theorem go_set {w : World} {kb : Nat} {p : Option Addr} {f : Int} (h : WkSt w kb p f) (g : Int) : WkSt (w.setCell ⟨kb, 1, none⟩ (.int .i64 g)) kb p g := heap_setCell_same w kb 1 _ _ (.int .i64 g) h
theorem go_one {w : World} {kb b : Nat} {p : Option Addr} {f : Int} (h : WkSt w kb p f) (hb : kb ≠ b) (i : Nat) (u : Value) : WkSt (w.setCell ⟨b, i, none⟩ u) kb p f :=
  (Below.heap_setCell _ _ _ _ (fun e => hb (by first | exact e | exact e.symm))).trans h
theorem go_four {w : World} {kb b : Nat} {p : Option Addr} {f : Int} (h : WkSt w kb p f) (hb : kb ≠ b) (a x c d : Value) : WkSt ((((w.setCell ⟨b, 0, none⟩ a).setCell ⟨b, 1, none⟩ x).setCell ⟨b, 2, none⟩ c).setCell ⟨b, 3, none⟩ d) kb p f :=
  go_one (go_one (go_one (go_one h hb 0 a) hb 1 x) hb 2 c) hb 3 d
set_option maxHeartbeats 1000000 in
/-- The entry may be: the walker goes on. -/
theorem step_on (kb mp fb n : Nat) (f q a : Int) (p x c : Bool) (g : Int) (w : World) (hm : w.cell? ⟨mp, 0, none⟩ = some (.slice (some ⟨fb, 0, none⟩) n n)) (hf : g < (n : Int)) (hw : WkSt w kb (some ⟨mp, 0, none⟩) f)
    (hr : ∀ W, Below w.heap.size w W → Calls Tryd.prog 77 #[.pointer (some ⟨mp, 0, none⟩), .int .i64 f, .int .i64 q] W fun e w' => e = .returned (.tuple #[.int .u32 a, .int .i64 0]) ∧ Below W.heap.size W w')
    (hg : ∀ W, Below w.heap.size w W → Calls Tryd.prog 78 #[.int .u32 a] W fun e w' => e = .returned (.tuple #[ent p x c g, .int .i64 0]) ∧ Below W.heap.size W w') :
    Calls Tryd.prog 72 #[.pointer (some ⟨kb, 0, none⟩), .int .i64 q] w fun e w' => e = .returned (.tuple #[ent p x c g, .int .u8 0]) ∧ WkGo w w' kb (some ⟨mp, 0, none⟩) g := by
  have HM := Lib.hid hm
  clear hm
  have HR := Lib.hid hr
  have HG := Lib.hid hg
  have HW := Lib.hid hw
  clear hr hg hw
  go_enter Tryd.func72, Tryd.ntmps72
  go_wp2_with fail
  obtain ⟨w0, hw0⟩ : ∃ w0, w0 = w.alloc (.cells #[.bool false, .bool false, .bool false, .int .i64 0] 37) := ⟨_, rfl⟩
  have B0 : Hid (Below w.heap.size w w0) := Lib.hid (by rw [hw0]; exact (Below.refl _ _).alloc (Nat.le_refl _) _)
  have R0 : Hid (w0.heap[w.heap.size]? = some zeroCells) := Lib.hid (by rw [hw0]; exact heap_alloc_new w _)
  have W0 := Lib.hid (HW.out.below B0.out)
  have c0 := W0.out.c0
  have c1 := W0.out.c1
  rw [← hw0]
  clear hw0
  go_region_held3 (fun w' => w'.cell? ⟨kb, 0, none⟩ = some (.pointer (some ⟨mp, 0, none⟩)) ∧ w'.cell? ⟨kb, 1, none⟩ = some (.int .i64 f)) (go_keep)
    (first
      | (go_at_call 77; refine (HR.out _ (by exact B0.out.drew)).mono ?_; rintro e w1 ⟨rfl, hb⟩; have B1 := Lib.hid (B0.out.drew.trans (hb.mono (by exact B0.out.drew.size))); have R1 := Lib.hid (below_block hb (show w0.drew.heap[w.heap.size]? = some zeroCells from R0.out)); have W1 := Lib.hid ((W0.out.below (Below.refl _ _).drew).below hb); clear hb; have c0 := W1.out.c0; have c1 := W1.out.c1))
  clear c0 c1
  go_wp2_with fail
  refine (HG.out _ (by exact B1.out)).mono ?_
  rintro e w2 ⟨rfl, hb⟩
  have B2 := Lib.hid (B1.out.trans (hb.mono B1.out.size))
  have R2 := Lib.hid (below_block hb R1.out)
  have W2 := Lib.hid (W1.out.below hb)
  clear hb
  go_wp2_with fail
  obtain ⟨w3, hw3⟩ : ∃ w3, w3 = w2.alloc (.cells #[.bool p, .bool x, .bool c, .int .i64 g] 37) := ⟨_, rfl⟩
  have A3 : Hid (Below w2.heap.size w2 w3) := Lib.hid (by rw [hw3]; exact (Below.refl _ _).alloc (Nat.le_refl _) _)
  have hne : w2.heap.size ≠ w.heap.size := fun e => by have := lt_of_block R2.out; omega
  have hne2 : w2.heap.size ≠ kb := fun e => by have := lt_of_block W2.out; omega
  have E3 := box4 (show w3.heap[w2.heap.size]? = some (.cells #[.bool p, .bool x, .bool c, .int .i64 g] 37 (0, 0)) by rw [hw3]; exact heap_alloc_new w2 _)
  rw [← hw3]
  clear hw3
  have B3 := Lib.hid (B2.out.trans (A3.out.mono B2.out.size))
  have R3 := Lib.hid (below_block A3.out R2.out)
  have W3 := Lib.hid (W2.out.below A3.out)
  obtain ⟨r0, r1, r2, r3, rf⟩ := box4 R3.out
  have f0 := rf 0
  have f1 := rf 1
  have f2 := rf 2
  have f3 := rf 3
  have c0 := W3.out.c0
  have c1 := W3.out.c1
  obtain ⟨e0, e1, e2, e3, ef⟩ := E3
  clear rf ef
  have g1 := W3.out.free 1
  have hd : decide ((n : Int) ≤ g) = false := decide_eq_false (by omega)
  have HKB := Lib.hid (lt_of_block HW.out)
  have hne3 : kb ≠ w.heap.size := fun e => by have := HKB.out; omega
  have HM3 : Hid (w3.cell? ⟨mp, 0, none⟩ = some (.slice (some ⟨fb, 0, none⟩) n n)) := Lib.hid ((B3.out.cell (p := ⟨mp, 0, none⟩) (block_lt_of_cell HM.out)).trans HM.out)
  go_quiet ((go_at_call 54; exact Calls.quiet_of_same ((frames_some _ _ _ _ _ (by exact HM3.out)).mono fun _ _ h => ⟨h.1, h.2.symm⟩)))
  go_wp2
  exact bodyPost_ret (v := .tuple #[ent p x c g, .int .u8 0]) (by simp [results, Tryd.results72, go_sem, r0, r1, r2, r3]) rfl ⟨rfl, ⟨go_four (go_set (show WkSt (w3.drewN nq) kb _ f from W3.out) g) (fun e => hne3 e) _ _ _ _, grown_four (grownBy_trans (grownBy_of_below (below_drewN B3.out _) _) (grownBy_setCell _ kb 1 (.int .i64 g))) _ _ _ _⟩⟩

/-- The step, by what stands at the place. -/
theorem step_none (kb mp fb n : Nat) (L : List Int) (f q : Int) (w : World) (hL : LaidW w) (hW : Words L) (hm : MemSt w mp fb n L) (hw : WkSt w kb (some ⟨mp, 0, none⟩) f) (h : entAt n L f q = none) :
    Calls Tryd.prog 72 #[.pointer (some ⟨kb, 0, none⟩), .int .i64 q] w fun e w' => e = .returned (.tuple #[ent false false false 0, .int .u8 6]) ∧ Below w.heap.size w w' := by
  rcases entAt_none h with h1 | ⟨h1, h2⟩ | ⟨h1, ⟨p, x, c, g⟩, h2, h3⟩
  · exact step_err kb _ f q 2 rfl w hw fun W hb => read_bad mp fb n L f q W (hm.below hb) h1
  · exact step_no kb mp f q _ w hw (fun W hb => read_i mp fb n L f q W (hm.below hb) h1) (fun W hb => get_none _ W (hW _).1 (hW _).2 h2 (hL.below hb))
  · exact step_far kb mp fb n f q _ p x c g w hm.cellM h3 hw (fun W hb => read_i mp fb n L f q W (hm.below hb) h1) (fun W hb => get_some _ _ W (hW _).1 (hW _).2 h2 (hL.below hb))
theorem step_some (kb mp fb n : Nat) (L : List Int) (f q : Int) (p x c : Bool) (g : Int) (w : World) (hL : LaidW w) (hW : Words L) (hm : MemSt w mp fb n L) (hw : WkSt w kb (some ⟨mp, 0, none⟩) f) (h : entAt n L f q = some (p, x, c, g)) :
    Calls Tryd.prog 72 #[.pointer (some ⟨kb, 0, none⟩), .int .i64 q] w fun e w' => e = .returned (.tuple #[ent p x c g, .int .u8 0]) ∧ WkGo w w' kb (some ⟨mp, 0, none⟩) g := by
  obtain ⟨h1, h2, h3⟩ := entAt_some h
  exact step_on kb mp fb n f q _ p x c g w hm.cellM h3 hw (fun W hb => read_i mp fb n L f q W (hm.below hb) h1) (fun W hb => get_some _ _ W (hW _).1 (hW _).2 h2 (hL.below hb))
theorem step_nil (kb : Nat) (po : Option Addr) (f q : Int) (w : World) (hp : NoMem w po) (hw : WkSt w kb po f) :
    Calls Tryd.prog 72 #[.pointer (some ⟨kb, 0, none⟩), .int .i64 q] w fun e w' => e = .returned (.tuple #[ent false false false 0, .int .u8 6]) ∧ Below w.heap.size w w' :=
  step_err kb _ f q 1 rfl w hw fun W hb => read_no po f q W (hp.below hb)
end Go.Proofs.YtkcecfghfohjcaaDoor
