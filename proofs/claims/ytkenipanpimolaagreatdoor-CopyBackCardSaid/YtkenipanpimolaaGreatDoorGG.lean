/- Texts of mine, joined: K1 K2 K3 K4. What each says and under which conditions stands at its head, below. -/
import Derived.Test.YtkenipanpimolaaGreatDoorGB
import Derived.Test.YtkenipanpimolaaGreatDoorGD8
import Derived.Test.YtkenipanpimolaaGreatDoorGA0
import Derived.WalkMore
/- What a word says as an entry (decode), and what stands at a place of a table (entAt), as numbers; Get of package word and the document's own in these terms. Conditions: the two tables read as laid. -/
namespace Go.Proofs.YtkenipanpimolaaGreatDoor
open Go.RowKit
set_option maxRecDepth 100000

/-- An entry's four fields. -/
abbrev Ent := Bool × Bool × Bool × Int
def entV (e : Ent) : Value := ent e.1 e.2.1 e.2.2.1 e.2.2.2
def z0 : Ent := (false, false, false, 0)

/-- What a word says as an entry. -/
def decode (a : Int) : Option Ent :=
  let p := decide (a % 2 = 1)
  let w := decide (a / 2 % 2 = 1)
  let c := decide (a / 4 % 2 = 1)
  if okE p w c (a / 256 % 1024) = true ∧ wordOf p w c (a / 256 % 1024) = a then some (p, w, c, a / 256 % 1024) else none

theorem bit_of_mod (a : Int) : a % 2 = bit (decide (a % 2 = 1)) := by
  by_cases h : a % 2 = 1 <;> simp [bit, h]; omega

theorem get_some (a : Int) (e : Ent) (W : World) (h0 : 0 ≤ a) (h1 : a < 4294967296) (h : decode a = some e) (hL : LaidW W) :
    Calls Tryz.prog 171 #[.int .u32 a] W fun r w' => r = .returned (.tuple #[entV e, .int .i64 0]) ∧ Below W.heap.size W w' := by
  unfold decode at h
  simp only [] at h
  split at h
  · rename_i hg
    obtain rfl := (Option.some.inj h).symm
    exact get_yes a _ _ _ _ W h0 h1 (by rw [Int.ediv_one]; exact bit_of_mod a) (bit_of_mod _) (bit_of_mod _) rfl hg.1 hg.2 hL
  · exact absurd h (by simp)
theorem get_none (a : Int) (W : World) (h0 : 0 ≤ a) (h1 : a < 4294967296) (h : decode a = none) (hL : LaidW W) :
    Calls Tryz.prog 171 #[.int .u32 a] W fun r w' => r = .returned (.tuple #[entV z0, .int .i64 6]) ∧ Below W.heap.size W w' := by
  unfold decode at h
  simp only [] at h
  split at h
  · exact absurd h (by simp)
  · rename_i hg
    exact get_bad a _ _ _ _ W h0 h1 (by rw [Int.ediv_one]; exact bit_of_mod a) (bit_of_mod _) (bit_of_mod _) rfl hg hL
theorem okE_low {p w c : Bool} {f : Int} (h : okE p w c f = true) : 0 ≤ f ∧ f < 1024 ∧ (p = false → f = 0 ∧ w = false ∧ c = false) := by
  cases p <;> cases w <;> cases c <;> simp [okE] at h ⊢ <;> omega
/-- A frame's number, of an entry that a word says; an entry that is not Present is zero. -/
theorem decode_low {a : Int} {e : Ent} (h : decode a = some e) : 0 ≤ e.2.2.2 ∧ e.2.2.2 < 1024 ∧ (e.1 = false → e = z0) := by
  unfold decode at h
  simp only [] at h
  split at h
  · rename_i hg
    obtain rfl := (Option.some.inj h).symm
    obtain ⟨h1, h2, h3⟩ := okE_low hg.1
    refine ⟨h1, h2, fun hp => ?_⟩
    obtain ⟨k1, k2, k3⟩ := h3 hp
    simp only [z0, Prod.mk.injEq]
    exact ⟨hp, k2, k3, k1⟩
  · exact absurd h (by simp)

instance (n : Nat) (f q : Int) : Decidable (okFQ n f q) := by unfold okFQ; exact inferInstance

/-- What stands at a place of a table: an entry that may be, of a frame that there is. -/
def entAt (n : Nat) (L : List Int) (f q : Int) : Option Ent :=
  if okFQ n f q then (match decode (L.getD (idx f q) 0) with
    | some e => if e.2.2.2 < (n : Int) then some e else none
    | none => none) else none

/-- All are words. -/
def Words (L : List Int) : Prop := ∀ i, 0 ≤ L.getD i 0 ∧ L.getD i 0 < 4294967296

theorem entAt_some {n : Nat} {L : List Int} {f q : Int} {e : Ent} (h : entAt n L f q = some e) : okFQ n f q ∧ decode (L.getD (idx f q) 0) = some e ∧ e.2.2.2 < (n : Int) := by
  unfold entAt at h
  split at h
  · rename_i hk
    split at h
    · rename_i e' hd
      split at h
      · rename_i hl
        obtain rfl := Option.some.inj h
        exact ⟨hk, hd, hl⟩
      · exact absurd h (by simp)
    · exact absurd h (by simp)
  · exact absurd h (by simp)
theorem entAt_none {n : Nat} {L : List Int} {f q : Int} (h : entAt n L f q = none) : ¬ okFQ n f q ∨ (okFQ n f q ∧ decode (L.getD (idx f q) 0) = none) ∨ (okFQ n f q ∧ ∃ e, decode (L.getD (idx f q) 0) = some e ∧ (n : Int) ≤ e.2.2.2) := by
  unfold entAt at h
  split at h
  · rename_i hk
    split at h
    · rename_i e' hd
      split at h
      · exact absurd h (by simp)
      · rename_i hl
        exact Or.inr (Or.inr ⟨hk, e', hd, by omega⟩)
    · rename_i hd
      exact Or.inr (Or.inl ⟨hk, hd⟩)
  · rename_i hk
    exact Or.inl hk

/-- The walk to the entry of a page: the entry, and the fault. -/
def pageE (n : Nat) (L : List Int) (root pg : Int) : Ent × Int :=
  match entAt n L root (pg / 32) with
  | none => (z0, 6)
  | some t => if t.1 = false then (z0, 2) else
    match entAt n L t.2.2.2 (pg % 32) with
    | none => (z0, 6)
    | some x => if x.1 = false then (z0, 3) else (x, 0)

/-- Where an address is: the frame, the place, the fault. -/
def atE (n : Nat) (L : List Int) (root va : Int) (wr : Bool) : Int × Int × Int :=
  if 32768 ≤ va then (0, 0, 1) else
  if (pageE n L root (va / 32)).2 ≠ 0 then (0, 0, (pageE n L root (va / 32)).2) else
  if wr = true ∧ (pageE n L root (va / 32)).1.2.2.1 = true then (0, 0, 5) else
  if wr = true ∧ (pageE n L root (va / 32)).1.2.1 = false then (0, 0, 4) else
  ((pageE n L root (va / 32)).1.2.2.2, va % 32, 0)

end Go.Proofs.YtkenipanpimolaaGreatDoor

/- The contract of the walker's step: the entry at a place of the frame where the walker is, and on to the frame that it names; FtBad else. Conditions: the tables of package word read as laid; the walker and the memory lie as made. -/
namespace Go.Proofs.YtkenipanpimolaaGreatDoor
open Go.RowKit
set_option maxRecDepth 100000

abbrev zeroCells : Obj := .cells #[.bool false, .bool false, .bool false, .int .i64 0] 166 (0, 0)

end Go.Proofs.YtkenipanpimolaaGreatDoor

/- The contract of find, package walk: the walk from a root to the entry of an address's page. Conditions: the tables of package word read as laid; the memory lies as made, or there is none. -/
namespace Go.Proofs.YtkenipanpimolaaGreatDoor
open Go.RowKit
set_option maxRecDepth 100000

/-- What lies behind the call's start: the result's cells, and old memory as it was. -/
structure FindSt (w w1 : World) (p x c : Bool) (f : Int) : Prop where
  below : Below w.heap.size w w1
  res : w1.heap[w.heap.size]? = some (.cells #[.bool p, .bool x, .bool c, .int .i64 f] 166 (0, 0))
/-- Four cells of the result are put. -/
def put4 (w w1 : World) (p x c : Bool) (f : Int) : World := (((w1.setCell ⟨w.heap.size, 0, none⟩ (.bool p)).setCell ⟨w.heap.size, 1, none⟩ (.bool x)).setCell ⟨w.heap.size, 2, none⟩ (.bool c)).setCell ⟨w.heap.size, 3, none⟩ (.int .i64 f)
end Go.Proofs.YtkenipanpimolaaGreatDoor

/- The contracts of package walk's At, Look, Load, Store. Conditions: the tables of package word read as laid; the memory lies as made, or there is none. -/
namespace Go.Proofs.YtkenipanpimolaaGreatDoor
open Go.RowKit
set_option maxRecDepth 100000

/-- What find tells: the entry, the place, the fault. -/
def findR (n : Nat) (L : List Int) (root va : Int) : Ent × Int × Int :=
  if 32768 ≤ va then (z0, 0, 1) else
  ((pageE n L root (va / 32)).1, (if (pageE n L root (va / 32)).2 = 0 then va % 32 else 0), (pageE n L root (va / 32)).2)

/-- Where an address is: find's answer, by the kind of access. -/
def AtArgs (p : Option Addr) (root va : Int) (wr : Bool) : Array Value := #[.pointer p, .int .i64 root, .int .u32 va, .bool wr]
end Go.Proofs.YtkenipanpimolaaGreatDoor
