/- The contracts of the helpers of package mem: Frames, and what asks for a place of a frame. Conditions: the memory lies as New laid it. -/
import Derived.Test.YtiohnhgoddfebaaDoorRows
import Derived.WalkKit
import Derived.WalkSpells
import Derived.WalkLawsBesides
import Derived.Deep.QuietTactic
import Derived.BigQuiet
import Derived.Lib.Hide
import Derived.Laws.MakeOwn
import Derived.Laws.Rows
import Derived.StillTailTactics
import Derived.Below
namespace Go.Proofs.YtiohnhgoddfebaaDoor
open Go.RowKit
set_option maxRecDepth 100000

/-- Words, as a row of cells. -/
def wordsV (L : List Int) : Array Value := (L.map (Value.int .u32)).toArray
theorem wordsV_get (L : List Int) (i : Nat) (h : i < L.length) : (wordsV L)[i]? = some (.int .u32 (L.getD i 0)) := by
  simp [wordsV, h]

/-- A memory lies at block mp; its frames' words, L, in block fb. -/
structure MemSt (w : World) (mp fb n : Nat) (L : List Int) : Prop where
  box : w.heap[mp]? = some (.cells #[.slice (some ⟨fb, 0, none⟩) n n] 70 (0, 0))
  row : w.heap[fb]? = some (.cells (wordsV L) 83 (0, 0))
  len : L.length = n * 32
  ne : mp ≠ fb
  pos : 0 < n
  top : n ≤ 1024

theorem MemSt.cellM {w : World} {mp fb n : Nat} {L : List Int} (h : MemSt w mp fb n L) : w.cell? ⟨mp, 0, none⟩ = some (.slice (some ⟨fb, 0, none⟩) n n) := by
  rw [cell_of_row w mp 0 _ _ _ h.box]; rfl

set_option maxRecDepth 100000 in
set_option maxHeartbeats 400000 in
theorem frames_some (mp : Nat) (a : Option Addr) (n c : Nat) (w : World) (h : w.cell? ⟨mp, 0, none⟩ = some (.slice a n c)) :
    Calls Tryd.prog 26 #[.pointer (some ⟨mp, 0, none⟩)] w fun e w' => e = .returned (.int .i64 n) ∧ w = w' := by
  go_enter Tryd.func26, Tryd.ntmps26
  go_wp2
  go_ret
  exact ⟨rfl, rfl⟩
set_option maxRecDepth 100000 in
set_option maxHeartbeats 400000 in
theorem frames_nil (w : World) :
    Calls Tryd.prog 26 #[.pointer none] w fun e w' => e = .returned (.int .i64 0) ∧ w = w' := by
  go_enter Tryd.func26, Tryd.ntmps26
  go_wp2
  go_ret
  exact ⟨rfl, rfl⟩

/-- What the closure that asks captured: the memory, the frame, the place. -/
structure AskSt (w : World) (bm bf bp : Nat) (p : Value) (f q : Int) : Prop where
  m : w.cell? ⟨bm, 0, none⟩ = some p
  f : w.cell? ⟨bf, 0, none⟩ = some (.int .i64 f)
  q : w.cell? ⟨bp, 0, none⟩ = some (.int .i64 q)

set_option maxRecDepth 100000 in
set_option maxHeartbeats 800000 in
theorem ask_nil (d : Value) (bm bf bp : Nat) (f q : Int) (w : World) (h : AskSt w bm bf bp (.pointer none) f q) :
    Calls Tryd.prog 59 #[d, .pointer (some ⟨bm, 0, none⟩), .pointer (some ⟨bf, 0, none⟩), .pointer (some ⟨bp, 0, none⟩)] w fun e w' => e = .returned (.int .i64 1) ∧ w = w' := by
  have h1 := h.m
  clear h
  go_enter Tryd.func59, Tryd.ntmps59
  go_wp2_with (go_at_call 26; refine (frames_nil _).mono ?_; rintro e w' ⟨rfl, rfl⟩)
  go_ret
  exact ⟨rfl, rfl⟩
set_option maxRecDepth 100000 in
set_option maxHeartbeats 800000 in
theorem ask_none (d : Value) (bm bf bp mp : Nat) (f q : Int) (w : World) (h : AskSt w bm bf bp (.pointer (some ⟨mp, 0, none⟩)) f q) (hz : w.cell? ⟨mp, 0, none⟩ = some (.slice none 0 0)) :
    Calls Tryd.prog 59 #[d, .pointer (some ⟨bm, 0, none⟩), .pointer (some ⟨bf, 0, none⟩), .pointer (some ⟨bp, 0, none⟩)] w fun e w' => e = .returned (.int .i64 1) ∧ w = w' := by
  have h1 := h.m
  have hz := Lib.hid hz
  clear h
  go_enter Tryd.func59, Tryd.ntmps59
  go_wp2_with (go_at_call 26; refine (frames_some _ _ _ _ _ hz.out).mono ?_; rintro e w' ⟨rfl, rfl⟩)
  go_ret
  exact ⟨rfl, rfl⟩
end Go.Proofs.YtiohnhgoddfebaaDoor
