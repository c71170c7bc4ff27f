/- Texts of mine, joined: M1 M2. What each says and under which conditions stands at its head, below. -/
import Derived.Test.YtfpcoomkbmfchaaGreatDoorRows
import Derived.WalkKit
import Derived.WalkSpells
import Derived.WalkLawsBesides
import Derived.Deep.QuietTactic
import Derived.BigQuiet
import Derived.Lib.Hide
import Derived.Laws.MakeOwn
import Derived.Laws.Rows
import Derived.StillTailTactics
import Derived.Below
/- The contracts of the helpers of package mem: Frames, and what asks for a place of a frame. Conditions: the memory lies as New laid it. -/
namespace Go.Proofs.YtfpcoomkbmfchaaGreatDoor
open Go.RowKit
set_option maxRecDepth 100000

/-- Words, as a row of cells. -/
def wordsV (L : List Int) : Array Value := (L.map (Value.int .u32)).toArray
theorem wordsV_get (L : List Int) (i : Nat) (h : i < L.length) : (wordsV L)[i]? = some (.int .u32 (L.getD i 0)) := by
  simp [wordsV, h]

/-- A memory lies at block mp; its frames' words, L, in block fb. -/
structure MemSt (w : World) (mp fb n : Nat) (L : List Int) : Prop where
  box : w.heap[mp]? = some (.cells #[.slice (some ⟨fb, 0, none⟩) n n] 115 (0, 0))
  row : w.heap[fb]? = some (.cells (wordsV L) 205 (0, 0))
  len : L.length = n * 32
  ne : mp ≠ fb
  pos : 0 < n
  top : n ≤ 1024

theorem MemSt.cellM {w : World} {mp fb n : Nat} {L : List Int} (h : MemSt w mp fb n L) : w.cell? ⟨mp, 0, none⟩ = some (.slice (some ⟨fb, 0, none⟩) n n) := by
  rw [cell_of_row w mp 0 _ _ _ h.box]; rfl

set_option maxRecDepth 100000 in
set_option maxHeartbeats 400000 in
theorem frames_some (mp : Nat) (a : Option Addr) (n c : Nat) (w : World) (h : w.cell? ⟨mp, 0, none⟩ = some (.slice a n c)) :
    Calls Tryz.prog 62 #[.pointer (some ⟨mp, 0, none⟩)] w fun e w' => e = .returned (.int .i64 n) ∧ w = w' := by
  go_enter Tryz.func62, Tryz.ntmps62
  go_wp2
  go_ret
  exact ⟨rfl, rfl⟩
set_option maxRecDepth 100000 in
set_option maxHeartbeats 400000 in
theorem frames_nil (w : World) :
    Calls Tryz.prog 62 #[.pointer none] w fun e w' => e = .returned (.int .i64 0) ∧ w = w' := by
  go_enter Tryz.func62, Tryz.ntmps62
  go_wp2
  go_ret
  exact ⟨rfl, rfl⟩

/-- What the closure that asks captured: the memory, the frame, the place. -/
structure AskSt (w : World) (bm bf bp : Nat) (p : Value) (f q : Int) : Prop where
  m : w.cell? ⟨bm, 0, none⟩ = some p
  f : w.cell? ⟨bf, 0, none⟩ = some (.int .i64 f)
  q : w.cell? ⟨bp, 0, none⟩ = some (.int .i64 q)

end Go.Proofs.YtfpcoomkbmfchaaGreatDoor

/- The contracts of what asks for a place of a frame, package mem. Conditions: the memory lies as New laid it; what is done with the frame has a contract. -/
namespace Go.Proofs.YtfpcoomkbmfchaaGreatDoor
open Go.RowKit
set_option maxRecDepth 100000

/-- A function with a body is entered. -/
theorem enters {k : Nat} {fn : Func} (h : Tryz.prog.funcs[k]? = some fn) (hn : (fn.name == "runtime.NumGoroutine") = false) (hb : fn.body.isNone = false) (args : Array Value) (W : World) : (callFunc k args).run Tryz.prog W = .ok (.enter k args) W := by
  have h1 : ¬ fn.name = "runtime.NumGoroutine" := by simpa using hn
  have h2 : ¬ fn.body = none := by intro e; rw [e] at hb; exact absurd hb (by decide)
  simp [callFunc, Sem.run_bind, h, h1, h2]

set_option maxRecDepth 100000 in
set_option maxHeartbeats 800000 in
theorem ask_neg (d : Value) (bm bf bp mp n : Nat) (a : Option Addr) (f q : Int) (w : World) (h : AskSt w bm bf bp (.pointer (some ⟨mp, 0, none⟩)) f q) (hn : 0 < n) (hz : w.cell? ⟨mp, 0, none⟩ = some (.slice a n n)) (hf : f < 0) :
    Calls Tryz.prog 134 #[d, .pointer (some ⟨bm, 0, none⟩), .pointer (some ⟨bf, 0, none⟩), .pointer (some ⟨bp, 0, none⟩)] w fun e w' => e = .returned (.int .i64 2) ∧ ∃ m, w' = w.drewN m := by
  have h1 := h.m
  have h2 := h.f
  have h3 := h.q
  have hz := Lib.hid hz
  clear h
  go_enter Tryz.func134, Tryz.ntmps134
  go_wp2_with (go_at_call 62; refine (frames_some _ _ _ _ _ hz.out).mono ?_; rintro e w' ⟨rfl, rfl⟩)
  go_quiet (fail)
  go_wp2
  go_ret
  exact ⟨rfl, _, rfl⟩
set_option maxRecDepth 100000 in
set_option maxHeartbeats 800000 in
theorem ask_big (d : Value) (bm bf bp mp n : Nat) (a : Option Addr) (f q : Int) (w : World) (h : AskSt w bm bf bp (.pointer (some ⟨mp, 0, none⟩)) f q) (hn : 0 < n) (hz : w.cell? ⟨mp, 0, none⟩ = some (.slice a n n)) (hf : n ≤ f) :
    Calls Tryz.prog 134 #[d, .pointer (some ⟨bm, 0, none⟩), .pointer (some ⟨bf, 0, none⟩), .pointer (some ⟨bp, 0, none⟩)] w fun e w' => e = .returned (.int .i64 2) ∧ ∃ m, w' = w.drewN m := by
  have h1 := h.m
  have h2 := h.f
  have h3 := h.q
  have hz := Lib.hid hz
  have hd : decide (f < 0) = false := decide_eq_false (by omega)
  have hd2 : decide ((n : Int) ≤ f) = true := decide_eq_true (by omega)
  clear h
  go_enter Tryz.func134, Tryz.ntmps134
  go_wp2_with (go_at_call 62; refine (frames_some _ _ _ _ _ hz.out).mono ?_; rintro e w' ⟨rfl, rfl⟩)
  go_quiet ((go_at_call 62; exact Calls.quiet_of_same ((frames_some _ _ _ _ _ (by exact hz.out)).mono fun _ _ h => ⟨h.1, h.2.symm⟩)))
  go_wp2
  go_ret
  exact ⟨rfl, _, rfl⟩
set_option maxRecDepth 100000 in
set_option maxHeartbeats 800000 in
theorem ask_place (d : Value) (bm bf bp mp n : Nat) (a : Option Addr) (f q : Int) (w : World) (h : AskSt w bm bf bp (.pointer (some ⟨mp, 0, none⟩)) f q) (hn : 0 < n) (hz : w.cell? ⟨mp, 0, none⟩ = some (.slice a n n)) (hf0 : 0 ≤ f) (hf : f < n) (hq : q < 0 ∨ 32 ≤ q) :
    Calls Tryz.prog 134 #[d, .pointer (some ⟨bm, 0, none⟩), .pointer (some ⟨bf, 0, none⟩), .pointer (some ⟨bp, 0, none⟩)] w fun e w' => e = .returned (.int .i64 2) ∧ ∃ m, w' = w.drewN m := by
  have h1 := h.m
  have h2 := h.f
  have h3 := h.q
  have hz := Lib.hid hz
  have hd : decide (f < 0) = false := decide_eq_false (by omega)
  have hd2 : decide ((n : Int) ≤ f) = false := decide_eq_false (by omega)
  clear h
  rcases hq with hq | hq
  all_goals
    go_enter Tryz.func134, Tryz.ntmps134
    go_wp2_with (go_at_call 62; refine (frames_some _ _ _ _ _ hz.out).mono ?_; rintro e w' ⟨rfl, rfl⟩)
    go_quiet ((go_at_call 62; exact Calls.quiet_of_same ((frames_some _ _ _ _ _ (by exact hz.out)).mono fun _ _ h => ⟨h.1, h.2.symm⟩)))
    go_wp2
    go_ret
    exact ⟨rfl, _, rfl⟩

/-- The place is there: what is done with the frame is done. -/
theorem ask_ok (k : Nat) (caps : Array Value) (hent : ∀ (args : Array Value) (W : World), (callFunc k args).run Tryz.prog W = .ok (.enter k args) W) (bm bf bp mp fb n f : Nat) (q : Int) (w : World) (Q : World → Prop) (h : AskSt w bm bf bp (.pointer (some ⟨mp, 0, none⟩)) f q) (hz : w.cell? ⟨mp, 0, none⟩ = some (.slice (some ⟨fb, 0, none⟩) n n)) (hf : f < n) (hq0 : 0 ≤ q) (hq : q < 32)
    (hdo : ∀ m, Calls Tryz.prog k (#[.pointer (some ⟨fb, f * 32, none⟩)] ++ caps) (w.drewN m) fun e w' => e = .returned (.tuple #[]) ∧ Q w') :
    Calls Tryz.prog 134 #[.func (.func k) #[] caps, .pointer (some ⟨bm, 0, none⟩), .pointer (some ⟨bf, 0, none⟩), .pointer (some ⟨bp, 0, none⟩)] w fun e w' => e = .returned (.int .i64 0) ∧ Q w' := by
  have h1 := h.m
  have h2 := h.f
  have h3 := h.q
  have HZ := Lib.hid hz
  have hd : decide ((f : Int) < 0) = false := decide_eq_false (by omega)
  have hd2 : decide ((n : Int) ≤ f) = false := decide_eq_false (by omega)
  clear h
  go_enter Tryz.func134, Tryz.ntmps134
  go_wp2_with (go_at_call 62; refine (frames_some _ _ _ _ _ HZ.out).mono ?_; rintro e w' ⟨rfl, rfl⟩)
  go_quiet ((go_at_call 62; exact Calls.quiet_of_same ((frames_some _ _ _ _ _ (by exact HZ.out)).mono fun _ _ h => ⟨h.1, h.2.symm⟩)))
  go_wp2
  obtain ⟨W2, hW2⟩ : ∃ W2, W2 = w.drewN nq := ⟨_, rfl⟩
  have c1 : W2.cell? ⟨bm, 0, none⟩ = some (.pointer (some ⟨mp, 0, none⟩)) := by rw [hW2]; exact h1
  have c2 : W2.cell? ⟨bf, 0, none⟩ = some (.int .i64 f) := by rw [hW2]; exact h2
  have c3 : W2.cell? ⟨mp, 0, none⟩ = some (.slice (some ⟨fb, 0, none⟩) n n) := by rw [hW2]; exact HZ.out
  have HD : Hid (Calls Tryz.prog k (#[.pointer (some ⟨fb, f * 32, none⟩)] ++ caps) W2.drew fun e w' => e = .returned (.tuple #[]) ∧ Q w') := Lib.hid (by rw [hW2]; exact hdo (nq + 1))
  rw [← hW2]
  clear hW2 h1 h2 h3 HZ hdo
  refine wp_region_still_tail 7 (by kernel_rfl) (by kernel_rfl) ?_
  simp only [List.take_succ_cons, List.take_zero, List.drop_succ_cons, List.drop_zero]
  repeat still_step
  try refine wpStill_nil ?_
  go_wp2_with fail
  refine HD.out.mono ?_
  rintro e w' ⟨rfl, hq⟩
  have HQ := Lib.hid hq
  clear hq
  go_wp2
  go_ret
  exact ⟨rfl, HQ.out⟩
end Go.Proofs.YtfpcoomkbmfchaaGreatDoor
