/- The contracts of Check of package word and of the document's own Check: both tell ErrArg unless the entry may be. No condition. -/
import Derived.Test.YtgalcafpkfakdaaW2
namespace Go.Proofs.Ytgalcafpkfakdaa
open Go.RowKit
set_option maxRecDepth 100000

/-- May an entry be? -/
def okE (p w c : Bool) (f : Int) : Bool := decide (0 ≤ f ∧ f < 1024) && (p || (!w && !c && decide (f = 0))) && !(c && w)
abbrev ent (p w c : Bool) (f : Int) : Value := .agg #[.bool p, .bool w, .bool c, .int .i64 f]
/-- What Check tells. -/
def errE (b : Bool) : Int := if b then 0 else 2

set_option maxRecDepth 100000 in
set_option maxHeartbeats 2000000 in
theorem check_any (p w c : Bool) (f : Int) (W : World) : Calls Try.prog 20 #[ent p w c f] W fun e w' => e = .returned (.int .i64 (errE (okE p w c f))) ∧ Below W.heap.size W w' := by
  by_cases h1 : f < 0
  · have e : okE p w c f = false := by simp [okE]; omega
    rw [e]
    clear e
    go_enter Try.func20, Try.ntmps20
    go_wp2
    go_ret
    exact ⟨rfl, (Below.refl _ _).alloc (Nat.le_refl _) _⟩
  by_cases h2 : 1024 ≤ f
  · have e : okE p w c f = false := by simp [okE]; omega
    rw [e]
    clear e
    go_enter Try.func20, Try.ntmps20
    go_wp2
    go_ret
    exact ⟨rfl, (Below.refl _ _).alloc (Nat.le_refl _) _⟩
  by_cases h3 : f = 0
  · subst h3
    clear h1 h2
    cases p <;> cases w <;> cases c <;> (go_enter Try.func20, Try.ntmps20; go_wp2; go_ret; exact ⟨rfl, (Below.refl _ _).alloc (Nat.le_refl _) _⟩)
  · have E : ∀ p w c : Bool, okE p w c f = ((p || false) && !(c && w)) := by
      intro p w c
      have hr : decide (0 ≤ f ∧ f < 1024) = true := by simp; omega
      simp [okE, hr, h3]
    have H := Lib.hid E
    clear E
    cases p <;> cases w <;> cases c <;> (go_enter Try.func20, Try.ntmps20; go_wp2; go_ret; exact ⟨by rw [H.out]; rfl, (Below.refl _ _).alloc (Nat.le_refl _) _⟩)

set_option maxRecDepth 100000 in
set_option maxHeartbeats 2000000 in
theorem rcheck_any (p w c : Bool) (f : Int) (W : World) : Calls Try.prog 21 #[ent p w c f] W fun e w' => e = .returned (.int .i64 (errE (okE p w c f))) ∧ Below W.heap.size W w' := by
  by_cases h1 : f < 0
  · have e : okE p w c f = false := by simp [okE]; omega
    rw [e]
    clear e
    go_enter Try.func21, Try.ntmps21
    go_wp2
    go_ret
    exact ⟨rfl, (Below.refl _ _).alloc (Nat.le_refl _) _⟩
  by_cases h2 : 1024 ≤ f
  · have e : okE p w c f = false := by simp [okE]; omega
    rw [e]
    clear e
    go_enter Try.func21, Try.ntmps21
    go_wp2
    go_ret
    exact ⟨rfl, (Below.refl _ _).alloc (Nat.le_refl _) _⟩
  by_cases h3 : f = 0
  · subst h3
    clear h1 h2
    cases p <;> cases w <;> cases c <;> (go_enter Try.func21, Try.ntmps21; go_wp2; go_ret; exact ⟨rfl, (Below.refl _ _).alloc (Nat.le_refl _) _⟩)
  · have E : ∀ p w c : Bool, okE p w c f = ((p || false) && !(c && w)) := by
      intro p w c
      have hr : decide (0 ≤ f ∧ f < 1024) = true := by simp; omega
      simp [okE, hr, h3]
    have H := Lib.hid E
    clear E
    cases p <;> cases w <;> cases c <;> (go_enter Try.func21, Try.ntmps21; go_wp2; go_ret; exact ⟨by rw [H.out]; rfl, (Below.refl _ _).alloc (Nat.le_refl _) _⟩)

theorem check_yes (p w c : Bool) (f : Int) (W : World) (h : okE p w c f = true) : Calls Try.prog 20 #[ent p w c f] W fun e w' => e = .returned (.int .i64 0) ∧ Below W.heap.size W w' := by
  have := check_any p w c f W
  rw [h] at this
  exact this

theorem check_no (p w c : Bool) (f : Int) (W : World) (h : okE p w c f = false) : Calls Try.prog 20 #[ent p w c f] W fun e w' => e = .returned (.int .i64 2) ∧ Below W.heap.size W w' := by
  have := check_any p w c f W
  rw [h] at this
  exact this

theorem rcheck_yes (p w c : Bool) (f : Int) (W : World) (h : okE p w c f = true) : Calls Try.prog 21 #[ent p w c f] W fun e w' => e = .returned (.int .i64 0) ∧ Below W.heap.size W w' := by
  have := rcheck_any p w c f W
  rw [h] at this
  exact this

theorem rcheck_no (p w c : Bool) (f : Int) (W : World) (h : okE p w c f = false) : Calls Try.prog 21 #[ent p w c f] W fun e w' => e = .returned (.int .i64 2) ∧ Below W.heap.size W w' := by
  have := rcheck_any p w c f W
  rw [h] at this
  exact this

/-- The cells of a box that was laid ahead of a call that keeps what lay there. -/
theorem box_cell {W w1 : World} {c : Array Value} {t : TypeId} (hb : Below (W.alloc (.cells c t)).heap.size (W.alloc (.cells c t)) w1) (i : Nat) : w1.cell? ⟨W.heap.size, i, none⟩ = c[i]? :=
  (hb.cell (p := ⟨W.heap.size, i, none⟩) (by simp)).trans (World.cell?_alloc_new ..)

end Go.Proofs.Ytgalcafpkfakdaa
