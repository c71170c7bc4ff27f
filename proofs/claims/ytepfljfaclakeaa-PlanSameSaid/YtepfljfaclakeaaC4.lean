/- The contracts of package conf's ask: whether a configuration may be, but for its frames. Condition: its lists lie in memory. -/
import Derived.Test.YtepfljfaclakeaaC3
namespace Go.Proofs.Ytepfljfaclakeaa
open Go.RowKit
set_option maxRecDepth 100000

/-- A configuration's lists. -/
structure CfAt (w : World) (v1 v2 v3 : Value) (C : Cf) : Prop where
  ps : RowsAt 2 w v1 C.1
  ws : RowsAt 2 w v2 C.2.1
  hs : RowsAt 4 w v3 C.2.2
theorem CfAt.below {w w' : World} {v1 v2 v3 : Value} {C : Cf} (h : CfAt w v1 v2 v3 C) (hb : Below w.heap.size w w') : CfAt w' v1 v2 v3 C := ⟨h.ps.below hb, h.ws.below hb, h.hs.below hb⟩
theorem CfAt.shape {w : World} {v1 v2 v3 : Value} {C : Cf} (h : CfAt w v1 v2 v3 C) : shape C := by
  obtain ⟨⟨_, _, _, _, h1, _⟩, ⟨_, _, _, _, h2, _⟩, ⟨_, _, _, _, h3, _⟩⟩ := h
  exact ⟨h1, h2, h3⟩

theorem isPart_ok (n : Int) (b np c : Nat) (a : Option Addr) (w : World) (hc : w.cell? ⟨b, 0, none⟩ = some (.slice a np c)) (hn : np ≤ 1000) :
    Calls Try.prog 43 #[.int .i64 n, .pointer (some ⟨b, 0, none⟩)] w fun e w' => e = .returned (.bool (inB n 0 ((np : Int) - 1))) ∧ w = w' := by
  go_enter Try.func43, Try.ntmps43
  go_wp2_with fail
  refine (within_ok _ _ _ _).mono ?_
  rintro e w1 ⟨rfl, rfl⟩
  go_wp2
  go_ret
  exact ⟨rfl, rfl⟩
theorem askPart_ok (x y : Int) (w : World) : Calls Try.prog 46 #[.agg #[.int .i64 x, .int .i64 y]] w fun e w' => e = .returned (.bool (partB [x, y])) ∧ Below w.heap.size w w' := by
  have hb := (Below.refl w.heap.size w).alloc (Nat.le_refl _) (.cells #[.int .i64 x, .int .i64 y] 42)
  have e : partB [x, y] = (inB x 4 256 && inB y 1 8) := rfl
  cases h1 : inB x 4 256
  all_goals
    go_enter Try.func46, Try.ntmps46
    go_wp2_with (go_at_call 44; refine (within_ok _ _ _ _).mono ?_; rintro e w' ⟨rfl, rfl⟩; try rw [h1])
    go_ret
    exact ⟨ret_bool (by rw [e, h1]; simp), hb⟩
theorem askWin_ok (x y : Int) (b f np c : Nat) (a : Option Addr) (w : World) (hf : w.cell? ⟨f, 0, none⟩ = some (.func (.func 43) #[] #[.pointer (some ⟨b, 0, none⟩)])) (hc : w.cell? ⟨b, 0, none⟩ = some (.slice a np c)) (hn : np ≤ 1000) :
    Calls Try.prog 48 #[.agg #[.int .i64 x, .int .i64 y], .pointer (some ⟨f, 0, none⟩)] w fun e w' => e = .returned (.bool (winB np [x, y])) ∧ Below w.heap.size w w' := by
  have hb := (Below.refl w.heap.size w).alloc (Nat.le_refl _) (.cells #[.int .i64 x, .int .i64 y] 47)
  have hc1 := (hb.cell (p := ⟨b, 0, none⟩) (block_lt_of_cell hc)).trans hc
  have hf1 := (hb.cell (p := ⟨f, 0, none⟩) (block_lt_of_cell hf)).trans hf
  have e : winB np [x, y] = (inB x 0 ((np : Int) - 1) && inB y 1 255) := rfl
  cases h1 : inB x 0 ((np : Int) - 1)
  all_goals
    have H1 := Lib.hid h1
    go_enter Try.func48, Try.ntmps48
    go_wp2_with (first | (go_at_call 43; refine (isPart_ok _ b np c a _ hc1 hn).mono ?_; rintro e w' ⟨rfl, rfl⟩; rw [H1.out]) | (go_at_call 44; refine (within_ok _ _ _ _).mono ?_; rintro e w' ⟨rfl, rfl⟩))
    go_ret
    exact ⟨ret_bool (by rw [e, H1.out]; simp), hb⟩
set_option maxHeartbeats 1000000 in
theorem askChan_ok (x y z t : Int) (b f np c : Nat) (a : Option Addr) (w : World) (hf : w.cell? ⟨f, 0, none⟩ = some (.func (.func 43) #[] #[.pointer (some ⟨b, 0, none⟩)])) (hc : w.cell? ⟨b, 0, none⟩ = some (.slice a np c)) (hn : np ≤ 1000) :
    Calls Try.prog 50 #[.agg #[.int .i64 x, .int .i64 y, .int .i64 z, .int .i64 t], .pointer (some ⟨f, 0, none⟩)] w fun e w' => e = .returned (.bool (chanB np [x, y, z, t])) ∧ Below w.heap.size w w' := by
  have hb := (Below.refl w.heap.size w).alloc (Nat.le_refl _) (.cells #[.int .i64 x, .int .i64 y, .int .i64 z, .int .i64 t] 44)
  have hc1 := (hb.cell (p := ⟨b, 0, none⟩) (block_lt_of_cell hc)).trans hc
  have hf1 := (hb.cell (p := ⟨f, 0, none⟩) (block_lt_of_cell hf)).trans hf
  have e : chanB np [x, y, z, t] = (inB x 0 ((np : Int) - 1) && (inB y 0 ((np : Int) - 1) && (!(x == y) && (inB z 1 8 && inB t 1 8)))) := rfl
  obtain ⟨r1, h1⟩ : ∃ r, r = inB x 0 ((np : Int) - 1) := ⟨_, rfl⟩
  obtain ⟨r2, h2⟩ : ∃ r, r = inB y 0 ((np : Int) - 1) := ⟨_, rfl⟩
  obtain ⟨r3, h3⟩ : ∃ r, r = (x == y) := ⟨_, rfl⟩
  obtain ⟨r4, h4⟩ : ∃ r, r = inB z 1 8 := ⟨_, rfl⟩
  obtain ⟨r5, h5⟩ : ∃ r, r = inB t 1 8 := ⟨_, rfl⟩
  have H1 := Lib.hid h1
  have H2 := Lib.hid h2
  have H4 := Lib.hid h4
  have H5 := Lib.hid h5
  have E : Hid (chanB np [x, y, z, t] = (r1 && (r2 && (!r3 && (r4 && r5))))) := Lib.hid (by rw [e, h1, h2, h3, h4, h5])
  have hne : (x != y) = !r3 := by rw [h3]; rfl
  clear h1 h2 h3 h4 h5 e
  have key : ∀ s : Bool, s = (r1 && (r2 && (!r3 && (r4 && r5)))) → Calls Try.prog 50 #[.agg #[.int .i64 x, .int .i64 y, .int .i64 z, .int .i64 t], .pointer (some ⟨f, 0, none⟩)] w fun e w' => e = .returned (.bool s) ∧ Below w.heap.size w w' := by
    intro s hs
    have HSS := Lib.hid hs
    clear hs E
    cases r1
    case' true => cases r2
    case' true.true => cases r3
    case' true.true.false => cases r4
    all_goals
      go_enter Try.func50, Try.ntmps50
      go_wp2_with (first
        | (go_at_call 43; refine (isPart_ok _ b np c a _ hc1 hn).mono ?_; rintro e w' ⟨rfl, rfl⟩; first | rw [← H1.out] | rw [← H2.out])
        | (go_at_call 44; refine (within_ok _ _ _ _).mono ?_; rintro e w' ⟨rfl, rfl⟩; first | rw [← H4.out] | rw [← H5.out]))
      go_ret
      exact ⟨by rw [HSS.out]; rfl, hb⟩
  exact key _ E.out
theorem askHas_ok (x y : Int) (i : Nat) (b : Nat) (w : World) (hc : w.cell? ⟨b, 0, none⟩ = some (.int .i64 (i : Int))) :
    Calls Try.prog 52 #[.agg #[.int .i64 x, .int .i64 y], .pointer (some ⟨b, 0, none⟩)] w fun e w' => e = .returned (.bool (([x, y] : Row).getD 0 0 == (i : Int))) ∧ Below w.heap.size w w' := by
  have hb := (Below.refl w.heap.size w).alloc (Nat.le_refl _) (.cells #[.int .i64 x, .int .i64 y] 47)
  have hc1 := (hb.cell (p := ⟨b, 0, none⟩) (block_lt_of_cell hc)).trans hc
  go_enter Try.func52, Try.ntmps52
  go_wp2
  go_ret
  exact ⟨rfl, hb⟩
end Go.Proofs.Ytepfljfaclakeaa
