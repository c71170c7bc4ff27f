/- The walks of the laws WordCut and WordAddress. Conditions: the two tables read as laid. -/
import Derived.Test.YtfehchbllfjngaaDoorW7
namespace Go.Proofs.YtfehchbllfjngaaDoor
open Go.RowKit

theorem LaidW.drewN {w : World} (h : LaidW w) (n : Nat) : LaidW (w.drewN n) := h.of_cells (fun _ _ _ => rfl)
theorem drewN_below (w : World) (n : Nat) (B : Nat) : Below B w (w.drewN n) := ⟨rfl, rfl, rfl, Nat.le_refl _, fun _ _ => rfl⟩

set_option maxHeartbeats 1000000 in
set_option maxRecDepth 100000 in
theorem lawCut_walk (a : Int) (W : World) (ha : 0 ≤ a ∧ a ≤ 4294967295) (hL : LaidW W) : Calls Tryd.prog 5 #[.int .u32 a] W fun e w' => e = .returned (.bool true) ∧ Below W.heap.size W w' := by
  have h0 := ha.1
  clear ha
  have HL := Lib.hid hL
  clear hL
  by_cases hc : a < 32768
  · have hpg : a / 32 = a / 1024 * 32 + a / 32 % 32 := by omega
    have x0 : 0 ≤ a / 1024 := by omega
    have x1 : a / 1024 < 32 := by omega
    have y0 : 0 ≤ a / 32 % 32 := by omega
    have y1 : a / 32 % 32 < 32 := by omega
    have c1 := fun w h => cut_yes a w h0 hc h
    have c2 := fun w => rcut_yes a w h0 hc
    have c3 := fun w h => page_yes a w h0 hc h
    rw [hpg] at c3
    clear hpg
    generalize a / 1024 = x at *
    generalize a / 32 % 32 = y at *
    generalize a % 32 = z at *
    have C1 := Lib.hid c1
    have C2 := Lib.hid c2
    have C3 := Lib.hid c3
    clear c1 c2 c3
    go_enter Tryd.func5, Tryd.ntmps5
    go_wp2_with fail
    refine (C1.out _ (by exact HL.out)).mono ?_
    rintro e w1 ⟨rfl, n1, rfl⟩
    go_wp2_with fail
    refine (C2.out _).mono ?_
    rintro e w1 ⟨rfl, rfl⟩
    go_wp2_with fail
    refine (C3.out _ (by exact HL.out.drewN _)).mono ?_
    rintro e w1 ⟨rfl, n2, rfl⟩
    go_wp2_with fail
    refine (awake_any _ (by exact HL.out.drewN _)).mono ?_
    rintro e w1 ⟨rfl, hb⟩
    have HB := Lib.hid hb
    clear hb
    go_wp2
    go_ret
    exact ⟨rfl, (drewN_below _ _ _).trans HB.out⟩
  · have hd : 32768 ≤ a := by omega
    go_enter Tryd.func5, Tryd.ntmps5
    go_wp2_with fail
    refine (cut_no a _ hd).mono ?_
    rintro e w1 ⟨rfl, rfl⟩
    go_wp2_with fail
    refine (rcut_no a _ hd).mono ?_
    rintro e w1 ⟨rfl, rfl⟩
    go_wp2_with fail
    refine (page_no a _ hd).mono ?_
    rintro e w1 ⟨rfl, rfl⟩
    go_wp2_with fail
    refine (awake_any _ (by exact HL.out)).mono ?_
    rintro e w1 ⟨rfl, hb⟩
    have HB := Lib.hid hb
    clear hb
    go_wp2
    go_ret
    exact ⟨rfl, HB.out⟩
set_option maxHeartbeats 1000000 in
theorem lawAddress_walk (p q : Int) (W : World) (_wp : -9223372036854775808 ≤ p ∧ p ≤ 9223372036854775807) (_wq : -9223372036854775808 ≤ q ∧ q ≤ 9223372036854775807) (hL : LaidW W) : Calls Tryd.prog 6 #[.int .i64 p, .int .i64 q] W fun e w' => e = .returned (.bool true) ∧ Below W.heap.size W w' := by
  have HL := Lib.hid hL
  clear hL _wp _wq
  by_cases hc : 0 ≤ p ∧ p < 1024 ∧ 0 ≤ q ∧ q < 32
  · obtain ⟨h0, h1, k0, k1⟩ := hc
    go_enter Tryd.func6, Tryd.ntmps6
    go_wp2_with fail
    refine (address_yes p q _ h0 h1 k0 k1 (by exact HL.out)).mono ?_
    rintro e w1 ⟨rfl, rfl⟩
    go_wp2_with fail
    refine (awake_any _ (by exact HL.out)).mono ?_
    rintro e w1 ⟨rfl, hb⟩
    have HB := Lib.hid hb
    clear hb
    go_wp2
    go_ret
    exact ⟨rfl, HB.out⟩
  · have key : p < 0 ∨ 1024 ≤ p ∨ q < 0 ∨ 32 ≤ q := by omega
    clear hc
    have ha := address_no p q W key
    have HA := Lib.hid ha
    clear ha
    rcases key with k | k | k | k
    all_goals
      go_enter Tryd.func6, Tryd.ntmps6
      go_wp2_with fail
      refine HA.out.mono ?_
      rintro e w1 ⟨rfl, rfl⟩
      go_wp2_with (go_at_call 15; refine (awake_any _ (by exact HL.out)).mono ?_; rintro e w1 ⟨rfl, hb⟩; have HB := Lib.hid hb; clear hb)
      all_goals go_ret
      all_goals exact ⟨rfl, HB.out⟩
end Go.Proofs.YtfehchbllfjngaaDoor
