/- The walks of the laws WordWhole and WordPage. Conditions: the two tables read as laid. -/
import Derived.Test.YtfehchbllfjngaaDoorW8
namespace Go.Proofs.YtfehchbllfjngaaDoor
open Go.RowKit

set_option maxRecDepth 100000 in
set_option maxHeartbeats 4000000 in
theorem lawWhole_walk (a b : Int) (W : World) (ha : 0 ≤ a ∧ a ≤ 4294967295) (hb : 0 ≤ b ∧ b ≤ 4294967295) (hL : LaidW W) : Calls Tryd.prog 8 #[.int .u32 a, .int .u32 b] W fun e w' => e = .returned (.bool true) ∧ Below W.heap.size W w' := by
  have a0 := ha.1
  have b0 := hb.1
  have HL := Lib.hid hL
  clear hL ha hb
  by_cases ca : a < 32768
  · by_cases cb : b < 32768
    · have x0 : 0 ≤ a / 1024 := by omega
      have x1 : a / 1024 < 32 := by omega
      have y0 : 0 ≤ a / 32 % 32 := by omega
      have y1 : a / 32 % 32 < 32 := by omega
      have z0 : 0 ≤ a % 32 := by omega
      have z1 : a % 32 < 32 := by omega
      have x2 : 0 ≤ b / 1024 := by omega
      have x3 : b / 1024 < 32 := by omega
      have y2 : 0 ≤ b / 32 % 32 := by omega
      have y3 : b / 32 % 32 < 32 := by omega
      have z2 : 0 ≤ b % 32 := by omega
      have z3 : b % 32 < 32 := by omega
      have ea : a ≤ (a / 1024 * 32 + a / 32 % 32) * 32 + a % 32 := by omega
      have ea' : (a / 1024 * 32 + a / 32 % 32) * 32 + a % 32 ≤ a := by omega
      have eb : b ≤ (b / 1024 * 32 + b / 32 % 32) * 32 + b % 32 := by omega
      have eb' : (b / 1024 * 32 + b / 32 % 32) * 32 + b % 32 ≤ b := by omega
      have c1 := fun w h => cut_yes a w a0 ca h
      have c2 := fun w h => cut_yes b w b0 cb h
      generalize a / 1024 = x at *
      generalize a / 32 % 32 = y at *
      generalize a % 32 = z at *
      generalize b / 1024 = X at *
      generalize b / 32 % 32 = Y at *
      generalize b % 32 = Z at *
      have C1 := Lib.hid c1
      have C2 := Lib.hid c2
      have c3 := fun w h => address_yes (x * 32 + y) z w (by omega) (by omega) z0 z1 h
      rw [show (x * 32 + y) * 32 + z = a from by omega] at c3
      have C3 := Lib.hid c3
      clear c1 c2 c3
      by_cases t1 : x < X
      rotate_left
      by_cases t2 : X < x
      rotate_left
      by_cases t3 : y < Y
      rotate_left
      by_cases t4 : Y < y
      rotate_left
      by_cases t5 : z < Z
      all_goals
        first
          | have k : a < b := by omega
          | have k : ¬ a < b := by omega
        clear ea ea' eb eb'
        go_enter Tryd.func8, Tryd.ntmps8
        go_wp2_with fail
        refine (C1.out _ (by exact HL.out)).mono ?_
        rintro e w1 ⟨rfl, n1, rfl⟩
        go_wp2_with fail
        refine (C2.out _ (by exact HL.out.drewN _)).mono ?_
        rintro e w1 ⟨rfl, n2, rfl⟩
        go_wp2_with fail
        refine (C3.out _ (by exact HL.out.drewN _)).mono ?_
        rintro e w1 ⟨rfl, rfl⟩
        go_wp2_with fail
        refine (awake_any _ (by exact HL.out.drewN _)).mono ?_
        rintro e w1 ⟨rfl, hb⟩
        have HB := Lib.hid hb
        clear hb
        go_wp2
        go_ret
        exact ⟨rfl, (drewN_below _ _ _).trans HB.out⟩
    · have db : 32768 ≤ b := by omega
      have C1 := Lib.hid (fun w h => cut_yes a w a0 ca h)
      go_enter Tryd.func8, Tryd.ntmps8
      go_wp2_with fail
      refine (C1.out _ (by exact HL.out)).mono ?_
      rintro e w1 ⟨rfl, n1, rfl⟩
      go_wp2_with fail
      refine (cut_no b _ db).mono ?_
      rintro e w1 ⟨rfl, rfl⟩
      go_wp2_with fail
      refine (awake_any _ (by exact HL.out.drewN _)).mono ?_
      rintro e w1 ⟨rfl, hb⟩
      have HB := Lib.hid hb
      clear hb
      go_wp2
      go_ret
      exact ⟨rfl, (drewN_below _ _ _).trans HB.out⟩
  · have da : 32768 ≤ a := by omega
    by_cases cb : b < 32768
    · have C1 := Lib.hid (fun w h => cut_yes b w b0 cb h)
      go_enter Tryd.func8, Tryd.ntmps8
      go_wp2_with fail
      refine (cut_no a _ da).mono ?_
      rintro e w1 ⟨rfl, rfl⟩
      go_wp2_with fail
      refine (C1.out _ (by exact HL.out)).mono ?_
      rintro e w1 ⟨rfl, n1, rfl⟩
      go_wp2_with fail
      refine (awake_any _ (by exact HL.out.drewN _)).mono ?_
      rintro e w1 ⟨rfl, hb⟩
      have HB := Lib.hid hb
      clear hb
      go_wp2
      go_ret
      exact ⟨rfl, (drewN_below _ _ _).trans HB.out⟩
    · have db : 32768 ≤ b := by omega
      go_enter Tryd.func8, Tryd.ntmps8
      go_wp2_with fail
      refine (cut_no a _ da).mono ?_
      rintro e w1 ⟨rfl, rfl⟩
      go_wp2_with fail
      refine (cut_no b _ db).mono ?_
      rintro e w1 ⟨rfl, rfl⟩
      go_wp2_with fail
      refine (awake_any _ (by exact HL.out)).mono ?_
      rintro e w1 ⟨rfl, hb⟩
      have HB := Lib.hid hb
      clear hb
      go_wp2
      go_ret
      exact ⟨rfl, HB.out⟩
set_option maxRecDepth 100000 in
set_option maxHeartbeats 4000000 in
theorem lawPage_walk (p q : Int) (W : World) (_wp : -9223372036854775808 ≤ p ∧ p ≤ 9223372036854775807) (_wq : -9223372036854775808 ≤ q ∧ q ≤ 9223372036854775807) (hL : LaidW W) : Calls Tryd.prog 9 #[.int .i64 p, .int .i64 q] W fun e w' => e = .returned (.bool true) ∧ Below W.heap.size W w' := by
  have HL := Lib.hid hL
  clear hL _wp _wq
  by_cases hc : 0 ≤ p ∧ p < 1024 ∧ 0 ≤ q ∧ q < 32
  · obtain ⟨p0, p1, q0, q1⟩ := hc
    have c1 := fun w h => address_yes p q w p0 p1 q0 q1 h
    have c2 := fun w h => page_yes (p * 32 + q) w (by omega) (by omega) h
    rw [show (p * 32 + q) / 32 = p from by omega] at c2
    have c3 := fun w h => cut_yes (p * 32 + q) w (by omega) (by omega) h
    rw [show (p * 32 + q) % 32 = q from by omega] at c3
    have C1 := Lib.hid c1
    have C2 := Lib.hid c2
    have C3 := Lib.hid c3
    clear c1 c2 c3
    generalize (p * 32 + q) / 1024 = r at *
    generalize (p * 32 + q) / 32 % 32 = s at *
    by_cases hq : q = 31
    · subst hq
      clear q0 q1
      by_cases hp : p = 1023
      · subst hp
        clear p0 p1
        go_enter Tryd.func9, Tryd.ntmps9
        go_wp2_with fail
        refine (C1.out _ (by exact HL.out)).mono ?_
        rintro e w1 ⟨rfl, rfl⟩
        go_wp2_with fail
        refine (C2.out _ (by exact HL.out)).mono ?_
        rintro e w1 ⟨rfl, n1, rfl⟩
        go_wp2_with fail
        refine (C3.out _ (by exact HL.out.drewN _)).mono ?_
        rintro e w1 ⟨rfl, n2, rfl⟩
        go_wp2_with fail
        refine (page_no _ _ (by decide)).mono ?_
        rintro e w1 ⟨rfl, rfl⟩
        go_wp2_with fail
        refine (awake_any _ (by exact HL.out.drewN _)).mono ?_
        rintro e w1 ⟨rfl, hb⟩
        have HB := Lib.hid hb
        clear hb
        go_wp2
        go_ret
        exact ⟨rfl, (drewN_below _ _ _).trans HB.out⟩
      · have hlt : p < 1023 := by omega
        clear hp
        have c4 := fun w h => page_yes (p * 32 + 31 + 1) w (by omega) (by omega) h
        rw [show (p * 32 + 31 + 1) / 32 = p + 1 from by omega, show p * 32 + 31 + 1 = p * 32 + 32 from by omega] at c4
        have C4 := Lib.hid c4
        clear c4
        go_enter Tryd.func9, Tryd.ntmps9
        go_wp2_with fail
        refine (C1.out _ (by exact HL.out)).mono ?_
        rintro e w1 ⟨rfl, rfl⟩
        go_wp2_with fail
        refine (C2.out _ (by exact HL.out)).mono ?_
        rintro e w1 ⟨rfl, n1, rfl⟩
        go_wp2_with fail
        refine (C3.out _ (by exact HL.out.drewN _)).mono ?_
        rintro e w1 ⟨rfl, n2, rfl⟩
        go_wp2_with fail
        rw [show p * 32 + 31 + 1 = p * 32 + 32 from by omega]
        refine (C4.out _ (by exact HL.out.drewN _)).mono ?_
        rintro e w1 ⟨rfl, n3, rfl⟩
        go_wp2_with fail
        refine (awake_any _ (by exact HL.out.drewN _)).mono ?_
        rintro e w1 ⟨rfl, hb⟩
        have HB := Lib.hid hb
        clear hb
        go_wp2
        go_ret
        exact ⟨rfl, (drewN_below _ _ _).trans HB.out⟩
    · have hlt : q < 31 := by omega
      clear hq
      have c4 := fun w h => page_yes (p * 32 + q + 1) w (by omega) (by omega) h
      rw [show (p * 32 + q + 1) / 32 = p from by omega] at c4
      have C4 := Lib.hid c4
      clear c4
      by_cases hp : p < 1023
      all_goals
        go_enter Tryd.func9, Tryd.ntmps9
        go_wp2_with fail
        refine (C1.out _ (by exact HL.out)).mono ?_
        rintro e w1 ⟨rfl, rfl⟩
        go_wp2_with fail
        refine (C2.out _ (by exact HL.out)).mono ?_
        rintro e w1 ⟨rfl, n1, rfl⟩
        go_wp2_with fail
        refine (C3.out _ (by exact HL.out.drewN _)).mono ?_
        rintro e w1 ⟨rfl, n2, rfl⟩
        go_wp2_with fail
        refine (C4.out _ (by exact HL.out.drewN _)).mono ?_
        rintro e w1 ⟨rfl, n3, rfl⟩
        go_wp2_with fail
        refine (awake_any _ (by exact HL.out.drewN _)).mono ?_
        rintro e w1 ⟨rfl, hb⟩
        have HB := Lib.hid hb
        clear hb
        go_wp2
        go_ret
        exact ⟨rfl, (drewN_below _ _ _).trans HB.out⟩
  · have key : p < 0 ∨ 1024 ≤ p ∨ q < 0 ∨ 32 ≤ q := by omega
    have C := Lib.hid (address_no p q W key)
    clear hc key
    go_enter Tryd.func9, Tryd.ntmps9
    go_wp2_with fail
    refine C.out.mono ?_
    rintro e w1 ⟨rfl, rfl⟩
    go_wp2_with fail
    refine (awake_any _ (by exact HL.out)).mono ?_
    rintro e w1 ⟨rfl, hb⟩
    have HB := Lib.hid hb
    clear hb
    go_wp2
    go_ret
    exact ⟨rfl, HB.out⟩
end Go.Proofs.YtfehchbllfjngaaDoor
