/- The walk of ChansOrder. Condition: the configuration and the messages lie as they came in. -/
import Derived.Test.YtnapodeiigkebaaH18
namespace Go.Proofs.Ytnapodeiigkebaa
open Go.RowKit Go.Maps
set_option maxRecDepth 100000

theorem ord_out {v1 v2 : Value} {aa la : Option Addr} {n cc nl lc : Nat} {C : Cf} {W : World} (CF : CfAt W v1 v2 (.slice aa n cc) C) (hl : ¬ longC C) (ch : Int) (ho : chk C ≠ 0 ∨ (chk C = 0 ∧ (ch < 0 ∨ (0 ≤ ch ∧ n ≤ ch) ∨ (0 ≤ ch ∧ ch < n ∧ 20 < nl)))) :
    Calls Try.prog 5 #[.agg #[v1, v2, .slice aa n cc], .int .i64 ch, .slice la nl lc] W fun e w' => e = .returned (.bool true) ∧ Below W.heap.size W w' := by
  have V1 := Lib.hid (CvH.new CF)
  have LA := Lib.hid fun V (h : CvH W V v1 v2 (.slice aa n cc) C) => long20_no _ _ _ C V h.conf hl
  have KA := Lib.hid fun V (h : CvH W V v1 v2 (.slice aa n cc) C) => check_ok _ _ _ C V h.conf
  obtain ⟨k, hk⟩ : ∃ k, k = chk C := ⟨_, rfl⟩
  rw [← hk] at ho KA
  clear hl CF hk
  rcases ho with h0 | ⟨rfl, h0 | ⟨h0, h1⟩ | ⟨h0, h1, h2⟩⟩
  · have g0 : (k == 0) = false := by simpa using h0
    go_enter Try.func5, Try.ntmps5
    go_wp2_with (first
      | (go_at_call 8; refine (LA.out _ V1.out).mono ?_; rintro e w2 ⟨rfl, hb⟩; have V2 := Lib.hid (V1.out.step hb); have x0 := V2.out.box.c0; have x1 := V2.out.box.c1; have x2 := V2.out.box.c2; clear hb)
      | (go_at_call 26; refine (KA.out _ V2.out).mono ?_; rintro e w3 ⟨rfl, hb⟩; have V3 := Lib.hid (V2.out.step hb); have x2 := V3.out.box.c2; clear hb)
      | (go_at_call 9; refine (awake20 _).mono ?_; rintro e w4 ⟨rfl, hb⟩; have V4 := Lib.hid (V3.out.step hb); clear hb))
    go_ret
    exact ⟨rfl, V4.out.below⟩
  · have g0 : decide (ch < 0) = true := decide_eq_true h0
    go_enter Try.func5, Try.ntmps5
    go_wp2_with (first
      | (go_at_call 8; refine (LA.out _ V1.out).mono ?_; rintro e w2 ⟨rfl, hb⟩; have V2 := Lib.hid (V1.out.step hb); have x0 := V2.out.box.c0; have x1 := V2.out.box.c1; have x2 := V2.out.box.c2; clear hb)
      | (go_at_call 26; refine (KA.out _ V2.out).mono ?_; rintro e w3 ⟨rfl, hb⟩; have V3 := Lib.hid (V2.out.step hb); have x2 := V3.out.box.c2; clear hb)
      | (go_at_call 9; refine (awake20 _).mono ?_; rintro e w4 ⟨rfl, hb⟩; have V4 := Lib.hid (V3.out.step hb); clear hb))
    go_ret
    exact ⟨rfl, V4.out.below⟩
  · have g0 : decide (ch < 0) = false := decide_eq_false (by omega)
    have g1 : decide ((n : Int) ≤ ch) = true := decide_eq_true h1
    go_enter Try.func5, Try.ntmps5
    go_wp2_with (first
      | (go_at_call 8; refine (LA.out _ V1.out).mono ?_; rintro e w2 ⟨rfl, hb⟩; have V2 := Lib.hid (V1.out.step hb); have x0 := V2.out.box.c0; have x1 := V2.out.box.c1; have x2 := V2.out.box.c2; clear hb)
      | (go_at_call 26; refine (KA.out _ V2.out).mono ?_; rintro e w3 ⟨rfl, hb⟩; have V3 := Lib.hid (V2.out.step hb); have x2 := V3.out.box.c2; clear hb)
      | (go_at_call 9; refine (awake20 _).mono ?_; rintro e w4 ⟨rfl, hb⟩; have V4 := Lib.hid (V3.out.step hb); clear hb))
    go_ret
    exact ⟨rfl, V4.out.below⟩
  · have g0 : decide (ch < 0) = false := decide_eq_false (by omega)
    have g1 : decide ((n : Int) ≤ ch) = false := decide_eq_false (by omega)
    have g2 : decide (20 < nl) = true := decide_eq_true h2
    go_enter Try.func5, Try.ntmps5
    go_wp2_with (first
      | (go_at_call 8; refine (LA.out _ V1.out).mono ?_; rintro e w2 ⟨rfl, hb⟩; have V2 := Lib.hid (V1.out.step hb); have x0 := V2.out.box.c0; have x1 := V2.out.box.c1; have x2 := V2.out.box.c2; clear hb)
      | (go_at_call 26; refine (KA.out _ V2.out).mono ?_; rintro e w3 ⟨rfl, hb⟩; have V3 := Lib.hid (V2.out.step hb); have x2 := V3.out.box.c2; clear hb)
      | (go_at_call 9; refine (awake20 _).mono ?_; rintro e w4 ⟨rfl, hb⟩; have V4 := Lib.hid (V3.out.step hb); clear hb))
    go_ret
    exact ⟨rfl, V4.out.below⟩
end Go.Proofs.Ytnapodeiigkebaa
