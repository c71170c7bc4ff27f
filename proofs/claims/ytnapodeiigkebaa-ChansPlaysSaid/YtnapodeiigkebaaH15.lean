/- The walk of ChansEnds. Condition: the configuration lies as it came in. -/
import Derived.Test.YtnapodeiigkebaaH14
namespace Go.Proofs.Ytnapodeiigkebaa
open Go.RowKit
set_option maxRecDepth 100000

theorem atH_nat (H : List Row) (i j : Nat) : atH H (i : Int) j = (H.getD i []).getD j 0 := rfl
theorem roomN_nat {H : List Row} {i : Nat} (hi : i < H.length) (Q : Msgs) : roomN H Q (i : Int) = (H.getD i []).getD 2 0 - ((Q i).length : Int) := by
  unfold roomN
  rw [if_pos ⟨by omega, by omega⟩, atH_nat, Int.toNat_natCast]
theorem mayE_nat {H : List Row} {i : Nat} (hi : i < H.length) (part : Int) (s : Bool) : mayE H part (i : Int) s = if part = (if s then (H.getD i []).getD 0 0 else (H.getD i []).getD 1 0) then 0 else 8 := by
  unfold mayE
  rw [if_pos ⟨by omega, by omega⟩]
  rfl
theorem ends_nums {H : List Row} {i : Nat} (hi : i < H.length) {a b : Int} {c d : Nat} (hT : H.getD i [] = [a, b, (c : Int), (d : Int)]) (hab : a ≠ b) (hc : 1 ≤ c ∧ c ≤ 8) (hd : 1 ≤ d) (part : Int) :
    ∃ (e1 n1 e2 n2 e3 n3 : Int) (Q1 Q2 Q3 : Msgs), sendE H Q0 part (i : Int) 1 = e1 ∧ sendQ H Q0 part (i : Int) [5] = Q1 ∧ roomN H Q1 (i : Int) = n1 ∧ sendE H Q1 a (i : Int) 1 = e2 ∧ sendQ H Q1 a (i : Int) [6] = Q2 ∧ roomN H Q2 (i : Int) = n2 ∧ recvE H Q2 part (i : Int) = e3 ∧ recvQ H Q2 part (i : Int) = Q3 ∧ roomN H Q3 (i : Int) = n3 ∧
      ((part = a ∧ part ≠ b ∧ e1 = 0 ∧ n1 = (c : Int) - 1 ∧ e3 = 8 ∧ n3 = n2) ∨ (part ≠ a ∧ part = b ∧ e1 = 8 ∧ n1 = (c : Int) ∧ e3 = 0 ∧ n3 = n2 + 1) ∨ (part ≠ a ∧ part ≠ b ∧ e1 = 8 ∧ n1 = (c : Int) ∧ e3 = 8 ∧ n3 = n2)) ∧ -10 ≤ n2 ∧ n2 ≤ 10 := by
  refine ⟨_, _, _, _, _, _, _, _, _, rfl, rfl, rfl, rfl, rfl, rfl, rfl, rfl, rfl, ?_⟩
  have m0 : ∀ p s, mayE H p (i : Int) s = if p = (if s then a else b) then 0 else 8 := fun p s => by rw [mayE_nat hi, hT]; rfl
  have a2 : atH H (i : Int) 2 = (c : Int) := by rw [atH_nat, hT]; rfl
  have a3 : atH H (i : Int) 3 = (d : Int) := by rw [atH_nat, hT]; rfl
  have rm : ∀ Q : Msgs, roomN H Q (i : Int) = (c : Int) - ((Q i).length : Int) := fun Q => by rw [roomN_nat hi, hT]; rfl
  have sE : ∀ (Q : Msgs), sendE H Q a (i : Int) 1 = if ((Q i).length : Int) < (c : Int) then 0 else 12 := fun Q => by
    unfold sendE
    rw [m0, if_pos (show a = if true = true then a else b by simp), if_pos rfl, a2, a3, if_pos ⟨Nat.le_refl _, by omega⟩, Int.toNat_natCast]
  have sQ : ∀ (Q : Msgs) (M : List Int), M.length = 1 → ((sendQ H Q a (i : Int) M) i).length = if ((Q i).length : Int) < (c : Int) then (Q i).length + 1 else (Q i).length := fun Q M hM => by
    unfold sendQ
    rw [hM, sE]
    by_cases h : ((Q i).length : Int) < (c : Int)
    · rw [if_pos h, if_pos rfl, if_pos h, Int.toNat_natCast, updH_same, List.length_append]; rfl
    · rw [if_neg h, if_neg (by decide), if_neg h]
  by_cases h1 : part = a
  · subst h1
    have hm : mayE H part (i : Int) false = 8 := by rw [m0, if_neg (by simpa using hab)]
    have rE : ∀ Q : Msgs, recvE H Q part (i : Int) = 8 := fun Q => by unfold recvE; rw [hm, if_neg (by decide)]
    have rQ : ∀ Q : Msgs, recvQ H Q part (i : Int) = Q := fun Q => by unfold recvQ; rw [rE, if_neg (by decide)]
    have q1 := sQ Q0 [5] rfl
    have q2 := sQ (sendQ H Q0 part (i : Int) [5]) [6] rfl
    rw [if_pos (by simp; omega)] at q1
    simp only [List.length_nil] at q1
    have s1 := sE Q0
    rw [if_pos (by simp; omega)] at s1
    rw [rE, rQ, rm, rm, q1, q2, q1]
    refine ⟨Or.inl ⟨rfl, hab, s1, by omega, rfl, rfl⟩, ?_, ?_⟩ <;> (split <;> omega)
  · have hm1 : mayE H part (i : Int) true = 8 := by rw [m0, if_neg (by simpa using h1)]
    have sE0 : sendE H Q0 part (i : Int) 1 = 8 := by unfold sendE; rw [hm1, if_neg (by decide)]
    have sQ0 : sendQ H Q0 part (i : Int) [5] = Q0 := by unfold sendQ; rw [show ([5] : List Int).length = 1 from rfl, sE0, if_neg (by decide)]
    have q2 := sQ Q0 [6] rfl
    rw [if_pos (by simp; omega)] at q2
    simp only [List.length_nil] at q2
    rw [sE0, sQ0]
    by_cases h2 : part = b
    · subst h2
      have rE : recvE H (sendQ H Q0 a (i : Int) [6]) part (i : Int) = 0 := by
        unfold recvE
        rw [m0, if_pos (show part = if false = true then a else part by simp), if_pos rfl, if_neg (by intro e; rw [Int.toNat_natCast] at e; rw [e] at q2; simp at q2)]
      have rQ : (recvQ H (sendQ H Q0 a (i : Int) [6]) part (i : Int) i).length = 0 := by
        unfold recvQ
        rw [rE, if_pos rfl, Int.toNat_natCast, updH_same, List.length_tail, q2]
      rw [rE, rm, rm, rm, rQ, q2]
      exact ⟨Or.inr (Or.inl ⟨h1, rfl, rfl, by simp, rfl, by omega⟩), by omega, by omega⟩
    · have hm : mayE H part (i : Int) false = 8 := by rw [m0, if_neg (by simpa using h2)]
      have rE : ∀ Q : Msgs, recvE H Q part (i : Int) = 8 := fun Q => by unfold recvE; rw [hm, if_neg (by decide)]
      have rQ : ∀ Q : Msgs, recvQ H Q part (i : Int) = Q := fun Q => by unfold recvQ; rw [rE, if_neg (by decide)]
      rw [rE, rQ, rm, rm, q2]
      exact ⟨Or.inr (Or.inr ⟨h1, h2, rfl, by simp, rfl, rfl⟩), by omega, by omega⟩
theorem ends_out {v1 v2 : Value} {aa : Option Addr} {n cc : Nat} {C : Cf} {W : World} (CF : CfAt W v1 v2 (.slice aa n cc) C) (hl : ¬ longC C) (ch part : Int) (ho : chk C ≠ 0 ∨ (chk C = 0 ∧ (ch < 0 ∨ (0 ≤ ch ∧ n ≤ ch)))) :
    Calls Try.prog 7 #[.agg #[v1, v2, .slice aa n cc], .int .i64 ch, .int .i64 part] W fun e w' => e = .returned (.bool true) ∧ Below W.heap.size W w' := by
  have V1 := Lib.hid (CvH.new CF)
  have LA := Lib.hid fun V (h : CvH W V v1 v2 (.slice aa n cc) C) => long20_no _ _ _ C V h.conf hl
  have KA := Lib.hid fun V (h : CvH W V v1 v2 (.slice aa n cc) C) => check_ok _ _ _ C V h.conf
  obtain ⟨k, hk⟩ : ∃ k, k = chk C := ⟨_, rfl⟩
  rw [← hk] at ho KA
  clear hl CF hk
  rcases ho with h0 | ⟨rfl, h0 | ⟨h0, h1⟩⟩
  · have g0 : (k == 0) = false := by simpa using h0
    go_enter Try.func7, Try.ntmps7
    go_wp2_with (first
      | (go_at_call 8; refine (LA.out _ V1.out).mono ?_; rintro e w2 ⟨rfl, hb⟩; have V2 := Lib.hid (V1.out.step hb); have x0 := V2.out.box.c0; have x1 := V2.out.box.c1; have x2 := V2.out.box.c2; clear hb)
      | (go_at_call 26; refine (KA.out _ V2.out).mono ?_; rintro e w3 ⟨rfl, hb⟩; have V3 := Lib.hid (V2.out.step hb); clear hb)
      | (go_at_call 9; refine (awake20 _).mono ?_; rintro e w4 ⟨rfl, hb⟩; have V4 := Lib.hid (V3.out.step hb); clear hb))
    go_ret
    exact ⟨rfl, V4.out.below⟩
  · have g0 : decide (ch < 0) = true := decide_eq_true h0
    go_enter Try.func7, Try.ntmps7
    go_wp2_with (first
      | (go_at_call 8; refine (LA.out _ V1.out).mono ?_; rintro e w2 ⟨rfl, hb⟩; have V2 := Lib.hid (V1.out.step hb); have x0 := V2.out.box.c0; have x1 := V2.out.box.c1; have x2 := V2.out.box.c2; clear hb)
      | (go_at_call 26; refine (KA.out _ V2.out).mono ?_; rintro e w3 ⟨rfl, hb⟩; have V3 := Lib.hid (V2.out.step hb); clear hb)
      | (go_at_call 9; refine (awake20 _).mono ?_; rintro e w4 ⟨rfl, hb⟩; have V4 := Lib.hid (V3.out.step hb); clear hb))
    go_ret
    exact ⟨rfl, V4.out.below⟩
  · have g0 : decide (ch < 0) = false := decide_eq_false (by omega)
    have g1 : decide ((n : Int) ≤ ch) = true := decide_eq_true h1
    go_enter Try.func7, Try.ntmps7
    go_wp2_with (first
      | (go_at_call 8; refine (LA.out _ V1.out).mono ?_; rintro e w2 ⟨rfl, hb⟩; have V2 := Lib.hid (V1.out.step hb); have x0 := V2.out.box.c0; have x1 := V2.out.box.c1; have x2 := V2.out.box.c2; clear hb)
      | (go_at_call 26; refine (KA.out _ V2.out).mono ?_; rintro e w3 ⟨rfl, hb⟩; have V3 := Lib.hid (V2.out.step hb); have x2 := V3.out.box.c2; clear hb)
      | (go_at_call 9; refine (awake20 _).mono ?_; rintro e w4 ⟨rfl, hb⟩; have V4 := Lib.hid (V3.out.step hb); clear hb))
    go_ret
    exact ⟨rfl, V4.out.below⟩
end Go.Proofs.Ytnapodeiigkebaa
