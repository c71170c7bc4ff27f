/- One channel's calls beside a row of messages of one's own. Conditions: named in the theorems. -/
import Derived.Test.YtnapodeiigkebaaH17
namespace Go.Proofs.Ytnapodeiigkebaa
open Go.RowKit
set_option maxRecDepth 100000

theorem sendQ_from (H : List Row) (a : Int) (i : Nat) (Q : Msgs) (N : List Int) : (sendQ H Q a (i : Int) N) i = if sendE H Q a (i : Int) N.length = 0 then Q i ++ [N] else Q i := by
  unfold sendQ
  split
  · rw [Int.toNat_natCast, updH_same]
  · rfl
section
variable {H : List Row} {i : Nat} {a b : Int} {c d : Nat} (hi : i < H.length) (hT : H.getD i [] = [a, b, (c : Int), (d : Int)])
include hi hT
theorem sendE_from (Q : Msgs) (n : Nat) : sendE H Q a (i : Int) n = if 1 ≤ n ∧ n ≤ d then (if (Q i).length < c then 0 else 12) else 2 := by
  have m0 : mayE H a (i : Int) true = 0 := by rw [mayE_nat hi, hT]; exact if_pos rfl
  unfold sendE
  rw [m0, if_pos rfl, show atH H (i : Int) 3 = (d : Int) by rw [atH_nat, hT]; rfl, show atH H (i : Int) 2 = (c : Int) by rw [atH_nat, hT]; rfl, Int.toNat_natCast]
  simp only [Int.ofNat_le, Int.ofNat_lt]
theorem recvE_to (Q : Msgs) : recvE H Q b (i : Int) = if Q i = [] then 12 else 0 := by
  have m0 : mayE H b (i : Int) false = 0 := by rw [mayE_nat hi, hT]; exact if_pos rfl
  unfold recvE
  rw [m0, if_pos rfl, Int.toNat_natCast]
theorem recv_cons (Q : Msgs) (N : List Int) (R : List (List Int)) (hQ : Q i = N :: R) : recvE H Q b (i : Int) = 0 ∧ recvM H Q b (i : Int) = N ∧ (recvQ H Q b (i : Int)) i = R := by
  have e : recvE H Q b (i : Int) = 0 := by rw [recvE_to hi hT, if_neg (by rw [hQ]; simp)]
  refine ⟨e, ?_, ?_⟩
  · unfold recvM; rw [e, if_pos rfl, Int.toNat_natCast, hQ]; rfl
  · unfold recvQ; rw [e, if_pos rfl, Int.toNat_natCast, updH_same, hQ]; rfl
theorem recv_nil (Q : Msgs) (hQ : Q i = []) : recvE H Q b (i : Int) = 12 ∧ recvM H Q b (i : Int) = [] ∧ (recvQ H Q b (i : Int)) i = [] := by
  have e : recvE H Q b (i : Int) = 12 := by rw [recvE_to hi hT, if_pos hQ]
  refine ⟨e, ?_, ?_⟩
  · unfold recvM; rw [e, if_neg (by decide)]
  · unfold recvQ; rw [e, if_neg (by decide)]; exact hQ
end
section
variable {W w w' : World} {v1 v2 v3 : Value} {C : Cf} {X : ChX} {i kb c d base xb : Nat} {a b : Int} {sv : Value} {P : List (Value × List Int)} {M : List (List Int)} (hX : X.H = C.2.2) (hxb : xb = X.xb) (hi : i < C.2.2.length) (hT : C.2.2.getD i [] = [a, b, (c : Int), (d : Int)])
include hX hxb hi hT
theorem OrdSt.send (h : OrdSt W w v1 v2 v3 C X i kb a b c d base sv P M) (N : List Int) (ad : Option Addr) (cl : Nat) (hu : RowAt W (.slice ad N.length cl) N) (hw : ∀ x ∈ N, 0 ≤ x ∧ x ≤ 4294967295) {er : Int} {M' : List (List Int)} (he : (if 1 ≤ N.length ∧ N.length ≤ d then (if M.length < c then 0 else 12) else 2) = er) (hM : (if er = 0 then M ++ [N] else M) = M') :
    Calls Try.prog 22 #[.pointer (some ⟨xb, 0, none⟩), .int .i64 a, .int .i64 (i : Int), .slice ad N.length cl] w fun e w' => e = .returned (.int .i64 er) ∧ OrdSt W w' v1 v2 v3 C X i kb a b c d base sv P M' := by
  obtain ⟨ff, L, Q, h1, rfl⟩ := h.lw
  rw [← sendE_from hi hT] at he
  subst hxb
  refine (h1.own.send a (i : Int) N ad cl (hu.below h.below) (fun x hx => by have := hw x hx; omega) (by rw [hX]; exact he) rfl).mono fun e w' ⟨e1, L', o, ho, _⟩ => ⟨e1, ?_⟩
  have := h.turn h1 o ho
  rwa [hX, sendQ_from, he, hM] at this
theorem OrdSt.recv_ok (N : List Int) (h : OrdSt W w v1 v2 v3 C X i kb a b c d base sv P (N :: M)) : Calls Try.prog 23 #[.pointer (some ⟨xb, 0, none⟩), .int .i64 b, .int .i64 (i : Int)] w fun e w' => ∃ u, e = .returned (.tuple #[u, .int .i64 0]) ∧ MsgN w' u N ∧ OrdSt W w' v1 v2 v3 C X i kb a b c d base sv P M := by
  obtain ⟨ff, L, Q, h1, hQ⟩ := h.lw
  obtain ⟨e1, e2, e3⟩ := recv_cons hi hT Q N M hQ
  subst hxb
  refine (h1.own.recv b (i : Int) (by rw [hX]; exact e1) (by rw [hX]; exact e2) rfl).mono fun e w' ⟨u, ff', he, hm, o, ho⟩ => ⟨u, he, hm, ?_⟩
  have := h.turn h1 o ho
  rwa [hX, e3] at this
theorem OrdSt.recv_no (h : OrdSt W w v1 v2 v3 C X i kb a b c d base sv P []) : Calls Try.prog 23 #[.pointer (some ⟨xb, 0, none⟩), .int .i64 b, .int .i64 (i : Int)] w fun e w' => ∃ u, e = .returned (.tuple #[u, .int .i64 12]) ∧ OrdSt W w' v1 v2 v3 C X i kb a b c d base sv P [] := by
  obtain ⟨ff, L, Q, h1, hQ⟩ := h.lw
  obtain ⟨e1, e2, e3⟩ := recv_nil hi hT Q hQ
  subst hxb
  refine (h1.own.recv b (i : Int) (er := 12) (M := []) (by rw [hX]; exact e1) (by rw [hX]; exact e2) rfl).mono fun e w' ⟨u, ff', he, _, o, ho⟩ => ⟨u, he, ?_⟩
  have := h.turn h1 o ho
  rwa [hX, e3] at this
theorem OrdSt.next_ok (N : List Int) (h : OrdSt W w v1 v2 v3 C X i kb a b c d base sv P (N :: M)) : Calls Try.prog 28 #[.pointer (some ⟨xb, 0, none⟩), .int .i64 b, .int .i64 (i : Int)] w fun e w' => e = .returned (.tuple #[.int .i64 (N.length : Int), .int .i64 0]) ∧ OrdSt W w' v1 v2 v3 C X i kb a b c d base sv P (N :: M) := by
  obtain ⟨ff, L, Q, h1, hQ⟩ := h.lw
  obtain ⟨e1, e2, e3⟩ := recv_cons hi hT Q N M hQ
  subst hxb
  exact (h1.own.next b (i : Int) (by rw [hX]; exact e1) (by rw [hX, e2])).mono fun e w' ⟨he, _, hb⟩ => ⟨he, h.step hb⟩
theorem OrdSt.next_no (h : OrdSt W w v1 v2 v3 C X i kb a b c d base sv P []) : Calls Try.prog 28 #[.pointer (some ⟨xb, 0, none⟩), .int .i64 b, .int .i64 (i : Int)] w fun e w' => e = .returned (.tuple #[.int .i64 0, .int .i64 12]) ∧ OrdSt W w' v1 v2 v3 C X i kb a b c d base sv P [] := by
  obtain ⟨ff, L, Q, h1, hQ⟩ := h.lw
  obtain ⟨e1, e2, e3⟩ := recv_nil hi hT Q hQ
  subst hxb
  exact (h1.own.next b (i : Int) (er := 12) (n := 0) (by rw [hX]; exact e1) (by rw [hX, e2]; rfl)).mono fun e w' ⟨he, _, hb⟩ => ⟨he, h.step hb⟩
theorem OrdSt.room (h : OrdSt W w v1 v2 v3 C X i kb a b c d base sv P M) : Calls Try.prog 18 #[.pointer (some ⟨xb, 0, none⟩), .int .i64 (i : Int)] w fun e w' => e = .returned (.int .i64 ((c : Int) - (M.length : Int))) ∧ OrdSt W w' v1 v2 v3 C X i kb a b c d base sv P M := by
  obtain ⟨ff, L, Q, h1, hQ⟩ := h.lw
  subst hxb
  exact (h1.own.room (i : Int) (n := (c : Int) - (M.length : Int)) (by rw [hX, roomN_nat hi, hT, hQ]; rfl)).mono fun e w' ⟨he, _, hb⟩ => ⟨he, h.step hb⟩
end
end Go.Proofs.Ytnapodeiigkebaa
