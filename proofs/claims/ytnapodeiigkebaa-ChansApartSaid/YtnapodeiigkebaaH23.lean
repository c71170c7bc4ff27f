/- What the walk of ChansApart keeps: two lots of channels, each over a memory of its own. Conditions: named in the theorems. -/
import Derived.Test.YtnapodeiigkebaaH22
import Derived.Test.YtnapodeiigkebaaH17
namespace Go.Proofs.Ytnapodeiigkebaa
open Go.RowKit
set_option maxRecDepth 100000

/-- The same messages on this channel, if there is one. -/
def SameQ (H : List Row) (only : Int) (Qx Qy : Msgs) : Prop := inH H only → Qx only.toNat = Qy only.toNat
section
variable {H : List Row} {only : Int} {Qx Qy : Msgs} (h : SameQ H only Qx Qy)
include h
theorem SameQ.send (part : Int) (n : Nat) : sendE H Qx part only n = sendE H Qy part only n := by
  unfold sendE
  by_cases hm : mayE H part only true = 0
  · rw [if_pos hm, if_pos hm, h (mayE_in hm).1]
  · rw [if_neg hm, if_neg hm]
theorem SameQ.recv (part : Int) : recvE H Qx part only = recvE H Qy part only ∧ recvM H Qx part only = recvM H Qy part only := by
  by_cases hm : mayE H part only false = 0
  · have e := h (mayE_in hm).1
    have e1 : recvE H Qx part only = recvE H Qy part only := by unfold recvE; rw [if_pos hm, if_pos hm, e]
    refine ⟨e1, ?_⟩
    unfold recvM
    rw [e1, e]
  · have e1 : recvE H Qx part only = recvE H Qy part only := by unfold recvE; rw [if_neg hm, if_neg hm]
    refine ⟨e1, ?_⟩
    unfold recvM
    have : ¬ recvE H Qy part only = 0 := by unfold recvE; rw [if_neg hm]; exact hm
    rw [e1, if_neg this, if_neg this]
theorem SameQ.sent (part : Int) (M : List Int) : SameQ H only (sendQ H Qx part only M) (sendQ H Qy part only M) := fun hi => by
  unfold sendQ
  rw [h.send]
  split
  · rw [updH_same, updH_same, h hi]
  · exact h hi
theorem SameQ.got (part : Int) : SameQ H only (recvQ H Qx part only) (recvQ H Qy part only) := fun hi => by
  unfold recvQ
  rw [(h.recv part).1]
  split
  · rw [updH_same, updH_same, h hi]
  · exact h hi
end
theorem inH_ne {H : List Row} {ch only : Int} (h1 : inH H ch) (h2 : inH H only) (hne : ch ≠ only) : only.toNat ≠ ch.toNat := by
  have := h1.1
  have := h2.1
  omega
theorem SameQ.other {H : List Row} {only ch : Int} {Qx Qy : Msgs} (h : SameQ H only Qx Qy) (hne : ch ≠ only) (part : Int) : (∀ M, SameQ H only (sendQ H Qx part ch M) Qy) ∧ SameQ H only (recvQ H Qx part ch) Qy := by
  refine ⟨fun M hi => ?_, fun hi => ?_⟩
  · unfold sendQ
    split
    · rename_i he
      rw [updH_far _ _ (inH_ne (sendE_in he) hi hne)]; exact h hi
    · exact h hi
  · unfold recvQ
    split
    · rename_i he
      rw [updH_far _ _ (inH_ne (recvE_in he) hi hne)]; exact h hi
    · exact h hi
/-- A memory's words are written to while there are no messages. -/
theorem ChAt.written {w w' : World} {X : ChX} {ff : Nat → Nat} {L L' : List Int} (A : ChAt w X ff L Q0) (p : Puts w w' X.mp X.fb X.n L') (hw : ∀ k, 0 ≤ L'.getD k 0 ∧ L'.getD k 0 < 4294967296) : ChAt w' X ff L' Q0 ∧ Only w w' X.own := by
  have ho : Only w w' (fun j => j = X.fb) := Only.grown p.grown rfl
  have h1 : ∀ {k : Nat} {cs : Array Value} {t : TypeId}, w.heap[k]? = some (.cells cs t (0, 0)) → t ≠ 122 → ¬ k = X.fb := fun hk ht e => kind_ne hk A.mem.row (by simp only [kindOf]; intro e'; exact ht (Option.some.inj e')) e
  refine ⟨⟨ho.kept A.box (h1 A.box (by decide)), ownsRow_only A.parts ho (fun g hg => ?_), A.few, p.st, hw, fun i hi => (A.ring i hi).only ho (h1 (A.ring i hi).box (by decide)), fun i hi j hj => by simp at hj, A.rows, A.room, A.apart, A.nodup⟩, ho.mono fun j e => Or.inl (Or.inr e)⟩
  obtain ⟨cs, h⟩ := own_block A.parts hg
  exact h1 h (by decide)
/-- Two lots of channels, and a configuration in a variable. -/
structure ApSt (W w : World) (v1 v2 v3 : Value) (C : Cf) (X Y : ChX) (L : List Int) (Qx Qy : Msgs) : Prop where
  x : ∃ ff, OwnH W w X ff L Qx
  y : ∃ ff L', OwnH W w Y ff L' Qy
  box : CBox w W.heap.size v1 v2 v3
  cf : CfAt W v1 v2 v3 C
  dis : ∀ j, X.own j → ¬ Y.own j
section
variable {W w w' : World} {v1 v2 v3 : Value} {C : Cf} {X Y : ChX} {L L' : List Int} {Qx Qy Q' : Msgs} {ff : Nat → Nat}
theorem ApSt.below (h : ApSt W w v1 v2 v3 C X Y L Qx Qy) : Below W.heap.size W w := let ⟨_, h1⟩ := h.x; h1.below
theorem ApSt.step (h : ApSt W w v1 v2 v3 C X Y L Qx Qy) (hb : Below w.heap.size w w') : ApSt W w' v1 v2 v3 C X Y L Qx Qy := ⟨let ⟨f, h1⟩ := h.x; ⟨f, h1.step hb⟩, let ⟨f, M, h1⟩ := h.y; ⟨f, M, h1.step hb⟩, h.box.below hb, h.cf, h.dis⟩
theorem ChAt.aside {X Y : ChX} {ff fy : Nat → Nat} {L M : List Int} {Qx Qy : Msgs} (A : ChAt w X ff L Qx) (B : ChAt w Y fy M Qy) (ho : Only w w' X.own) (d : ∀ j, Y.own j → ¬ X.own j) : ChAt w' Y fy M Qy :=
  B.keep ho (A.other B.box (by decide) (by decide) (by decide)) (fun g hg => by
    obtain ⟨cs, h⟩ := own_block B.parts hg
    exact A.other h (by decide) (by decide) (by decide)) d
theorem ApSt.turnX (h : ApSt W w v1 v2 v3 C X Y L Qx Qy) (o : OwnH W w' X ff L' Q') (ho : Only w w' X.own) : ApSt W w' v1 v2 v3 C X Y L' Q' Qy := by
  obtain ⟨f, h1⟩ := h.x
  obtain ⟨g, M, h2⟩ := h.y
  exact ⟨⟨ff, o⟩, ⟨g, M, h1.st.aside h2.st ho (fun j hj e => h.dis j e hj), Only.old h2.below ho h2.below.size h1.new, h2.new⟩, h1.st.keepBox ho h.box (by decide) (by decide) (by decide), h.cf, h.dis⟩
theorem ApSt.turnY (h : ApSt W w v1 v2 v3 C X Y L Qx Qy) (o : OwnH W w' Y ff L' Q') (ho : Only w w' Y.own) : ApSt W w' v1 v2 v3 C X Y L Qx Q' := by
  obtain ⟨f, h1⟩ := h.x
  obtain ⟨g, M, h2⟩ := h.y
  exact ⟨⟨f, h2.st.aside h1.st ho h.dis, Only.old h1.below ho h1.below.size h2.new, h1.new⟩, ⟨ff, L', o⟩, h2.st.keepBox ho h.box (by decide) (by decide) (by decide), h.cf, h.dis⟩
/-- Other things that lie there stay. -/
theorem ApSt.boxX (h : ApSt W w v1 v2 v3 C X Y L Qx Qy) (ho : Only w w' X.own) {k : Nat} {cs : Array Value} {t : TypeId} (hk : w.heap[k]? = some (.cells cs t (0, 0))) (h1 : t ≠ 76) (h2 : t ≠ 122) (h3 : t ≠ 120) : w'.heap[k]? = some (.cells cs t (0, 0)) := let ⟨_, x⟩ := h.x; x.st.keepBox ho hk h1 h2 h3
theorem ApSt.boxY (h : ApSt W w v1 v2 v3 C X Y L Qx Qy) (ho : Only w w' Y.own) {k : Nat} {cs : Array Value} {t : TypeId} (hk : w.heap[k]? = some (.cells cs t (0, 0))) (h1 : t ≠ 76) (h2 : t ≠ 122) (h3 : t ≠ 120) : w'.heap[k]? = some (.cells cs t (0, 0)) := let ⟨_, _, y⟩ := h.y; y.st.keepBox ho hk h1 h2 h3
theorem ApSt.msgY (h : ApSt W w v1 v2 v3 C X Y L Qx Qy) (ho : Only w w' Y.own) {u : Value} {M : List Int} (hm : MsgN w u M) : MsgN w' u M := let ⟨_, _, y⟩ := h.y; hm.only ho y.st.otherG
theorem ApSt.sendX (h : ApSt W w v1 v2 v3 C X Y L Qx Qy) (part ch : Int) (M : List Int) (a : Option Addr) (cl : Nat) (hM : RowAt w (.slice a M.length cl) M) (hw : ∀ x ∈ M, 0 ≤ x ∧ x ≤ 4294967295) : Calls Try.prog 22 #[.pointer (some ⟨X.xb, 0, none⟩), .int .i64 part, .int .i64 ch, .slice a M.length cl] w fun e w' => e = .returned (.int .i64 (sendE X.H Qx part ch M.length)) ∧ Only w w' X.own ∧ ∃ L', ApSt W w' v1 v2 v3 C X Y L' (sendQ X.H Qx part ch M) Qy ∧ ∀ k, ¬ X.inW k → L'.getD k 0 = L.getD k 0 := by
  obtain ⟨f, h1⟩ := h.x
  exact (h1.send part ch M a cl hM (fun x hx => by have := hw x hx; omega) rfl rfl).mono fun e w' ⟨e1, L', o, ho, hk⟩ => ⟨e1, ho, L', h.turnX o ho, hk⟩
theorem ApSt.sendY (h : ApSt W w v1 v2 v3 C X Y L Qx Qy) (part ch : Int) (M : List Int) (a : Option Addr) (cl : Nat) (hM : RowAt w (.slice a M.length cl) M) (hw : ∀ x ∈ M, 0 ≤ x ∧ x ≤ 4294967295) : Calls Try.prog 22 #[.pointer (some ⟨Y.xb, 0, none⟩), .int .i64 part, .int .i64 ch, .slice a M.length cl] w fun e w' => e = .returned (.int .i64 (sendE Y.H Qy part ch M.length)) ∧ Only w w' Y.own ∧ ApSt W w' v1 v2 v3 C X Y L Qx (sendQ Y.H Qy part ch M) := by
  obtain ⟨f, M', h1⟩ := h.y
  exact (h1.send part ch M a cl hM (fun x hx => by have := hw x hx; omega) rfl rfl).mono fun e w' ⟨e1, L', o, ho, _⟩ => ⟨e1, ho, h.turnY o ho⟩
theorem ApSt.recvX (h : ApSt W w v1 v2 v3 C X Y L Qx Qy) (part ch : Int) : Calls Try.prog 23 #[.pointer (some ⟨X.xb, 0, none⟩), .int .i64 part, .int .i64 ch] w fun e w' => ∃ u, e = .returned (.tuple #[u, .int .i64 (recvE X.H Qx part ch)]) ∧ MsgN w' u (recvM X.H Qx part ch) ∧ Only w w' X.own ∧ ApSt W w' v1 v2 v3 C X Y L (recvQ X.H Qx part ch) Qy := by
  obtain ⟨f, h1⟩ := h.x
  exact (h1.recv part ch rfl rfl rfl).mono fun e w' ⟨u, ff', e1, hm, o, ho⟩ => ⟨u, e1, hm, ho, h.turnX o ho⟩
theorem ApSt.recvY (h : ApSt W w v1 v2 v3 C X Y L Qx Qy) (part ch : Int) : Calls Try.prog 23 #[.pointer (some ⟨Y.xb, 0, none⟩), .int .i64 part, .int .i64 ch] w fun e w' => ∃ u, e = .returned (.tuple #[u, .int .i64 (recvE Y.H Qy part ch)]) ∧ MsgN w' u (recvM Y.H Qy part ch) ∧ Only w w' Y.own ∧ ApSt W w' v1 v2 v3 C X Y L Qx (recvQ Y.H Qy part ch) := by
  obtain ⟨f, M', h1⟩ := h.y
  exact (h1.recv part ch rfl rfl rfl).mono fun e w' ⟨u, ff', e1, hm, o, ho⟩ => ⟨u, e1, hm, ho, h.turnY o ho⟩
end
theorem nineH_at {i k : Nat} : nineH (i * 32 + k) = nineH k := by
  unfold nineH
  rw [show (i * 32 + k) % 32 = k % 32 by omega]
/-- No channel's words. -/
theorem inW_not {C : Cf} {X : ChX} (hk : chk C = 0) (hX : X.H = C.2.2) (hF : X.fr = frC C) (i k : Nat) (hk32 : k < 32) (h : i < firstH C ∨ framesC C ≤ (i : Int)) : ¬ X.inW (i * 32 + k) := by
  rintro ⟨j, hj, h1, h2⟩
  have hm := (chk_zero hk).1
  rw [hX] at hj
  obtain ⟨-, h3, -⟩ := firstH_le hk j hj
  have h4 := frC_apart hm j C.2.2.length hj (Nat.le_refl _)
  have h5 := frC_all hm
  have e : X.wds j = wdsR (C.2.2.getD j []) := by unfold ChX.wds wdsR ChX.cp ChX.wi ChX.at_; rw [hX]
  rw [hF] at h1 h2
  rw [e] at h2
  rcases h with h | h <;> omega
end Go.Proofs.Ytnapodeiigkebaa
