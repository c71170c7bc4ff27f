/- What the walks of layer 20's laws share: a configuration in a variable beside channels of a law's own. Conditions: named in the theorems. -/
import Derived.Test.YtnapodeiigkebaaH13
namespace Go.Proofs.Ytnapodeiigkebaa
open Go.RowKit
set_option maxRecDepth 100000

theorem framesC_pos {C : Cf} (hk : chk C = 0) : 1 ≤ framesC C ∧ framesC C ≤ 1024 := by
  obtain ⟨hm, h1⟩ := chk_zero hk
  refine ⟨?_, h1⟩
  have h2 := chanS_le hm C.2.2.length
  rw [framesC_sums]
  obtain ⟨⟨-, p2⟩, -⟩ := mayB_parts hm
  have hl : 1 ≤ C.1.length := by
    unfold mayB inB at hm
    simp only [Bool.and_eq_true, decide_eq_true_eq] at hm
    omega
  obtain ⟨P, W, H⟩ := C
  simp only at h2 p2 hl ⊢
  match P, hl with
  | T :: R, _ =>
    have e : partS (T :: R) (T :: R).length = partF T + partS R R.length := by simp [partS]
    have t1 := partF_le T (p2 T (by simp))
    have t2 := sum_le partF 300 R (fun S hS => (partF_le S (p2 S (by simp [hS]))).2.2)
    have t3 : partS R R.length = (R.map partF).sum := by simp [partS]
    have t4 : 1 ≤ partF T := by
      have := t1.1
      have := t1.2.1
      unfold partF at *
      omega
    rw [e, t3]
    omega
theorem ChAt.keepBox {w w' : World} {X : ChX} {ff : Nat → Nat} {L : List Int} {Q : Msgs} (A : ChAt w X ff L Q) (ho : Only w w' X.own) {k : Nat} {cs : Array Value} {t : TypeId} (h : w.heap[k]? = some (.cells cs t (0, 0))) (h1 : t ≠ 76) (h2 : t ≠ 122) (h3 : t ≠ 120) : w'.heap[k]? = some (.cells cs t (0, 0)) := ho.kept h (A.other h h1 h2 h3)
theorem ChAt.otherG {w : World} {X : ChX} {ff : Nat → Nat} {L : List Int} {Q : Msgs} (A : ChAt w X ff L Q) : ∀ j, X.own j → OtherG w j := fun j hj => by
  obtain ⟨cs, t, h1, h2⟩ := A.kinds j hj
  exact ⟨cs, t, h1, by rcases h2 with rfl | rfl | rfl <;> decide, by rcases h2 with rfl | rfl | rfl <;> decide⟩
theorem OwnH.sendAt {W w : World} {X : ChX} {ff : Nat → Nat} {L : List Int} {Q Q' : Msgs} (h : OwnH W w X ff L Q) (part ch er : Int) (M : List Int) (n s : Nat) (hn : M.length = n) (hs : s = w.heap.size) (hw : ∀ x ∈ M, 0 ≤ x ∧ x < 4294967296) (he : sendE X.H Q part ch n = er) (hQ : sendQ X.H Q part ch M = Q') :
    Calls Try.prog 22 #[.pointer (some ⟨X.xb, 0, none⟩), .int .i64 part, .int .i64 ch, .slice (some ⟨s, 0, none⟩) n n] (w.alloc (.cells (wordsV M) 57)) fun e w' => e = .returned (.int .i64 er) ∧ ∃ L', OwnH W w' X ff L' Q' ∧ Only w w' X.own := by
  subst hn hs
  exact ((h.step (below_step1 w _)).send part ch M _ _ (litH_row w M) hw he hQ).mono fun _ _ ⟨h1, L', h2, h3, _⟩ => ⟨h1, L', h2, (Only.below (below_step1 w _)).trans h3⟩
/-- A configuration in a variable, beside channels. -/
structure LwH (W w : World) (v1 v2 v3 : Value) (C : Cf) (X : ChX) (ff : Nat → Nat) (L : List Int) (Q : Msgs) : Prop where
  own : OwnH W w X ff L Q
  box : CBox w W.heap.size v1 v2 v3
  cf : CfAt W v1 v2 v3 C
section
variable {W w w' : World} {v1 v2 v3 : Value} {C : Cf} {X : ChX} {ff : Nat → Nat} {L : List Int} {Q : Msgs}
theorem LwH.step (h : LwH W w v1 v2 v3 C X ff L Q) (hb : Below w.heap.size w w') : LwH W w' v1 v2 v3 C X ff L Q := ⟨h.own.step hb, h.box.below hb, h.cf⟩
theorem LwH.turn {ff' : Nat → Nat} {L' : List Int} {Q' : Msgs} (h : LwH W w v1 v2 v3 C X ff L Q) (o : OwnH W w' X ff' L' Q') (ho : Only w w' X.own) : LwH W w' v1 v2 v3 C X ff' L' Q' := ⟨o, h.own.st.keepBox ho h.box (by decide) (by decide) (by decide), h.cf⟩
end
/-- A configuration in a variable. -/
structure CvH (W w : World) (v1 v2 v3 : Value) (C : Cf) : Prop where
  box : CBox w W.heap.size v1 v2 v3
  cf : CfAt W v1 v2 v3 C
  below : Below W.heap.size W w
section
variable {W w w' : World} {v1 v2 v3 : Value} {C : Cf}
theorem CvH.step (h : CvH W w v1 v2 v3 C) (hb : Below w.heap.size w w') : CvH W w' v1 v2 v3 C := ⟨h.box.below hb, h.cf, h.below.trans (hb.mono h.below.size)⟩
theorem CvH.conf (h : CvH W w v1 v2 v3 C) : CfAt w v1 v2 v3 C := h.cf.below h.below
theorem CvH.new (h : CfAt W v1 v2 v3 C) : CvH W (W.alloc (.cells #[v1, v2, v3] 26)) v1 v2 v3 C := ⟨CBox.new W _ _ _, h, below_step1 _ _⟩
end
end Go.Proofs.Ytnapodeiigkebaa
