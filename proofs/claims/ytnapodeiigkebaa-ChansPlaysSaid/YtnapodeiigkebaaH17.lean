/- What the walk of ChansOrder keeps: channels beside a row of messages of one's own. Conditions: named in the theorems. -/
import Derived.Test.YtnapodeiigkebaaH16
import Derived.Test.YtnapodeiigkebaaG15
import Derived.Test.YtnapodeiigkebaaOK
namespace Go.Proofs.Ytnapodeiigkebaa
open Go.RowKit
set_option maxRecDepth 100000

/-- Blocks of kinds that channels, their memory, and a configuration are not made of. -/
def FarH (w : World) (S : Nat → Prop) : Prop := ∀ k, S k → ∃ cs t, w.heap[k]? = some (.cells cs t (0, 0)) ∧ t ≠ 70 ∧ t ≠ 93 ∧ t ≠ 76 ∧ t ≠ 122 ∧ t ≠ 120 ∧ t ≠ 26 ∧ t ≠ 47
theorem FarH.not {w : World} {S : Nat → Prop} (h : FarH w S) {k : Nat} {cs : Array Value} {t : TypeId} (hk : w.heap[k]? = some (.cells cs t (0, 0))) (ht : t = 70 ∨ t = 93 ∨ t = 76 ∨ t = 122 ∨ t = 120 ∨ t = 26 ∨ t = 47) : ¬ S k := fun e => by
  obtain ⟨cs', t', h', h1, h2, h3, h4, h5, h6, h7⟩ := h k e
  rw [hk] at h'
  simp only [Option.some.injEq, Obj.cells.injEq] at h'
  obtain ⟨-, rfl, -⟩ := h'
  rcases ht with e | e | e | e | e | e | e
  · exact h1 e
  · exact h2 e
  · exact h3 e
  · exact h4 e
  · exact h5 e
  · exact h6 e
  · exact h7 e
section
variable {W w w' : World} {X : ChX} {ff : Nat → Nat} {L : List Int} {Q : Msgs} {S : Nat → Prop}
theorem ChAt.keepG (A : ChAt w X ff L Q) (ho : Only w w' S) (hS : FarH w S) : ChAt w' X ff L Q := by
  refine A.keep ho (hS.not A.box (by simp)) (fun g hg => ?_) (fun j hj => ?_)
  · obtain ⟨cs, h⟩ := own_block A.parts hg
    exact hS.not h (by simp)
  · obtain ⟨cs, t, h1, h2⟩ := A.kinds j hj
    exact hS.not h1 (by rcases h2 with rfl | rfl | rfl <;> simp)
theorem OwnH.keepG (h : OwnH W w X ff L Q) (ho : Only w w' S) (hS : FarH w S) (hn : ∀ k, S k → W.heap.size ≤ k) : OwnH W w' X ff L Q := ⟨h.st.keepG ho hS, Only.old h.below ho h.below.size hn, h.new⟩
theorem LwH.keepG {v1 v2 v3 : Value} {C : Cf} (h : LwH W w v1 v2 v3 C X ff L Q) (ho : Only w w' S) (hS : FarH w S) (hn : ∀ k, S k → W.heap.size ≤ k) : LwH W w' v1 v2 v3 C X ff L Q := ⟨h.own.keepG ho hS hn, ho.kept h.box (hS.not h.box (by simp)), h.cf⟩
end
theorem farSlice {w : World} {base n : Nat} {sv : Value} {us : List Value} (h : w.ownsRow base 43 1 sv n us) : FarH w (fun k => sv.ownBlock = some k) := fun k e => by
  obtain ⟨cs, hcs⟩ := own_block h e
  exact ⟨cs, _, hcs, by decide, by decide, by decide, by decide, by decide, by decide, by decide⟩
/-- Channels, a channel's configuration, and a row of messages that came in. -/
structure OrdSt (W w : World) (v1 v2 v3 : Value) (C : Cf) (X : ChX) (i kb : Nat) (a b : Int) (c d base : Nat) (sv : Value) (P : List (Value × List Int)) (M : List (List Int)) : Prop where
  lw : ∃ ff L Q, LwH W w v1 v2 v3 C X ff L Q ∧ Q i = M
  kbox : w.heap[kb]? = some (.cells #[.int .i64 a, .int .i64 b, .int .i64 (c : Int), .int .i64 (d : Int)] 47 (0, 0))
  own : w.ownsRow base 43 1 sv P.length (P.map (·.1))
  old : ∀ p ∈ P, RowAt W p.1 p.2 ∧ p.2.length ≤ 100
  bs : W.heap.size ≤ base
  bw : base ≤ w.heap.size
section
variable {W w w' : World} {v1 v2 v3 : Value} {C : Cf} {X : ChX} {i kb c d base : Nat} {a b : Int} {sv : Value} {P : List (Value × List Int)} {M : List (List Int)}
theorem OrdSt.below (h : OrdSt W w v1 v2 v3 C X i kb a b c d base sv P M) : Below W.heap.size W w := let ⟨_, _, _, h1, _⟩ := h.lw; h1.own.below
theorem OrdSt.step (h : OrdSt W w v1 v2 v3 C X i kb a b c d base sv P M) (hb : Below w.heap.size w w') : OrdSt W w' v1 v2 v3 C X i kb a b c d base sv P M :=
  ⟨let ⟨ff, L, Q, h1, h2⟩ := h.lw; ⟨ff, L, Q, h1.step hb, h2⟩, below_block hb h.kbox, own_step h.own hb, h.old, h.bs, Nat.le_trans h.bw hb.size⟩
theorem OrdSt.turn (h : OrdSt W w v1 v2 v3 C X i kb a b c d base sv P M) {ff : Nat → Nat} {L : List Int} {Q : Msgs} {ff' : Nat → Nat} {L' : List Int} {Q' : Msgs} (h1 : LwH W w v1 v2 v3 C X ff L Q) (o : OwnH W w' X ff' L' Q') (ho : Only w w' X.own) : OrdSt W w' v1 v2 v3 C X i kb a b c d base sv P (Q' i) :=
  ⟨⟨ff', L', Q', h1.turn o ho, rfl⟩, h1.own.st.keepBox ho h.kbox (by decide) (by decide) (by decide), ownsRow_only h.own ho (fun g hg e => by
    obtain ⟨cs, hcs⟩ := own_block h.own hg
    exact h1.own.st.other hcs (by decide) (by decide) (by decide) e), h.old, h.bs, Nat.le_trans h.bw ho.size⟩
theorem OrdSt.more (h : OrdSt W w v1 v2 v3 C X i kb a b c d base sv P M) {u : Value} {N : List Int} {sv' : Value} (hg : w.grownBy w' sv.ownBlock) (ho : w'.ownsRow base 43 1 sv' (P.length + 1) (P.map (·.1) ++ [u])) (hu : RowAt W u N) (hN : N.length ≤ 100) : OrdSt W w' v1 v2 v3 C X i kb a b c d base sv' (P ++ [(u, N)]) M := by
  have far := farSlice h.own
  have on : Only w w' (fun k => sv.ownBlock = some k) := Only.grownR hg (fun k e => e)
  have new : ∀ k, sv.ownBlock = some k → W.heap.size ≤ k := fun k e => by
    rcases h.own.2 with ⟨rfl, _⟩ | ⟨g, cap, cur, rfl, hb, _⟩
    · simp [Value.ownBlock] at e
    · simp [Value.ownBlock] at e
      have := h.bs
      omega
  refine ⟨let ⟨ff, L, Q, h1, h2⟩ := h.lw; ⟨ff, L, Q, h1.keepG on far new, h2⟩, on.kept h.kbox (far.not h.kbox (by simp)), by rw [List.length_append, List.map_append]; exact ho, fun p hp => ?_, h.bs, Nat.le_trans h.bw on.size⟩
  rcases List.mem_append.1 hp with hp | hp
  · exact h.old p hp
  · rw [List.mem_singleton.1 hp]; exact ⟨hu, hN⟩
/-- One message of the row. -/
theorem OrdSt.at_ (h : OrdSt W w v1 v2 v3 C X i kb a b c d base sv P M) (j : Nat) (hj : j < P.length) : ∃ g cap, sv = .slice (some ⟨g, 0, none⟩) P.length cap ∧ w.cell? ⟨g, j, none⟩ = some (P.getD j default).1 ∧ RowAt W (P.getD j default).1 (P.getD j default).2 ∧ (P.getD j default).2.length ≤ 100 := by
  have hc := h.own
  rcases h.own.2 with ⟨_, h0⟩ | ⟨g, cap, cur, rfl, _, hg, _⟩
  · omega
  · have hm : P.getD j default ∈ P := by rw [List.getD_eq_getElem?_getD, List.getElem?_eq_getElem hj]; exact List.getElem_mem hj
    refine ⟨g, cap, rfl, ?_, (h.old _ hm).1, (h.old _ hm).2⟩
    have := hc.cells (g := g) rfl j (P.getD j default).1 (by simp [hj, List.getD_eq_getElem?_getD])
    rw [Addr.add_mid, Nat.zero_add] at this
    exact this
end
end Go.Proofs.Ytnapodeiigkebaa
