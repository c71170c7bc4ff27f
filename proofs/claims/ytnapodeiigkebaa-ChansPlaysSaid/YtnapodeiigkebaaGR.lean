/- Texts of mine, joined: R1 R2. What each says and under which conditions stands at its head, below. -/
import Derived.Test.YtnapodeiigkebaaGC
import Derived.RangeFuncNested
import Derived.RangeFuncBound
import Derived.RangeFuncLeaves
import Derived.Shelf.Abstract
import Derived.Shelf.RegionOpen
import Derived.OwnWalkIn
import Derived.TacticsInMore
import Derived.LoopNIn
import Derived.LoopIn
/- A range over a function whose iterator keeps state of its own in memory, and ranges over another one: a contract for iterators, and the laws for who ranges, outermost and within a round of another range. No condition; nothing of a program. -/
namespace Go.Proofs.Ytnapodeiigkebaa
open Go.RowKit Go.Shelf
set_option maxRecDepth 100000

/-- What a round leaves as it was: the blocks of K, and all from block B on that were there. -/
structure Keep (K : Nat → Prop) (B : Nat) (W W' : World) : Prop where
  os : W'.os = W.os
  tape : W'.tape = W.tape
  output : W'.output = W.output
  size : W.heap.size ≤ W'.heap.size
  same : ∀ k, k < W.heap.size → (K k ∨ B ≤ k) → W'.heap[k]? = W.heap[k]?
theorem Keep.refl (K : Nat → Prop) (B : Nat) (W : World) : Keep K B W W := ⟨rfl, rfl, rfl, Nat.le_refl _, fun _ _ _ => rfl⟩
theorem Keep.trans {K : Nat → Prop} {B : Nat} {X Y Z : World} (h : Keep K B X Y) (k : Keep K B Y Z) : Keep K B X Z :=
  ⟨k.os.trans h.os, k.tape.trans h.tape, k.output.trans h.output, Nat.le_trans h.size k.size, fun i hi hK => (k.same i (Nat.lt_of_lt_of_le hi h.size) hK).trans (h.same i hi hK)⟩
theorem Keep.weak {K K' : Nat → Prop} {B B' : Nat} {X Y : World} (h : Keep K B X Y) (hK : ∀ k, k < X.heap.size → (K' k ∨ B' ≤ k) → (K k ∨ B ≤ k)) : Keep K' B' X Y :=
  ⟨h.os, h.tape, h.output, h.size, fun i hi hk => h.same i hi (hK i hi hk)⟩
theorem Keep.of_below {K : Nat → Prop} {B : Nat} {W W' : World} (h : Below W.heap.size W W') : Keep K B W W' := ⟨h.os, h.tape, h.output, h.size, fun i hi _ => h.block i hi⟩
theorem Keep.below {K : Nat → Prop} {B n : Nat} {W W' : World} (h : Keep K B W W') (hn : n ≤ W.heap.size) (hK : ∀ k, k < n → K k) : Below n W W' :=
  ⟨h.os, h.tape, h.output, h.size, fun i hi => h.same i (Nat.lt_of_lt_of_le hi hn) (Or.inl (hK i hi))⟩
theorem Keep.alloc (K : Nat → Prop) (B : Nat) (W : World) (o : Obj) : Keep K B W (W.alloc o) := Keep.of_below ((Below.refl _ W).alloc (Nat.le_refl _) o)
theorem Keep.drew (K : Nat → Prop) (B : Nat) (W : World) : Keep K B W W.drew := ⟨rfl, rfl, rfl, Nat.le_refl _, fun _ _ _ => rfl⟩
theorem Keep.setCell {K : Nat → Prop} {B : Nat} (W : World) (b i : Nat) (v : Value) (hK : ¬ K b) (hB : b < B) : Keep K B W (W.setCell ⟨b, i, none⟩ v) :=
  ⟨rfl, rfl, rfl, by simp, fun k _ hk => Below.heap_setCell _ _ _ _ (by
    rintro rfl
    rcases hk with h | h
    · exact hK h
    · omega)⟩
theorem Keep.putObj {K : Nat → Prop} {B : Nat} (W : World) (l : Nat) (o : Obj) (hK : ¬ K l) (hB : l < B) : Keep K B W (W.putObj l o) :=
  ⟨rfl, rfl, rfl, by simp [World.putObj], fun k _ hk => World.putObj_heap_other (by
    rintro rfl
    rcases hk with h | h
    · exact hK h
    · omega)⟩
/-- What hangs on the blocks below B alone. -/
def Hangs {β : Type} (B : Nat) (J : β → World → Prop) : Prop := ∀ s W W', J s W → Below B W W' → J s W'
theorem below_put (n : Nat) (W : World) (l : Nat) (o : Obj) (h : n ≤ l) : Below n W (W.putObj l o) :=
  ⟨rfl, rfl, rfl, by simp [World.putObj], fun k hk => World.putObj_heap_other (by omega)⟩
theorem Hangs.and {β : Type} {B : Nat} {J J' : β → World → Prop} (h : Hangs B J) (h' : Hangs B J') : Hangs B (fun s W => J s W ∧ J' s W) := fun s W W' hs hb => ⟨h s W W' hs.1 hb, h' s W W' hs.2 hb⟩
theorem Hangs.mono {β : Type} {B B' : Nat} {J : β → World → Prop} (h : Hangs B J) (hB : B ≤ B') : Hangs B' J := fun s W W' hs hb => h s W W' hs (hb.mono hB)
theorem hangs_pure {β : Type} (B : Nat) (p : β → Prop) : Hangs B (fun s (_ : World) => p s) := fun _ _ _ hs _ => hs
theorem hangs_block {β : Type} {B k : Nat} (hk : k < B) (f : β → Obj) : Hangs B (fun s W => W.heap[k]? = some (f s)) := fun _ _ _ hs hb => (hb.block k hk).trans hs
theorem round_any {m m' : Nat} {P : Program} {l : Nat} {f : FuncId} {tmps : Array Value} {assign body : Code} {w : World} {R : Ending → World → Prop} (h : RoundIn Fence.wide m P l f tmps assign body w R) :
    RoundIn Fence.wide m' P l f tmps assign body w R := ⟨trivial, fun c cs _ => h.2 c cs (room_wide _)⟩

/-- How the round of an element may end, for who ranges. -/
def Told {α : Type} (K : Nat → Prop) (B : Nat) (J Jx : List α → World → Prop) (pre : List α) (W : World) (e : Ending) (W' : World) : Prop :=
  Keep K B W W' ∧ ((e = .returned (.bool true) ∧ J pre W') ∨ (e = .returned (.bool false) ∧ Jx pre W'))
/-- **An iterator that tells the elements of L, one by one**, whatever the rounds do, but to the blocks of K and to those that it made itself. -/
def Seq {α : Type} (P : Program) (g : Nat) (lb : Array Value) (encs : α → Array Value) (L : List α) (K : Nat → Prop) (w : World) : Prop :=
  ∀ (l : Nat) (J Jx : List α → World → Prop) (W : World), Below w.heap.size w W → Hangs W.heap.size J → Hangs W.heap.size Jx →
    (∀ pre x W1 m, J pre W1 → W.heap.size ≤ W1.heap.size → pre ++ [x] <+: L → YieldAt Fence.wide m P l (encs x) W1 (Told K W.heap.size J Jx (pre ++ [x]) W1)) →
    J [] W →
    Calls P g (#[.func (.yield l) #[] #[]] ++ lb) W fun e W' => (∃ v, e = .returned v) ∧ (J L W' ∨ ∃ pre, pre <+: L ∧ Jx pre W')
/-- How the body of a round may be left. -/
def bodyEnd {α : Type} (K : Nat → Prop) (B : Nat) (I : List α → World → Prop) (Ix : Code → List α → World → Prop) (xs : List α) (W : World) : Exit → Act → World → Prop
  | .normal, _, W' => Keep K B W W' ∧ I xs W'
  | .ret, _, W' => Keep K B W W' ∧ Ix .ret xs W'
  | .exit id, _, W' => Keep K B W W' ∧ Ix (.exit id) xs W'
  | .goto t, _, W' => Keep K B W W' ∧ Ix (.goto t) xs W'
  | .panic _, _, _ => False
  | .outgrown, _, _ => False

/-- **Who ranges over such an iterator.** I: between two rounds; Ix: a round has left; Ax: what a round begins with. -/
theorem range_seq_told {α : Type} {P : Program} {n : Nat} {g : Operand} {ps : Array Tmp} {assign body : Code} {Q : Exit → Act → World → Prop} {a : Act} {w : World} {gf : Nat} {lb : Array Value}
    (hg : a.eval g = .func (.func gf) #[] lb) (eg : ∀ args w, (callFunc gf args).run P w = .ok (.enter gf args) w) {encs : α → Array Value} {L : List α} {K : Nat → Prop} {w0 : World} (hseq : Seq P gf lb encs L K w0) (hb0 : Below w0.heap.size w0 w)
    (hps : ∀ x, (encs x).size = ps.size) (hK : ∀ k, K k → k < w.heap.size) (I : List α → World → Prop) (Ix : Code → List α → World → Prop) (hI : Hangs w.heap.size I) (hIx : ∀ c, Hangs w.heap.size (Ix c)) (h0 : I [] w)
    (Ax : α → Act → World → Prop) (hAx : ∀ x a', OwnFrom w.heap.size (fun (_ : Unit) W => Ax x a' W))
    (hassign : ∀ (l : Nat) (pre : List α) (x : α) (W : World) (C : Act → World → Prop), I pre W → w.heap.size ≤ W.heap.size → (∀ a' W', Keep K w.heap.size W W' → I pre W' → Ax x a' W' → C a' W') →
      assign.wpIn (Fence.wide.inRound l) (n - 1 - 1) P (Exit.then C (fun _ _ _ => False)) { tmps := (ps.zip (encs x)).foldl (fun t (p, v) => t.setIfInBounds p v) a.tmps, defers := [] } W)
    (hbody : ∀ (l : Nat) (pre : List α) (x : α) (a' : Act) (W : World), (w.heap.size ≤ l ∧ ∃ r, W.heap[l]? = some (.loop r)) → I pre W → w.heap.size ≤ W.heap.size → pre ++ [x] <+: L → Ax x a' W → body.wpIn (Fence.wide.inRound l) (n - 1 - 1) P (bodyEnd K w.heap.size I Ix (pre ++ [x]) W) a' W)
    (hdone : ∀ (D : Nat) (W : World), w.heap.size ≤ D → I L W → W.heap[D]? = some (.deferred (some [])) → Q .normal { a with defers := { target := .collected D, args := #[] } :: a.defers } W)
    (hstop : ∀ (D : Nat) (c : Code) (pre : List α) (W : World), w.heap.size ≤ D → pre <+: L → Ix c pre W → W.heap[D]? = some (.deferred (some [])) → c.wpIn Fence.wide n P Q { a with defers := { target := .collected D, args := #[] } :: a.defers } W) :
    (Code.rangeFunc g ps assign body).wpIn Fence.wide n P Q a w := by
  refine wpIn_rangeFunc fun fn _ => ?_
  obtain ⟨s, hs⟩ : ∃ s, s = w.heap.size := ⟨_, rfl⟩
  obtain ⟨rec, hrec⟩ : ∃ rec : LoopState → Option Code → Loop, rec = fun st pe => { state := st, pending := pe, fn, tmps := a.tmps, params := ps, assign, body, defers := w.heap.size } := ⟨_, rfl⟩
  obtain ⟨W1, hW1⟩ : ∃ W1, W1 = (w.alloc (.deferred (some []))).alloc (.loop (rec .ready none)) := ⟨_, rfl⟩
  have hz : W1.heap.size = s + 2 := by rw [hW1, hs]; simp
  have hB1 : Below s w W1 := by rw [hW1, hs]; exact below_two w _ _
  have hL1 : W1.heap[s + 1]? = some (.loop (rec .ready none)) := by rw [hW1, hs]; exact heap_alloc2_new w _ _
  have hD1 : W1.heap[s]? = some (.deferred (some [])) := by rw [hW1, hs]; exact (Below.heap_alloc _ _ _ (by simp)).trans (World.alloc_heap_new w _)
  rw [← hs] at hK hI hIx hAx hassign hbody hdone hstop
  have nK : ∀ k, s ≤ k → ¬ K k := fun k hk h => by have := hK k h; omega
  have nL : ¬ K (s + 1) := nK _ (by omega)
  refine ⟨s + 1, [{ target := .collected s, args := #[] }], W1, { target := .fn (.func gf) lb, args := #[.func (.yield (s + 1)) #[] #[]] }, W1, gf, #[.func (.yield (s + 1)) #[] #[]] ++ lb, W1, ?_, ?_, fun _ _ => trivial, ?_, fun h => (by cases h), ?_⟩
  · rw [hW1, hs, hrec]; exact run_enterLoop_outer _ _ _ _ _
  · simp only [resolve, hg]
    simp [go_sem]
  · simp [invoke, go_sem, eg]
  refine callsIn_wide.2 ((hseq (s + 1)
    (fun pre W => I pre W ∧ (W.heap[s + 1]? = some (.loop (rec .ready none)) ∧ W.heap[s]? = some (.deferred (some []))))
    (fun pre W => ∃ c, Ix c pre W ∧ (W.heap[s + 1]? = some (.loop (rec .done (some c))) ∧ W.heap[s]? = some (.deferred (some []))))
    W1 (hb0.trans (hB1.mono (by have := hb0.size; omega)))
    ((hI.mono (by omega)).and ((hangs_block (by omega) _).and (hangs_block (by omega) _)))
    (fun pre A B hs hb => by obtain ⟨c, hc, hl, hd⟩ := hs; exact ⟨c, hIx c _ _ _ hc (hb.mono (by omega)), (hb.block _ (by omega)).trans hl, (hb.block _ (by omega)).trans hd⟩)
    ?_ ⟨hI _ _ _ h0 hB1, hL1, hD1⟩).mono ?_)
  · rintro pre x W m ⟨hi, hl, hd⟩ hsz hpre
    have hy := run_yield (P := P) (args := encs x) hl (by rw [hrec]; exact hps x)
    rw [hrec] at hy
    refine ⟨fn, _, assign, body, hy, round_any (m := n - 1 - 1) (roundIn_of_wpIn trivial (hassign _ pre x W _ hi (by omega) ?_))⟩
    clear hy
    intro a' Wa ka ia xa
    have la := (ka.same _ (by omega) (Or.inr (by omega))).trans hl
    have da := (ka.same _ (by omega) (Or.inr (by omega))).trans hd
    have za := ka.size
    refine ⟨_, run_beginRound la (by rw [hrec]), ?_⟩
    obtain ⟨Wb, hWb⟩ : ∃ Wb, Wb = Wa.putObj (s + 1) (.loop { rec .ready none with state := .busy }) := ⟨_, rfl⟩
    have zb : Wb.heap.size = Wa.heap.size := by rw [hWb]; simp [World.putObj]
    have lb' : Wb.heap[s + 1]? = some (.loop { rec .ready none with state := .busy }) := by rw [hWb]; exact World.putObj_heap_same (by omega)
    have db : Wb.heap[s]? = some (.deferred (some [])) := by rw [hWb]; exact (World.putObj_heap_other (by omega)).trans da
    have ib : I pre Wb := by rw [hWb]; exact hI _ _ _ ia (below_put _ _ _ _ (by omega))
    have xb : Ax x a' Wb := by rw [hWb]; exact (hAx x a').putObj (s := ()) _ xa (by omega) la rfl
    have kb : Keep K (s + 2) W Wb := (ka.weak fun k _ h => h.imp id (by omega)).trans (by rw [hWb]; exact Keep.putObj _ _ _ nL (by omega))
    rw [← hWb]
    clear hWb
    refine wpIn_mono (hbody _ pre x a' Wb ⟨by omega, _, lb'⟩ ib (by omega) hpre xb) ?_
    have fin : ∀ (jump : Option Code) (W3 : World), Keep K s Wb W3 → (Instr.endRound (s + 1) jump).run P W3 = .ok (.bool jump.isNone) (W3.putObj (s + 1) (.loop (rec (if jump.isNone then .ready else .done) jump))) ∧
        (W3.putObj (s + 1) (.loop (rec (if jump.isNone then .ready else .done) jump))).heap[s + 1]? = some (.loop (rec (if jump.isNone then .ready else .done) jump)) ∧
        (W3.putObj (s + 1) (.loop (rec (if jump.isNone then .ready else .done) jump))).heap[s]? = some (.deferred (some [])) ∧
        Keep K W1.heap.size W (W3.putObj (s + 1) (.loop (rec (if jump.isNone then .ready else .done) jump))) := fun jump W3 k3 => by
      have z3 := k3.size
      have l3 := (k3.same _ (by omega) (Or.inr (by omega))).trans lb'
      have e3 := run_endRound (P := P) jump l3
      rw [hrec] at e3 ⊢
      refine ⟨e3, World.putObj_heap_same (by omega), (World.putObj_heap_other (by omega)).trans ((k3.same _ (by omega) (Or.inr (Nat.le_refl _))).trans db), ?_⟩
      rw [hz]
      exact (kb.trans (k3.weak fun k _ h => h.imp id (by omega))).trans (Keep.putObj _ _ _ nL (by omega))
    have put : ∀ (o : Obj) (W3 : World), Below s W3 (W3.putObj (s + 1) o) := fun o W3 => below_put _ _ _ _ (by omega)
    rintro e a3 W3 hp
    cases e with
    | normal =>
      obtain ⟨k3, i3⟩ := hp
      obtain ⟨r, l4, d4, k4⟩ := fin none W3 k3
      exact ⟨_, _, r, k4, .inl ⟨rfl, hI _ _ _ i3 (put _ _), l4, d4⟩⟩
    | ret =>
      obtain ⟨k3, i3⟩ := hp
      obtain ⟨r, l4, d4, k4⟩ := fin (some .ret) W3 k3
      exact ⟨_, _, r, k4, .inr ⟨rfl, _, hIx _ _ _ _ i3 (put _ _), l4, d4⟩⟩
    | exit id =>
      obtain ⟨k3, i3⟩ := hp
      obtain ⟨r, l4, d4, k4⟩ := fin (some (.exit id)) W3 k3
      exact ⟨_, _, r, k4, .inr ⟨rfl, _, hIx _ _ _ _ i3 (put _ _), l4, d4⟩⟩
    | goto t =>
      obtain ⟨k3, i3⟩ := hp
      obtain ⟨r, l4, d4, k4⟩ := fin (some (.goto t)) W3 k3
      exact ⟨_, _, r, k4, .inr ⟨rfl, _, hIx _ _ _ _ i3 (put _ _), l4, d4⟩⟩
    | panic ch => exact hp.elim
    | outgrown => exact hp.elim
  · have put : ∀ (o : Obj) (W3 : World), Below s W3 (W3.putObj (s + 1) o) := fun o W3 => below_put _ _ _ _ (by omega)
    rintro e W2 ⟨⟨v, rfl⟩, (⟨hi, hl, hd⟩ | ⟨pre, hpre, c, hi, hl, hd⟩)⟩
    · have e2 := run_endLoop (P := P) hl (by rw [hrec]; simp)
      rw [hrec] at e2
      exact ⟨none, _, e2, hdone s _ (Nat.le_refl _) (hI _ _ _ hi (put _ _)) ((World.putObj_heap_other (by omega)).trans hd)⟩
    · have e2 := run_endLoop (P := P) hl (by rw [hrec]; simp)
      rw [hrec] at e2
      exact ⟨some c, _, e2, hstop s c pre _ (Nat.le_refl _) hpre (hIx _ _ _ _ hi (put _ _)) ((World.putObj_heap_other (by omega)).trans hd)⟩
/-- **Who ranges over such an iterator.** I: between two rounds; Ix: a round has left; Ax: what a round begins with. -/
theorem range_seq {α : Type} {P : Program} {n : Nat} {g : Operand} {ps : Array Tmp} {assign body : Code} {Q : Exit → Act → World → Prop} {a : Act} {w : World} {gf : Nat} {lb : Array Value}
    (hg : a.eval g = .func (.func gf) #[] lb) (eg : ∀ args w, (callFunc gf args).run P w = .ok (.enter gf args) w) {encs : α → Array Value} {L : List α} {K : Nat → Prop} {w0 : World} (hseq : Seq P gf lb encs L K w0) (hb0 : Below w0.heap.size w0 w)
    (hps : ∀ x, (encs x).size = ps.size) (hK : ∀ k, K k → k < w.heap.size) (I : List α → World → Prop) (Ix : Code → List α → World → Prop) (hI : Hangs w.heap.size I) (hIx : ∀ c, Hangs w.heap.size (Ix c)) (h0 : I [] w)
    (Ax : α → Act → World → Prop) (hAx : ∀ x a', OwnFrom w.heap.size (fun (_ : Unit) W => Ax x a' W))
    (hassign : ∀ (l : Nat) (pre : List α) (x : α) (W : World) (C : Act → World → Prop), I pre W → w.heap.size ≤ W.heap.size → (∀ a' W', Keep K w.heap.size W W' → I pre W' → Ax x a' W' → C a' W') →
      assign.wpIn (Fence.wide.inRound l) (n - 1 - 1) P (Exit.then C (fun _ _ _ => False)) { tmps := (ps.zip (encs x)).foldl (fun t (p, v) => t.setIfInBounds p v) a.tmps, defers := [] } W)
    (hbody : ∀ (l : Nat) (pre : List α) (x : α) (a' : Act) (W : World), I pre W → w.heap.size ≤ W.heap.size → pre ++ [x] <+: L → Ax x a' W → body.wpIn (Fence.wide.inRound l) (n - 1 - 1) P (bodyEnd K w.heap.size I Ix (pre ++ [x]) W) a' W)
    (hdone : ∀ (D : Nat) (W : World), w.heap.size ≤ D → I L W → W.heap[D]? = some (.deferred (some [])) → Q .normal { a with defers := { target := .collected D, args := #[] } :: a.defers } W)
    (hstop : ∀ (D : Nat) (c : Code) (pre : List α) (W : World), w.heap.size ≤ D → pre <+: L → Ix c pre W → W.heap[D]? = some (.deferred (some [])) → c.wpIn Fence.wide n P Q { a with defers := { target := .collected D, args := #[] } :: a.defers } W) :
    (Code.rangeFunc g ps assign body).wpIn Fence.wide n P Q a w :=
  range_seq_told hg eg hseq hb0 hps hK I Ix hI hIx h0 Ax hAx hassign (fun l pre x a' W _ => hbody l pre x a' W) hdone hstop
end Go.Proofs.Ytnapodeiigkebaa

/- The laws of XR1 for who changes, in a round, rows that rounds before made: an iterator of which less is asked to stay. No condition; nothing of a program. -/
namespace Go.Proofs.Ytnapodeiigkebaa
open Go.RowKit Go.Shelf
set_option maxRecDepth 100000

end Go.Proofs.Ytnapodeiigkebaa
