/- A range over a function whose elements hang on a state that the rounds may turn: a contract for iterators, the law for who ranges; and a region that draws its order within a round, whose reads come ahead of a chain. No condition; nothing of a program. -/
import Derived.Test.YtkenipanpimolaaGreatDoorGR
import Derived.Test.YtkenipanpimolaaGreatDoorGA0
import Derived.StillTailTactics
import Derived.Deep.RegionHeld3
namespace Go.Proofs.YtkenipanpimolaaGreatDoor
open Go.RowKit Go.Shelf
set_option maxRecDepth 100000

/-! ### A drawn region in a round: n reads, and a chain behind them. -/
def plainOp (o : Oper) : Bool := match o.op with | .defer _ => false | _ => true
theorem plain_sem {o : Oper} (h : plainOp o = true) (r : Option Nat) (ρ : Operand → Value) : o.semAt r ρ = execOp ρ o :=
  Oper.semAt_eq r ρ o fun c hc => by unfold plainOp at h; rw [hc] at h; cases h
theorem still_in {l m : Nat} {P : Program} {o : Oper} {a : Act} {w : World} {K : Act → Prop} {K' : Act → World → Prop} {Q : Exit → Act → World → Prop} (hp : plainOp o = true) (hk : ∀ a, K a → K' a w) (h : o.still P a w K) :
    o.wpIn (Fence.wide.inRound l) m P a w K' Q := by
  refine ⟨fun _ _ => trivial, ?_⟩
  rw [plain_sem hp]
  unfold Oper.still at h
  generalize (execOp a.eval o).run P w = r at *
  cases r with
  | ok x w' =>
    cases x <;> simp only [Oper.stillUpon, Oper.uponIn] at h ⊢
    case value v => obtain ⟨rfl, h⟩ := h; exact hk _ h
    case skip => obtain ⟨rfl, h⟩ := h; exact hk _ h
    case enter f args =>
      obtain ⟨rfl, v, hc, h⟩ := h
      refine ⟨fun h => (by cases h), (callsIn_wide (n := m - 1)).2 (hc.mono ?_)⟩
      rintro e w'' ⟨rfl, rfl⟩
      exact hk _ h
  | halt x w' => cases x <;> simp only [Oper.stillUpon] at h
theorem op_still_in {l m : Nat} {P : Program} {ops : Array Oper} {i : Nat} {a : Act} {w : World} {K : Act → Prop} {K' : Act → World → Prop} {Q : Exit → Act → World → Prop} (hp : ∀ o ∈ ops, plainOp o = true) (hk : ∀ a, K a → K' a w) (h : stOp P ops w i K a) :
    wpOpIn (Fence.wide.inRound l) m P ops Q i K' a w := by
  unfold stOp at h
  unfold wpOpIn
  cases ho : ops[i]? with
  | none => simp only [ho] at h; exact hk _ h
  | some o =>
    simp only [ho] at h ⊢
    by_cases hw : Region.wanted o (yielded ops a.tmps) = true
    · simp only [hw, if_true] at h ⊢
      exact still_in (hp o (Array.mem_of_getElem? ho)) hk h
    · simp only [hw] at h ⊢
      exact ⟨fun _ _ => trivial, hk _ h⟩
theorem any_of_head_in {l m g n : Nat} {P : Program} {md : Region.Mode} {ops : Array Oper} {Q : Exit → Act → World → Prop} {w : World} {L : Array Bool → Act → Prop} (hp : ∀ o ∈ ops, plainOp o = true) (hL : ∀ listed a, L listed a → wpAnyIn (Fence.wide.inRound l) m P md ops Q g listed a w) :
    ∀ (f : Nat) (listed : Array Bool) (a : Act), wpAnyL P md ops w n L f listed a → wpAnyIn (Fence.wide.inRound l) m P md ops Q (f + g) listed a w
  | 0, listed, a, h => by rw [Nat.zero_add]; exact hL _ _ h
  | f + 1, listed, a, h => by
    rw [Nat.add_right_comm]
    refine ⟨fun h0 => absurd h0 h.1, fun i hi => op_still_in hp (fun a' h' => any_of_head_in hp hL f _ a' h') (h.2 i hi).2⟩
theorem any_of_chain_in {F : Fence} {m : Nat} {P : Program} {md : Region.Mode} {ops : Array Oper} {Q : Exit → Act → World → Prop} : ∀ (t : List Oper) (k : Nat) (listed : Array Bool) (a : Act) (w : World), (∀ j, t[j]? = ops[k + j]?) →
    Region.seqB md ops t.length k listed = true → wpListIn F m P ops Q t a w → wpAnyIn F m P md ops Q t.length listed a w
  | [], _, _, _, _, _, hB, h => ⟨by simpa [Region.seqB] using hB, h⟩
  | o :: t, k, listed, a, w, ht, hB, h => by
    simp only [List.length_cons, Region.seqB, Bool.and_eq_true, decide_eq_true_eq] at hB
    refine wpAnyIn_all hB.1 (by simp) fun i hi => ?_
    obtain rfl : i = k := by simpa using hi
    have h0 : ops[i]? = some o := by simpa using (ht 0).symm
    have hw : wpOpIn F m P ops Q i (wpListIn F m P ops Q t) a w := by unfold wpOpIn; simp only [h0]; exact h
    exact wpOpIn_mono (fun a' w' h' => any_of_chain_in t (i + 1) _ a' w' (fun j => by have := ht (j + 1); simpa [Nat.add_assoc, Nat.add_comm 1 j] using this) hB.2 h') hw
/-- **A drawn region of a round**: its first n operations read, in the text's order; each one behind them waits for all of these, and for the one ahead of it. -/
theorem round_reads {l m id : Nat} {P : Program} {Q : Exit → Act → World → Prop} {a : Act} {w : World} {ops : List Oper} (n : Nat) (hm : P.follows .mixedOrders = true) (hB : Region.lexTailB .any ops.toArray n = true) (hp : ops.all plainOp = true)
    (h : wpStill P ops.toArray w.drew (fun a' => wpListIn (Fence.wide.inRound l) m P ops.toArray Q (ops.drop n) a' w.drew) (ops.take n) a) : (Code.region id ops.toArray true).wpIn (Fence.wide.inRound l) m P Q a w := by
  simp only [Region.lexTailB, Bool.and_eq_true, decide_eq_true_eq] at hB
  obtain ⟨⟨⟨⟨hsel, hn⟩, hs⟩, hc⟩, hlex⟩ := hB
  have hn' : n < ops.length := by simpa using hn
  have htl : (ops.take n).length = n := by simp; omega
  have hdl : (ops.drop n).length = ops.toArray.size - n := by simp
  have hpp : ∀ o ∈ ops.toArray, plainOp o = true := fun o ho => List.all_eq_true.1 hp o (by simpa using ho)
  have inv0 : HeadInv .any ops.toArray n (Array.replicate ops.toArray.size false) :=
    ⟨by simp, fun j oj _ hl => (by rw [getD_replicate_false] at hl; cases hl), fun t _ ht => getD_in (by simpa using ht) (getD_replicate_false _ _)⟩
  have H := wpAnyL_lex (md := .any) (g := ops.toArray.size - n) hsel hs hc hn (ops.take n) 0 _ a (fun j hj => by
    have hj' : j < n := by rw [htl] at hj; exact hj
    simp [hj']) (by simpa using htl) inv0 (by rw [htl]; exact hlex) h
  refine wpIn_region_any hm ?_
  have key := any_of_head_in (l := l) (m := m) (Q := Q) (g := ops.toArray.size - n) hpp (fun listed a' hL => by
    have hch := any_of_chain_in (F := Fence.wide.inRound l) (m := m) (md := .any) (Q := Q) (ops.drop n) n listed a' w.drew (fun j => by simp [List.getElem?_drop]) (by rw [hdl]; exact hL.1) hL.2
    rwa [hdl] at hch) _ _ _ H
  rw [htl, show n + (ops.toArray.size - n) = ops.toArray.size by omega] at key
  exact key

/-! ### A drawn region in a round, walked as a plain one, under a condition on worlds. -/
/-! ### An iterator whose elements hang on a state. -/
/-- What a round leaves as it was: the blocks of K, and from block B on all but rows of T. -/
structure KeepT (T : TypeId) (K : Nat → Prop) (B : Nat) (W W' : World) : Prop where
  os : W'.os = W.os
  tape : W'.tape = W.tape
  output : W'.output = W.output
  size : W.heap.size ≤ W'.heap.size
  same : ∀ k o, W.heap[k]? = some o → (K k ∨ (B ≤ k ∧ kindOf o ≠ some T)) → W'.heap[k]? = some o
/-- What an iterator's own doings leave: the blocks below B, and all rows of T. -/
structure StayT (T : TypeId) (B : Nat) (W W' : World) : Prop where
  bel : Below B W W'
  rows : ∀ (k : Nat) (o : Obj), W.heap[k]? = some o → kindOf o = some T → W'.heap[k]? = some o
def HangsT {β : Type} (T : TypeId) (B : Nat) (J : β → World → Prop) : Prop := ∀ s W W', J s W → StayT T B W W' → J s W'
def ToldG (T : TypeId) (K : Nat → Prop) (B : Nat) (J Jx : World → Prop) (W : World) (e : Ending) (W' : World) : Prop :=
  KeepT T K B W W' ∧ ((e = .returned (.bool true) ∧ J W') ∨ (e = .returned (.bool false) ∧ Jx W'))
/-- What an iterator over states does: At: what it asks of memory in a state; S: what it may tell in a state; Nx: to which states a round may lead; Ps: over which states it passes; Fin: where it ends. -/
structure Way (σ α : Type) where
  At : σ → World → Prop
  S : σ → α → Prop
  Nx : σ → σ → Prop
  Ps : σ → σ → Prop
  Start : σ → Prop
  Fin : σ → Prop
/-- **An iterator that tells what a state says, and goes on in the state that the round has left.** -/
def SeqG {σ α : Type} (T : TypeId) (P : Program) (g : Nat) (lb : Array Value) (encs : α → Array Value) (M : Way σ α) (K : Nat → Prop) (w : World) : Prop :=
  ∀ (l : Nat) (J : σ → World → Prop) (Jx : World → Prop) (W : World) (s0 : σ), (∀ k, K k → k < w.heap.size ∧ W.heap[k]? = w.heap[k]?) → w.heap.size ≤ W.heap.size → HangsT T W.heap.size J → HangsT T W.heap.size (fun (_ : Unit) => Jx) →
    (∀ s V, J s V → M.At s V) →
    (∀ s x W1 m, J s W1 → W.heap.size ≤ W1.heap.size → M.S s x → YieldAt Fence.wide m P l (encs x) W1 (ToldG T K W.heap.size (fun V => ∃ s', M.Nx s s' ∧ J s' V) Jx W1)) →
    (∀ s s' W1, J s W1 → M.Ps s s' → J s' W1) →
    M.Start s0 → J s0 W →
    Calls P g (#[.func (.yield l) #[] #[]] ++ lb) W fun e W' => (∃ v, e = .returned v) ∧ ((∃ s, M.Fin s ∧ J s W') ∨ Jx W')

/-- How the body of a round may be left. -/
def endG (T : TypeId) (K : Nat → Prop) (B : Nat) (I : World → Prop) (Ix : Code → World → Prop) (W : World) : Exit → Act → World → Prop
  | .normal, _, W' => KeepT T K B W W' ∧ I W'
  | .ret, _, W' => KeepT T K B W W' ∧ Ix .ret W'
  | .exit id, _, W' => KeepT T K B W W' ∧ Ix (.exit id) W'
  | .goto t, _, W' => KeepT T K B W W' ∧ Ix (.goto t) W'
  | .panic _, _, _ => False
  | .outgrown, _, _ => False

end Go.Proofs.YtkenipanpimolaaGreatDoor
