/- Texts of mine, joined: U9 U10 U12 U13 U14 U11 U15 U18 U19 U21. What each says and under which conditions stands at its head, below. -/
import Derived.Test.YtfpcoomkbmfchaaGreatDoorHA
/- Containers as slices; the contracts of the document's fits, At, Left, Same, New of layer 11. Condition: the slices lie in memory. -/
namespace Go.Proofs.YtfpcoomkbmfchaaGreatDoor
open Go.RowKit Go.Maps
set_option maxRecDepth 100000

/-- A slice of containers. -/
def NdsAt (w : World) (v : Value) (L : List Nd) : Prop := ∃ a c, v = .slice a L.length c ∧ (L = [] ∨ ∃ b, a = some ⟨b, 0, none⟩ ∧ b < w.heap.size ∧ ∀ i, i < L.length →
  w.cell? ⟨b, i * 4, none⟩ = some (.int .i64 (L.getD i default).1) ∧ w.cell? ⟨b, i * 4 + 1, none⟩ = some (.int .i64 (L.getD i default).2.1) ∧ w.cell? ⟨b, i * 4 + 2, none⟩ = some (.int .i64 (L.getD i default).2.2.1) ∧ w.cell? ⟨b, i * 4 + 3, none⟩ = some (.int .i64 (L.getD i default).2.2.2))
theorem NdsAt.below {w w' : World} {v : Value} {L : List Nd} (h : NdsAt w v L) (hb : Below w.heap.size w w') : NdsAt w' v L := by
  obtain ⟨a, c, rfl, h⟩ := h
  refine ⟨a, c, rfl, h.imp id fun ⟨b, e, hlt, hc⟩ => ⟨b, e, Nat.lt_of_lt_of_le hlt hb.size, fun i hi => ?_⟩⟩
  obtain ⟨c0, c1, c2, c3⟩ := hc i hi
  have k : ∀ q, w'.cell? ⟨b, q, none⟩ = w.cell? ⟨b, q, none⟩ := fun q => hb.cell (p := ⟨b, q, none⟩) hlt
  exact ⟨(k _).trans c0, (k _).trans c1, (k _).trans c2, (k _).trans c3⟩
theorem NdsAt.of_row {w : World} {base : Nat} {v : Value} {L : List Nd} (h : w.ownsRow base 72 4 v L.length (ndsV L)) : NdsAt w v L := by
  have h' := h
  rcases h.2 with ⟨rfl, h0⟩ | ⟨g, cap, cur, rfl, hb, hgg, _⟩
  · exact ⟨none, 0, by rw [h0], Or.inl (List.eq_nil_of_length_eq_zero h0)⟩
  · refine ⟨_, _, rfl, Or.inr ⟨g, rfl, lt_of_block hgg, fun i hi => ?_⟩⟩
    obtain ⟨a0, a1, a2, a3⟩ := ndsV_get L i hi
    have b0 := h'.cells (g := g) rfl _ _ a0
    have b1 := h'.cells (g := g) rfl _ _ a1
    have b2 := h'.cells (g := g) rfl _ _ a2
    have b3 := h'.cells (g := g) rfl _ _ a3
    rw [Addr.add_mid, Nat.zero_add] at b0 b1 b2 b3
    exact ⟨b0, b1, b2, b3⟩
/-- One of them. -/
theorem NdsAt.at_ {w : World} {a : Option Addr} {n c : Nat} {L : List Nd} (h : NdsAt w (.slice a n c) L) {i : Nat} (hi : i < L.length) {x : Nd} (hx : L.getD i default = x) :
    ∃ b, a = some ⟨b, 0, none⟩ ∧ b < w.heap.size ∧ w.cell? ⟨b, i * 4, none⟩ = some (.int .i64 x.1) ∧ w.cell? ⟨b, i * 4 + 1, none⟩ = some (.int .i64 x.2.1) ∧ w.cell? ⟨b, i * 4 + 2, none⟩ = some (.int .i64 x.2.2.1) ∧ w.cell? ⟨b, i * 4 + 3, none⟩ = some (.int .i64 x.2.2.2) := by
  obtain ⟨a', c', he, h⟩ := h
  injection he with e1
  subst e1 hx
  rcases h with rfl | ⟨b, rfl, hb, hc⟩
  · simp at hi
  · exact ⟨b, rfl, hb, hc i hi⟩
theorem NdsAt.form {w : World} {v : Value} {L : List Nd} (h : NdsAt w v L) : ∃ a c, v = .slice a L.length c := by
  obtain ⟨a, c, e, _⟩ := h
  exact ⟨a, c, e⟩

/-- Where a container is; -1: it is not there. -/
def atI (L : List Nd) (id : Int) : Int := if atN id L = none then -1 else (posN id L : Int)
end Go.Proofs.YtfpcoomkbmfchaaGreatDoor

/- The contract of the document's Charge of layer 11. Condition: the slice is the call's own. -/
namespace Go.Proofs.YtfpcoomkbmfchaaGreatDoor
open Go.RowKit Go.Maps
set_option maxRecDepth 100000

/-- What the document's calls leave: a list of their own, or the one that was. -/
def RPost (base : Nat) (w : World) (v : Value) (L' : List Nd) (er : Int) (e : Ending) (w' : World) : Prop := ∃ v', e = .returned (.tuple #[v', .int .i64 er]) ∧ w'.ownsRow base 72 4 v' L'.length (ndsV L') ∧ Below w.heap.size w w' ∧ ∀ g, v'.ownBlock = some g → v.ownBlock = some g ∨ w.heap.size ≤ g
end Go.Proofs.YtfpcoomkbmfchaaGreatDoor

/- The contract of the document's Open of layer 11. Condition: the slice is the call's own. -/
namespace Go.Proofs.YtfpcoomkbmfchaaGreatDoor
open Go.RowKit Go.Maps
set_option maxRecDepth 100000

end Go.Proofs.YtfpcoomkbmfchaaGreatDoor

/- The contract of the document's Open of layer 11, where it opens. Condition: the slice is the call's own. -/
namespace Go.Proofs.YtfpcoomkbmfchaaGreatDoor
open Go.RowKit Go.Maps
set_option maxRecDepth 100000

end Go.Proofs.YtfpcoomkbmfchaaGreatDoor

/- The contract of the document's Close of layer 11. Condition: the slice is the call's own. -/
namespace Go.Proofs.YtfpcoomkbmfchaaGreatDoor
open Go.RowKit Go.Maps
set_option maxRecDepth 100000

/-- What Close has gathered. -/
def cutR (L : List Nd) (id up : Int) (j : Nat) : List Nd := (delN id (L.take j)).map (reUp id up)
end Go.Proofs.YtfpcoomkbmfchaaGreatDoor

/- The contract of the document's Refund of layer 11. Condition: the slice is the call's own. -/
namespace Go.Proofs.YtfpcoomkbmfchaaGreatDoor
open Go.RowKit Go.Maps
set_option maxRecDepth 100000

end Go.Proofs.YtfpcoomkbmfchaaGreatDoor

/- A budget of a law's own; the contracts of its calls; awake; calls without a budget. Condition: the budget is the law's own, or there is none. -/
namespace Go.Proofs.YtfpcoomkbmfchaaGreatDoor
open Go.RowKit Go.Maps
set_option maxRecDepth 100000

/-- A budget of the law's own; of none of these blocks. -/
structure OB (W w : World) (b : Nat) (F : Nat → Prop) (L : List Nd) : Prop where
  ex : ∃ m P, BudAt w b m P L ∧ ∀ k, bB m P k → W.heap.size ≤ k ∧ ¬ F k
  below : Below W.heap.size W w
  nb : W.heap.size ≤ b
  flt : ∀ k, F k → k < w.heap.size
theorem OB.good {W w : World} {b : Nat} {F : Nat → Prop} {L : List Nd} (h : OB W w b F L) : GoodU L := let ⟨_, _, h1, _⟩ := h.ex; h1.good
/-- New blocks are none of the budget's. -/
theorem OB.more {W w w' : World} {b : Nat} {F F' : Nat → Prop} {L : List Nd} (h : OB W w b F L) (hb : Below w.heap.size w w') (hF : ∀ k, F' k → (F k ∨ w.heap.size ≤ k) ∧ k < w'.heap.size) : OB W w' b F' L := by
  obtain ⟨m, P, h1, h2⟩ := h.ex
  refine ⟨⟨m, P, h1.step hb, fun k hk => ⟨(h2 k hk).1, fun hf => ?_⟩⟩, h.below.trans (hb.mono h.below.size), h.nb, fun k hk => (hF k hk).2⟩
  rcases (hF k hf).1 with e | e
  · exact (h2 k hk).2 e
  · have := h1.lt hk; omega
theorem OB.step {W w w' : World} {b : Nat} {F : Nat → Prop} {L : List Nd} (h : OB W w b F L) (hb : Below w.heap.size w w') : OB W w' b F L :=
  h.more hb fun k hk => ⟨Or.inl hk, Nat.lt_of_lt_of_le (h.flt k hk) hb.size⟩
theorem OB.less {W w : World} {b : Nat} {F F' : Nat → Prop} {L : List Nd} (h : OB W w b F L) (hF : ∀ k, F' k → F k) : OB W w b F' L :=
  h.more (Below.refl _ _) fun k hk => ⟨Or.inl (hF k hk), h.flt k (hF k hk)⟩
/-- These blocks are as they were. -/
structure KeptU (F : Nat → Prop) (w w' : World) : Prop where
  size : w.heap.size ≤ w'.heap.size
  block : ∀ k, F k → w'.heap[k]? = w.heap[k]?
theorem KeptU.below {F : Nat → Prop} {w w' : World} (hb : Below w.heap.size w w') (hF : ∀ k, F k → k < w.heap.size) : KeptU F w w' := ⟨hb.size, fun k hk => hb.block k (hF k hk)⟩
theorem KeptU.trans {F : Nat → Prop} {a b c : World} (h : KeptU F a b) (k : KeptU F b c) : KeptU F a c := ⟨Nat.le_trans h.size k.size, fun i hi => (k.block i hi).trans (h.block i hi)⟩
theorem KeptU.own {F : Nat → Prop} {w w' : World} (k : KeptU F w w') {base q n : Nat} {e : TypeId} {v : Value} {xs : List Value} (h : w.ownsRow base e q v n xs) (hF : ∀ g, v.ownBlock = some g → F g) : w'.ownsRow base e q v n xs := by
  refine ⟨h.1, ?_⟩
  rcases h.2 with hn | ⟨g, cap, cur, rfl, hb, hgg, rest⟩
  · exact .inl hn
  · exact .inr ⟨g, cap, cur, rfl, hb, (k.block g (hF g rfl)).trans hgg, rest⟩
theorem OB.turn {W w w' : World} {b m : Nat} {P : Pt} {F : Nat → Prop} {L L' : List Nd} (h : OB W w b F L) (h2 : ∀ k, bB m P k → W.heap.size ≤ k ∧ ¬ F k) (T : Turned w w' b m P L') : OB W w' b F L' ∧ KeptU F w w' := by
  obtain ⟨⟨P', t1, t2⟩, t3⟩ := T
  refine ⟨⟨⟨m, P', t1, fun k hk => ?_⟩, Only.old h.below t3 h.below.size (fun k hk => (h2 k hk).1), h.nb, fun k hk => Nat.lt_of_lt_of_le (h.flt k hk) t3.size⟩, t3.size, fun k hk => t3.block k (h.flt k hk) (fun e => (h2 k e).2 hk)⟩
  rcases hk with e | ⟨i, hi⟩
  · exact h2 k (Or.inl e)
  · rcases t2 i k hi with e | e
    · exact h2 k (Or.inr ⟨i, e⟩)
    · exact ⟨Nat.le_trans h.below.size e, fun hf => by have := h.flt k hf; omega⟩
section
variable {W w : World} {b : Nat} {F : Nat → Prop} {L : List Nd} (h : OB W w b F L)
include h
end
/-! Without a budget. -/
end Go.Proofs.YtfpcoomkbmfchaaGreatDoor

/- The walk of BudgetDeep. No condition. -/
namespace Go.Proofs.YtfpcoomkbmfchaaGreatDoor
open Go.RowKit Go.Maps
set_option maxRecDepth 100000

theorem sumUp_zero {id : Int} : ∀ {L : List Nd}, (∀ n ∈ L, n.2.1 ≠ id) → sumUp id L = 0
  | [], _ => rfl
  | n :: r, h => by
    unfold sumUp
    rw [if_neg (h n (by simp)), sumUp_zero (fun x hx => h x (List.mem_cons_of_mem _ hx))]
    rfl
theorem sumUp_map (id j d : Int) : ∀ (L : List Nd), sumUp id (L.map (setU j d)) = sumUp id L
  | [] => rfl
  | n :: r => by
    rw [List.map_cons]
    unfold sumUp
    rw [sumUp_map id j d r]
    unfold setU
    split <;> rfl
/-- Containers carved one out of the other: the last one, and its quota. -/
structure Deep (L : List Nd) (k hs : Int) : Prop where
  good : GoodU L
  pos : 1 ≤ k
  at_ : ∃ up, atN k L = some (k, up, hs, 0)
  out : ∀ n ∈ L, n.1 ≤ k
  kids : ∀ n ∈ L, n.2.1 < k
theorem Deep.one {q : Int} (h : 0 ≤ q ∧ q ≤ 65536) : Deep [(1, 0, q, 0)] 1 q := ⟨GoodU.one q h.1 h.2, by decide, ⟨0, rfl⟩, by simp, by simp⟩
theorem Deep.bounds {L : List Nd} {k hs : Int} (h : Deep L k hs) : 0 ≤ hs ∧ hs ≤ 65536 ∧ k ≤ 8 := by
  obtain ⟨up, ha⟩ := h.at_
  have := h.good.ok _ (atN_some ha).1
  dsimp only [okN] at this
  omega
theorem Deep.left {L : List Nd} {k hs : Int} (h : Deep L k hs) : leftL L k = hs := by
  obtain ⟨up, ha⟩ := h.at_
  rw [leftL_some ha, sumUp_zero (fun n hn => by have := h.kids n hn; omega)]
  simp only
  omega
theorem Deep.open {L : List Nd} {k hs l : Int} (h : Deep L k hs) (hk : k ≤ 7) (h0 : 0 ≤ l) (hl : l ≤ hs) : openEU L (k + 1) k (hs - l) = 0 ∧ Deep (openL L (k + 1) k (hs - l)) (k + 1) (hs - l) ∧ leftL (openL L (k + 1) k (hs - l)) k = l ∧ leftL (openL L (k + 1) k (hs - l)) (k + 1) = hs - l := by
  obtain ⟨up, ha⟩ := h.at_
  have hb := h.bounds
  have hp := h.pos
  have hno : atN (k + 1) L = none := atN_none.2 fun n hn => by have := h.out n hn; omega
  have he : openEU L (k + 1) k (hs - l) = 0 := openEU_zero.2 ⟨⟨fitB_iff.2 (by omega), fitB_iff.2 (by omega)⟩, ⟨_, ha⟩, hno, by rw [h.left]; omega⟩
  have hol : openL L (k + 1) k (hs - l) = insN (k + 1, k, hs - l, 0) L := by unfold openL; rw [if_pos he]
  have hne := atN_none.1 hno
  have e1 : atN (k + 1) (insN (k + 1, k, hs - l, 0) L) = some (k + 1, k, hs - l, 0) := by rw [atN_insN hne, if_pos rfl]
  have e2 : atN k (insN (k + 1, k, hs - l, 0) L) = some (k, up, hs, 0) := by rw [atN_insN hne, if_neg (show k ≠ k + 1 by omega)]; exact ha
  have s1 : sumUp k L = 0 := sumUp_zero fun n hn => by have := h.kids n hn; omega
  have s2 : sumUp (k + 1) L = 0 := sumUp_zero fun n hn => by have := h.kids n hn; omega
  refine ⟨he, ⟨h.good.open _ _ _, by omega, ⟨k, by rw [hol]; exact e1⟩, fun n hn => ?_, fun n hn => ?_⟩, ?_, ?_⟩
  · rw [hol, mem_insN] at hn
    rcases hn with rfl | hn
    · exact Int.le_refl _
    · have := h.out n hn; omega
  · rw [hol, mem_insN] at hn
    rcases hn with rfl | hn
    · simp only; omega
    · have := h.kids n hn; omega
  · rw [hol, leftL_some e2, sumUp_insN, s1, if_pos rfl]
    simp only
    omega
  · rw [hol, leftL_some e1, sumUp_insN, s2, if_neg (show ¬ k = k + 1 by omega)]
    simp only
    omega
theorem Deep.no {L : List Nd} {k hs l : Int} (hl : hs < l) : openEU L (k + 1) k (hs - l) = 2 := by
  unfold openEU
  rw [if_neg]
  rintro ⟨h1, _⟩
  have := (fitB_iff.1 h1).2
  omega
theorem Deep.over {L : List Nd} {k hs : Int} (h : Deep L k hs) : chargeEU L k (hs + 1) ≠ 0 := fun e => by
  have := (chargeEU_zero.1 e).2.2
  rw [h.left] at this
  omega
end Go.Proofs.YtfpcoomkbmfchaaGreatDoor

/- The contract of layer 11's play: a call on both. Condition: both say the same ahead. Written by gen/gen_u19.py. -/
namespace Go.Proofs.YtfpcoomkbmfchaaGreatDoor
open Go.RowKit Go.Maps
set_option maxRecDepth 100000

/-- The budget and the document's list say the same. -/
structure Pair11 (W w : World) (b : Nat) (v : Value) (L : List Nd) : Prop where
  ob : OB W w b (fun k => v.ownBlock = some k) L
  row : w.ownsRow W.heap.size 72 4 v L.length (ndsV L)
theorem Pair11.step {W w w' : World} {b : Nat} {v : Value} {L : List Nd} (h : Pair11 W w b v L) (hb : Below w.heap.size w w') : Pair11 W w' b v L := ⟨h.ob.step hb, own_step h.row hb⟩
def playL (L : List Nd) (d id up n : Int) : List Nd := if d = 1 then openL L id up n else if d = 2 then closeL L id else if d = 3 then chargeL L id n else if d = 4 then refundL L id n else L
/-- Behind the document's call: the budget, apart of the new list. -/
theorem Pair11.ref {W w w' : World} {b : Nat} {v v' : Value} {L L' : List Nd} (h : Pair11 W w b v L) (ho : w'.ownsRow W.heap.size 72 4 v' L'.length (ndsV L')) (hb : Below w.heap.size w w') (hf : ∀ g, v'.ownBlock = some g → v.ownBlock = some g ∨ w.heap.size ≤ g) : OB W w' b (fun k => v'.ownBlock = some k) L :=
  h.ob.more hb fun k hk => ⟨hf k hk, (ho.lt k hk).2⟩
def PlayPostU (W : World) (b : Nat) (L' : List Nd) (e : Ending) (w' : World) : Prop := ∃ v', e = .returned (.tuple #[v', .bool true]) ∧ Pair11 W w' b v' L'
end Go.Proofs.YtfpcoomkbmfchaaGreatDoor

/- Containers as a tree: what calls keep; used and left together. Nothing of a program. -/
namespace Go.Proofs.YtfpcoomkbmfchaaGreatDoor
open Go.RowKit
set_option maxRecDepth 100000

def sumF (f : Nd → Int) : List Nd → Int
  | [] => 0
  | n :: r => f n + sumF f r
theorem sumF_congr {f g : Nd → Int} : ∀ {L : List Nd}, (∀ n ∈ L, f n = g n) → sumF f L = sumF g L
  | [], _ => rfl
  | n :: r, h => by
    unfold sumF
    rw [h n (by simp), sumF_congr (fun x hx => h x (List.mem_cons_of_mem _ hx))]
theorem sumF_sub (f g : Nd → Int) : ∀ (L : List Nd), sumF (fun n => f n - g n) L = sumF f L - sumF g L
  | [] => rfl
  | n :: r => by
    unfold sumF
    rw [sumF_sub f g r]
    omega
theorem sumF_add (f g : Nd → Int) : ∀ (L : List Nd), sumF (fun n => f n + g n) L = sumF f L + sumF g L
  | [] => rfl
  | n :: r => by
    unfold sumF
    rw [sumF_add f g r]
    omega
theorem sumF_zero : ∀ (L : List Nd), sumF (fun _ => 0) L = 0
  | [] => rfl
  | n :: r => by
    unfold sumF
    rw [sumF_zero r]
    rfl
theorem sumF_ones (c v : Int) : ∀ {M : List Nd}, M.Pairwise (fun a b => a.1 < b.1) → sumF (fun n => if c = n.1 then v else 0) M = if (atN c M).isSome = true then v else 0
  | [], _ => rfl
  | n :: r, hp => by
    obtain ⟨h1, h2⟩ := List.pairwise_cons.1 hp
    have ih := sumF_ones c v h2
    unfold sumF
    by_cases e : c = n.1
    · have hn : atN c r = none := atN_none.2 fun x hx => by have := h1 x hx; omega
      rw [hn] at ih
      have hs : atN c (n :: r) = some n := by unfold atN; rw [if_pos e.symm]
      rw [ih, hs]
      simp [e]
    · have hs : atN c (n :: r) = atN c r := by rw [atN, if_neg (fun x => e x.symm)]
      rw [ih, hs, if_neg e]
      omega
theorem sumF_swap {M : List Nd} (hp : M.Pairwise (fun a b => a.1 < b.1)) : ∀ (K : List Nd), sumF (fun n => sumUp n.1 K) M = sumF (fun c => if (atN c.2.1 M).isSome = true then c.2.2.1 else 0) K
  | [] => by simp [sumUp, sumF, sumF_zero]
  | c :: r => by
    unfold sumUp
    rw [sumF_add, sumF_swap hp r, sumF_ones _ _ hp]
    rfl

/-- Containers as a tree, carved from the first one. -/
structure Tree (q : Int) (L : List Nd) : Prop where
  good : GoodU L
  first : ∃ u, atN 1 L = some (1, 0, q, u)
  rank : ∃ r : Int → Nat, ∀ n ∈ L, n.1 ≠ 1 → (∃ x, atN n.2.1 L = some x) ∧ r n.2.1 < r n.1
  left : ∀ n ∈ L, 0 ≤ leftNU L n
theorem Tree.one {q : Int} (h : 0 ≤ q ∧ q ≤ 65536) : Tree q [(1, 0, q, 0)] := by
  refine ⟨GoodU.one q h.1 h.2, ⟨0, rfl⟩, ⟨fun _ => 0, fun n hn => ?_⟩, fun n hn => ?_⟩
  · simp only [List.mem_singleton] at hn
    subst hn
    intro h
    exact absurd rfl h
  · simp only [List.mem_singleton] at hn
    subst hn
    simp [leftNU, sumUp]
    omega
/-- Who is carved from one is carved from one that is there. -/
theorem Tree.noUp {q : Int} {L : List Nd} (h : Tree q L) {id : Int} (h1 : 1 ≤ id) (hn : atN id L = none) : ∀ n ∈ L, n.2.1 ≠ id := fun n hm e => by
  obtain ⟨r, hr⟩ := h.rank
  by_cases c : n.1 = 1
  · obtain ⟨u, hu⟩ := h.first
    have := atN_mem h.good.up hm
    rw [c, hu] at this
    cases this
    simp only at e
    omega
  · obtain ⟨⟨x, hx⟩, _⟩ := hr n hm c
    rw [e, hn] at hx
    cases hx
/-- Used and left together. -/
theorem Tree.total {q : Int} {L : List Nd} (h : Tree q L) : sumF (fun n => n.2.2.2 + leftNU L n) L = q := by
  obtain ⟨r, hr⟩ := h.rank
  obtain ⟨u, hu⟩ := h.first
  have e1 : sumF (fun n => n.2.2.2 + leftNU L n) L = sumF (fun n => n.2.2.1 - sumUp n.1 L) L := sumF_congr fun n _ => by unfold leftNU; omega
  rw [e1, sumF_sub, sumF_swap h.good.up, ← sumF_sub]
  have e2 : sumF (fun n => n.2.2.1 - if (atN n.2.1 L).isSome = true then n.2.2.1 else 0) L = sumF (fun n => if (1 : Int) = n.1 then q else 0) L := sumF_congr fun n hm => by
    by_cases c : n.1 = 1
    · have hn := atN_mem h.good.up hm
      rw [c, hu] at hn
      cases hn
      have h0 : atN 0 L = none := atN_none.2 fun x hx => by have := (h.good.ok x hx).1; omega
      simp [h0]
    · obtain ⟨⟨x, hx⟩, _⟩ := hr n hm c
      rw [hx, if_neg (show ¬ (1 : Int) = n.1 from fun e => c e.symm)]
      simp
  rw [e2, sumF_ones _ _ h.good.up, hu]
  rfl
theorem Tree.open {q : Int} {L : List Nd} (h : Tree q L) (id up n : Int) : Tree q (openL L id up n) := by
  by_cases he : openEU L id up n = 0
  · have hg := h.good.open id up n
    obtain ⟨⟨hf1, hf2⟩, ⟨nu, hnu⟩, hno, hle⟩ := openEU_zero.1 he
    have hol : openL L id up n = insN (id, up, n, 0) L := by unfold openL; rw [if_pos he]
    rw [hol] at hg ⊢
    have hne := atN_none.1 hno
    have b1 := fitB_iff.1 hf1
    obtain ⟨u, hu⟩ := h.first
    obtain ⟨r, hr⟩ := h.rank
    have hid1 : (1 : Int) ≠ id := fun e => by rw [← e, hu] at hno; cases hno
    have hupid : up ≠ id := fun e => by rw [e, hno] at hnu; cases hnu
    have hno2 := h.noUp b1.1.1 hno
    have at_ : ∀ i x, atN i L = some x → atN i (insN (id, up, n, 0) L) = some x := fun i x hx => by
      rw [atN_insN hne, if_neg (show i ≠ id from fun e => by rw [e, hno] at hx; cases hx), hx]
    refine ⟨hg, ⟨u, at_ _ _ hu⟩, ⟨fun i => if i = id then r up + 1 else r i, fun m hm h1 => ?_⟩, fun m hm => ?_⟩
    · rcases mem_insN.1 hm with rfl | hm
      · refine ⟨⟨nu, at_ _ _ hnu⟩, ?_⟩
        simp only
        rw [if_neg hupid, if_pos trivial]
        omega
      · obtain ⟨⟨x, hx⟩, hlt⟩ := hr m hm h1
        refine ⟨⟨x, at_ _ _ hx⟩, ?_⟩
        simp only
        rw [if_neg (hno2 m hm), if_neg (hne m hm)]
        exact hlt
    · unfold leftNU
      rw [sumUp_insN]
      rcases mem_insN.1 hm with rfl | hm
      · simp only
        rw [if_neg hupid, sumUp_zero hno2]
        omega
      · have h0 := h.left m hm
        unfold leftNU at h0
        simp only
        split
        · rename_i e
          have := atN_mem h.good.up hm
          rw [← e] at this
          rw [leftL_some this, e] at hle
          omega
        · omega
  · unfold openL
    rw [if_neg he]
    exact h
theorem sumUp_del (i id : Int) : ∀ {L : List Nd}, L.Pairwise (fun a b => a.1 < b.1) → ∀ {n : Nd}, atN id L = some n → sumUp i L = sumUp i (delN id L) + (if n.2.1 = i then n.2.2.1 else 0)
  | y :: r, hp, n, h => by
    obtain ⟨h1, h2⟩ := List.pairwise_cons.1 hp
    unfold atN at h
    by_cases e : y.1 = id
    · rw [if_pos e] at h
      cases h
      have : delN id (y :: r) = r := by
        unfold delN
        rw [List.filter_cons_of_neg (by simpa using e), List.filter_eq_self]
        intro x hx
        have := h1 x hx
        simp; omega
      rw [this, sumUp]
      omega
    · rw [if_neg e] at h
      have ih := sumUp_del i id h2 h
      have : delN id (y :: r) = y :: delN id r := by
        unfold delN
        rw [List.filter_cons_of_pos (by simpa using e)]
      rw [this, sumUp, sumUp, ih]
      omega
theorem sumUp_re (i id p : Int) (hi : i ≠ id) : ∀ (M : List Nd), sumUp i (M.map (reUp id p)) = sumUp i M + (if p = i then sumUp id M else 0)
  | [] => by simp [sumUp]
  | y :: r => by
    have ih := sumUp_re i id p hi r
    rw [List.map_cons, sumUp, ih, sumUp, sumUp]
    unfold reUp
    by_cases e : y.2.1 = id
    · rw [if_pos e, if_pos e, if_neg (show ¬ y.2.1 = i by omega)]
      simp only
      split <;> omega
    · rw [if_neg e, if_neg e]
      split <;> split <;> omega
/-- What is left of others, behind a close. -/
theorem Tree.closeLeft {q : Int} {L : List Nd} (h : Tree q L) {id : Int} {n : Nd} (hn : atN id L = some n) (h1 : id ≠ 1) (i : Int) (hi : i ≠ id) : n.2.1 ≠ id ∧ sumUp i ((delN id L).map (reUp id n.2.1)) = sumUp i L - (if n.2.1 = i then n.2.2.1 - sumUp id L else 0) := by
  obtain ⟨r, hr⟩ := h.rank
  have hid := (atN_some hn).2
  obtain ⟨_, hlt⟩ := hr n (atN_some hn).1 (by rw [hid]; exact h1)
  rw [hid] at hlt
  have hne : n.2.1 ≠ id := fun e => by rw [e] at hlt; omega
  refine ⟨hne, ?_⟩
  rw [sumUp_re _ _ _ hi, sumUp_del i id h.good.up hn, sumUp_del id id h.good.up hn, if_neg hne]
  split <;> omega
theorem Tree.close {q : Int} {L : List Nd} (h : Tree q L) (id : Int) : Tree q (closeL L id) := by
  by_cases he : closeEU L id = 0
  · have hg := h.good.close id
    obtain ⟨hf, h1, n, hn, hu0⟩ := closeEU_zero.1 he
    have hcl : closeL L id = (delN id L).map (reUp id n.2.1) := by
      unfold closeL upN
      rw [if_pos he, hn]
      rfl
    rw [hcl] at hg ⊢
    have b1 := fitB_iff.1 hf
    obtain ⟨u, hu⟩ := h.first
    obtain ⟨r, hr⟩ := h.rank
    have hid := (atN_some hn).2
    obtain ⟨⟨xp, hxp⟩, hlt⟩ := hr n (atN_some hn).1 (by rw [hid]; exact h1)
    rw [hid] at hlt
    have hne : n.2.1 ≠ id := fun e => by rw [e] at hlt; omega
    have at_ : ∀ i x, i ≠ id → atN i L = some x → atN i ((delN id L).map (reUp id n.2.1)) = some (reUp id n.2.1 x) := fun i x hi hx => by
      rw [atN_map (reUp_id _ _), atN_delN, if_neg hi, hx]
      rfl
    refine ⟨hg, ⟨u, ?_⟩, ⟨r, fun m' hm' hm1 => ?_⟩, fun m' hm' => ?_⟩
    · rw [at_ _ _ (fun e => h1 e.symm) hu]
      unfold reUp
      rw [if_neg (show ¬ (0 : Int) = id by omega)]
    · obtain ⟨m, hm, rfl⟩ := List.mem_map.1 hm'
      obtain ⟨hm, hmi⟩ := mem_delN.1 hm
      rw [reUp_id] at hm1 ⊢
      obtain ⟨⟨x, hx⟩, hl2⟩ := hr m hm hm1
      unfold reUp
      by_cases e : m.2.1 = id
      · rw [if_pos e]
        rw [e] at hl2
        exact ⟨⟨_, at_ _ _ hne hxp⟩, by simp only; omega⟩
      · rw [if_neg e]
        exact ⟨⟨_, at_ _ _ e hx⟩, hl2⟩
    · obtain ⟨m, hm, rfl⟩ := List.mem_map.1 hm'
      obtain ⟨hm, hmi⟩ := mem_delN.1 hm
      have h0 := h.left m hm
      have h2 := h.left n (atN_some hn).1
      have hcl2 := (h.closeLeft hn h1 m.1 hmi).2
      unfold leftNU at h0 h2 ⊢
      rw [reUp_id, hcl2]
      rw [hid] at h2
      have e3 : (reUp id n.2.1 m).2.2 = m.2.2 := by unfold reUp; split <;> rfl
      rw [e3]
      split <;> omega
  · unfold closeL
    rw [if_neg he]
    exact h
theorem Tree.setU {q : Int} {L : List Nd} (h : Tree q L) {id d : Int} (hg : GoodU (L.map (setU id d))) (hl : ∀ x, atN id L = some x → d ≤ leftL L id) : Tree q (L.map (setU id d)) := by
  obtain ⟨u, hu⟩ := h.first
  obtain ⟨r, hr⟩ := h.rank
  have at_ : ∀ i x, atN i L = some x → atN i (L.map (Go.Proofs.YtfpcoomkbmfchaaGreatDoor.setU id d)) = some (Go.Proofs.YtfpcoomkbmfchaaGreatDoor.setU id d x) := fun i x hx => by
    rw [atN_map (setU_id _ _), hx]
    rfl
  have hup : ∀ m : Nd, (Go.Proofs.YtfpcoomkbmfchaaGreatDoor.setU id d m).2.1 = m.2.1 := fun m => by unfold Go.Proofs.YtfpcoomkbmfchaaGreatDoor.setU; split <;> rfl
  refine ⟨hg, ?_, ⟨r, fun m' hm' hm1 => ?_⟩, fun m' hm' => ?_⟩
  · by_cases e : (1 : Int) = id
    · exact ⟨u + d, by rw [at_ _ _ hu]; unfold Go.Proofs.YtfpcoomkbmfchaaGreatDoor.setU; rw [if_pos e]⟩
    · exact ⟨u, by rw [at_ _ _ hu]; unfold Go.Proofs.YtfpcoomkbmfchaaGreatDoor.setU; rw [if_neg e]⟩
  · obtain ⟨m, hm, rfl⟩ := List.mem_map.1 hm'
    rw [setU_id] at hm1 ⊢
    rw [hup]
    obtain ⟨⟨x, hx⟩, hl2⟩ := hr m hm hm1
    exact ⟨⟨_, at_ _ _ hx⟩, hl2⟩
  · obtain ⟨m, hm, rfl⟩ := List.mem_map.1 hm'
    have h0 := h.left m hm
    unfold leftNU at h0 ⊢
    rw [setU_id, sumUp_map]
    unfold Go.Proofs.YtfpcoomkbmfchaaGreatDoor.setU
    split
    · rename_i e
      have := atN_mem h.good.up hm
      rw [e] at this
      have h3 := hl _ this
      rw [leftL_some this] at h3
      rw [e] at h0 ⊢
      simp only
      omega
    · exact h0
theorem Tree.charge {q : Int} {L : List Nd} (h : Tree q L) (id n : Int) : Tree q (chargeL L id n) := by
  have hg := h.good.charge id n
  by_cases he : chargeEU L id n = 0
  · have hcl : chargeL L id n = L.map (Go.Proofs.YtfpcoomkbmfchaaGreatDoor.setU id n) := by unfold chargeL; rw [if_pos he]
    rw [hcl] at hg ⊢
    exact h.setU hg fun _ _ => (chargeEU_zero.1 he).2.2
  · unfold chargeL
    rw [if_neg he]
    exact h
theorem Tree.leftL {q : Int} {L : List Nd} (h : Tree q L) (id : Int) : 0 ≤ leftL L id := by
  unfold Go.Proofs.YtfpcoomkbmfchaaGreatDoor.leftL
  cases e : atN id L with
  | none => exact Int.le_refl _
  | some x => exact h.left x (atN_some e).1
theorem Tree.refund {q : Int} {L : List Nd} (h : Tree q L) (id n : Int) : Tree q (refundL L id n) := by
  have hg := h.good.refund id n
  by_cases he : refundEU L id n = 0
  · have hcl : refundL L id n = L.map (Go.Proofs.YtfpcoomkbmfchaaGreatDoor.setU id (-n)) := by unfold refundL; rw [if_pos he]
    rw [hcl] at hg ⊢
    refine h.setU hg fun _ _ => ?_
    have := (fitB_iff.1 (refundEU_zero.1 he).1).2
    have := h.leftL id
    omega
  · unfold refundL
    rw [if_neg he]
    exact h
theorem Tree.play {q : Int} {L : List Nd} (h : Tree q L) (d id up n : Int) : Tree q (playL L d id up n) := by
  unfold playL
  split
  · exact h.open _ _ _
  split
  · exact h.close _
  split
  · exact h.charge _ _
  split
  · exact h.refund _ _
  exact h
end Go.Proofs.YtfpcoomkbmfchaaGreatDoor
