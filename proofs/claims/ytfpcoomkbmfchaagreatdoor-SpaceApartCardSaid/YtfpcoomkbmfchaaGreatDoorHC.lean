/- Texts of mine, joined: U9 U10 U12 U13 U14 U11 U15 U18 U19 U21. What each says and under which conditions stands at its head, below. -/
import Derived.Test.YtfpcoomkbmfchaaGreatDoorHA
/- Containers as slices; the contracts of the document's fits, At, Left, Same, New of layer 11. Condition: the slices lie in memory. -/
namespace Go.Proofs.YtfpcoomkbmfchaaGreatDoor
open Go.RowKit Go.Maps
set_option maxRecDepth 100000

/-- A slice of containers. -/
def NdsAt (w : World) (v : Value) (L : List Nd) : Prop := ∃ a c, v = .slice a L.length c ∧ (L = [] ∨ ∃ b, a = some ⟨b, 0, none⟩ ∧ b < w.heap.size ∧ ∀ i, i < L.length →
  w.cell? ⟨b, i * 4, none⟩ = some (.int .i64 (L.getD i default).1) ∧ w.cell? ⟨b, i * 4 + 1, none⟩ = some (.int .i64 (L.getD i default).2.1) ∧ w.cell? ⟨b, i * 4 + 2, none⟩ = some (.int .i64 (L.getD i default).2.2.1) ∧ w.cell? ⟨b, i * 4 + 3, none⟩ = some (.int .i64 (L.getD i default).2.2.2))
/-- Where a container is; -1: it is not there. -/
def atI (L : List Nd) (id : Int) : Int := if atN id L = none then -1 else (posN id L : Int)
end Go.Proofs.YtfpcoomkbmfchaaGreatDoor

/- The contract of the document's Charge of layer 11. Condition: the slice is the call's own. -/
namespace Go.Proofs.YtfpcoomkbmfchaaGreatDoor
open Go.RowKit Go.Maps
set_option maxRecDepth 100000

/-- What the document's calls leave: a list of their own, or the one that was. -/
def RPost (base : Nat) (w : World) (v : Value) (L' : List Nd) (er : Int) (e : Ending) (w' : World) : Prop := ∃ v', e = .returned (.tuple #[v', .int .i64 er]) ∧ w'.ownsRow base 72 4 v' L'.length (ndsV L') ∧ Below w.heap.size w w' ∧ ∀ g, v'.ownBlock = some g → v.ownBlock = some g ∨ w.heap.size ≤ g
end Go.Proofs.YtfpcoomkbmfchaaGreatDoor

/- The contract of the document's Open of layer 11. Condition: the slice is the call's own. -/
namespace Go.Proofs.YtfpcoomkbmfchaaGreatDoor
open Go.RowKit Go.Maps
set_option maxRecDepth 100000

end Go.Proofs.YtfpcoomkbmfchaaGreatDoor

/- The contract of the document's Open of layer 11, where it opens. Condition: the slice is the call's own. -/
namespace Go.Proofs.YtfpcoomkbmfchaaGreatDoor
open Go.RowKit Go.Maps
set_option maxRecDepth 100000

end Go.Proofs.YtfpcoomkbmfchaaGreatDoor

/- The contract of the document's Close of layer 11. Condition: the slice is the call's own. -/
namespace Go.Proofs.YtfpcoomkbmfchaaGreatDoor
open Go.RowKit Go.Maps
set_option maxRecDepth 100000

/-- What Close has gathered. -/
def cutR (L : List Nd) (id up : Int) (j : Nat) : List Nd := (delN id (L.take j)).map (reUp id up)
end Go.Proofs.YtfpcoomkbmfchaaGreatDoor

/- The contract of the document's Refund of layer 11. Condition: the slice is the call's own. -/
namespace Go.Proofs.YtfpcoomkbmfchaaGreatDoor
open Go.RowKit Go.Maps
set_option maxRecDepth 100000

end Go.Proofs.YtfpcoomkbmfchaaGreatDoor

/- A budget of a law's own; the contracts of its calls; awake; calls without a budget. Condition: the budget is the law's own, or there is none. -/
namespace Go.Proofs.YtfpcoomkbmfchaaGreatDoor
open Go.RowKit Go.Maps
set_option maxRecDepth 100000

/-- A budget of the law's own; of none of these blocks. -/
structure OB (W w : World) (b : Nat) (F : Nat → Prop) (L : List Nd) : Prop where
  ex : ∃ m P, BudAt w b m P L ∧ ∀ k, bB m P k → W.heap.size ≤ k ∧ ¬ F k
  below : Below W.heap.size W w
  nb : W.heap.size ≤ b
  flt : ∀ k, F k → k < w.heap.size
/-- These blocks are as they were. -/
structure KeptU (F : Nat → Prop) (w w' : World) : Prop where
  size : w.heap.size ≤ w'.heap.size
  block : ∀ k, F k → w'.heap[k]? = w.heap[k]?
section
variable {W w : World} {b : Nat} {F : Nat → Prop} {L : List Nd} (h : OB W w b F L)
include h
end
/-! Without a budget. -/
end Go.Proofs.YtfpcoomkbmfchaaGreatDoor

/- The walk of BudgetDeep. No condition. -/
namespace Go.Proofs.YtfpcoomkbmfchaaGreatDoor
open Go.RowKit Go.Maps
set_option maxRecDepth 100000

theorem sumUp_zero {id : Int} : ∀ {L : List Nd}, (∀ n ∈ L, n.2.1 ≠ id) → sumUp id L = 0
  | [], _ => rfl
  | n :: r, h => by
    unfold sumUp
    rw [if_neg (h n (by simp)), sumUp_zero (fun x hx => h x (List.mem_cons_of_mem _ hx))]
    rfl
theorem sumUp_map (id j d : Int) : ∀ (L : List Nd), sumUp id (L.map (setU j d)) = sumUp id L
  | [] => rfl
  | n :: r => by
    rw [List.map_cons]
    unfold sumUp
    rw [sumUp_map id j d r]
    unfold setU
    split <;> rfl
/-- Containers carved one out of the other: the last one, and its quota. -/
structure Deep (L : List Nd) (k hs : Int) : Prop where
  good : GoodU L
  pos : 1 ≤ k
  at_ : ∃ up, atN k L = some (k, up, hs, 0)
  out : ∀ n ∈ L, n.1 ≤ k
  kids : ∀ n ∈ L, n.2.1 < k
end Go.Proofs.YtfpcoomkbmfchaaGreatDoor

/- The contract of layer 11's play: a call on both. Condition: both say the same ahead. Written by gen/gen_u19.py. -/
namespace Go.Proofs.YtfpcoomkbmfchaaGreatDoor
open Go.RowKit Go.Maps
set_option maxRecDepth 100000

/-- The budget and the document's list say the same. -/
structure Pair11 (W w : World) (b : Nat) (v : Value) (L : List Nd) : Prop where
  ob : OB W w b (fun k => v.ownBlock = some k) L
  row : w.ownsRow W.heap.size 72 4 v L.length (ndsV L)
def playL (L : List Nd) (d id up n : Int) : List Nd := if d = 1 then openL L id up n else if d = 2 then closeL L id else if d = 3 then chargeL L id n else if d = 4 then refundL L id n else L
def PlayPostU (W : World) (b : Nat) (L' : List Nd) (e : Ending) (w' : World) : Prop := ∃ v', e = .returned (.tuple #[v', .bool true]) ∧ Pair11 W w' b v' L'
end Go.Proofs.YtfpcoomkbmfchaaGreatDoor

/- Containers as a tree: what calls keep; used and left together. Nothing of a program. -/
namespace Go.Proofs.YtfpcoomkbmfchaaGreatDoor
open Go.RowKit
set_option maxRecDepth 100000

def sumF (f : Nd → Int) : List Nd → Int
  | [] => 0
  | n :: r => f n + sumF f r
theorem sumF_congr {f g : Nd → Int} : ∀ {L : List Nd}, (∀ n ∈ L, f n = g n) → sumF f L = sumF g L
  | [], _ => rfl
  | n :: r, h => by
    unfold sumF
    rw [h n (by simp), sumF_congr (fun x hx => h x (List.mem_cons_of_mem _ hx))]
theorem sumF_sub (f g : Nd → Int) : ∀ (L : List Nd), sumF (fun n => f n - g n) L = sumF f L - sumF g L
  | [] => rfl
  | n :: r => by
    unfold sumF
    rw [sumF_sub f g r]
    omega
theorem sumF_add (f g : Nd → Int) : ∀ (L : List Nd), sumF (fun n => f n + g n) L = sumF f L + sumF g L
  | [] => rfl
  | n :: r => by
    unfold sumF
    rw [sumF_add f g r]
    omega
theorem sumF_zero : ∀ (L : List Nd), sumF (fun _ => 0) L = 0
  | [] => rfl
  | n :: r => by
    unfold sumF
    rw [sumF_zero r]
    rfl
theorem sumF_ones (c v : Int) : ∀ {M : List Nd}, M.Pairwise (fun a b => a.1 < b.1) → sumF (fun n => if c = n.1 then v else 0) M = if (atN c M).isSome = true then v else 0
  | [], _ => rfl
  | n :: r, hp => by
    obtain ⟨h1, h2⟩ := List.pairwise_cons.1 hp
    have ih := sumF_ones c v h2
    unfold sumF
    by_cases e : c = n.1
    · have hn : atN c r = none := atN_none.2 fun x hx => by have := h1 x hx; omega
      rw [hn] at ih
      have hs : atN c (n :: r) = some n := by unfold atN; rw [if_pos e.symm]
      rw [ih, hs]
      simp [e]
    · have hs : atN c (n :: r) = atN c r := by rw [atN, if_neg (fun x => e x.symm)]
      rw [ih, hs, if_neg e]
      omega
theorem sumF_swap {M : List Nd} (hp : M.Pairwise (fun a b => a.1 < b.1)) : ∀ (K : List Nd), sumF (fun n => sumUp n.1 K) M = sumF (fun c => if (atN c.2.1 M).isSome = true then c.2.2.1 else 0) K
  | [] => by simp [sumUp, sumF, sumF_zero]
  | c :: r => by
    unfold sumUp
    rw [sumF_add, sumF_swap hp r, sumF_ones _ _ hp]
    rfl

/-- Containers as a tree, carved from the first one. -/
structure Tree (q : Int) (L : List Nd) : Prop where
  good : GoodU L
  first : ∃ u, atN 1 L = some (1, 0, q, u)
  rank : ∃ r : Int → Nat, ∀ n ∈ L, n.1 ≠ 1 → (∃ x, atN n.2.1 L = some x) ∧ r n.2.1 < r n.1
  left : ∀ n ∈ L, 0 ≤ leftNU L n
theorem Tree.one {q : Int} (h : 0 ≤ q ∧ q ≤ 65536) : Tree q [(1, 0, q, 0)] := by
  refine ⟨GoodU.one q h.1 h.2, ⟨0, rfl⟩, ⟨fun _ => 0, fun n hn => ?_⟩, fun n hn => ?_⟩
  · simp only [List.mem_singleton] at hn
    subst hn
    intro h
    exact absurd rfl h
  · simp only [List.mem_singleton] at hn
    subst hn
    simp [leftNU, sumUp]
    omega
/-- Who is carved from one is carved from one that is there. -/
theorem Tree.noUp {q : Int} {L : List Nd} (h : Tree q L) {id : Int} (h1 : 1 ≤ id) (hn : atN id L = none) : ∀ n ∈ L, n.2.1 ≠ id := fun n hm e => by
  obtain ⟨r, hr⟩ := h.rank
  by_cases c : n.1 = 1
  · obtain ⟨u, hu⟩ := h.first
    have := atN_mem h.good.up hm
    rw [c, hu] at this
    cases this
    simp only at e
    omega
  · obtain ⟨⟨x, hx⟩, _⟩ := hr n hm c
    rw [e, hn] at hx
    cases hx
/-- Used and left together. -/
theorem Tree.total {q : Int} {L : List Nd} (h : Tree q L) : sumF (fun n => n.2.2.2 + leftNU L n) L = q := by
  obtain ⟨r, hr⟩ := h.rank
  obtain ⟨u, hu⟩ := h.first
  have e1 : sumF (fun n => n.2.2.2 + leftNU L n) L = sumF (fun n => n.2.2.1 - sumUp n.1 L) L := sumF_congr fun n _ => by unfold leftNU; omega
  rw [e1, sumF_sub, sumF_swap h.good.up, ← sumF_sub]
  have e2 : sumF (fun n => n.2.2.1 - if (atN n.2.1 L).isSome = true then n.2.2.1 else 0) L = sumF (fun n => if (1 : Int) = n.1 then q else 0) L := sumF_congr fun n hm => by
    by_cases c : n.1 = 1
    · have hn := atN_mem h.good.up hm
      rw [c, hu] at hn
      cases hn
      have h0 : atN 0 L = none := atN_none.2 fun x hx => by have := (h.good.ok x hx).1; omega
      simp [h0]
    · obtain ⟨⟨x, hx⟩, _⟩ := hr n hm c
      rw [hx, if_neg (show ¬ (1 : Int) = n.1 from fun e => c e.symm)]
      simp
  rw [e2, sumF_ones _ _ h.good.up, hu]
  rfl
theorem Tree.open {q : Int} {L : List Nd} (h : Tree q L) (id up n : Int) : Tree q (openL L id up n) := by
  by_cases he : openEU L id up n = 0
  · have hg := h.good.open id up n
    obtain ⟨⟨hf1, hf2⟩, ⟨nu, hnu⟩, hno, hle⟩ := openEU_zero.1 he
    have hol : openL L id up n = insN (id, up, n, 0) L := by unfold openL; rw [if_pos he]
    rw [hol] at hg ⊢
    have hne := atN_none.1 hno
    have b1 := fitB_iff.1 hf1
    obtain ⟨u, hu⟩ := h.first
    obtain ⟨r, hr⟩ := h.rank
    have hid1 : (1 : Int) ≠ id := fun e => by rw [← e, hu] at hno; cases hno
    have hupid : up ≠ id := fun e => by rw [e, hno] at hnu; cases hnu
    have hno2 := h.noUp b1.1.1 hno
    have at_ : ∀ i x, atN i L = some x → atN i (insN (id, up, n, 0) L) = some x := fun i x hx => by
      rw [atN_insN hne, if_neg (show i ≠ id from fun e => by rw [e, hno] at hx; cases hx), hx]
    refine ⟨hg, ⟨u, at_ _ _ hu⟩, ⟨fun i => if i = id then r up + 1 else r i, fun m hm h1 => ?_⟩, fun m hm => ?_⟩
    · rcases mem_insN.1 hm with rfl | hm
      · refine ⟨⟨nu, at_ _ _ hnu⟩, ?_⟩
        simp only
        rw [if_neg hupid, if_pos trivial]
        omega
      · obtain ⟨⟨x, hx⟩, hlt⟩ := hr m hm h1
        refine ⟨⟨x, at_ _ _ hx⟩, ?_⟩
        simp only
        rw [if_neg (hno2 m hm), if_neg (hne m hm)]
        exact hlt
    · unfold leftNU
      rw [sumUp_insN]
      rcases mem_insN.1 hm with rfl | hm
      · simp only
        rw [if_neg hupid, sumUp_zero hno2]
        omega
      · have h0 := h.left m hm
        unfold leftNU at h0
        simp only
        split
        · rename_i e
          have := atN_mem h.good.up hm
          rw [← e] at this
          rw [leftL_some this, e] at hle
          omega
        · omega
  · unfold openL
    rw [if_neg he]
    exact h
theorem Tree.setU {q : Int} {L : List Nd} (h : Tree q L) {id d : Int} (hg : GoodU (L.map (setU id d))) (hl : ∀ x, atN id L = some x → d ≤ leftL L id) : Tree q (L.map (setU id d)) := by
  obtain ⟨u, hu⟩ := h.first
  obtain ⟨r, hr⟩ := h.rank
  have at_ : ∀ i x, atN i L = some x → atN i (L.map (Go.Proofs.YtfpcoomkbmfchaaGreatDoor.setU id d)) = some (Go.Proofs.YtfpcoomkbmfchaaGreatDoor.setU id d x) := fun i x hx => by
    rw [atN_map (setU_id _ _), hx]
    rfl
  have hup : ∀ m : Nd, (Go.Proofs.YtfpcoomkbmfchaaGreatDoor.setU id d m).2.1 = m.2.1 := fun m => by unfold Go.Proofs.YtfpcoomkbmfchaaGreatDoor.setU; split <;> rfl
  refine ⟨hg, ?_, ⟨r, fun m' hm' hm1 => ?_⟩, fun m' hm' => ?_⟩
  · by_cases e : (1 : Int) = id
    · exact ⟨u + d, by rw [at_ _ _ hu]; unfold Go.Proofs.YtfpcoomkbmfchaaGreatDoor.setU; rw [if_pos e]⟩
    · exact ⟨u, by rw [at_ _ _ hu]; unfold Go.Proofs.YtfpcoomkbmfchaaGreatDoor.setU; rw [if_neg e]⟩
  · obtain ⟨m, hm, rfl⟩ := List.mem_map.1 hm'
    rw [setU_id] at hm1 ⊢
    rw [hup]
    obtain ⟨⟨x, hx⟩, hl2⟩ := hr m hm hm1
    exact ⟨⟨_, at_ _ _ hx⟩, hl2⟩
  · obtain ⟨m, hm, rfl⟩ := List.mem_map.1 hm'
    have h0 := h.left m hm
    unfold leftNU at h0 ⊢
    rw [setU_id, sumUp_map]
    unfold Go.Proofs.YtfpcoomkbmfchaaGreatDoor.setU
    split
    · rename_i e
      have := atN_mem h.good.up hm
      rw [e] at this
      have h3 := hl _ this
      rw [leftL_some this] at h3
      rw [e] at h0 ⊢
      simp only
      omega
    · exact h0
theorem Tree.charge {q : Int} {L : List Nd} (h : Tree q L) (id n : Int) : Tree q (chargeL L id n) := by
  have hg := h.good.charge id n
  by_cases he : chargeEU L id n = 0
  · have hcl : chargeL L id n = L.map (Go.Proofs.YtfpcoomkbmfchaaGreatDoor.setU id n) := by unfold chargeL; rw [if_pos he]
    rw [hcl] at hg ⊢
    exact h.setU hg fun _ _ => (chargeEU_zero.1 he).2.2
  · unfold chargeL
    rw [if_neg he]
    exact h
theorem Tree.leftL {q : Int} {L : List Nd} (h : Tree q L) (id : Int) : 0 ≤ leftL L id := by
  unfold Go.Proofs.YtfpcoomkbmfchaaGreatDoor.leftL
  cases e : atN id L with
  | none => exact Int.le_refl _
  | some x => exact h.left x (atN_some e).1
theorem Tree.refund {q : Int} {L : List Nd} (h : Tree q L) (id n : Int) : Tree q (refundL L id n) := by
  have hg := h.good.refund id n
  by_cases he : refundEU L id n = 0
  · have hcl : refundL L id n = L.map (Go.Proofs.YtfpcoomkbmfchaaGreatDoor.setU id (-n)) := by unfold refundL; rw [if_pos he]
    rw [hcl] at hg ⊢
    refine h.setU hg fun _ _ => ?_
    have := (fitB_iff.1 (refundEU_zero.1 he).1).2
    have := h.leftL id
    omega
  · unfold refundL
    rw [if_neg he]
    exact h
end Go.Proofs.YtfpcoomkbmfchaaGreatDoor
