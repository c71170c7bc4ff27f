/- Containers as a tree: what calls keep; used and left together. Nothing of a program. -/
import Derived.Test.YtedeifejokcleaaU18
import Derived.Test.YtedeifejokcleaaU19
namespace Go.Proofs.Ytedeifejokcleaa
open Go.RowKit
set_option maxRecDepth 100000

def sumF (f : Nd → Int) : List Nd → Int
  | [] => 0
  | n :: r => f n + sumF f r
theorem sumF_congr {f g : Nd → Int} : ∀ {L : List Nd}, (∀ n ∈ L, f n = g n) → sumF f L = sumF g L
  | [], _ => rfl
  | n :: r, h => by
    unfold sumF
    rw [h n (by simp), sumF_congr (fun x hx => h x (List.mem_cons_of_mem _ hx))]
theorem sumF_sub (f g : Nd → Int) : ∀ (L : List Nd), sumF (fun n => f n - g n) L = sumF f L - sumF g L
  | [] => rfl
  | n :: r => by
    unfold sumF
    rw [sumF_sub f g r]
    omega
theorem sumF_add (f g : Nd → Int) : ∀ (L : List Nd), sumF (fun n => f n + g n) L = sumF f L + sumF g L
  | [] => rfl
  | n :: r => by
    unfold sumF
    rw [sumF_add f g r]
    omega
theorem sumF_zero : ∀ (L : List Nd), sumF (fun _ => 0) L = 0
  | [] => rfl
  | n :: r => by
    unfold sumF
    rw [sumF_zero r]
    rfl
theorem sumF_append (f : Nd → Int) (A B : List Nd) : sumF f (A ++ B) = sumF f A + sumF f B := by
  induction A with
  | nil => simp [sumF]
  | cons n r ih => simp only [List.cons_append, sumF, ih]; omega
theorem sumF_ones (c v : Int) : ∀ {M : List Nd}, M.Pairwise (fun a b => a.1 < b.1) → sumF (fun n => if c = n.1 then v else 0) M = if (atN c M).isSome = true then v else 0
  | [], _ => rfl
  | n :: r, hp => by
    obtain ⟨h1, h2⟩ := List.pairwise_cons.1 hp
    have ih := sumF_ones c v h2
    unfold sumF
    by_cases e : c = n.1
    · have hn : atN c r = none := atN_none.2 fun x hx => by have := h1 x hx; omega
      rw [hn] at ih
      have hs : atN c (n :: r) = some n := by unfold atN; rw [if_pos e.symm]
      rw [ih, hs]
      simp [e]
    · have hs : atN c (n :: r) = atN c r := by rw [atN, if_neg (fun x => e x.symm)]
      rw [ih, hs, if_neg e]
      omega
theorem sumF_swap {M : List Nd} (hp : M.Pairwise (fun a b => a.1 < b.1)) : ∀ (K : List Nd), sumF (fun n => sumUp n.1 K) M = sumF (fun c => if (atN c.2.1 M).isSome = true then c.2.2.1 else 0) K
  | [] => by simp [sumUp, sumF, sumF_zero]
  | c :: r => by
    unfold sumUp
    rw [sumF_add, sumF_swap hp r, sumF_ones _ _ hp]
    rfl

/-- Containers as a tree, carved from the first one. -/
structure Tree (q : Int) (L : List Nd) : Prop where
  good : Good L
  first : ∃ u, atN 1 L = some (1, 0, q, u)
  rank : ∃ r : Int → Nat, ∀ n ∈ L, n.1 ≠ 1 → (∃ x, atN n.2.1 L = some x) ∧ r n.2.1 < r n.1
  left : ∀ n ∈ L, 0 ≤ leftN L n
theorem Tree.one {q : Int} (h : 0 ≤ q ∧ q ≤ 65536) : Tree q [(1, 0, q, 0)] := by
  refine ⟨Good.one q h.1 h.2, ⟨0, rfl⟩, ⟨fun _ => 0, fun n hn => ?_⟩, fun n hn => ?_⟩
  · simp only [List.mem_singleton] at hn
    subst hn
    intro h
    exact absurd rfl h
  · simp only [List.mem_singleton] at hn
    subst hn
    simp [leftN, sumUp]
    omega
/-- Who is carved from one is carved from one that is there. -/
theorem Tree.noUp {q : Int} {L : List Nd} (h : Tree q L) {id : Int} (h1 : 1 ≤ id) (hn : atN id L = none) : ∀ n ∈ L, n.2.1 ≠ id := fun n hm e => by
  obtain ⟨r, hr⟩ := h.rank
  by_cases c : n.1 = 1
  · obtain ⟨u, hu⟩ := h.first
    have := atN_mem h.good.up hm
    rw [c, hu] at this
    cases this
    simp only at e
    omega
  · obtain ⟨⟨x, hx⟩, _⟩ := hr n hm c
    rw [e, hn] at hx
    cases hx
/-- Used and left together. -/
theorem Tree.total {q : Int} {L : List Nd} (h : Tree q L) : sumF (fun n => n.2.2.2 + leftN L n) L = q := by
  obtain ⟨r, hr⟩ := h.rank
  obtain ⟨u, hu⟩ := h.first
  have e1 : sumF (fun n => n.2.2.2 + leftN L n) L = sumF (fun n => n.2.2.1 - sumUp n.1 L) L := sumF_congr fun n _ => by unfold leftN; omega
  rw [e1, sumF_sub, sumF_swap h.good.up, ← sumF_sub]
  have e2 : sumF (fun n => n.2.2.1 - if (atN n.2.1 L).isSome = true then n.2.2.1 else 0) L = sumF (fun n => if (1 : Int) = n.1 then q else 0) L := sumF_congr fun n hm => by
    by_cases c : n.1 = 1
    · have hn := atN_mem h.good.up hm
      rw [c, hu] at hn
      cases hn
      have h0 : atN 0 L = none := atN_none.2 fun x hx => by have := (h.good.ok x hx).1; omega
      simp [h0]
    · obtain ⟨⟨x, hx⟩, _⟩ := hr n hm c
      rw [hx, if_neg (show ¬ (1 : Int) = n.1 from fun e => c e.symm)]
      simp
  rw [e2, sumF_ones _ _ h.good.up, hu]
  rfl
theorem Tree.open {q : Int} {L : List Nd} (h : Tree q L) (id up n : Int) : Tree q (openL L id up n) := by
  by_cases he : openE L id up n = 0
  · have hg := h.good.open id up n
    obtain ⟨⟨hf1, hf2⟩, ⟨nu, hnu⟩, hno, hle⟩ := openE_zero.1 he
    have hol : openL L id up n = insN (id, up, n, 0) L := by unfold openL; rw [if_pos he]
    rw [hol] at hg ⊢
    have hne := atN_none.1 hno
    have b1 := fitB_iff.1 hf1
    obtain ⟨u, hu⟩ := h.first
    obtain ⟨r, hr⟩ := h.rank
    have hid1 : (1 : Int) ≠ id := fun e => by rw [← e, hu] at hno; cases hno
    have hupid : up ≠ id := fun e => by rw [e, hno] at hnu; cases hnu
    have hno2 := h.noUp b1.1.1 hno
    have at_ : ∀ i x, atN i L = some x → atN i (insN (id, up, n, 0) L) = some x := fun i x hx => by
      rw [atN_insN hne, if_neg (show i ≠ id from fun e => by rw [e, hno] at hx; cases hx), hx]
    refine ⟨hg, ⟨u, at_ _ _ hu⟩, ⟨fun i => if i = id then r up + 1 else r i, fun m hm h1 => ?_⟩, fun m hm => ?_⟩
    · rcases mem_insN.1 hm with rfl | hm
      · refine ⟨⟨nu, at_ _ _ hnu⟩, ?_⟩
        simp only
        rw [if_neg hupid, if_pos trivial]
        omega
      · obtain ⟨⟨x, hx⟩, hlt⟩ := hr m hm h1
        refine ⟨⟨x, at_ _ _ hx⟩, ?_⟩
        simp only
        rw [if_neg (hno2 m hm), if_neg (hne m hm)]
        exact hlt
    · unfold leftN
      rw [sumUp_insN]
      rcases mem_insN.1 hm with rfl | hm
      · simp only
        rw [if_neg hupid, sumUp_zero hno2]
        omega
      · have h0 := h.left m hm
        unfold leftN at h0
        simp only
        split
        · rename_i e
          have := atN_mem h.good.up hm
          rw [← e] at this
          rw [leftL_some this, e] at hle
          omega
        · omega
  · unfold openL
    rw [if_neg he]
    exact h
theorem sumUp_del (i id : Int) : ∀ {L : List Nd}, L.Pairwise (fun a b => a.1 < b.1) → ∀ {n : Nd}, atN id L = some n → sumUp i L = sumUp i (delN id L) + (if n.2.1 = i then n.2.2.1 else 0)
  | y :: r, hp, n, h => by
    obtain ⟨h1, h2⟩ := List.pairwise_cons.1 hp
    unfold atN at h
    by_cases e : y.1 = id
    · rw [if_pos e] at h
      cases h
      have : delN id (y :: r) = r := by
        unfold delN
        rw [List.filter_cons_of_neg (by simpa using e), List.filter_eq_self]
        intro x hx
        have := h1 x hx
        simp; omega
      rw [this, sumUp]
      omega
    · rw [if_neg e] at h
      have ih := sumUp_del i id h2 h
      have : delN id (y :: r) = y :: delN id r := by
        unfold delN
        rw [List.filter_cons_of_pos (by simpa using e)]
      rw [this, sumUp, sumUp, ih]
      omega
theorem sumUp_re (i id p : Int) (hi : i ≠ id) : ∀ (M : List Nd), sumUp i (M.map (reUp id p)) = sumUp i M + (if p = i then sumUp id M else 0)
  | [] => by simp [sumUp]
  | y :: r => by
    have ih := sumUp_re i id p hi r
    rw [List.map_cons, sumUp, ih, sumUp, sumUp]
    unfold reUp
    by_cases e : y.2.1 = id
    · rw [if_pos e, if_pos e, if_neg (show ¬ y.2.1 = i by omega)]
      simp only
      split <;> omega
    · rw [if_neg e, if_neg e]
      split <;> split <;> omega
/-- What is left of others, behind a close. -/
theorem Tree.closeLeft {q : Int} {L : List Nd} (h : Tree q L) {id : Int} {n : Nd} (hn : atN id L = some n) (h1 : id ≠ 1) (i : Int) (hi : i ≠ id) : n.2.1 ≠ id ∧ sumUp i ((delN id L).map (reUp id n.2.1)) = sumUp i L - (if n.2.1 = i then n.2.2.1 - sumUp id L else 0) := by
  obtain ⟨r, hr⟩ := h.rank
  have hid := (atN_some hn).2
  obtain ⟨_, hlt⟩ := hr n (atN_some hn).1 (by rw [hid]; exact h1)
  rw [hid] at hlt
  have hne : n.2.1 ≠ id := fun e => by rw [e] at hlt; omega
  refine ⟨hne, ?_⟩
  rw [sumUp_re _ _ _ hi, sumUp_del i id h.good.up hn, sumUp_del id id h.good.up hn, if_neg hne]
  split <;> omega
theorem Tree.close {q : Int} {L : List Nd} (h : Tree q L) (id : Int) : Tree q (closeL L id) := by
  by_cases he : closeE L id = 0
  · have hg := h.good.close id
    obtain ⟨hf, h1, n, hn, hu0⟩ := closeE_zero.1 he
    have hcl : closeL L id = (delN id L).map (reUp id n.2.1) := by
      unfold closeL upN
      rw [if_pos he, hn]
      rfl
    rw [hcl] at hg ⊢
    have b1 := fitB_iff.1 hf
    obtain ⟨u, hu⟩ := h.first
    obtain ⟨r, hr⟩ := h.rank
    have hid := (atN_some hn).2
    obtain ⟨⟨xp, hxp⟩, hlt⟩ := hr n (atN_some hn).1 (by rw [hid]; exact h1)
    rw [hid] at hlt
    have hne : n.2.1 ≠ id := fun e => by rw [e] at hlt; omega
    have at_ : ∀ i x, i ≠ id → atN i L = some x → atN i ((delN id L).map (reUp id n.2.1)) = some (reUp id n.2.1 x) := fun i x hi hx => by
      rw [atN_map (reUp_id _ _), atN_delN, if_neg hi, hx]
      rfl
    refine ⟨hg, ⟨u, ?_⟩, ⟨r, fun m' hm' hm1 => ?_⟩, fun m' hm' => ?_⟩
    · rw [at_ _ _ (fun e => h1 e.symm) hu]
      unfold reUp
      rw [if_neg (show ¬ (0 : Int) = id by omega)]
    · obtain ⟨m, hm, rfl⟩ := List.mem_map.1 hm'
      obtain ⟨hm, hmi⟩ := mem_delN.1 hm
      rw [reUp_id] at hm1 ⊢
      obtain ⟨⟨x, hx⟩, hl2⟩ := hr m hm hm1
      unfold reUp
      by_cases e : m.2.1 = id
      · rw [if_pos e]
        rw [e] at hl2
        exact ⟨⟨_, at_ _ _ hne hxp⟩, by simp only; omega⟩
      · rw [if_neg e]
        exact ⟨⟨_, at_ _ _ e hx⟩, hl2⟩
    · obtain ⟨m, hm, rfl⟩ := List.mem_map.1 hm'
      obtain ⟨hm, hmi⟩ := mem_delN.1 hm
      have h0 := h.left m hm
      have h2 := h.left n (atN_some hn).1
      have hcl2 := (h.closeLeft hn h1 m.1 hmi).2
      unfold leftN at h0 h2 ⊢
      rw [reUp_id, hcl2]
      rw [hid] at h2
      have e3 : (reUp id n.2.1 m).2.2 = m.2.2 := by unfold reUp; split <;> rfl
      rw [e3]
      split <;> omega
  · unfold closeL
    rw [if_neg he]
    exact h
theorem Tree.setU {q : Int} {L : List Nd} (h : Tree q L) {id d : Int} (hg : Good (L.map (setU id d))) (hl : ∀ x, atN id L = some x → d ≤ leftL L id) : Tree q (L.map (setU id d)) := by
  obtain ⟨u, hu⟩ := h.first
  obtain ⟨r, hr⟩ := h.rank
  have at_ : ∀ i x, atN i L = some x → atN i (L.map (Go.Proofs.Ytedeifejokcleaa.setU id d)) = some (Go.Proofs.Ytedeifejokcleaa.setU id d x) := fun i x hx => by
    rw [atN_map (setU_id _ _), hx]
    rfl
  have hup : ∀ m : Nd, (Go.Proofs.Ytedeifejokcleaa.setU id d m).2.1 = m.2.1 := fun m => by unfold Go.Proofs.Ytedeifejokcleaa.setU; split <;> rfl
  refine ⟨hg, ?_, ⟨r, fun m' hm' hm1 => ?_⟩, fun m' hm' => ?_⟩
  · by_cases e : (1 : Int) = id
    · exact ⟨u + d, by rw [at_ _ _ hu]; unfold Go.Proofs.Ytedeifejokcleaa.setU; rw [if_pos e]⟩
    · exact ⟨u, by rw [at_ _ _ hu]; unfold Go.Proofs.Ytedeifejokcleaa.setU; rw [if_neg e]⟩
  · obtain ⟨m, hm, rfl⟩ := List.mem_map.1 hm'
    rw [setU_id] at hm1 ⊢
    rw [hup]
    obtain ⟨⟨x, hx⟩, hl2⟩ := hr m hm hm1
    exact ⟨⟨_, at_ _ _ hx⟩, hl2⟩
  · obtain ⟨m, hm, rfl⟩ := List.mem_map.1 hm'
    have h0 := h.left m hm
    unfold leftN at h0 ⊢
    rw [setU_id, sumUp_map]
    unfold Go.Proofs.Ytedeifejokcleaa.setU
    split
    · rename_i e
      have := atN_mem h.good.up hm
      rw [e] at this
      have h3 := hl _ this
      rw [leftL_some this] at h3
      rw [e] at h0 ⊢
      simp only
      omega
    · exact h0
theorem Tree.charge {q : Int} {L : List Nd} (h : Tree q L) (id n : Int) : Tree q (chargeL L id n) := by
  have hg := h.good.charge id n
  by_cases he : chargeE L id n = 0
  · have hcl : chargeL L id n = L.map (Go.Proofs.Ytedeifejokcleaa.setU id n) := by unfold chargeL; rw [if_pos he]
    rw [hcl] at hg ⊢
    exact h.setU hg fun _ _ => (chargeE_zero.1 he).2.2
  · unfold chargeL
    rw [if_neg he]
    exact h
theorem Tree.leftL {q : Int} {L : List Nd} (h : Tree q L) (id : Int) : 0 ≤ leftL L id := by
  unfold Go.Proofs.Ytedeifejokcleaa.leftL
  cases e : atN id L with
  | none => exact Int.le_refl _
  | some x => exact h.left x (atN_some e).1
theorem Tree.refund {q : Int} {L : List Nd} (h : Tree q L) (id n : Int) : Tree q (refundL L id n) := by
  have hg := h.good.refund id n
  by_cases he : refundE L id n = 0
  · have hcl : refundL L id n = L.map (Go.Proofs.Ytedeifejokcleaa.setU id (-n)) := by unfold refundL; rw [if_pos he]
    rw [hcl] at hg ⊢
    refine h.setU hg fun _ _ => ?_
    have := (fitB_iff.1 (refundE_zero.1 he).1).2
    have := h.leftL id
    omega
  · unfold refundL
    rw [if_neg he]
    exact h
theorem Tree.play {q : Int} {L : List Nd} (h : Tree q L) (d id up n : Int) : Tree q (playL L d id up n) := by
  unfold playL
  split
  · exact h.open _ _ _
  split
  · exact h.close _
  split
  · exact h.charge _ _
  split
  · exact h.refund _ _
  exact h
end Go.Proofs.Ytedeifejokcleaa
