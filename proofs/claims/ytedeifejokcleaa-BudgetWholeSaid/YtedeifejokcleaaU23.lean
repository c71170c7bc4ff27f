/- BudgetWhole: what its rounds hold; what is left of others. Condition: named in the theorems. -/
import Derived.Test.YtedeifejokcleaaOU
import Derived.Test.YtedeifejokcleaaU21
namespace Go.Proofs.Ytedeifejokcleaa
open Go.RowKit Go.Maps
set_option maxRecDepth 100000

/-- What is left of each, as a row of cells. -/
def lftV (L K : List Nd) : List Value := K.map fun n => Value.int .i64 (leftN L n)
theorem lftV_snoc (L K : List Nd) (n : Nd) : lftV L (K ++ [n]) = lftV L K ++ [.int .i64 (leftN L n)] := by simp [lftV]
theorem lftV_get {L K : List Nd} {i : Nat} (h : i < K.length) : (lftV L K)[i]? = some (.int .i64 (leftN L (K.getD i default))) := by
  simp [lftV, List.getD_eq_getElem?_getD, List.getElem?_eq_getElem h]
/-- What a round holds. -/
structure WhSt (W w : World) (b B0 : Nat) (vw vl : Value) (L L' : List Nd) (d id up k : Int) : Prop where
  ob : OB W w b (fun g => g = B0 ∨ vw.ownBlock = some g ∨ vl.ownBlock = some g) L'
  box : w.heap[B0]? = some (.cells #[.int .i64 d, .int .i64 id, .int .i64 up, .int .i64 k] 34 (0, 0))
  was : w.ownsRow W.heap.size 49 4 vw L.length (ndsV L)
  left : w.ownsRow W.heap.size 3 1 vl L.length (lftV L L)
theorem WhSt.step {W w w' : World} {b B0 : Nat} {vw vl : Value} {L L' : List Nd} {d id up k : Int} (h : WhSt W w b B0 vw vl L L' d id up k) (hb : Below w.heap.size w w') : WhSt W w' b B0 vw vl L L' d id up k :=
  ⟨h.ob.step hb, below_block hb h.box, own_step h.was hb, own_step h.left hb⟩
theorem WhSt.turn {W w w' : World} {b B0 : Nat} {vw vl : Value} {L L' L2 : List Nd} {d id up k : Int} (h : WhSt W w b B0 vw vl L L' d id up k) (h1 : OB W w' b (fun g => g = B0 ∨ vw.ownBlock = some g ∨ vl.ownBlock = some g) L2) (h2 : Kept (fun g => g = B0 ∨ vw.ownBlock = some g ∨ vl.ownBlock = some g) w w') : WhSt W w' b B0 vw vl L L2 d id up k :=
  ⟨h1, (h2.block _ (Or.inl rfl)).trans h.box, h2.own h.was (fun _ hg => Or.inr (Or.inl hg)), h2.own h.left (fun _ hg => Or.inr (Or.inr hg))⟩
theorem leftL_in {L : List Nd} (hp : L.Pairwise (fun a b => a.1 < b.1)) {n : Nd} (hn : n ∈ L) : leftL L n.1 = leftN L n := by
  unfold leftL
  rw [atN_mem hp hn]
  rfl
/-- What is left of others: a call on one changes it of no other one, but of the one that it is carved from, or goes to. -/
theorem open_far {L : List Nd} (id up n i : Int) (h1 : i ≠ id) (h2 : i ≠ up) : leftL (openL L id up n) i = leftL L i := by
  by_cases he : openE L id up n = 0
  · obtain ⟨_, _, hno, _⟩ := openE_zero.1 he
    have hol : openL L id up n = insN (id, up, n, 0) L := by unfold openL; rw [if_pos he]
    rw [hol]
    unfold leftL
    rw [atN_insN (atN_none.1 hno), if_neg h1]
    cases e : atN i L with
    | none => rfl
    | some x =>
      have := (atN_some e).2
      simp only [leftO, leftN]
      rw [sumUp_insN, if_neg (show ¬ up = x.1 by omega)]
      omega
  · unfold openL
    rw [if_neg he]
theorem set_far {L : List Nd} (id d i : Int) (h1 : i ≠ id) : leftL (L.map (setU id d)) i = leftL L i := by
  unfold leftL
  rw [atN_map (setU_id _ _)]
  cases e : atN i L with
  | none => rfl
  | some x =>
    have := (atN_some e).2
    rw [Option.map_some]
    simp only [leftO, leftN]
    rw [sumUp_map, setU_id]
    unfold setU
    rw [if_neg (by omega)]
theorem charge_far {L : List Nd} (id n i : Int) (h1 : i ≠ id) : leftL (chargeL L id n) i = leftL L i := by
  unfold chargeL
  split
  · exact set_far id n i h1
  · rfl
theorem refund_far {L : List Nd} (id n i : Int) (h1 : i ≠ id) : leftL (refundL L id n) i = leftL L i := by
  unfold refundL
  split
  · exact set_far id _ i h1
  · rfl
theorem close_far {q : Int} {L : List Nd} (h : Tree q L) (id i : Int) (h1 : i ≠ id) (h2 : ∀ x, atN id L = some x → i ≠ x.2.1) : leftL (closeL L id) i = leftL L i := by
  by_cases he : closeE L id = 0
  · obtain ⟨_, hid1, n, hn, _⟩ := closeE_zero.1 he
    have hcl : closeL L id = (delN id L).map (reUp id n.2.1) := by
      unfold closeL upN
      rw [if_pos he, hn]
      rfl
    rw [hcl]
    unfold leftL
    rw [atN_map (reUp_id _ _), atN_delN, if_neg h1]
    cases e : atN i L with
    | none => rfl
    | some x =>
      have hx := (atN_some e).2
      rw [Option.map_some]
      simp only [leftO, leftN]
      rw [reUp_id, hx, (h.closeLeft hn hid1 i h1).2, if_neg (fun e => h2 n hn e.symm)]
      have e3 : (reUp id n.2.1 x).2.2 = x.2.2 := by unfold reUp; split <;> rfl
      rw [e3]
      omega
  · unfold closeL
    rw [if_neg he]
theorem openL_stay {L : List Nd} {id up n er : Int} (h : openE L id up n = er) (hne : er ≠ 0) : openL L id up n = L := by unfold openL; rw [if_neg (by rw [h]; exact hne)]
theorem closeL_stay {L : List Nd} {id er : Int} (h : closeE L id = er) (hne : er ≠ 0) : closeL L id = L := by unfold closeL; rw [if_neg (by rw [h]; exact hne)]
theorem chargeL_stay {L : List Nd} {id n er : Int} (h : chargeE L id n = er) (hne : er ≠ 0) : chargeL L id n = L := by unfold chargeL; rw [if_neg (by rw [h]; exact hne)]
theorem refundL_stay {L : List Nd} {id n er : Int} (h : refundE L id n = er) (hne : er ≠ 0) : refundL L id n = L := by unfold refundL; rw [if_neg (by rw [h]; exact hne)]
theorem sumF_part {q : Int} {L : List Nd} (h : Tree q L) (t : Nat) : 0 ≤ sumF (fun n => n.2.2.2 + leftN L n) (L.take t) ∧ sumF (fun n => n.2.2.2 + leftN L n) (L.take t) ≤ q := by
  have pos : ∀ K : List Nd, (∀ n ∈ K, n ∈ L) → 0 ≤ sumF (fun n => n.2.2.2 + leftN L n) K := by
    intro K
    induction K with
    | nil => intro _; exact Int.le_refl _
    | cons n r ih =>
      intro hm
      have h1 := ih (fun x hx => hm x (List.mem_cons_of_mem _ hx))
      have h2 := h.left n (hm n (by simp))
      have h3 := (h.good.ok n (hm n (by simp))).2.2.2.1
      unfold sumF
      omega
  have h1 := pos (L.take t) (fun n hn => List.mem_of_mem_take hn)
  have h2 := pos (L.drop t) (fun n hn => List.mem_of_mem_drop hn)
  have e : sumF (fun n => n.2.2.2 + leftN L n) (L.take t) + sumF (fun n => n.2.2.2 + leftN L n) (L.drop t) = q := by
    rw [← sumF_append, List.take_append_drop]
    exact h.total
  omega
theorem Tree.quota {q : Int} {L : List Nd} (h : Tree q L) : 0 ≤ q ∧ q ≤ 65536 := by
  obtain ⟨u, hu⟩ := h.first
  have := (h.good.ok _ (atN_some hu).1).2.2.1
  exact this
end Go.Proofs.Ytedeifejokcleaa
