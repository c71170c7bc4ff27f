/- Processes as rising lists: number, parent, state, code; what each call answers and leaves. Nothing of a program. -/
import Derived.Test.YtbmiodkdoacbeaaU1
namespace Go.Proofs.Ytbmiodkdoacbeaa
open Go.RowKit
set_option maxRecDepth 100000

abbrev okY (n : Int) (p : Nd) : Prop := (1 ≤ p.1 ∧ p.1 ≤ n) ∧ (0 ≤ p.2.1 ∧ p.2.1 ≤ 8) ∧ (1 ≤ p.2.2.1 ∧ p.2.2.1 ≤ 3) ∧ 0 ≤ p.2.2.2 ∧ p.2.2.2 ≤ 4294967295
structure GoodY (n : Int) (L : List Nd) : Prop where
  most : 1 ≤ n ∧ n ≤ 8
  up : L.Pairwise (fun a b => a.1 < b.1)
  ok : ∀ p ∈ L, okY n p
theorem len_riseY {n : Int} : ∀ {L : List Nd} {a : Int}, L.Pairwise (fun a b => a.1 < b.1) → (∀ p ∈ L, a ≤ p.1 ∧ p.1 ≤ n) → a ≤ n + 1 → (L.length : Int) ≤ n + 1 - a
  | [], a, _, _, h => by simp; omega
  | p :: r, a, hp, h, _ => by
    obtain ⟨h1, h2⟩ := List.pairwise_cons.1 hp
    have hn := h p (by simp)
    have := len_riseY (L := r) (a := p.1 + 1) h2 (fun x hx => ⟨by have := h1 x hx; omega, (h x (List.mem_cons_of_mem _ hx)).2⟩) (by omega)
    simp only [List.length_cons]
    omega
theorem GoodY.len {n : Int} {L : List Nd} (h : GoodY n L) : (L.length : Int) ≤ n := by
  have := len_riseY (a := 1) h.up (fun p hp => (h.ok p hp).1) (by have := h.most; omega)
  omega
theorem GoodY.at_ {n : Int} {L : List Nd} (h : GoodY n L) {i : Int} {p : Nd} (e : atN i L = some p) : (1 ≤ i ∧ i ≤ n) ∧ p.1 = i ∧ okY n p := by
  have h1 := h.ok p (atN_some e).1
  have h2 := (atN_some e).2
  exact ⟨⟨by omega, by omega⟩, h2, h1⟩
theorem preY_one {n : Int} {L : List Nd} (h : GoodY n L) : preN 1 L = [] := by
  unfold preN
  rw [List.filter_eq_nil_iff]
  intro p hp
  have := (h.ok p hp).1
  simp; omega
theorem preY_end {n : Int} {L : List Nd} (h : GoodY n L) : preN (n + 1) L = L := by
  unfold preN
  rw [List.filter_eq_self]
  intro p hp
  have := (h.ok p hp).1
  simp; omega

/-! The least number that is free. -/
def freeN (k : Int) : List Nd → Int
  | [] => k
  | x :: r => if x.1 = k then freeN (k + 1) r else k
theorem freeN_spec : ∀ {L : List Nd} {k : Int}, L.Pairwise (fun a b => a.1 < b.1) → (∀ p ∈ L, k ≤ p.1) →
    (k ≤ freeN k L ∧ freeN k L ≤ k + L.length) ∧ (∀ p ∈ L, p.1 ≠ freeN k L) ∧ (∀ i, k ≤ i → i < freeN k L → ∃ p ∈ L, p.1 = i) ∧ (∀ j, j < L.length → (j : Int) < freeN k L - k → (L.getD j default).1 = k + j) ∧ (∀ j, j < L.length → freeN k L - k ≤ j → freeN k L < (L.getD j default).1)
  | [], k, _, _ => by
    refine ⟨by simp [freeN], by simp, fun i h1 h2 => ?_, by simp, by simp⟩
    simp only [freeN] at h2
    omega
  | x :: r, k, hp, h => by
    obtain ⟨h1, h2⟩ := List.pairwise_cons.1 hp
    unfold freeN
    have hx := h x (by simp)
    by_cases c : x.1 = k
    · rw [if_pos c]
      obtain ⟨⟨a1, a2⟩, a3, a4, a5, a6⟩ := freeN_spec (L := r) (k := k + 1) h2 (fun p hp => by have := h1 p hp; omega)
      refine ⟨⟨by omega, by simp only [List.length_cons]; omega⟩, ?_, ?_, ?_, ?_⟩
      · intro p hp
        rcases List.mem_cons.1 hp with rfl | hp
        · omega
        · exact a3 p hp
      · intro i i1 i2
        by_cases e : i = k
        · exact ⟨x, by simp, by omega⟩
        · obtain ⟨p, hp, rfl⟩ := a4 i (by omega) i2
          exact ⟨p, List.mem_cons_of_mem _ hp, rfl⟩
      · intro j j1 j2
        cases j with
        | zero => simpa using c
        | succ j =>
          have := a5 j (by simpa using j1) (by omega)
          simp only [List.getD_cons_succ]
          omega
      · intro j j1 j2
        cases j with
        | zero => omega
        | succ j =>
          have := a6 j (by simpa using j1) (by omega)
          simpa using this
    · rw [if_neg c]
      refine ⟨⟨by omega, by simp only [List.length_cons]; omega⟩, ?_, fun i i1 i2 => by omega, fun j _ j2 => by omega, ?_⟩
      · intro p hp
        rcases List.mem_cons.1 hp with rfl | hp
        · exact c
        · have := h1 p hp; omega
      · intro j j1 _
        cases j with
        | zero => simp only [List.getD_cons_zero]; omega
        | succ j =>
          have := h1 (r.getD j default) (getD_memN (by simpa using j1))
          simp only [List.getD_cons_succ]
          omega
theorem freeN_full {n : Int} : ∀ {L : List Nd} {k : Int}, L.Pairwise (fun a b => a.1 < b.1) → (∀ p ∈ L, k ≤ p.1 ∧ p.1 ≤ n) → k ≤ n + 1 → (n < freeN k L ↔ (L.length : Int) = n + 1 - k)
  | [], k, _, _, h => by simp [freeN]; omega
  | x :: r, k, hp, h, hk => by
    obtain ⟨h1, h2⟩ := List.pairwise_cons.1 hp
    have hx := h x (by simp)
    unfold freeN
    by_cases c : x.1 = k
    · rw [if_pos c]
      have := freeN_full (n := n) (L := r) (k := k + 1) h2 (fun p hp => ⟨by have := h1 p hp; omega, (h p (List.mem_cons_of_mem _ hp)).2⟩) (by omega)
      rw [this]
      simp only [List.length_cons]
      omega
    · rw [if_neg c]
      have := len_riseY (n := n) (L := x :: r) (a := k + 1) hp (fun p hp => ⟨by
        rcases List.mem_cons.1 hp with rfl | hp
        · omega
        · have := h1 p hp; omega, (h p hp).2⟩) (by omega)
      omega

/-! Who is served. -/
abbrev Rp := Int × Int × Int
def zomb (j : Int) (L : List Nd) : Option Nd := L.find? fun x => decide (x.2.1 = j) && decide (x.2.2.1 = 3)
def hasCh (j : Int) (L : List Nd) : Bool := L.any fun x => decide (x.2.1 = j)
def setSt (id s : Int) (x : Nd) : Nd := if x.1 = id then (x.1, x.2.1, s, x.2.2.2) else x
def zomS (id c : Int) (x : Nd) : Nd := if x.1 = id then (x.1, x.2.1, 3, c) else x
/-- Whether one is served, and by which end. -/
def isSrv (j : Int) (L : List Nd) : Option Nd := match atN j L with
  | none => none
  | some p => if p.2.2.1 = 2 then zomb j L else none
def stepL (j : Int) (L : List Nd) : List Nd := match isSrv j L with
  | none => L
  | some c => delN c.1 (L.map (setSt j 1))
def stepR (j : Int) (L : List Nd) : List Rp := match isSrv j L with
  | none => []
  | some c => [(j, c.1, c.2.2.2)]
def srvL : Nat → List Nd → List Nd
  | 0, L => L
  | k + 1, L => stepL ((k : Int) + 1) (srvL k L)
def srvR : Nat → List Nd → List Rp
  | 0, _ => []
  | k + 1, L => srvR k L ++ stepR ((k : Int) + 1) (srvL k L)
def serveL (n : Int) (L : List Nd) : List Nd := srvL n.toNat L
def serveR (n : Int) (L : List Nd) : List Rp := srvR n.toNat L
theorem setSt_id (id s : Int) (x : Nd) : (setSt id s x).1 = x.1 := by unfold setSt; split <;> rfl
theorem zomS_id (id s : Int) (x : Nd) : (zomS id s x).1 = x.1 := by unfold zomS; split <;> rfl
theorem zomb_some {j : Int} {L : List Nd} {c : Nd} (h : zomb j L = some c) : c ∈ L ∧ c.2.1 = j ∧ c.2.2.1 = 3 := by
  unfold zomb at h
  have h1 := List.find?_some h
  simp only [Bool.and_eq_true, decide_eq_true_eq] at h1
  exact ⟨List.mem_of_find?_eq_some h, h1.1, h1.2⟩
theorem isSrv_some {j : Int} {L : List Nd} {c : Nd} (h : isSrv j L = some c) : (∃ p, atN j L = some p ∧ p.2.2.1 = 2) ∧ c ∈ L ∧ c.2.1 = j ∧ c.2.2.1 = 3 := by
  unfold isSrv at h
  cases e : atN j L with
  | none => simp [e] at h
  | some p =>
    simp only [e] at h
    split at h
    · rename_i e2; exact ⟨⟨p, rfl, e2⟩, zomb_some h⟩
    · cases h
theorem GoodY.map {n : Int} {L : List Nd} (h : GoodY n L) {f : Nd → Nd} (hf : ∀ p, (f p).1 = p.1) (hk : ∀ p, p ∈ L → okY n p → okY n (f p)) : GoodY n (L.map f) :=
  ⟨h.most, map_rise hf h.up, fun q hq => by
    obtain ⟨p, hp, rfl⟩ := List.mem_map.1 hq
    exact hk p hp (h.ok p hp)⟩
theorem GoodY.del {n : Int} {L : List Nd} (h : GoodY n L) (id : Int) : GoodY n (delN id L) := ⟨h.most, delN_rise h.up, fun p hp => h.ok p (mem_delN.1 hp).1⟩
theorem GoodY.ins {n : Int} {L : List Nd} (h : GoodY n L) {x : Nd} (hx : okY n x) (hn : ∀ p ∈ L, p.1 ≠ x.1) : GoodY n (insN x L) :=
  ⟨h.most, insN_rise h.up hn, fun p hp => by
    rcases mem_insN.1 hp with rfl | hp
    · exact hx
    · exact h.ok p hp⟩
theorem GoodY.setSt {n : Int} {L : List Nd} (h : GoodY n L) (id s : Int) (hs : 1 ≤ s ∧ s ≤ 3) : GoodY n (L.map (setSt id s)) :=
  h.map (setSt_id id s) fun p _ hp => by unfold Proofs.Ytbmiodkdoacbeaa.setSt; split; { exact ⟨hp.1, hp.2.1, hs, hp.2.2.2⟩ }; exact hp
theorem GoodY.zomS {n : Int} {L : List Nd} (h : GoodY n L) (id c : Int) (hc : 0 ≤ c ∧ c ≤ 4294967295) : GoodY n (L.map (zomS id c)) :=
  h.map (zomS_id id c) fun p _ hp => by unfold Proofs.Ytbmiodkdoacbeaa.zomS; split; { exact ⟨hp.1, hp.2.1, (show (1:Int) ≤ 3 ∧ (3:Int) ≤ 3 by decide), hc⟩ }; exact hp
theorem GoodY.reUp {n : Int} {L : List Nd} (h : GoodY n L) (id : Int) : GoodY n (L.map (reUp id 1)) :=
  h.map (reUp_id id 1) fun p _ hp => by unfold Proofs.Ytbmiodkdoacbeaa.reUp; split; { exact ⟨hp.1, (show (0:Int) ≤ 1 ∧ (1:Int) ≤ 8 by decide), hp.2.2⟩ }; exact hp
theorem GoodY.step {n : Int} {L : List Nd} (h : GoodY n L) (j : Int) : GoodY n (stepL j L) := by
  unfold stepL
  split
  · exact h
  · exact (h.setSt j 1 (by decide)).del _
theorem GoodY.srv {n : Int} {L : List Nd} (h : GoodY n L) : ∀ k, GoodY n (srvL k L)
  | 0 => h
  | k + 1 => (h.srv k).step _
theorem length_delN {L : List Nd} (hp : L.Pairwise (fun a b => a.1 < b.1)) {c : Nd} (hc : c ∈ L) : (delN c.1 L).length + 1 = L.length := by
  induction L with
  | nil => cases hc
  | cons x r ih =>
    obtain ⟨h1, h2⟩ := List.pairwise_cons.1 hp
    unfold delN at ih ⊢
    rcases List.mem_cons.1 hc with rfl | hc
    · rw [List.filter_cons_of_neg (by simp), List.filter_eq_self.2 (fun y hy => by have := h1 y hy; simp; omega)]; rfl
    · have := h1 c hc
      rw [List.filter_cons_of_pos (by simp; omega), List.length_cons, ih h2 hc, List.length_cons]
theorem length_insN (x : Nd) : ∀ (L : List Nd), (insN x L).length = L.length + 1
  | [] => rfl
  | y :: r => by unfold insN; split <;> simp [length_insN x r]

/-! What each call answers, and leaves. -/
def addE (n : Int) (L : List Nd) (parent : Int) : Int := match atN parent L with
  | none => 4
  | some p => if p.2.2.1 = 3 then 9 else if (L.length : Int) = n then 3 else 0
def addP (n : Int) (L : List Nd) (parent : Int) : Int := if addE n L parent = 0 then freeN 1 L else 0
def addL (n : Int) (L : List Nd) (parent : Int) : List Nd := if addE n L parent = 0 then insN (freeN 1 L, parent, 1, 0) L else L
def exitE (L : List Nd) (pid : Int) : Int := match atN pid L with
  | none => 4
  | some p => if pid = 1 then 8 else if p.2.2.1 = 3 then 9 else 0
def exitM (L : List Nd) (pid c : Int) : List Nd := (L.map (zomS pid c)).map (reUp pid 1)
def exitL (n : Int) (L : List Nd) (pid c : Int) : List Nd := if exitE L pid = 0 then serveL n (exitM L pid c) else L
def exitR (n : Int) (L : List Nd) (pid c : Int) : List Rp := if exitE L pid = 0 then serveR n (exitM L pid c) else []
def waitE (L : List Nd) (pid : Int) : Int := match atN pid L with
  | none => 4
  | some p => if hasCh pid L = true then (if p.2.2.1 = 1 then 0 else 9) else 4
def waitL (n : Int) (L : List Nd) (pid : Int) : List Nd := if waitE L pid = 0 then serveL n (L.map (setSt pid 2)) else L
def waitR (n : Int) (L : List Nd) (pid : Int) : List Rp := if waitE L pid = 0 then serveR n (L.map (setSt pid 2)) else []
/-- A process as what is told of it. -/
def getP (L : List Nd) (pid : Int) : Nd := (atN pid L).getD (0, 0, 0, 0)
theorem GoodY.free {n : Int} {L : List Nd} (h : GoodY n L) (hl : (L.length : Int) ≠ n) : (1 ≤ freeN 1 L ∧ freeN 1 L ≤ n) ∧ (∀ p ∈ L, p.1 ≠ freeN 1 L) := by
  have h1 := freeN_spec (k := 1) h.up (fun p hp => (h.ok p hp).1.1)
  have h2 := freeN_full (n := n) (k := 1) h.up (fun p hp => (h.ok p hp).1) (by have := h.most; omega)
  refine ⟨⟨h1.1.1, ?_⟩, h1.2.1⟩
  by_cases c : n < freeN 1 L
  · have := h2.1 c; omega
  · omega
theorem GoodY.add {n : Int} {L : List Nd} (h : GoodY n L) (parent : Int) : GoodY n (addL n L parent) := by
  unfold addL
  split
  · rename_i e
    unfold addE at e
    cases e2 : atN parent L with
    | none => simp [e2] at e
    | some p =>
      simp only [e2] at e
      split at e
      · cases e
      · split at e
        · cases e
        · rename_i hl
          have h1 := h.free hl
          have h2 := h.at_ e2
          have := h.most
          exact h.ins ⟨h1.1, ⟨by simp only; omega, by simp only; omega⟩, by simp only; decide, by simp only; decide⟩ h1.2
  · exact h
theorem GoodY.exitM {n : Int} {L : List Nd} (h : GoodY n L) (pid : Int) {c : Int} (hc : 0 ≤ c ∧ c ≤ 4294967295) : GoodY n (exitM L pid c) := (h.zomS pid c hc).reUp pid
theorem GoodY.exit {n : Int} {L : List Nd} (h : GoodY n L) (pid : Int) {c : Int} (hc : 0 ≤ c ∧ c ≤ 4294967295) : GoodY n (exitL n L pid c) := by
  unfold exitL
  split
  · exact (h.exitM pid hc).srv _
  · exact h
theorem GoodY.wait {n : Int} {L : List Nd} (h : GoodY n L) (pid : Int) : GoodY n (waitL n L pid) := by
  unfold waitL
  split
  · exact (h.setSt pid 2 (by decide)).srv _
  · exact h
end Go.Proofs.Ytbmiodkdoacbeaa
