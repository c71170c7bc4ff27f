/- A budget in memory: a map of pointers, each to a container; the contracts of package budget's isThere, isNumber, isId, add. Condition: the budget lies as New laid it. -/
import Derived.Test.YtedeifejokcleaaU1
namespace Go.Proofs.Ytedeifejokcleaa
open Go.RowKit Go.Maps
set_option maxRecDepth 100000

/-- To which block each number leads. -/
abbrev Pt := Int → Option Nat
def ptI : Option Nat → Int
  | none => -1
  | some b => (b : Int)
def ptV : Option Nat → Value
  | none => .pointer none
  | some b => .pointer (some ⟨b, 0, none⟩)
def ptrElem : Value → Option (DataW Unit × List MemPlace)
  | .pointer none => some (.lit (.int .i64 (-1)), [])
  | .pointer (some a) => if a = ⟨a.block, 0, none⟩ then some (.lit (.int .i64 (a.block : Int)), []) else none
  | _ => none
theorem ptrElem_mk (x : Option Nat) : ptrElem (ptV x) = some (.lit (.int .i64 (ptI x)), []) := by
  cases x <;> simp [ptrElem, ptV, ptI]
theorem ptrElem_inv {v : Value} {ps : List MemPlace} {x : Option Nat} (h : ptrElem v = some (.lit (.int .i64 (ptI x)), ps)) : v = ptV x := by
  unfold ptrElem at h
  split at h
  · cases x with
    | none => rfl
    | some b => simp [ptI] at h
  · rename_i a
    split at h
    · rename_i e
      cases x with
      | none => simp [ptI] at h
      | some b =>
        simp [ptI] at h
        have : a.block = b := by omega
        rw [e, this]; rfl
    · cases h
  · cases h
def updP (P : Pt) (x : Int) (v : Option Nat) : Pt := fun y => if y = x then v else P y
theorem updP_same (P : Pt) (x : Int) (v : Option Nat) : updP P x v x = v := by simp [updP]
theorem updP_other (P : Pt) (x : Int) (v : Option Nat) {y : Int} (h : y ≠ x) : updP P x v y = P y := by simp [updP, h]
/-- What a map's datum says of pointers. -/
structure PtrHas (D : DataW Unit) (P : Pt) : Prop where
  at_ : ∀ x : Int, D.atKey (.int .i64 x) (.lit (.int .i64 (-1))) = .lit (.int .i64 (ptI (P x)))
  has_ : ∀ x : Int, Maps.has D (.int .i64 x) = (P x).isSome
  frames : Frames D
theorem PtrHas.empty : PtrHas (.map []) (fun _ => none) := ⟨fun x => by simp [ptI]; rfl, fun x => by simp; rfl, [], rfl, List.Pairwise.nil, fun p hp => by simp at hp⟩
theorem Frames.putI {D : DataW Unit} (h : Frames D) (x : Int) (hx : 1 ≤ x ∧ x ≤ 8) (d : DataW Unit) : Frames (D.put (.int .i64 x) d) := by
  obtain ⟨x, rfl⟩ := Int.eq_ofNat_of_zero_le (show 0 ≤ x by omega)
  exact h.put x (by omega) d
theorem PtrHas.put {D : DataW Unit} {P : Pt} (h : PtrHas D P) (x : Int) (hx : 1 ≤ x ∧ x ≤ 8) (v : Option Nat) (hv : v.isSome = true) : PtrHas (D.put (.int .i64 x) (.lit (.int .i64 (ptI v)))) (updP P x v) :=
  ⟨fun y => by
    by_cases e : y = x
    · subst e; rw [updP_same, atKey_put_same h.frames.isMap (isKeyI _ (by omega))]
    · rw [updP_other _ _ _ e, atKey_put_other (lit_ne e), h.at_],
   fun y => by
    by_cases e : y = x
    · subst e; rw [updP_same, has_put_same h.frames.isMap (isKeyI _ (by omega)), hv]
    · rw [updP_other _ _ _ e, has_put_other (lit_ne e), h.has_], h.frames.putI x hx _⟩
theorem PtrHas.del {D : DataW Unit} {P : Pt} (h : PtrHas D P) (x : Int) : PtrHas (D.del (.int .i64 x)) (updP P x none) :=
  ⟨fun y => by
    by_cases e : y = x
    · subst e; rw [updP_same, atKey_del_same]; rfl
    · rw [updP_other _ _ _ e, atKey_del_other (lit_ne e), h.at_],
   fun y => by
    by_cases e : y = x
    · subst e; rw [updP_same, has_del_same]; rfl
    · rw [updP_other _ _ _ e, has_del_other (lit_ne e), h.has_], h.frames.del _⟩
def PtrsAt (w : World) (m : Nat) (P : Pt) : Prop := ∃ (D : DataW Unit) (k : Nat), w.ownsMap Try.prog 3 ptrElem m k D ∧ k ≤ 1024 ∧ PtrHas D P
theorem ptr_tight {w : World} {b k : Nat} {D : DataW Unit} (h : w.ownsMap Try.prog 3 ptrElem b k D) (m : Nat) (hm : Maps.size D ≤ m) : w.ownsMap Try.prog 3 ptrElem b m D := by
  obtain ⟨es, clock, hb, F, _, rfl⟩ := h
  refine ⟨es, clock, hb, F, ?_, rfl⟩
  simpa [Maps.size, length_sorted] using hm
theorem PtrsAt.made (w : World) : PtrsAt (w.alloc (.map #[] 0)) w.heap.size (fun _ => none) := ⟨_, 0, World.ownsMap_made _ _ _ _, by omega, PtrHas.empty⟩
theorem PtrsAt.isMap {w : World} {b : Nat} {P : Pt} (h : PtrsAt w b P) : ∃ es clock, w.heap[b]? = some (.map es clock) := by
  obtain ⟨D, k, ⟨es, clock, hb, _⟩, _⟩ := h
  exact ⟨es, clock, hb⟩
theorem PtrsAt.lt {w : World} {b : Nat} {P : Pt} (h : PtrsAt w b P) : b < w.heap.size := by
  obtain ⟨es, clock, hb⟩ := h.isMap
  exact lt_of_block hb
theorem PtrsAt.same {w w' : World} {b : Nat} {P : Pt} (h : PtrsAt w b P) (e : w'.heap[b]? = w.heap[b]?) : PtrsAt w' b P := by
  obtain ⟨D, k, ⟨es, clock, hb, r⟩, hk, hr⟩ := h
  exact ⟨D, k, ⟨es, clock, e.trans hb, r⟩, hk, hr⟩
theorem zeroPtr (w : World) : (zeroValue 57).run Try.prog w = .ok (.pointer none) w := by kernel_rfl
section
variable (w : World) {ops : Array Oper} {rest : List Oper} {o : Oper} {a : Act} {Q : Exit → Act → World → Prop}
theorem wpList_ptr_ok (hg : o.guard = none) (m x : Operand) (hop : o.op = Op.lookup 40 m x true) (b : Nat) (P : Pt) (hm : a.eval m = .map (some b)) (h : PtrsAt w b P) (y : Int) (hx : a.eval x = .int .i64 y) (hy : -9223372036854775808 ≤ y ∧ y ≤ 9223372036854775807) (c : Option Nat) (hc : P y = c)
    (hK : wpList Try.prog ops Q rest (a.put o.dst (.tuple #[ptV c, .bool c.isSome])) w) : wpList Try.prog ops Q (o :: rest) a w := by
  obtain ⟨D, k, hown, _, hr⟩ := h
  refine wpList_lookup_own_ok w hg m x 40 hop 3 57 keyI Try.underlying40 ptrElem (zeroPtr _) (.lit (.int .i64 (-1))) [] rfl b k D hm hown (.int .i64 y) (.int .i64 y) hx (keyOfI y hy) fun v ps hv => ?_
  rw [hr.at_ y, hc] at hv
  rw [hr.has_ y, hc, ptrElem_inv hv]
  exact hK
theorem wpList_ptr_look (hg : o.guard = none) (m x : Operand) (hop : o.op = Op.lookup 40 m x false) (b : Nat) (P : Pt) (hm : a.eval m = .map (some b)) (h : PtrsAt w b P) (y : Int) (hx : a.eval x = .int .i64 y) (hy : -9223372036854775808 ≤ y ∧ y ≤ 9223372036854775807) (c : Option Nat) (hc : P y = c)
    (hK : wpList Try.prog ops Q rest (a.put o.dst (ptV c)) w) : wpList Try.prog ops Q (o :: rest) a w := by
  obtain ⟨D, k, hown, _, hr⟩ := h
  refine wpList_plain hg fun K' hK' => ?_
  obtain ⟨v, ps, hrun, hv⟩ := hown.lookup keyI Try.underlying40 (zeroPtr w) (zd := .lit (.int .i64 (-1))) (zp := []) rfl (keyOfI y hy)
  rw [hr.at_ y, hc] at hv
  rw [ptrElem_inv hv] at hrun
  unfold Oper.wp
  simp [execOp, hop, hm, hx, hrun, Result.andThen]
  exact hK' _ _ hK
theorem wpList_ptr_put (hg : o.guard = none) (m x v : Operand) (hop : o.op = Op.mapUpdate 40 m x v) (b : Nat) (P : Pt) (hm : a.eval m = .map (some b)) (h : PtrsAt w b P) (y : Int) (hx : a.eval x = .int .i64 y) (hy : 1 ≤ y ∧ y ≤ 8) (c : Nat) (hv : a.eval v = .pointer (some ⟨c, 0, none⟩))
    (hK : ∀ w', PtrsAt w' b (updP P y (some c)) → w.grownBy w' (some b) → wpList Try.prog ops Q rest (a.put o.dst undef) w') : wpList Try.prog ops Q (o :: rest) a w := by
  obtain ⟨D, k, hown, hk, hr⟩ := h
  refine wpList_mapUpdate_own _ hg m x v 40 hop 3 57 keyI Try.underlying40 _ b k D hm hown (by unfold maxLen; omega) (.int .i64 y) (.pointer (some ⟨c, 0, none⟩)) (.int .i64 y) hx hv (keyOfI _ (by omega)) (.lit (.int .i64 (ptI (some c)))) [] (ptrElem_mk (some c)) fun w' h1 h2 => ?_
  have hr' := hr.put y hy (some c) rfl
  exact hK w' ⟨_, 1024, ptr_tight h1 1024 hr'.frames.size, Nat.le_refl _, hr'⟩ h2
theorem wpList_ptr_drop (hg : o.guard = none) (m x : Operand) (hop : o.op = Op.call { callee := Callee.builtin Builtin.delete, args := #[m, x], argTypes := #[40, 3] }) (b : Nat) (P : Pt) (hm : a.eval m = .map (some b)) (h : PtrsAt w b P) (y : Int) (hx : a.eval x = .int .i64 y) (hy : 1 ≤ y ∧ y ≤ 8)
    (hK : ∀ w', PtrsAt w' b (updP P y none) → w.grownBy w' (some b) → wpList Try.prog ops Q rest (a.put o.dst (.tuple #[])) w') : wpList Try.prog ops Q (o :: rest) a w := by
  obtain ⟨D, k, hown, hk, hr⟩ := h
  refine wpList_delete_own _ hg m x 40 3 hop 57 keyI Try.underlying40 _ b k D hm hown (.int .i64 y) (.int .i64 y) hx (keyOfI _ (by omega)) fun w' h1 h2 => ?_
  exact hK w' ⟨_, k, h1, hk, hr.del y⟩ h2.grown
end

/-- A container in memory. -/
def ndO (n : Nd) : Obj := .cells #[.int .i64 n.1, .int .i64 n.2.1, .int .i64 n.2.2.1, .int .i64 n.2.2.2] 49 (0, 0)
def budO (m : Nat) : Obj := .cells #[.map (some m)] 42 (0, 0)
theorem ndO_cells {w : World} {p : Nat} {n : Nd} (h : w.heap[p]? = some (ndO n)) : w.cell? ⟨p, 0, none⟩ = some (.int .i64 n.1) ∧ w.cell? ⟨p, 1, none⟩ = some (.int .i64 n.2.1) ∧ w.cell? ⟨p, 2, none⟩ = some (.int .i64 n.2.2.1) ∧ w.cell? ⟨p, 3, none⟩ = some (.int .i64 n.2.2.2) ∧ (∀ i, w.frozen? ⟨p, i, none⟩ = false) := box4 h
structure BudAt (w : World) (b m : Nat) (P : Pt) (L : List Nd) : Prop where
  box : w.heap[b]? = some (budO m)
  map : PtrsAt w m P
  out : ∀ id, atN id L = none → P id = none
  inn : ∀ id n, atN id L = some n → ∃ p, P id = some p ∧ w.heap[p]? = some (ndO n)
  good : Good L
theorem BudAt.cell {w : World} {b m : Nat} {P : Pt} {L : List Nd} (h : BudAt w b m P L) : w.cell? ⟨b, 0, none⟩ = some (.map (some m)) := by rw [cell_of_row w b 0 _ _ _ h.box]; rfl
/-- The blocks that calls may change. -/
def bB (m : Nat) (P : Pt) (k : Nat) : Prop := k = m ∨ ∃ id, P id = some k
theorem BudAt.node {w : World} {b m : Nat} {P : Pt} {L : List Nd} (h : BudAt w b m P L) {id : Int} {p : Nat} (hp : P id = some p) : ∃ n, atN id L = some n ∧ w.heap[p]? = some (ndO n) := by
  cases e : atN id L with
  | none => rw [h.out id e] at hp; cases hp
  | some n =>
    obtain ⟨p', h1, h2⟩ := h.inn id n e
    rw [h1] at hp
    cases hp
    exact ⟨n, rfl, h2⟩
theorem BudAt.lt {w : World} {b m : Nat} {P : Pt} {L : List Nd} (h : BudAt w b m P L) {k : Nat} (hk : bB m P k) : k < w.heap.size := by
  rcases hk with rfl | ⟨id, hp⟩
  · exact h.map.lt
  · obtain ⟨n, _, h2⟩ := h.node hp
    exact lt_of_block h2
theorem BudAt.boxOut {w : World} {b m : Nat} {P : Pt} {L : List Nd} (h : BudAt w b m P L) : ¬ bB m P b := by
  rintro (e | ⟨id, hp⟩)
  · obtain ⟨es, ck, hm⟩ := h.map.isMap
    have := h.box
    rw [e, hm] at this
    cases this
  · obtain ⟨n, _, h2⟩ := h.node hp
    have := h.box
    rw [h2] at this
    exact absurd (show (some 49 : Option Nat) = some 42 from congrArg kindOf (Option.some.inj this)) (by decide)
theorem BudAt.mapOut {w : World} {b m : Nat} {P : Pt} {L : List Nd} (h : BudAt w b m P L) (id : Int) : P id ≠ some m := fun hp => by
  obtain ⟨n, _, h2⟩ := h.node hp
  obtain ⟨es, ck, hm⟩ := h.map.isMap
  rw [hm] at h2
  cases h2
theorem BudAt.inj {w : World} {b m : Nat} {P : Pt} {L : List Nd} (h : BudAt w b m P L) {i j : Int} {p : Nat} (h1 : P i = some p) (h2 : P j = some p) : i = j := by
  obtain ⟨n, a1, a2⟩ := h.node h1
  obtain ⟨k, b1, b2⟩ := h.node h2
  have hi := (atN_some a1).2
  have hj := (atN_some b1).2
  rw [a2] at b2
  simp only [ndO, Option.some.injEq, Obj.cells.injEq, and_true] at b2
  have := congrArg (fun c : Array Value => c[0]?) b2
  simp at this
  omega
theorem BudAt.kept {w w' : World} {b m : Nat} {P : Pt} {L : List Nd} (h : BudAt w b m P L) (h0 : w'.heap[b]? = w.heap[b]?) (hk : ∀ k, bB m P k → w'.heap[k]? = w.heap[k]?) : BudAt w' b m P L :=
  ⟨h0.trans h.box, h.map.same (hk m (Or.inl rfl)), h.out, fun id n e => by
    obtain ⟨p, h1, h2⟩ := h.inn id n e
    exact ⟨p, h1, (hk p (Or.inr ⟨id, h1⟩)).trans h2⟩, h.good⟩
theorem BudAt.step {w w' : World} {b m : Nat} {P : Pt} {L : List Nd} (h : BudAt w b m P L) (hb : Below w.heap.size w w') : BudAt w' b m P L :=
  h.kept (hb.block _ (lt_of_block h.box)) (fun _ hk => hb.block _ (h.lt hk))
/-- What a call leaves. -/
structure Turned (w w' : World) (b m : Nat) (P : Pt) (L' : List Nd) : Prop where
  ex : ∃ P', BudAt w' b m P' L' ∧ ∀ id p, P' id = some p → P id = some p ∨ w.heap.size ≤ p
  only : Only w w' (bB m P)
theorem Turned.stay {w w' : World} {b m : Nat} {P : Pt} {L : List Nd} (h : BudAt w b m P L) (hb : Below w.heap.size w w') : Turned w w' b m P L :=
  ⟨⟨P, h.step hb, fun _ _ e => Or.inl e⟩, Only.below hb⟩

theorem isNumber_ok (n : Int) (w : World) : Calls Try.prog 22 #[.int .i64 n] w fun e w' => e = .returned (.bool (decide (0 ≤ n ∧ n ≤ 65536))) ∧ w = w' := by
  by_cases h1 : 0 ≤ n
  · by_cases h2 : n ≤ 65536
    · rw [decide_eq_true (And.intro h1 h2)]
      go_enter Try.func22, Try.ntmps22
      go_wp2
      go_ret
      exact ⟨rfl, rfl⟩
    · rw [decide_eq_false (fun h => h2 h.2)]
      go_enter Try.func22, Try.ntmps22
      go_wp2
      go_ret
      exact ⟨rfl, rfl⟩
  · rw [decide_eq_false (fun h => h1 h.1)]
    go_enter Try.func22, Try.ntmps22
    go_wp2
    go_ret
    exact ⟨rfl, rfl⟩
theorem isId_ok (n : Int) (w : World) : Calls Try.prog 37 #[.int .i64 n] w fun e w' => e = .returned (.bool (decide (1 ≤ n ∧ n ≤ 8))) ∧ w = w' := by
  by_cases h1 : 1 ≤ n
  · by_cases h2 : n ≤ 8
    · rw [decide_eq_true (And.intro h1 h2)]
      go_enter Try.func37, Try.ntmps37
      go_wp2
      go_ret
      exact ⟨rfl, rfl⟩
    · rw [decide_eq_false (fun h => h2 h.2)]
      go_enter Try.func37, Try.ntmps37
      go_wp2
      go_ret
      exact ⟨rfl, rfl⟩
  · rw [decide_eq_false (fun h => h1 h.1)]
    go_enter Try.func37, Try.ntmps37
    go_wp2
    go_ret
    exact ⟨rfl, rfl⟩
/-- There is no budget: none, or one that nobody made. -/
def NoBud (w : World) (p : Option Addr) : Prop := p = none ∨ ∃ b, p = some ⟨b, 0, none⟩ ∧ w.cell? ⟨b, 0, none⟩ = some (.map none)
theorem isThere_no (p : Option Addr) (w : World) (h : NoBud w p) : Calls Try.prog 30 #[.pointer p] w fun e w' => e = .returned (.bool false) ∧ w = w' := by
  have hm := run_neq_map_nil (P := Try.prog) w 40 3 57 none Try.underlying40
  rcases h with rfl | ⟨b, rfl, hc⟩
  all_goals
    go_enter Try.func30, Try.ntmps30
    go_wp2
    go_ret
    exact ⟨rfl, rfl⟩
theorem isThere_ok (b m : Nat) (w : World) (hc : w.cell? ⟨b, 0, none⟩ = some (.map (some m))) : Calls Try.prog 30 #[.pointer (some ⟨b, 0, none⟩)] w fun e w' => e = .returned (.bool true) ∧ w = w' := by
  have hm := run_neq_map_nil (P := Try.prog) w 40 3 57 (some m) Try.underlying40
  go_enter Try.func30, Try.ntmps30
  go_wp2
  go_ret
  exact ⟨rfl, rfl⟩
end Go.Proofs.Ytedeifejokcleaa
