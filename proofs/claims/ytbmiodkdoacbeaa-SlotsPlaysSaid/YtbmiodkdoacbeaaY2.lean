/- A table of processes in memory: a map of pointers, each to a process; look-ups, entries made and dropped; what turns leave. Condition: the table lies as New laid it. -/
import Derived.Test.YtbmiodkdoacbeaaY1
import Derived.Test.YtbmiodkdoacbeaaU2
import Derived.Maps.OwnIn
import Derived.Maps.Views
namespace Go.Proofs.Ytbmiodkdoacbeaa
open Go.RowKit Go.Maps
set_option maxRecDepth 100000

theorem Frames.tidy {D : DataW Unit} (h : Frames D) : Tidy D := let ⟨es, e, hp, _⟩ := h; ⟨es, e, hp⟩
/-- A map of so many pointers. -/
def ProcsAt (w : World) (m : Nat) (P : Pt) (c : Nat) : Prop := ∃ (D : DataW Unit) (k : Nat), w.ownsMap Try.prog 3 ptrElem m k D ∧ k ≤ 1024 ∧ PtrHas D P ∧ Maps.size D = c
theorem ProcsAt.made (w : World) : ProcsAt (w.alloc (.map #[] 0)) w.heap.size (fun _ => none) 0 := ⟨_, 0, World.ownsMap_made _ _ _ _, by omega, PtrHas.empty, rfl⟩
theorem ProcsAt.isMap {w : World} {b c : Nat} {P : Pt} (h : ProcsAt w b P c) : ∃ es clock, w.heap[b]? = some (.map es clock) := by
  obtain ⟨D, k, ⟨es, clock, hb, _⟩, _⟩ := h
  exact ⟨es, clock, hb⟩
theorem ProcsAt.lt {w : World} {b c : Nat} {P : Pt} (h : ProcsAt w b P c) : b < w.heap.size := by
  obtain ⟨es, clock, hb⟩ := h.isMap
  exact lt_of_block hb
theorem ProcsAt.same {w w' : World} {b c : Nat} {P : Pt} (h : ProcsAt w b P c) (e : w'.heap[b]? = w.heap[b]?) : ProcsAt w' b P c := by
  obtain ⟨D, k, ⟨es, clock, hb, r⟩, hk, hr⟩ := h
  exact ⟨D, k, ⟨es, clock, e.trans hb, r⟩, hk, hr⟩
theorem zeroProcP (w : World) : (zeroValue 72).run Try.prog w = .ok (.pointer none) w := by kernel_rfl
theorem run_ok {w : World} {b c : Nat} {P : Pt} (h : ProcsAt w b P c) {y : Int} (hy : I64 y) {x : Option Nat} (hx : P y = x) : (Instr.lookup 47 (.map (some b)) (.int .i64 y) true).run Try.prog w = .ok (.tuple #[ptV x, .bool x.isSome]) w := by
  obtain ⟨D, k, hown, _, hr, _⟩ := h
  obtain ⟨v, ps, hrun, hv⟩ := hown.look_ok keyI Try.underlying47 (zeroProcP w) (zd := .lit (.int .i64 (-1))) (zp := []) rfl (keyOfI y hy)
  rw [hr.at_ y, hx] at hv
  rw [hr.has_ y, hx, ptrElem_inv hv] at hrun
  exact hrun
theorem run_ok0 {w : World} {b c : Nat} {P : Pt} (h : ProcsAt w b P c) {y : Int} (hy : I64 y) (hx : P y = none) : (Instr.lookup 47 (.map (some b)) (.int .i64 y) true).run Try.prog w = .ok (.tuple #[.pointer none, .bool false]) w := run_ok h hy hx
theorem run_ok1 {w : World} {b c : Nat} {P : Pt} (h : ProcsAt w b P c) {y : Int} (hy : I64 y) {p : Nat} (hx : P y = some p) : (Instr.lookup 47 (.map (some b)) (.int .i64 y) true).run Try.prog w = .ok (.tuple #[.pointer (some ⟨p, 0, none⟩), .bool true]) w := run_ok h hy hx
theorem run_look {w : World} {b c : Nat} {P : Pt} (h : ProcsAt w b P c) {y : Int} (hy : I64 y) {x : Option Nat} (hx : P y = x) : (Instr.lookup 47 (.map (some b)) (.int .i64 y) false).run Try.prog w = .ok (ptV x) w := by
  obtain ⟨D, k, hown, _, hr, _⟩ := h
  obtain ⟨v, ps, hrun, hv⟩ := hown.lookup keyI Try.underlying47 (zeroProcP w) (zd := .lit (.int .i64 (-1))) (zp := []) rfl (keyOfI y hy)
  rw [hr.at_ y, hx] at hv
  rw [ptrElem_inv hv] at hrun
  exact hrun
theorem run_look0 {w : World} {b c : Nat} {P : Pt} (h : ProcsAt w b P c) {y : Int} (hy : I64 y) (hx : P y = none) : (Instr.lookup 47 (.map (some b)) (.int .i64 y) false).run Try.prog w = .ok (.pointer none) w := run_look h hy hx
theorem run_look1 {w : World} {b c : Nat} {P : Pt} (h : ProcsAt w b P c) {y : Int} (hy : I64 y) {p : Nat} (hx : P y = some p) : (Instr.lookup 47 (.map (some b)) (.int .i64 y) false).run Try.prog w = .ok (.pointer (some ⟨p, 0, none⟩)) w := run_look h hy hx
theorem run_lenP {w : World} {b c : Nat} {P : Pt} (h : ProcsAt w b P c) (ty : TypeId) : (Builtin.len_ #[47] ty #[.map (some b)]).run Try.prog w = .ok (.int .i64 (c : Int)) w := by
  obtain ⟨D, k, hown, _, _, rfl⟩ := h
  exact hown.len Try.underlying47 ty
theorem ProcsAt.frames_put {D : DataW Unit} {P : Pt} {c : Nat} (hr : PtrHas D P) (hc : Maps.size D = c) {y : Int} (hn : P y = none) (d : DataW Unit) : Maps.size (D.put (.int .i64 y) d) = c + 1 := by
  rw [size_put hr.frames.tidy, hr.has_ y, hn, hc]; rfl
theorem ProcsAt.frames_del {D : DataW Unit} {P : Pt} {c : Nat} (hr : PtrHas D P) (hc : Maps.size D = c + 1) {y : Int} {p : Nat} (hn : P y = some p) : Maps.size (D.del (.int .i64 y)) = c := by
  have := size_del hr.frames.tidy (k := .int .i64 y)
  rw [hr.has_ y, hn, hc] at this
  simp at this
  exact this
section
variable (w : World) {ops : Array Oper} {rest : List Oper} {o : Oper} {a : Act} {Q : Exit → Act → World → Prop}
theorem wpList_proc_put (hg : o.guard = none) (m x v : Operand) (hop : o.op = Op.mapUpdate 47 m x v) (b k : Nat) (P : Pt) (hm : a.eval m = .map (some b)) (h : ProcsAt w b P k) (y : Int) (hx : a.eval x = .int .i64 y) (hy : 1 ≤ y ∧ y ≤ 8) (hn : P y = none) (c : Nat) (hv : a.eval v = .pointer (some ⟨c, 0, none⟩))
    (hK : ∀ w', ProcsAt w' b (updP P y (some c)) (k + 1) → w.grownBy w' (some b) → wpList Try.prog ops Q rest (a.put o.dst undef) w') : wpList Try.prog ops Q (o :: rest) a w := by
  obtain ⟨D, kk, hown, hk, hr, hs⟩ := h
  refine wpList_mapUpdate_own _ hg m x v 47 hop 3 72 keyI Try.underlying47 _ b kk D hm hown (by unfold maxLen; omega) (.int .i64 y) (.pointer (some ⟨c, 0, none⟩)) (.int .i64 y) hx hv (keyOfI _ (by omega)) (.lit (.int .i64 (ptI (some c)))) [] (ptrElem_mk (some c)) fun w' h1 h2 => ?_
  have hr' := hr.put y hy (some c) rfl
  exact hK w' ⟨_, 1024, ptr_tight h1 1024 hr'.frames.size, Nat.le_refl _, hr', ProcsAt.frames_put hr hs hn _⟩ h2
theorem wpListIn_proc_drop {F : Fence} {n : Nat} (hg : o.guard = none) (m x : Operand) (hop : o.op = Op.call { callee := Callee.builtin Builtin.delete, args := #[m, x], argTypes := #[47, 3] }) (b k : Nat) (P : Pt) (hm : a.eval m = .map (some b)) (h : ProcsAt w b P (k + 1)) (y : Int) (hx : a.eval x = .int .i64 y) (hy : 1 ≤ y ∧ y ≤ 8) (p : Nat) (hp : P y = some p)
    (hK : ∀ w', ProcsAt w' b (updP P y none) k → w.grownBy w' (some b) → wpListIn F n Try.prog ops Q rest (a.put o.dst (.tuple #[])) w') : wpListIn F n Try.prog ops Q (o :: rest) a w := by
  obtain ⟨D, kk, hown, hk, hr, hs⟩ := h
  refine wpListIn_delete_own _ hg m x 47 3 hop 72 keyI Try.underlying47 _ b kk D hm hown (.int .i64 y) (.int .i64 y) hx (keyOfI _ (by omega)) fun w' h1 h2 => ?_
  exact hK w' ⟨_, kk, h1, hk, hr.del y, ProcsAt.frames_del hr hs hp⟩ h2.grown
end

/-- A process, a table in memory. -/
def prO (p : Nd) : Obj := .cells #[.int .i64 p.1, .int .i64 p.2.1, .int .i64 p.2.2.1, .int .u32 p.2.2.2] 42 (0, 0)
def tabO (n : Int) (m : Nat) : Obj := .cells #[.int .i64 n, .map (some m)] 49 (0, 0)
theorem prO_cells {w : World} {p : Nat} {x : Nd} (h : w.heap[p]? = some (prO x)) : w.cell? ⟨p, 0, none⟩ = some (.int .i64 x.1) ∧ w.cell? ⟨p, 1, none⟩ = some (.int .i64 x.2.1) ∧ w.cell? ⟨p, 2, none⟩ = some (.int .i64 x.2.2.1) ∧ w.cell? ⟨p, 3, none⟩ = some (.int .u32 x.2.2.2) ∧ (∀ i, w.frozen? ⟨p, i, none⟩ = false) := box4 h
structure TabAt (w : World) (b m : Nat) (n : Int) (P : Pt) (L : List Nd) : Prop where
  box : w.heap[b]? = some (tabO n m)
  map : ProcsAt w m P L.length
  out : ∀ id, atN id L = none → P id = none
  inn : ∀ id x, atN id L = some x → ∃ p, P id = some p ∧ w.heap[p]? = some (prO x)
  good : GoodY n L
theorem TabAt.c0 {w : World} {b m : Nat} {n : Int} {P : Pt} {L : List Nd} (h : TabAt w b m n P L) : w.cell? ⟨b, 0, none⟩ = some (.int .i64 n) := by rw [cell_of_row w b 0 _ _ _ h.box]; rfl
theorem TabAt.c1 {w : World} {b m : Nat} {n : Int} {P : Pt} {L : List Nd} (h : TabAt w b m n P L) : w.cell? ⟨b, 1, none⟩ = some (.map (some m)) := by rw [cell_of_row w b 1 _ _ _ h.box]; rfl
theorem TabAt.proc {w : World} {b m : Nat} {n : Int} {P : Pt} {L : List Nd} (h : TabAt w b m n P L) {id : Int} {p : Nat} (hp : P id = some p) : ∃ x, atN id L = some x ∧ w.heap[p]? = some (prO x) := by
  cases e : atN id L with
  | none => rw [h.out id e] at hp; cases hp
  | some x =>
    obtain ⟨p', h1, h2⟩ := h.inn id x e
    rw [h1] at hp
    cases hp
    exact ⟨x, rfl, h2⟩
theorem TabAt.none_ {w : World} {b m : Nat} {n : Int} {P : Pt} {L : List Nd} (h : TabAt w b m n P L) {id : Int} (hp : P id = none) : atN id L = none := by
  cases e : atN id L with
  | none => rfl
  | some x =>
    obtain ⟨p', h1, h2⟩ := h.inn id x e
    rw [h1] at hp
    cases hp
/-- The blocks that calls may change (bB of the budget's, in this place). -/
def tB (m : Nat) (P : Pt) (k : Nat) : Prop := k = m ∨ ∃ id, P id = some k
theorem TabAt.lt {w : World} {b m : Nat} {n : Int} {P : Pt} {L : List Nd} (h : TabAt w b m n P L) {k : Nat} (hk : tB m P k) : k < w.heap.size := by
  rcases hk with rfl | ⟨id, hp⟩
  · exact h.map.lt
  · obtain ⟨x, _, h2⟩ := h.proc hp
    exact lt_of_block h2
theorem TabAt.boxOut {w : World} {b m : Nat} {n : Int} {P : Pt} {L : List Nd} (h : TabAt w b m n P L) : ¬ tB m P b := by
  rintro (e | ⟨id, hp⟩)
  · obtain ⟨es, ck, hm⟩ := h.map.isMap
    have := h.box
    rw [e, hm] at this
    cases this
  · obtain ⟨x, _, h2⟩ := h.proc hp
    have := h.box
    rw [h2] at this
    exact absurd (show (some 42 : Option Nat) = some 49 from congrArg kindOf (Option.some.inj this)) (by decide)
theorem TabAt.mapOut {w : World} {b m : Nat} {n : Int} {P : Pt} {L : List Nd} (h : TabAt w b m n P L) (id : Int) : P id ≠ some m := fun hp => by
  obtain ⟨x, _, h2⟩ := h.proc hp
  obtain ⟨es, ck, hm⟩ := h.map.isMap
  rw [hm] at h2
  cases h2
theorem TabAt.inj {w : World} {b m : Nat} {n : Int} {P : Pt} {L : List Nd} (h : TabAt w b m n P L) {i j : Int} {p : Nat} (h1 : P i = some p) (h2 : P j = some p) : i = j := by
  obtain ⟨x, a1, a2⟩ := h.proc h1
  obtain ⟨y, b1, b2⟩ := h.proc h2
  have hi := (atN_some a1).2
  have hj := (atN_some b1).2
  rw [a2] at b2
  simp only [prO, Option.some.injEq, Obj.cells.injEq, and_true] at b2
  have := congrArg (fun c : Array Value => c[0]?) b2
  simp at this
  omega
theorem TabAt.kept {w w' : World} {b m : Nat} {n : Int} {P : Pt} {L : List Nd} (h : TabAt w b m n P L) (h0 : w'.heap[b]? = w.heap[b]?) (hk : ∀ k, tB m P k → w'.heap[k]? = w.heap[k]?) : TabAt w' b m n P L :=
  ⟨h0.trans h.box, h.map.same (hk m (Or.inl rfl)), h.out, fun id x e => by
    obtain ⟨p, h1, h2⟩ := h.inn id x e
    exact ⟨p, h1, (hk p (Or.inr ⟨id, h1⟩)).trans h2⟩, h.good⟩
theorem TabAt.step {w w' : World} {b m : Nat} {n : Int} {P : Pt} {L : List Nd} (h : TabAt w b m n P L) {B : Nat} (hb : Below B w w') (hB : ∀ k, (k = b ∨ tB m P k) → k < B) : TabAt w' b m n P L :=
  h.kept (hb.block _ (hB _ (Or.inl rfl))) (fun k hk => hb.block _ (hB k (Or.inr hk)))
theorem TabAt.later {w w' : World} {b m : Nat} {n : Int} {P : Pt} {L : List Nd} (h : TabAt w b m n P L) (hb : Below w.heap.size w w') : TabAt w' b m n P L :=
  h.step hb fun _ hk => hk.elim (fun e => e ▸ lt_of_block h.box) h.lt
/-- Old blocks lie below B, those of the table and its processes. -/
def TabLow (B b m : Nat) (P : Pt) : Prop := ∀ k, (k = b ∨ tB m P k) → k < B
theorem TabAt.low {w : World} {b m : Nat} {n : Int} {P : Pt} {L : List Nd} (h : TabAt w b m n P L) : TabLow w.heap.size b m P := fun _ hk => hk.elim (fun e => e ▸ lt_of_block h.box) h.lt
theorem TabLow.mono {B B' b m : Nat} {P : Pt} (h : TabLow B b m P) (hB : B ≤ B') : TabLow B' b m P := fun k hk => Nat.lt_of_lt_of_le (h k hk) hB
/-- One process is turned. -/
theorem TabAt.turn {w w' : World} {b m : Nat} {n : Int} {P : Pt} {L L' : List Nd} (h : TabAt w b m n P L) {j : Int} {p : Nat} {x' : Nd} (hp : P j = some p) (hw : w'.heap[p]? = some (prO x')) (hg : ∀ k, k < w.heap.size → k ≠ p → w'.heap[k]? = w.heap[k]?) (h1 : atN j L' = some x') (h2 : ∀ i, i ≠ j → atN i L' = atN i L) (h3 : GoodY n L') (h4 : L'.length = L.length) : TabAt w' b m n P L' := by
  refine ⟨(hg _ (lt_of_block h.box) (fun e => h.boxOut (Or.inr ⟨j, by rw [hp, e]⟩))).trans h.box, (h4 ▸ h.map.same (hg _ h.map.lt (fun e => h.mapOut j (by rw [hp, e])))), fun i e => ?_, fun i x e => ?_, h3⟩
  · by_cases hi : i = j
    · subst hi; rw [h1] at e; cases e
    · rw [h2 i hi] at e
      exact h.out i e
  · by_cases hi : i = j
    · subst hi
      rw [h1] at e
      cases e
      exact ⟨p, hp, hw⟩
    · rw [h2 i hi] at e
      obtain ⟨p', hp', hpn⟩ := h.inn i x e
      exact ⟨p', hp', (hg _ (lt_of_block hpn) (fun e2 => hi (h.inj hp' (by rw [hp, e2])))).trans hpn⟩
/-- One process is taken out. -/
theorem TabAt.drop {w w' : World} {b m : Nat} {n : Int} {P : Pt} {L : List Nd} (h : TabAt w b m n P L) {j : Int} {p : Nat} (hp : P j = some p) {c : Nat} (hm : ProcsAt w' m (updP P j none) c) (hg : w.grownBy w' (some m)) (hc : c = (delN j L).length) : TabAt w' b m n (updP P j none) (delN j L) := by
  refine ⟨(hg.block _ (lt_of_block h.box) (fun e => h.boxOut (Or.inl (Option.some.inj e)))).trans h.box, hc ▸ hm, fun i e => ?_, fun i x e => ?_, h.good.del j⟩
  · by_cases hi : i = j
    · subst hi; exact updP_same _ _ _
    · rw [updP_other _ _ _ hi]
      rw [atN_delN, if_neg hi] at e
      exact h.out i e
  · by_cases hi : i = j
    · rw [atN_delN, if_pos hi] at e; cases e
    · rw [atN_delN, if_neg hi] at e
      rw [updP_other _ _ _ hi]
      obtain ⟨p', hp', hpn⟩ := h.inn i x e
      exact ⟨p', hp', (hg.block _ (lt_of_block hpn) (fun e2 => h.mapOut i (by rw [hp', Option.some.inj e2]))).trans hpn⟩
theorem TabAt.put {w w' : World} {b m : Nat} {n : Int} {P : Pt} {L : List Nd} (h : TabAt w b m n P L) {x : Nd} {q : Nat} (hno : ∀ p ∈ L, p.1 ≠ x.1) (hx : okY n x) (h1 : ProcsAt w' m (updP P x.1 (some q)) (L.length + 1)) (h2 : w'.heap[q]? = some (prO x)) (h3 : w.grownBy w' (some m)) : TabAt w' b m n (updP P x.1 (some q)) (insN x L) := by
  refine ⟨(h3.block _ (lt_of_block h.box) (fun e => h.boxOut (Or.inl (Option.some.inj e)))).trans h.box, (length_insN x L).symm ▸ h1, fun i e => ?_, fun i y e => ?_, h.good.ins hx hno⟩
  · rw [atN_insN hno] at e
    split at e
    · cases e
    · rename_i hne
      rw [updP_other _ _ _ hne]
      exact h.out i e
  · rw [atN_insN hno] at e
    split at e
    · rename_i he
      cases e
      exact ⟨q, by rw [he]; exact updP_same _ _ _, h2⟩
    · rename_i hne
      obtain ⟨p, hp, hpn⟩ := h.inn i y e
      exact ⟨p, by rw [updP_other _ _ _ hne]; exact hp, (h3.block _ (lt_of_block hpn) (fun e => h.mapOut i (by rw [hp, Option.some.inj e]))).trans hpn⟩
end Go.Proofs.Ytbmiodkdoacbeaa
