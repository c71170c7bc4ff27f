/- A map from numbers to numbers of the call's own, as a function of frames; what calls change, as a set of blocks. Condition: the map lies in a block, its keys are frames. -/
import Derived.Test.YtiohnhgoddfebaaDoorA1
import Derived.Maps.OwnSet
namespace Go.Proofs.YtiohnhgoddfebaaDoor
open Go.RowKit Go.Maps
set_option maxRecDepth 100000

theorem keyI : Keyed Tryd.prog 3 := int_keyed Tryd.underlying3
theorem zeroI (w : World) : (zeroValue 3).run Tryd.prog w = .ok (.int .i64 0) w := by kernel_rfl
theorem wfI (x : Int) (h : -9223372036854775808 ≤ x ∧ x ≤ 9223372036854775807) : (Lit.int .i64 x).wf = true := WalkArith.wf_i64 h
theorem keyOfI (x : Int) (h : -9223372036854775808 ≤ x ∧ x ≤ 9223372036854775807) : keyOf Tryd.prog 3 (.int .i64 x) = some (.int .i64 x) := keyOf_int_mk Tryd.underlying3 (wfI x h)
theorem isKeyI (x : Int) (h : -9223372036854775808 ≤ x ∧ x ≤ 9223372036854775807) : WideAt.IsKeyLit (.int .i64 x) := keyI.key (keyOfI x h)

theorem nodup_bound : ∀ (m : Nat) (l : List Nat), l.Pairwise (· ≠ ·) → (∀ x ∈ l, x < m) → l.length ≤ m
  | 0, l, _, h => by
    cases l with
    | nil => exact Nat.le_refl _
    | cons x r => exact absurd (h x (by simp)) (by omega)
  | m + 1, l, hn, h => by
    have h1 := nodup_bound m (l.filter (· != m)) (hn.filter _) (fun x hx => by
      obtain ⟨h1, h2⟩ := List.mem_filter.1 hx
      have := h x h1
      simp at h2
      omega)
    have h2 : ∀ l : List Nat, l.Pairwise (· ≠ ·) → l.length ≤ (l.filter (· != m)).length + 1 := by
      intro l hl
      induction l with
      | nil => simp
      | cons x r ih =>
        obtain ⟨a1, a2⟩ := List.pairwise_cons.1 hl
        by_cases e : x = m
        · subst e
          have : r.filter (· != x) = r := List.filter_eq_self.2 fun y hy => by have := a1 y hy; simp; omega
          simp [this]
        · have := ih a2
          rw [List.filter_cons_of_pos (by simpa using e)]
          simp only [List.length_cons]
          omega
    have := h2 l hn
    omega
/-- A map's datum whose keys are frames, each once. -/
def Frames (D : DataW Unit) : Prop := ∃ es, D = .map es ∧ es.Pairwise (fun p q => p.1 ≠ q.1) ∧ ∀ p ∈ es, ∃ x : Nat, x < 1024 ∧ p.1 = .int .i64 (x : Int)
def keyNat : Lit → Nat
  | .int _ n => n.toNat
  | _ => 0
theorem Frames.size {D : DataW Unit} (h : Frames D) : Maps.size D ≤ 1024 := by
  obtain ⟨es, rfl, hp, hk⟩ := h
  have hl : (es.map fun p => keyNat p.1).length ≤ 1024 := by
    refine nodup_bound 1024 _ (List.pairwise_map.2 ?_) fun x hx => ?_
    · refine hp.imp_of_mem fun {a b} ha hb hne e => hne ?_
      obtain ⟨x, _, hx⟩ := hk a ha
      obtain ⟨y, _, hy⟩ := hk b hb
      rw [hx, hy] at e ⊢
      simp only [keyNat, Int.toNat_natCast] at e
      rw [e]
    · obtain ⟨p, hp', rfl⟩ := List.mem_map.1 hx
      obtain ⟨y, hy, e⟩ := hk p hp'
      rw [e]; simpa [keyNat] using hy
  rw [List.length_map] at hl
  exact hl
theorem Frames.isMap {D : DataW Unit} (h : Frames D) : IsMap D := let ⟨es, e, _⟩ := h; ⟨es, e⟩
theorem Frames.put {D : DataW Unit} (h : Frames D) (x : Nat) (hx : x < 1024) (d : DataW Unit) : Frames (D.put (.int .i64 (x : Int)) d) := by
  obtain ⟨es, rfl, hp, hk⟩ := h
  have ht := Tidy.put ⟨es, rfl, hp⟩ (isKeyI (x : Int) (by omega)) d
  obtain ⟨es', e', hp'⟩ := ht
  refine ⟨es', e', hp', fun p hm => ?_⟩
  have e2 : es' = DataW.insert (.int .i64 (x : Int), d) (es.filter fun p => !p.1.sameKey (.int .i64 (x : Int))) := by
    have : DataW.map es' = DataW.map (DataW.insert (.int .i64 (x : Int), d) (es.filter fun p => !p.1.sameKey (.int .i64 (x : Int)))) := e'.symm
    cases this; rfl
  rw [e2] at hm
  rcases Go.ChangeMaps.mem_insert_iff.1 hm with rfl | hm
  · exact ⟨x, hx, rfl⟩
  · exact hk p (List.mem_filter.1 hm).1
theorem Frames.del {D : DataW Unit} (h : Frames D) (k : Lit) : Frames (D.del k) := by
  obtain ⟨es, rfl, hp, hk⟩ := h
  exact ⟨_, rfl, hp.filter _, fun p hm => hk p (List.mem_filter.1 hm).1⟩
/-- What a map's datum says of frames. -/
structure ReadsAs (D : DataW Unit) (R : Nat → Nat) : Prop where
  at_ : ∀ x : Int, D.atKey (.int .i64 x) (.lit (.int .i64 0)) = .lit (.int .i64 (refI R x))
  frames : Frames D
theorem ReadsAs.empty : ReadsAs (.map []) (fun _ => 0) := ⟨fun x => by simp [refI]; rfl, [], rfl, List.Pairwise.nil, fun p hp => by simp at hp⟩
theorem lit_ne {x y : Int} (h : x ≠ y) : (Lit.int .i64 x) ≠ (Lit.int .i64 y) := fun e => h (by cases e; rfl)
theorem refI_upd (R : Nat → Nat) (x v : Nat) (y : Int) : refI (upd R x v) y = if y = (x : Int) then (v : Int) else refI R y := by
  unfold refI
  by_cases h0 : 0 ≤ y
  · obtain ⟨y, rfl⟩ := Int.eq_ofNat_of_zero_le h0
    rw [if_pos h0, if_pos h0, Int.toNat_natCast]
    by_cases e : y = x
    · subst e; rw [upd_same, if_pos rfl]
    · rw [upd_other _ _ _ _ e, if_neg (by omega)]
  · rw [if_neg h0, if_neg h0, if_neg (by omega)]
theorem ReadsAs.put {D : DataW Unit} {R : Nat → Nat} (h : ReadsAs D R) (x v : Nat) (hx : x < 1024) : ReadsAs (D.put (.int .i64 (x : Int)) (.lit (.int .i64 (v : Int)))) (upd R x v) :=
  ⟨fun y => by
    rw [refI_upd]
    by_cases e : y = (x : Int)
    · subst e; rw [if_pos rfl, atKey_put_same h.frames.isMap (isKeyI _ (by omega))]
    · rw [if_neg e, atKey_put_other (lit_ne e), h.at_], h.frames.put x hx _⟩
theorem ReadsAs.del {D : DataW Unit} {R : Nat → Nat} (h : ReadsAs D R) (x : Nat) : ReadsAs (D.del (.int .i64 (x : Int))) (upd R x 0) :=
  ⟨fun y => by
    rw [refI_upd]
    by_cases e : y = (x : Int)
    · subst e; rw [if_pos rfl, atKey_del_same]; rfl
    · rw [if_neg e, atKey_del_other (lit_ne e), h.at_], h.frames.del _⟩
/-- A map in block b: how often each frame is held. -/
def RefsAt (w : World) (b : Nat) (R : Nat → Nat) : Prop := ∃ (D : DataW Unit) (k : Nat), w.ownsMap Tryd.prog 3 (plainElem Tryd.prog 3) b k D ∧ k ≤ 1024 ∧ ReadsAs D R
theorem owns_tight {w : World} {b k : Nat} {D : DataW Unit} (h : w.ownsMap Tryd.prog 3 (plainElem Tryd.prog 3) b k D) (m : Nat) (hm : Maps.size D ≤ m) : w.ownsMap Tryd.prog 3 (plainElem Tryd.prog 3) b m D := by
  obtain ⟨es, clock, hb, F, _, rfl⟩ := h
  refine ⟨es, clock, hb, F, ?_, rfl⟩
  simpa [Maps.size, length_sorted] using hm
theorem RefsAt.made (w : World) : RefsAt (w.alloc (.map #[] 0)) w.heap.size (fun _ => 0) := ⟨_, 0, World.ownsMap_made _ _ _ _, by omega, ReadsAs.empty⟩
theorem RefsAt.isMap {w : World} {b : Nat} {R : Nat → Nat} (h : RefsAt w b R) : ∃ es clock, w.heap[b]? = some (.map es clock) := by
  obtain ⟨D, k, ⟨es, clock, hb, _⟩, _⟩ := h
  exact ⟨es, clock, hb⟩
theorem RefsAt.lt {w : World} {b : Nat} {R : Nat → Nat} (h : RefsAt w b R) : b < w.heap.size := by
  obtain ⟨es, clock, hb⟩ := h.isMap
  exact lt_of_block hb
theorem RefsAt.same {w w' : World} {b : Nat} {R : Nat → Nat} (h : RefsAt w b R) (e : w'.heap[b]? = w.heap[b]?) : RefsAt w' b R := by
  obtain ⟨D, k, ⟨es, clock, hb, r⟩, hk, hr⟩ := h
  exact ⟨D, k, ⟨es, clock, e.trans hb, r⟩, hk, hr⟩
section
variable (w : World) {ops : Array Oper} {rest : List Oper} {o : Oper} {a : Act} {Q : Exit → Act → World → Prop}
theorem wpList_refs_look (hg : o.guard = none) (m x : Operand) (hop : o.op = Op.lookup 50 m x false) (b : Nat) (R : Nat → Nat) (hm : a.eval m = .map (some b)) (h : RefsAt w b R) (y c : Int) (hx : a.eval x = .int .i64 y) (hy : -9223372036854775808 ≤ y ∧ y ≤ 9223372036854775807) (hc : refI R y = c)
    (hK : wpList Tryd.prog ops Q rest (a.put o.dst (.int .i64 c)) w) : wpList Tryd.prog ops Q (o :: rest) a w := by
  obtain ⟨D, k, hown, _, hr⟩ := h
  refine wpList_lookup_own_int _ hg m x 50 hop 3 3 .i64 keyI Tryd.underlying50 Tryd.underlying3 (zeroI _) b k D hm hown (.int .i64 y) (.int .i64 y) hx (keyOfI y hy) fun d hd _ => ?_
  rw [hr.at_ y] at hd
  have e : refI R y = d := by cases hd; rfl
  rw [← e, hc]; exact hK
theorem wpList_refs_put (hg : o.guard = none) (m x v : Operand) (hop : o.op = Op.mapUpdate 50 m x v) (b : Nat) (R : Nat → Nat) (hm : a.eval m = .map (some b)) (h : RefsAt w b R) (y c : Nat) (hx : a.eval x = .int .i64 (y : Int)) (hy : y < 1024) (hv : a.eval v = .int .i64 (c : Int)) (hc : c ≤ 9223372036854775807)
    (hK : ∀ w', RefsAt w' b (upd R y c) → w.grownBy w' (some b) → wpList Tryd.prog ops Q rest (a.put o.dst undef) w') : wpList Tryd.prog ops Q (o :: rest) a w := by
  obtain ⟨D, k, hown, hk, hr⟩ := h
  refine wpList_mapUpdate_own _ hg m x v 50 hop 3 3 keyI Tryd.underlying50 _ b k D hm hown (by unfold maxLen; omega) (.int .i64 (y : Int)) (.int .i64 (c : Int)) (.int .i64 (y : Int)) hx hv (keyOfI _ (by omega)) (.lit (.int .i64 (c : Int))) [] (plainElem_int Tryd.underlying3 (wfI _ (by omega))) fun w' h1 h2 => ?_
  have hr' := hr.put y c hy
  exact hK w' ⟨_, 1024, owns_tight h1 1024 hr'.frames.size, Nat.le_refl _, hr'⟩ h2
theorem wpList_refs_drop (hg : o.guard = none) (m x : Operand) (hop : o.op = Op.call { callee := Callee.builtin Builtin.delete, args := #[m, x], argTypes := #[50, 3] }) (b : Nat) (R : Nat → Nat) (hm : a.eval m = .map (some b)) (h : RefsAt w b R) (y : Nat) (hx : a.eval x = .int .i64 (y : Int)) (hy : y < 1024)
    (hK : ∀ w', RefsAt w' b (upd R y 0) → w.grownBy w' (some b) → wpList Tryd.prog ops Q rest (a.put o.dst (.tuple #[])) w') : wpList Tryd.prog ops Q (o :: rest) a w := by
  obtain ⟨D, k, hown, hk, hr⟩ := h
  refine wpList_delete_own _ hg m x 50 3 hop 3 keyI Tryd.underlying50 _ b k D hm hown (.int .i64 (y : Int)) (.int .i64 (y : Int)) hx (keyOfI _ (by omega)) fun w' h1 h2 => ?_
  exact hK w' ⟨_, k, h1, hk, hr.del y⟩ h2.grown
end

/-- What kind of thing lies in a block. -/
def kindOf : Obj → Option TypeId
  | .cells _ t _ => some t
  | _ => none
theorem kind_ne {w : World} {k r : Nat} {o o' : Obj} (h : w.heap[k]? = some o) (h' : w.heap[r]? = some o') (hne : kindOf o ≠ kindOf o') : k ≠ r := by
  intro e
  subst e
  rw [h] at h'
  exact hne (by rw [Option.some.inj h'])
/-- Of what was there just these blocks may have changed. -/
structure Only (w w' : World) (B : Nat → Prop) : Prop where
  os : w'.os = w.os
  tape : w'.tape = w.tape
  output : w'.output = w.output
  size : w.heap.size ≤ w'.heap.size
  block : ∀ k, k < w.heap.size → ¬ B k → w'.heap[k]? = w.heap[k]?
theorem Only.refl (w : World) (B : Nat → Prop) : Only w w B := ⟨rfl, rfl, rfl, Nat.le_refl _, fun _ _ _ => rfl⟩
theorem Only.trans {a b c : World} {B : Nat → Prop} (h : Only a b B) (k : Only b c B) : Only a c B :=
  ⟨k.os.trans h.os, k.tape.trans h.tape, k.output.trans h.output, Nat.le_trans h.size k.size, fun i hi hB => (k.block i (Nat.lt_of_lt_of_le hi h.size) hB).trans (h.block i hi hB)⟩
theorem Only.grown {w w' : World} {B : Nat → Prop} {r : Nat} (h : w.grownBy w' (some r)) (hr : B r) : Only w w' B :=
  ⟨h.os, h.tape, h.output, h.size, fun k hk hB => h.block k hk (fun e => hB (by rw [Option.some.inj e]; exact hr))⟩
theorem Only.below {w w' : World} {B : Nat → Prop} (h : Below w.heap.size w w') : Only w w' B := ⟨h.os, h.tape, h.output, h.size, fun k hk _ => h.block k hk⟩
theorem Only.mono {w w' : World} {B C : Nat → Prop} (h : Only w w' B) (hc : ∀ k, B k → C k) : Only w w' C := ⟨h.os, h.tape, h.output, h.size, fun k hk hC => h.block k hk (fun e => hC (hc k e))⟩
/-- Old memory stays, where all of these blocks are new. -/
theorem Only.old {a w w' : World} {B : Nat → Prop} {m : Nat} (h : Below m a w) (k : Only w w' B) (hm : m ≤ w.heap.size) (hB : ∀ k, B k → m ≤ k) : Below m a w' :=
  ⟨k.os.trans h.os, k.tape.trans h.tape, k.output.trans h.output, Nat.le_trans h.size k.size, fun i hi => (k.block i (by omega) (fun e => by have := hB i e; omega)).trans (h.block i hi)⟩
theorem Only.kept {w w' : World} {B : Nat → Prop} (h : Only w w' B) {k : Nat} {o : Obj} (hk : w.heap[k]? = some o) (hB : ¬ B k) : w'.heap[k]? = some o := (h.block k (lt_of_block hk) hB).trans hk
theorem Only.drewN (w : World) (n : Nat) (B : Nat → Prop) : Only w (w.drewN n) B := ⟨rfl, rfl, rfl, Nat.le_refl _, fun _ _ _ => rfl⟩
end Go.Proofs.YtiohnhgoddfebaaDoor
