/- What serves every package with a map from numbers: keys; a map's datum whose keys are frames; kinds of blocks; what calls change, as a set of blocks. Nothing of a program's functions. (Split off XA2 in round 11: plain moves.) -/
import Derived.Test.YtolefcbhiajbbaaM5
import Derived.Maps.OwnSet
namespace Go.Proofs.Ytolefcbhiajbbaa
open Go.RowKit Go.Maps
set_option maxRecDepth 100000

theorem keyI : Keyed Try.prog 3 := int_keyed Try.underlying3
theorem zeroI (w : World) : (zeroValue 3).run Try.prog w = .ok (.int .i64 0) w := by kernel_rfl
theorem wfI (x : Int) (h : -9223372036854775808 ≤ x ∧ x ≤ 9223372036854775807) : (Lit.int .i64 x).wf = true := WalkArith.wf_i64 h
theorem keyOfI (x : Int) (h : -9223372036854775808 ≤ x ∧ x ≤ 9223372036854775807) : keyOf Try.prog 3 (.int .i64 x) = some (.int .i64 x) := keyOf_int_mk Try.underlying3 (wfI x h)
theorem isKeyI (x : Int) (h : -9223372036854775808 ≤ x ∧ x ≤ 9223372036854775807) : WideAt.IsKeyLit (.int .i64 x) := keyI.key (keyOfI x h)

theorem nodup_bound : ∀ (m : Nat) (l : List Nat), l.Pairwise (· ≠ ·) → (∀ x ∈ l, x < m) → l.length ≤ m
  | 0, l, _, h => by
    cases l with
    | nil => exact Nat.le_refl _
    | cons x r => exact absurd (h x (by simp)) (by omega)
  | m + 1, l, hn, h => by
    have h1 := nodup_bound m (l.filter (· != m)) (hn.filter _) (fun x hx => by
      obtain ⟨h1, h2⟩ := List.mem_filter.1 hx
      have := h x h1
      simp at h2
      omega)
    have h2 : ∀ l : List Nat, l.Pairwise (· ≠ ·) → l.length ≤ (l.filter (· != m)).length + 1 := by
      intro l hl
      induction l with
      | nil => simp
      | cons x r ih =>
        obtain ⟨a1, a2⟩ := List.pairwise_cons.1 hl
        by_cases e : x = m
        · subst e
          have : r.filter (· != x) = r := List.filter_eq_self.2 fun y hy => by have := a1 y hy; simp; omega
          simp [this]
        · have := ih a2
          rw [List.filter_cons_of_pos (by simpa using e)]
          simp only [List.length_cons]
          omega
    have := h2 l hn
    omega
/-- A map's datum whose keys are frames, each once. -/
def Frames (D : DataW Unit) : Prop := ∃ es, D = .map es ∧ es.Pairwise (fun p q => p.1 ≠ q.1) ∧ ∀ p ∈ es, ∃ x : Nat, x < 1024 ∧ p.1 = .int .i64 (x : Int)
def keyNat : Lit → Nat
  | .int _ n => n.toNat
  | _ => 0
theorem Frames.size {D : DataW Unit} (h : Frames D) : Maps.size D ≤ 1024 := by
  obtain ⟨es, rfl, hp, hk⟩ := h
  have hl : (es.map fun p => keyNat p.1).length ≤ 1024 := by
    refine nodup_bound 1024 _ (List.pairwise_map.2 ?_) fun x hx => ?_
    · refine hp.imp_of_mem fun {a b} ha hb hne e => hne ?_
      obtain ⟨x, _, hx⟩ := hk a ha
      obtain ⟨y, _, hy⟩ := hk b hb
      rw [hx, hy] at e ⊢
      simp only [keyNat, Int.toNat_natCast] at e
      rw [e]
    · obtain ⟨p, hp', rfl⟩ := List.mem_map.1 hx
      obtain ⟨y, hy, e⟩ := hk p hp'
      rw [e]; simpa [keyNat] using hy
  rw [List.length_map] at hl
  exact hl
theorem Frames.isMap {D : DataW Unit} (h : Frames D) : IsMap D := let ⟨es, e, _⟩ := h; ⟨es, e⟩
theorem Frames.put {D : DataW Unit} (h : Frames D) (x : Nat) (hx : x < 1024) (d : DataW Unit) : Frames (D.put (.int .i64 (x : Int)) d) := by
  obtain ⟨es, rfl, hp, hk⟩ := h
  have ht := Tidy.put ⟨es, rfl, hp⟩ (isKeyI (x : Int) (by omega)) d
  obtain ⟨es', e', hp'⟩ := ht
  refine ⟨es', e', hp', fun p hm => ?_⟩
  have e2 : es' = DataW.insert (.int .i64 (x : Int), d) (es.filter fun p => !p.1.sameKey (.int .i64 (x : Int))) := by
    have : DataW.map es' = DataW.map (DataW.insert (.int .i64 (x : Int), d) (es.filter fun p => !p.1.sameKey (.int .i64 (x : Int)))) := e'.symm
    cases this; rfl
  rw [e2] at hm
  rcases Go.ChangeMaps.mem_insert_iff.1 hm with rfl | hm
  · exact ⟨x, hx, rfl⟩
  · exact hk p (List.mem_filter.1 hm).1
theorem Frames.del {D : DataW Unit} (h : Frames D) (k : Lit) : Frames (D.del k) := by
  obtain ⟨es, rfl, hp, hk⟩ := h
  exact ⟨_, rfl, hp.filter _, fun p hm => hk p (List.mem_filter.1 hm).1⟩
theorem lit_ne {x y : Int} (h : x ≠ y) : (Lit.int .i64 x) ≠ (Lit.int .i64 y) := fun e => h (by cases e; rfl)

/-- What kind of thing lies in a block. -/
def kindOf : Obj → Option TypeId
  | .cells _ t _ => some t
  | _ => none
theorem kind_ne {w : World} {k r : Nat} {o o' : Obj} (h : w.heap[k]? = some o) (h' : w.heap[r]? = some o') (hne : kindOf o ≠ kindOf o') : k ≠ r := by
  intro e
  subst e
  rw [h] at h'
  exact hne (by rw [Option.some.inj h'])
/-- Of what was there just these blocks may have changed. -/
structure Only (w w' : World) (B : Nat → Prop) : Prop where
  os : w'.os = w.os
  tape : w'.tape = w.tape
  output : w'.output = w.output
  size : w.heap.size ≤ w'.heap.size
  block : ∀ k, k < w.heap.size → ¬ B k → w'.heap[k]? = w.heap[k]?
theorem Only.refl (w : World) (B : Nat → Prop) : Only w w B := ⟨rfl, rfl, rfl, Nat.le_refl _, fun _ _ _ => rfl⟩
theorem Only.trans {a b c : World} {B : Nat → Prop} (h : Only a b B) (k : Only b c B) : Only a c B :=
  ⟨k.os.trans h.os, k.tape.trans h.tape, k.output.trans h.output, Nat.le_trans h.size k.size, fun i hi hB => (k.block i (Nat.lt_of_lt_of_le hi h.size) hB).trans (h.block i hi hB)⟩
theorem Only.grown {w w' : World} {B : Nat → Prop} {r : Nat} (h : w.grownBy w' (some r)) (hr : B r) : Only w w' B :=
  ⟨h.os, h.tape, h.output, h.size, fun k hk hB => h.block k hk (fun e => hB (by rw [Option.some.inj e]; exact hr))⟩
theorem Only.below {w w' : World} {B : Nat → Prop} (h : Below w.heap.size w w') : Only w w' B := ⟨h.os, h.tape, h.output, h.size, fun k hk _ => h.block k hk⟩
theorem Only.mono {w w' : World} {B C : Nat → Prop} (h : Only w w' B) (hc : ∀ k, B k → C k) : Only w w' C := ⟨h.os, h.tape, h.output, h.size, fun k hk hC => h.block k hk (fun e => hC (hc k e))⟩
/-- Old memory stays, where all of these blocks are new. -/
theorem Only.old {a w w' : World} {B : Nat → Prop} {m : Nat} (h : Below m a w) (k : Only w w' B) (hm : m ≤ w.heap.size) (hB : ∀ k, B k → m ≤ k) : Below m a w' :=
  ⟨k.os.trans h.os, k.tape.trans h.tape, k.output.trans h.output, Nat.le_trans h.size k.size, fun i hi => (k.block i (by omega) (fun e => by have := hB i e; omega)).trans (h.block i hi)⟩
theorem Only.kept {w w' : World} {B : Nat → Prop} (h : Only w w' B) {k : Nat} {o : Obj} (hk : w.heap[k]? = some o) (hB : ¬ B k) : w'.heap[k]? = some o := (h.block k (lt_of_block hk) hB).trans hk
theorem Only.drewN (w : World) (n : Nat) (B : Nat → Prop) : Only w (w.drewN n) B := ⟨rfl, rfl, rfl, Nat.le_refl _, fun _ _ _ => rfl⟩
theorem own_base {w : World} {base base' k n : Nat} {e : TypeId} {v : Value} {xs : List Value} (h : w.ownsRow base e k v n xs) (hb : base' ≤ base) : w.ownsRow base' e k v n xs := by
  refine ⟨h.1, ?_⟩
  rcases h.2 with hn | ⟨g, cap, cur, rfl, hb', rest⟩
  · exact .inl hn
  · exact .inr ⟨g, cap, cur, rfl, Nat.le_trans hb hb', rest⟩
theorem own_step {w w' : World} {base k n : Nat} {e : TypeId} {v : Value} {xs : List Value} (h : w.ownsRow base e k v n xs) (hb : Below w.heap.size w w') : w'.ownsRow base e k v n xs :=
  h.kept (grownBy_of_below hb none) (by cases hv : v.ownBlock <;> simp)
theorem own_block {w : World} {base k n : Nat} {e : TypeId} {v : Value} {xs : List Value} (h : w.ownsRow base e k v n xs) {g : Nat} (hg : v.ownBlock = some g) : ∃ cs, w.heap[g]? = some (.cells cs e (0, 0)) := by
  rcases h.2 with ⟨rfl, _⟩ | ⟨g', cap, cur, rfl, _, hgg, _⟩
  · simp [Value.ownBlock] at hg
  · simp [Value.ownBlock] at hg
    subst hg
    exact ⟨_, hgg⟩
theorem ownsRow_only {w w' : World} {base k n : Nat} {e : TypeId} {v : Value} {xs : List Value} {B : Nat → Prop} (h : w.ownsRow base e k v n xs) (hw : Only w w' B) (hB : ∀ g, v.ownBlock = some g → ¬ B g) : w'.ownsRow base e k v n xs := by
  refine ⟨h.1, ?_⟩
  rcases h.2 with hn | ⟨g, cap, cur, rfl, hb, hgg, rest⟩
  · exact .inl hn
  · exact .inr ⟨g, cap, cur, rfl, hb, hw.kept hgg (hB g rfl), rest⟩
theorem owns_slice {w : World} {base k n : Nat} {e : TypeId} {v : Value} {xs : List Value} (h : w.ownsRow base e k v n xs) : ∃ a c, v = .slice a n c := by
  rcases h.2 with ⟨rfl, rfl⟩ | ⟨g, cap, cur, rfl, _⟩
  · exact ⟨_, _, rfl⟩
  · exact ⟨_, _, rfl⟩
/-- A row cut in two. -/
theorem row_cut {w : World} {base q n : Nat} {e : TypeId} {v : Value} {xs : List Value} (h : w.ownsRow base e q v n xs) (i : Nat) : (v = .slice none 0 0 ∧ n = 0) ∨ ∃ b c, v = .slice (some ⟨b, 0, none⟩) n c ∧ n ≤ c ∧ c ≤ maxLen ∧ b < w.heap.size ∧
    (∀ j u, (xs.take (i * q))[j]? = some u → w.cell? ((⟨b, 0, none⟩ : Addr).add j) = some u) ∧ (∀ j u, (xs.drop (i * q))[j]? = some u → w.cell? ((⟨b, i * q, none⟩ : Addr).add j) = some u) := by
  have hc := h
  rcases h.2 with ⟨h1, h0⟩ | ⟨g, cap, cur, rfl, hb, hgg, hnc, hcm, _⟩
  · exact Or.inl ⟨h1, h0⟩
  · refine Or.inr ⟨g, cap, rfl, hnc, hcm, lt_of_block hgg, fun j u hu => ?_, fun j u hu => ?_⟩
    · rw [List.getElem?_take] at hu
      split at hu
      · exact hc.cells (g := g) rfl j u hu
      · cases hu
    · rw [List.getElem?_drop] at hu
      have := hc.cells (g := g) rfl _ u hu
      rw [Addr.add_mid, Nat.zero_add] at this
      rw [Addr.add_mid]; exact this
/-- Four cells of a block. -/
theorem box4 {w : World} {k : Nat} {a b c d : Value} {t : TypeId} (h : w.heap[k]? = some (.cells #[a, b, c, d] t (0, 0))) :
    w.cell? ⟨k, 0, none⟩ = some a ∧ w.cell? ⟨k, 1, none⟩ = some b ∧ w.cell? ⟨k, 2, none⟩ = some c ∧ w.cell? ⟨k, 3, none⟩ = some d ∧ (∀ i, w.frozen? ⟨k, i, none⟩ = false) := by
  refine ⟨?_, ?_, ?_, ?_, fun i => frozen_of_row w k i _ _ h⟩ <;> (rw [cell_of_row w k _ _ _ _ h]; rfl)
abbrev I64 (x : Int) : Prop := -9223372036854775808 ≤ x ∧ x ≤ 9223372036854775807
theorem own_set {w : World} {base k g n cap j : Nat} {e : TypeId} {xs : List Value} (h : w.ownsRow base e k (.slice (some ⟨g, 0, none⟩) n cap) n xs) (u : Value) : (w.setCell ⟨g, j, none⟩ u).ownsRow base e k (.slice (some ⟨g, 0, none⟩) n cap) n (xs.set j u) := by
  rcases h.2 with ⟨h0, _⟩ | ⟨g', cap', cur, hv, hb, hg, h1, h2, h3, h4⟩
  · simp at h0
  · simp only [Value.slice.injEq, Option.some.injEq, Addr.mk.injEq] at hv
    obtain ⟨⟨rfl, -, -⟩, -, rfl⟩ := hv
    refine ⟨by rw [List.length_set]; exact h.1, Or.inr ⟨g, cap, cur.setIfInBounds j u, rfl, hb, heap_setCell_same w g j _ _ u hg, h1, h2, by simpa using h3, ?_⟩⟩
    rw [Array.toList_setIfInBounds, List.take_set, h4]
theorem cells3 {w : World} {b : Nat} {x y z : Value} {t : TypeId} (h : w.heap[b]? = some (.cells #[x, y, z] t (0, 0))) : w.cell? ⟨b, 0, none⟩ = some x ∧ w.cell? ⟨b, 1, none⟩ = some y ∧ w.cell? ⟨b, 2, none⟩ = some z := by
  refine ⟨?_, ?_, ?_⟩ <;> (rw [cell_of_row _ _ _ _ _ _ h]; rfl)
end Go.Proofs.Ytolefcbhiajbbaa
