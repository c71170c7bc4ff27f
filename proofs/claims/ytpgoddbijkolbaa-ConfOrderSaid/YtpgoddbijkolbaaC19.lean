/- What the document's own Get carries on, layer 6: the reader's state, three rows of its own. In lists, and in memory. Condition: the bytes are 2000 at most. -/
import Derived.Test.YtpgoddbijkolbaaC14
import Derived.Test.YtpgoddbijkolbaaC17
namespace Go.Proofs.Ytpgoddbijkolbaa
open Go.RowKit
set_option maxRecDepth 100000

/-- The number that comes next, and the state behind it. -/
def numO (st : RdS) (k : Nat) : Nat × RdS := match st.bind (numP k) with | some (n, r) => (n, some r) | none => (0, none)
theorem numS_numO (st : RdS) (k : Nat) (h1 : 1 ≤ k) (h2 : k ≤ 4) : numS st (k : Int) = numO st k := by
  cases st with
  | none => rfl
  | some l =>
    rw [numS_numP k h1 h2 l]
    rfl
theorem numO_lt (st : RdS) (k : Nat) : (numO st k).1 < 256 ^ k := by
  unfold numO
  cases st with
  | none => exact Nat.pow_pos (by decide)
  | some l =>
    simp only [Option.bind_some]
    cases h : numP k l with
    | none => exact Nat.pow_pos (by decide)
    | some p => exact (numP_some h).2
theorem numO_row1 (ks : List Nat) (k : Nat) (st : RdS) (T : Row) (st2 : RdS) (h : (numO st k).2.bind (rowP ks) = st2.map fun r => (T, r)) : st.bind (rowP (k :: ks)) = st2.map fun r => (((numO st k).1 : Int) :: T, r) := by
  cases st with
  | none =>
    cases st2 with
    | none => rfl
    | some r => simp [numO] at h
  | some l =>
    simp only [numO, Option.bind_some] at h ⊢
    simp only [rowP]
    cases hn : numP k l with
    | none =>
      rw [hn] at h
      cases st2 with
      | none => rfl
      | some r => simp at h
    | some p =>
      rw [hn] at h
      simp only [Option.bind_some] at h ⊢
      rw [h]
      cases st2 <;> rfl
theorem rowP_nil (st : RdS) : st.bind (rowP []) = st.map fun r => (([] : Row), r) := by cases st <;> rfl
/-- A list was read, or it could not be. -/
def Phase (ws : List Nat) (st : RdS) (S : List Row) (st' : RdS) : Prop := st.bind (listP ws) = st'.map fun r => (S, r)
/-- So many rows were read, or they could not be. -/
def Rows6 (ws : List Nat) (st : RdS) (j : Nat) (S : List Row) (st' : RdS) : Prop := st.bind (rowsP ws j) = st'.map fun r => (S, r)
theorem Rows6.zero (ws : List Nat) (st : RdS) : Rows6 ws st 0 [] st := by
  unfold Rows6
  cases st <;> rfl
theorem Rows6.next {ws : List Nat} {st : RdS} {j : Nat} {S : List Row} {rr : List UInt8} {T : Row} {st2 : RdS} (h : Rows6 ws st j S (some rr)) (k : (some rr : RdS).bind (rowP ws) = st2.map fun r => (T, r)) : Rows6 ws st (j + 1) (S ++ [T]) st2 := by
  unfold Rows6 at h ⊢
  cases st with
  | none => simp at h
  | some l =>
    simp only [Option.bind_some] at h k ⊢
    rw [rowsP, h]
    simp only [Option.map_some, Option.bind_some, k]
    cases st2 <;> rfl
theorem Rows6.stop {ws : List Nat} {st : RdS} {j n : Nat} {S : List Row} (h : Rows6 ws st j S none) (hj : j ≤ n) : Rows6 ws st n S none := by
  unfold Rows6 at h ⊢
  cases st with
  | none => rfl
  | some l =>
    simp only [Option.bind_some, Option.map_none] at h ⊢
    exact rowsP_none ws l j h n hj
theorem Rows6.phase {ws : List Nat} {st st' : RdS} {S : List Row} (h : Rows6 ws (numO st 1).2 (numO st 1).1 S st') : Phase ws st S st' := by
  unfold Rows6 at h
  unfold Phase
  rw [← h]
  cases st with
  | none => rfl
  | some l =>
    simp only [Option.bind_some, listP, numO]
    cases numP 1 l <;> rfl
/-- What the three lists say of the bytes. -/
theorem parse_phases {l : List UInt8} {P W H : List Row} {s1 s2 s3 : RdS} (h1 : Phase pw (textP magic l) P s1) (h2 : Phase ww s1 W s2) (h3 : Phase cw s2 H s3) : parse l = s3.bind fun r => if r = [] then some (P, W, H) else none := by
  unfold Phase at h1 h2 h3
  simp only [parse, preP]
  cases ht : textP magic l with
  | none =>
    rw [ht] at h1
    cases s1 with
    | some r => simp at h1
    | none =>
      cases s2 with
      | some r => simp at h2
      | none =>
        cases s3 with
        | some r => simp at h3
        | none => rfl
  | some l0 =>
    rw [ht] at h1
    simp only [Option.bind_some] at h1 ⊢
    rw [h1]
    cases s1 with
    | none =>
      cases s2 with
      | some r => simp at h2
      | none =>
        cases s3 with
        | some r => simp at h3
        | none => rfl
    | some l1 =>
      simp only [Option.bind_some, Option.map_some] at h2 ⊢
      rw [h2]
      cases s2 with
      | none =>
        cases s3 with
        | some r => simp at h3
        | none => rfl
      | some l2 =>
        simp only [Option.bind_some, Option.map_some] at h3 ⊢
        rw [h3]
        cases s3 with
        | none => rfl
        | some l3 => rfl

theorem RRdL.below {w w' : World} {r : Nat} {S : List UInt8} {s : RdS} (h : RRdL w r S s) (hb : Below w.heap.size w w') : RRdL w' r S s := by
  obtain ⟨a, f, h, e⟩ := h
  exact ⟨a, f, ⟨below_block hb h.box, h.le, h.top⟩, e⟩
theorem RRdL.keep {w w' : World} {r : Nat} {k : Option Nat} {S : List UInt8} {s : RdS} (h : RRdL w r S s) (hg : w.grownBy w' k) (hne : k ≠ some r) : RRdL w' r S s := by
  obtain ⟨a, f, h, e⟩ := h
  exact ⟨a, f, ⟨(hg.block r (lt_of_block h.box) (fun e => hne e.symm)).trans h.box, h.le, h.top⟩, e⟩
theorem own_ne {w : World} {base k n j : Nat} {e t : TypeId} {v : Value} {xs : List Value} {cs : Array Value} {fz : Nat × Nat} (h : w.ownsRow base e k v n xs) (hx : w.heap[j]? = some (.cells cs t fz)) (ht : t ≠ e) : v.ownBlock ≠ some j := by
  intro hv
  rcases h.2 with ⟨rfl, _⟩ | ⟨g, cap, cur, rfl, _, hg, _⟩
  · simp [Value.ownBlock] at hv
  · simp [Value.ownBlock] at hv
    subst hv
    rw [hx] at hg
    simp only [Option.some.injEq, Obj.cells.injEq] at hg
    exact ht hg.2.1
theorem own_two {w : World} {b1 b2 k1 k2 n1 n2 : Nat} {e1 e2 : TypeId} {v1 v2 : Value} {x1 x2 : List Value} (h1 : w.ownsRow b1 e1 k1 v1 n1 x1) (h2 : w.ownsRow b2 e2 k2 v2 n2 x2) (hne : e1 ≠ e2) : v1.ownBlock = none ∨ v1.ownBlock ≠ v2.ownBlock := by
  rcases h2.2 with ⟨rfl, _⟩ | ⟨g, cap, cur, rfl, _, hg, _⟩
  · cases hv : v1.ownBlock with
    | none => exact Or.inl rfl
    | some j => exact Or.inr (by simp [Value.ownBlock])
  · exact Or.inr (own_ne h1 hg (fun e => hne e.symm))
/-- What Get carries on. -/
structure GSt (w w' : World) (c r : Nat) (l : List UInt8) (st : RdS) (v1 v2 v3 : Value) (P W H : List Row) : Prop where
  rd : RRdL w' r l st
  box : CBox w' c v1 v2 v3
  o1 : w'.ownsRow w.heap.size 41 2 v1 P.length (flatV P)
  o2 : w'.ownsRow w.heap.size 44 2 v2 W.length (flatV W)
  o3 : w'.ownsRow w.heap.size 46 4 v3 H.length (flatV H)
  res : CBox w' w.heap.size (.slice none 0 0) (.slice none 0 0) (.slice none 0 0)
  below : Below w.heap.size w w'
theorem RRdL.box {w : World} {r : Nat} {S : List UInt8} {s : RdS} (h : RRdL w r S s) : ∃ u, w.heap[r]? = some (.cells u 57 (0, 0)) := by
  obtain ⟨a, f, h, _⟩ := h
  exact ⟨_, h.box⟩
theorem GSt.rc {w w' : World} {c r : Nat} {l : List UInt8} {st : RdS} {v1 v2 v3 : Value} {P W H : List Row} (h : GSt w w' c r l st v1 v2 v3 P W H) : c ≠ r := by
  intro e
  subst e
  obtain ⟨u, hu⟩ := h.rd.box
  have := h.box
  unfold CBox at this
  rw [this] at hu
  simp at hu
theorem GSt.rr {w w' : World} {c r : Nat} {l : List UInt8} {st : RdS} {v1 v2 v3 : Value} {P W H : List Row} (h : GSt w w' c r l st v1 v2 v3 P W H) : w.heap.size ≠ r := by
  intro e
  subst e
  obtain ⟨u, hu⟩ := h.rd.box
  have := h.res
  unfold CBox at this
  rw [this] at hu
  simp at hu
/-- The reader went on. -/
theorem GSt.num {w w1 w2 : World} {c r : Nat} {l : List UInt8} {st st' : RdS} {v1 v2 v3 : Value} {P W H : List Row} (h : GSt w w1 c r l st v1 v2 v3 P W H) (hr : w.heap.size ≤ r) (hg : w1.grownBy w2 (some r)) (hd : RRdL w2 r l st') : GSt w w2 c r l st' v1 v2 v3 P W H := by
  obtain ⟨u, hu⟩ := h.rd.box
  exact ⟨hd, kept_block hg h.box h.rc, h.o1.kept hg (Or.inr (own_ne h.o1 hu (by decide))), h.o2.kept hg (Or.inr (own_ne h.o2 hu (by decide))), h.o3.kept hg (Or.inr (own_ne h.o3 hu (by decide))), kept_block hg h.res h.rr, h.below.trans (below_of_grownBy hg h.below.size hr)⟩
theorem GSt.step {w w1 w2 : World} {c r : Nat} {l : List UInt8} {st : RdS} {v1 v2 v3 : Value} {P W H : List Row} (h : GSt w w1 c r l st v1 v2 v3 P W H) (hb : Below w1.heap.size w1 w2) : GSt w w2 c r l st v1 v2 v3 P W H := by
  have hg := grownBy_of_below hb none
  exact ⟨h.rd.below hb, h.box.below hb, h.o1.kept hg (by cases hv : v1.ownBlock <;> simp), h.o2.kept hg (by cases hv : v2.ownBlock <;> simp), h.o3.kept hg (by cases hv : v3.ownBlock <;> simp), h.res.below hb, h.below.trans (hb.mono h.below.size)⟩
theorem ownBlock_grown {B : Nat} {w w1 w2 : World} {k n : Nat} {e : TypeId} {v : Value} {xs : List Value} (h : Below B w w1) (o : w1.ownsRow B e k v n xs) (hg : w1.grownBy w2 v.ownBlock) (hB : B ≤ w1.heap.size) : Below B w w2 :=
  h.grown hg hB (fun k hk => (o.lt k hk).1)
theorem CBox.set0 {w : World} {c : Nat} {v1 v2 v3 : Value} (h : CBox w c v1 v2 v3) (v : Value) : CBox (w.setCell ⟨c, 0, none⟩ v) c v v2 v3 := by
  have := heap_setCell_same w c 0 _ _ v h
  unfold CBox; simpa using this
theorem CBox.set1 {w : World} {c : Nat} {v1 v2 v3 : Value} (h : CBox w c v1 v2 v3) (v : Value) : CBox (w.setCell ⟨c, 1, none⟩ v) c v1 v v3 := by
  have := heap_setCell_same w c 1 _ _ v h
  unfold CBox; simpa using this
theorem CBox.set2 {w : World} {c : Nat} {v1 v2 v3 : Value} (h : CBox w c v1 v2 v3) (v : Value) : CBox (w.setCell ⟨c, 2, none⟩ v) c v1 v2 v := by
  have := heap_setCell_same w c 2 _ _ v h
  unfold CBox; simpa using this
/-- The first row has grown; it is not stored yet. -/
theorem GSt.app1 {w w1 w2 : World} {c r i : Nat} {l : List UInt8} {st : RdS} {v1 v2 v3 v : Value} {P W H : List Row} {T : Row} (h : GSt w w1 c r l st v1 v2 v3 P W H) (hc : w.heap.size < c) (hi : i = 0) (ho : w2.ownsRow w.heap.size 41 2 v (P ++ [T]).length (flatV (P ++ [T]))) (hg : w1.grownBy w2 v1.ownBlock) :
    CBox w2 c v1 v2 v3 ∧ GSt w (w2.setCell ⟨c, i, none⟩ v) c r l st v v2 v3 (P ++ [T]) W H := by
  subst hi
  obtain ⟨u, hu⟩ := h.rd.box
  have hX : CBox w2 c v1 v2 v3 := (hg.block c (lt_of_block h.box) (fun e => own_ne h.o1 h.box (by decide) e.symm)).trans h.box
  have hR := h.rd.keep hg (own_ne h.o1 hu (by decide))
  have hres : CBox w2 w.heap.size (.slice none 0 0) (.slice none 0 0) (.slice none 0 0) := (hg.block _ (lt_of_block h.res) (fun e => own_ne h.o1 h.res (by decide) e.symm)).trans h.res
  have h2 := h.o2.kept hg (own_two h.o2 h.o1 (by decide))
  have h3 := h.o3.kept hg (own_two h.o3 h.o1 (by decide))
  have hs := grownBy_setCell w2 c 0 v
  refine ⟨hX, hR.keep hs (fun e => h.rc (Option.some.inj e)), hX.set0 v, ho.kept hs (Or.inr (own_ne ho hX (by decide))), h2.kept hs (Or.inr (own_ne h2 hX (by decide))), h3.kept hs (Or.inr (own_ne h3 hX (by decide))), kept_block hs hres (by omega), ?_⟩
  have hb := ownBlock_grown h.below h.o1 hg h.below.size
  exact hb.trans (below_of_grownBy hs hb.size (by omega))
theorem GSt.app2 {w w1 w2 : World} {c r i : Nat} {l : List UInt8} {st : RdS} {v1 v2 v3 v : Value} {P W H : List Row} {T : Row} (h : GSt w w1 c r l st v1 v2 v3 P W H) (hc : w.heap.size < c) (hi : i = 1) (ho : w2.ownsRow w.heap.size 44 2 v (W ++ [T]).length (flatV (W ++ [T]))) (hg : w1.grownBy w2 v2.ownBlock) :
    CBox w2 c v1 v2 v3 ∧ GSt w (w2.setCell ⟨c, i, none⟩ v) c r l st v1 v v3 P (W ++ [T]) H := by
  subst hi
  obtain ⟨u, hu⟩ := h.rd.box
  have hX : CBox w2 c v1 v2 v3 := (hg.block c (lt_of_block h.box) (fun e => own_ne h.o2 h.box (by decide) e.symm)).trans h.box
  have hR := h.rd.keep hg (own_ne h.o2 hu (by decide))
  have hres : CBox w2 w.heap.size (.slice none 0 0) (.slice none 0 0) (.slice none 0 0) := (hg.block _ (lt_of_block h.res) (fun e => own_ne h.o2 h.res (by decide) e.symm)).trans h.res
  have h1 := h.o1.kept hg (own_two h.o1 h.o2 (by decide))
  have h3 := h.o3.kept hg (own_two h.o3 h.o2 (by decide))
  have hs := grownBy_setCell w2 c 1 v
  refine ⟨hX, hR.keep hs (fun e => h.rc (Option.some.inj e)), hX.set1 v, h1.kept hs (Or.inr (own_ne h1 hX (by decide))), ho.kept hs (Or.inr (own_ne ho hX (by decide))), h3.kept hs (Or.inr (own_ne h3 hX (by decide))), kept_block hs hres (by omega), ?_⟩
  have hb := ownBlock_grown h.below h.o2 hg h.below.size
  exact hb.trans (below_of_grownBy hs hb.size (by omega))
theorem GSt.app3 {w w1 w2 : World} {c r i : Nat} {l : List UInt8} {st : RdS} {v1 v2 v3 v : Value} {P W H : List Row} {T : Row} (h : GSt w w1 c r l st v1 v2 v3 P W H) (hc : w.heap.size < c) (hi : i = 2) (ho : w2.ownsRow w.heap.size 46 4 v (H ++ [T]).length (flatV (H ++ [T]))) (hg : w1.grownBy w2 v3.ownBlock) :
    CBox w2 c v1 v2 v3 ∧ GSt w (w2.setCell ⟨c, i, none⟩ v) c r l st v1 v2 v P W (H ++ [T]) := by
  subst hi
  obtain ⟨u, hu⟩ := h.rd.box
  have hX : CBox w2 c v1 v2 v3 := (hg.block c (lt_of_block h.box) (fun e => own_ne h.o3 h.box (by decide) e.symm)).trans h.box
  have hR := h.rd.keep hg (own_ne h.o3 hu (by decide))
  have hres : CBox w2 w.heap.size (.slice none 0 0) (.slice none 0 0) (.slice none 0 0) := (hg.block _ (lt_of_block h.res) (fun e => own_ne h.o3 h.res (by decide) e.symm)).trans h.res
  have h1 := h.o1.kept hg (own_two h.o1 h.o3 (by decide))
  have h2 := h.o2.kept hg (own_two h.o2 h.o3 (by decide))
  have hs := grownBy_setCell w2 c 2 v
  refine ⟨hX, hR.keep hs (fun e => h.rc (Option.some.inj e)), hX.set2 v, h1.kept hs (Or.inr (own_ne h1 hX (by decide))), h2.kept hs (Or.inr (own_ne h2 hX (by decide))), ho.kept hs (Or.inr (own_ne ho hX (by decide))), kept_block hs hres (by omega), ?_⟩
  have hb := ownBlock_grown h.below h.o3 hg h.below.size
  exact hb.trans (below_of_grownBy hs hb.size (by omega))
end Go.Proofs.Ytpgoddbijkolbaa
