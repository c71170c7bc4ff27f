/- What OctetBack gathers: numbers that may be put, and their widths, in two rows of its own; slices of numbers that came in. No condition. -/
import Derived.Test.YtoajgpmljelaiaaB13
import Derived.OwnWalk
namespace Go.Proofs.Ytoajgpmljelaiaa
open Go.RowKit
set_option maxRecDepth 100000

/-- A slice of numbers that came in. -/
def NumsAt (w : World) (v : Value) (L : List Nat) : Prop := ∃ a c, v = .slice a L.length c ∧ (∀ x ∈ L, x < 4294967296) ∧ (L = [] ∨ ∃ b o, a = some ⟨b, o, none⟩ ∧ b < w.heap.size ∧ ∀ i, i < L.length → w.cell? ⟨b, o + i, none⟩ = some (.int .u32 ((L.getD i 0 : Nat) : Int)))
/-- A slice of widths that came in. -/
def IntsAt (w : World) (v : Value) (L : List Int) : Prop := ∃ a c, v = .slice a L.length c ∧ (∀ x ∈ L, -9223372036854775808 ≤ x ∧ x ≤ 9223372036854775807) ∧ (L = [] ∨ ∃ b o, a = some ⟨b, o, none⟩ ∧ b < w.heap.size ∧ ∀ i, i < L.length → w.cell? ⟨b, o + i, none⟩ = some (.int .i64 (L.getD i 0)))

abbrev QL := List (Nat × Nat)
def okQ (Q : QL) : Prop := ∀ q ∈ Q, 1 ≤ q.2 ∧ q.2 ≤ 4 ∧ q.1 < 256 ^ q.2
/-- All of their bytes, one behind the other. -/
def enc (Q : QL) : List UInt8 := Q.flatMap fun q => bytesOf q.1 q.2
theorem enc_length (Q : QL) (h : okQ Q) : (enc Q).length ≤ 4 * Q.length := by
  induction Q with
  | nil => simp [enc]
  | cons q Q ih =>
    have h1 := ih (fun x hx => h x (by simp [hx]))
    have h2 := (h q (by simp)).2.1
    simp only [enc, List.flatMap_cons, List.length_append, bytesOf_length, List.length_cons] at h1 ⊢
    omega
theorem enc_snoc (Q : QL) (n k : Nat) : enc (Q ++ [(n, k)]) = enc Q ++ bytesOf n k := by simp [enc]
theorem enc_drop (Q : QL) (j : Nat) (h : j < Q.length) : enc (Q.drop j) = bytesOf (Q.getD j default).1 (Q.getD j default).2 ++ enc (Q.drop (j + 1)) := by
  have e : Q.getD j default = Q[j] := by simp [List.getD_eq_getElem?_getD, h]
  rw [e, List.drop_eq_getElem_cons h]
  simp only [enc, List.flatMap_cons]
theorem okQ.at_ {Q : QL} (h : okQ Q) (j : Nat) (hj : j < Q.length) : 1 ≤ (Q.getD j default).2 ∧ (Q.getD j default).2 ≤ 4 ∧ (Q.getD j default).1 < 256 ^ (Q.getD j default).2 :=
  h _ (by rw [List.getD_eq_getElem?_getD, List.getElem?_eq_getElem hj]; exact List.getElem_mem _)
theorem okQ.snoc {Q : QL} (h : okQ Q) (n k : Nat) (h1 : 1 ≤ k) (h2 : k ≤ 4) (h3 : n < 256 ^ k) : okQ (Q ++ [(n, k)]) := by
  intro q hq
  rcases List.mem_append.1 hq with hq | hq
  · exact h q hq
  · simp at hq; subst hq; exact ⟨h1, h2, h3⟩
theorem numS_enc (Q : QL) (h : okQ Q) (j : Nat) (hj : j < Q.length) : numS (some (enc (Q.drop j))) ((Q.getD j default).2 : Int) = ((Q.getD j default).1, some (enc (Q.drop (j + 1)))) := by
  obtain ⟨h1, h2, h3⟩ := h.at_ j hj
  rw [enc_drop Q j hj]
  exact numS_put _ _ _ h1 h2 h3

def numsV (Q : QL) : List Value := Q.map fun q => .int .u32 (q.1 : Int)
def widthsV (Q : QL) : List Value := Q.map fun q => .int .i64 (q.2 : Int)
/-- What was gathered. -/
structure Kept (W w : World) (kept wide : Value) (Q : QL) : Prop where
  ok : okQ Q
  o1 : w.ownsRow W.heap.size 22 1 kept Q.length (numsV Q)
  o2 : w.ownsRow W.heap.size 3 1 wide Q.length (widthsV Q)
  below : Below W.heap.size W w
theorem own_apart {w : World} {base base' : Nat} {e e' : TypeId} {v v' : Value} {n n' : Nat} {xs xs' : List Value} (h : w.ownsRow base e 1 v n xs) (h' : w.ownsRow base' e' 1 v' n' xs') (hne : e ≠ e') : v.ownBlock = none ∨ v.ownBlock ≠ v'.ownBlock := by
  rcases h.2 with ⟨rfl, _⟩ | ⟨g, cap, cur, rfl, _, hg, _⟩
  · exact Or.inl rfl
  · right
    rcases h'.2 with ⟨rfl, _⟩ | ⟨g', cap', cur', rfl, _, hg', _⟩
    · simp [Value.ownBlock]
    · intro e1
      have e2 : g = g' := by simpa [Value.ownBlock] using e1
      subst e2
      rw [hg] at hg'
      simp only [Option.some.injEq, Obj.cells.injEq] at hg'
      exact hne hg'.2.1
theorem Kept.step {W w w' : World} {kept wide : Value} {Q : QL} (h : Kept W w kept wide Q) (k : Below w.heap.size w w') : Kept W w' kept wide Q := by
  have hg := grownBy_of_below k none
  exact ⟨h.ok, h.o1.kept hg (by cases hv : kept.ownBlock <;> simp), h.o2.kept hg (by cases hv : wide.ownBlock <;> simp), h.below.trans (k.mono h.below.size)⟩
/-- The first row has grown by one number. -/
structure Half (W w : World) (kept wide : Value) (Q : QL) (n : Nat) : Prop where
  ok : okQ Q
  o1 : w.ownsRow W.heap.size 22 1 kept (Q.length + 1) (numsV Q ++ [.int .u32 (n : Int)])
  o2 : w.ownsRow W.heap.size 3 1 wide Q.length (widthsV Q)
  below : Below W.heap.size W w
theorem Kept.first {W w w' : World} {kept kept' wide : Value} {Q : QL} {n : Nat} (h : Kept W w kept wide Q) (ho : w'.ownsRow W.heap.size 22 1 kept' (Q.length + 1) (numsV Q ++ [.int .u32 (n : Int)])) (hg : w.grownBy w' kept.ownBlock) : Half W w' kept' wide Q n :=
  ⟨h.ok, ho, h.o2.kept hg (own_apart h.o2 h.o1 (by decide)), h.below.grown hg h.below.size (fun k hk => (h.o1.lt k hk).1)⟩
theorem Half.step {W w w' : World} {kept wide : Value} {Q : QL} {n : Nat} (h : Half W w kept wide Q n) (k : Below w.heap.size w w') : Half W w' kept wide Q n := by
  have hg := grownBy_of_below k none
  exact ⟨h.ok, h.o1.kept hg (by cases hv : kept.ownBlock <;> simp), h.o2.kept hg (by cases hv : wide.ownBlock <;> simp), h.below.trans (k.mono h.below.size)⟩
theorem Half.second {W w w' : World} {kept wide wide' : Value} {Q : QL} {n k : Nat} (h : Half W w kept wide Q n) (h1 : 1 ≤ k) (h2 : k ≤ 4) (h3 : n < 256 ^ k) (ho : w'.ownsRow W.heap.size 3 1 wide' (Q.length + 1) (widthsV Q ++ [.int .i64 (k : Int)])) (hg : w.grownBy w' wide.ownBlock) : Kept W w' kept wide' (Q ++ [(n, k)]) := by
  refine ⟨h.ok.snoc n k h1 h2 h3, ?_, ?_, h.below.grown hg h.below.size (fun k hk => (h.o2.lt k hk).1)⟩
  · have := h.o1.kept hg (own_apart h.o1 h.o2 (by decide))
    simpa [numsV] using this
  · simpa [widthsV] using ho
theorem Kept.start (W : World) : Kept W W (.slice none 0 0) (.slice none 0 0) [] :=
  ⟨fun q hq => by simp at hq, World.ownsRow_nil _ _ _ _, World.ownsRow_nil _ _ _ _, Below.refl _ _⟩

/-- The rows, cell by cell. -/
def Cells2 (w : World) (g1 g2 : Nat) (Q : QL) : Prop := ∀ j, j < Q.length → w.cell? ⟨g1, j, none⟩ = some (.int .u32 ((Q.getD j default).1 : Int)) ∧ w.cell? ⟨g2, j, none⟩ = some (.int .i64 ((Q.getD j default).2 : Int))
theorem Cells2.below {w w' : World} {g1 g2 : Nat} {Q : QL} (h : Cells2 w g1 g2 Q) (k : Below w.heap.size w w') : Cells2 w' g1 g2 Q := fun j hj =>
  ⟨(k.cell (p := ⟨g1, j, none⟩) (block_lt_of_cell (h j hj).1)).trans (h j hj).1, (k.cell (p := ⟨g2, j, none⟩) (block_lt_of_cell (h j hj).2)).trans (h j hj).2⟩
theorem Cells2.grown {w w' : World} {g1 g2 b : Nat} {Q : QL} (h : Cells2 w g1 g2 Q) (k : w.grownBy w' (some b)) (h1 : g1 ≠ b) (h2 : g2 ≠ b) : Cells2 w' g1 g2 Q := fun j hj =>
  ⟨k.cell (h j hj).1 (fun e => h1 (Option.some.inj e)), k.cell (h j hj).2 (fun e => h2 (Option.some.inj e))⟩
theorem own_slice {w : World} {base : Nat} {e : TypeId} {v : Value} {n : Nat} {xs : List Value} (h : w.ownsRow base e 1 v n xs) : ∃ a c, v = .slice a n c ∧ (n = 0 ∨ ∃ g, a = some ⟨g, 0, none⟩ ∧ g < w.heap.size ∧ ∀ j u, xs[j]? = some u → w.cell? ⟨g, j, none⟩ = some u) := by
  have h' := h
  rcases h.2 with ⟨rfl, rfl⟩ | ⟨g, cap, cur, rfl, _, hg, _⟩
  · exact ⟨none, 0, rfl, Or.inl rfl⟩
  · refine ⟨_, cap, rfl, Or.inr ⟨g, rfl, lt_of_block hg, fun j u hu => ?_⟩⟩
    have := h'.cells (g := g) rfl j u hu
    rwa [show (⟨g, 0, none⟩ : Addr).add j = ⟨g, j, none⟩ by unfold Addr.add; split <;> simp_all] at this
/-- Both rows, opened. -/
theorem Kept.open_ {W w : World} {kept wide : Value} {Q : QL} (h : Kept W w kept wide Q) : ∃ a1 c1 a2 c2, kept = .slice a1 Q.length c1 ∧ wide = .slice a2 Q.length c2 ∧ (Q = [] ∨ ∃ g1 g2, a1 = some ⟨g1, 0, none⟩ ∧ a2 = some ⟨g2, 0, none⟩ ∧ g1 < w.heap.size ∧ g2 < w.heap.size ∧ Cells2 w g1 g2 Q) := by
  obtain ⟨a1, c1, e1, h1⟩ := own_slice h.o1
  obtain ⟨a2, c2, e2, h2⟩ := own_slice h.o2
  refine ⟨a1, c1, a2, c2, e1, e2, ?_⟩
  rcases h1 with h1 | ⟨g1, e1, l1, h1⟩
  · exact Or.inl (List.eq_nil_of_length_eq_zero h1)
  rcases h2 with h2 | ⟨g2, e2, l2, h2⟩
  · exact Or.inl (List.eq_nil_of_length_eq_zero h2)
  refine Or.inr ⟨g1, g2, e1, e2, l1, l2, fun j hj => ⟨h1 j _ ?_, h2 j _ ?_⟩⟩
  · simp [numsV, List.getD_eq_getElem?_getD, hj]
  · simp [widthsV, List.getD_eq_getElem?_getD, hj]
end Go.Proofs.Ytoajgpmljelaiaa
