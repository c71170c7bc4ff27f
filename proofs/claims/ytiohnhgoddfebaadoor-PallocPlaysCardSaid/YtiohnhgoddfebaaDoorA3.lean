/- A pool in memory; the contracts of package palloc's isThere, isIn, meet, Owner. Condition: the pool lies as New laid it, or there is none, or nobody made it. -/
import Derived.Test.YtiohnhgoddfebaaDoorA2
namespace Go.Proofs.YtiohnhgoddfebaaDoor
open Go.RowKit
set_option maxRecDepth 100000

/-- What a pool is made of: its box, its memory's box and words, its map; the slice of its partitions; of each the set's block and the range. -/
structure PIx where
  pb : Nat
  mp : Nat
  fb : Nat
  mb : Nat
  base : Nat
  n : Nat
  v : Value
  T : List (Nat × (Nat × Nat))
def PIx.P (X : PIx) : List (Nat × Nat) := X.T.map (·.2)
theorem PIx.P_length (X : PIx) : X.P.length = X.T.length := by simp [PIx.P]
theorem P_get (T : List (Nat × (Nat × Nat))) (i : Nat) (h : i < T.length) : (T.map (·.2)).getD i (0, 0) = (T.getD i default).2 := by
  simp [List.getD_eq_getElem?_getD, h]
/-- What calls may change. -/
def PIx.blocks (X : PIx) (k : Nat) : Prop := k = X.fb ∨ k = X.mb ∨ k ∈ X.T.map (·.1)
/-- All of a pool's. -/
def PIx.all (X : PIx) (k : Nat) : Prop := X.blocks k ∨ k = X.pb ∨ k = X.mp ∨ X.v.ownBlock = some k
def stockV (T : List (Nat × (Nat × Nat))) : List Value := T.flatMap fun t => [.pointer (some ⟨t.1, 0, none⟩), .int .i64 (t.2.1 : Int), .int .i64 (t.2.2 : Int)]
theorem stockV_snoc (T : List (Nat × (Nat × Nat))) (t : Nat × (Nat × Nat)) : stockV (T ++ [t]) = stockV T ++ [.pointer (some ⟨t.1, 0, none⟩), .int .i64 (t.2.1 : Int), .int .i64 (t.2.2 : Int)] := by simp [stockV]
theorem stockV_length : ∀ T : List (Nat × (Nat × Nat)), (stockV T).length = T.length * 3
  | [] => rfl
  | t :: r => by
    have := stockV_length r
    simp only [stockV, List.flatMap_cons, List.length_append, List.length_cons, List.length_nil] at this ⊢
    omega
theorem stockV_get : ∀ (T : List (Nat × (Nat × Nat))) (i : Nat), i < T.length → (stockV T)[i * 3]? = some (.pointer (some ⟨(T.getD i default).1, 0, none⟩)) ∧ (stockV T)[i * 3 + 1]? = some (.int .i64 ((T.getD i default).2.1 : Int)) ∧ (stockV T)[i * 3 + 2]? = some (.int .i64 ((T.getD i default).2.2 : Int))
  | [], i, h => by simp at h
  | t :: r, 0, _ => ⟨rfl, rfl, rfl⟩
  | t :: r, i + 1, h => by
    have e : stockV (t :: r) = [.pointer (some ⟨t.1, 0, none⟩), .int .i64 (t.2.1 : Int), .int .i64 (t.2.2 : Int)] ++ stockV r := rfl
    have h1 := stockV_get r i (by simpa using h)
    have g : ∀ j, (stockV (t :: r))[(i + 1) * 3 + j]? = (stockV r)[i * 3 + j]? := fun j => by
      rw [e, List.getElem?_append_right (by simp; omega)]
      congr 1
      simp; omega
    refine ⟨(g 0).trans ?_, (g 1).trans ?_, (g 2).trans ?_⟩
    · simpa using h1.1
    · simpa using h1.2.1
    · simpa using h1.2.2

structure PoolAt (w : World) (X : PIx) (L : List Int) (R : Nat → Nat) : Prop where
  mem : MemSt w X.mp X.fb X.n L
  box : w.heap[X.pb]? = some (.cells #[.pointer (some ⟨X.mp, 0, none⟩), X.v, .map (some X.mb)] 52 (0, 0))
  parts : w.ownsRow X.base 91 3 X.v X.T.length (stockV X.T)
  sets : ∀ i, i < X.T.length → SetAt w (X.T.getD i default).1 (freeL (X.T.getD i default).2 R)
  refs : RefsAt w X.mb R
  fit : FitP X.n X.P R
  nodup : ∀ i j, i < X.T.length → j < X.T.length → (X.T.getD i default).1 = (X.T.getD j default).1 → i = j
/-- What a call leaves. -/
structure Moves (w w' : World) (X : PIx) (L : List Int) (R : Nat → Nat) : Prop where
  st : PoolAt w' X L R
  only : Only w w' X.blocks
theorem own_block {w : World} {base k n : Nat} {e : TypeId} {v : Value} {xs : List Value} (h : w.ownsRow base e k v n xs) {g : Nat} (hg : v.ownBlock = some g) : ∃ cs, w.heap[g]? = some (.cells cs e (0, 0)) := by
  rcases h.2 with ⟨rfl, _⟩ | ⟨g', cap, cur, rfl, _, hgg, _⟩
  · simp [Value.ownBlock] at hg
  · simp [Value.ownBlock] at hg
    subst hg
    exact ⟨_, hgg⟩
theorem ownsRow_only {w w' : World} {base k n : Nat} {e : TypeId} {v : Value} {xs : List Value} {B : Nat → Prop} (h : w.ownsRow base e k v n xs) (hw : Only w w' B) (hB : ∀ g, v.ownBlock = some g → ¬ B g) : w'.ownsRow base e k v n xs := by
  refine ⟨h.1, ?_⟩
  rcases h.2 with hn | ⟨g, cap, cur, rfl, hb, hgg, rest⟩
  · exact .inl hn
  · exact .inr ⟨g, cap, cur, rfl, hb, hw.kept hgg (hB g rfl), rest⟩
/-- A pool stays, where nothing of it changes. -/
theorem PoolAt.kept {w w' : World} {X : PIx} {L : List Int} {R : Nat → Nat} {B : Nat → Prop} (h : PoolAt w X L R) (hw : Only w w' B) (hB : ∀ k, X.all k → ¬ B k) : PoolAt w' X L R :=
  ⟨⟨hw.kept h.mem.box (hB _ (Or.inr (Or.inr (Or.inl rfl)))), hw.kept h.mem.row (hB _ (Or.inl (Or.inl rfl))), h.mem.len, h.mem.ne, h.mem.pos, h.mem.top⟩,
   hw.kept h.box (hB _ (Or.inr (Or.inl rfl))), ownsRow_only h.parts hw (fun g hg => hB _ (Or.inr (Or.inr (Or.inr hg)))),
   fun i hi => ⟨(h.sets i hi).good, hw.kept (h.sets i hi).box (hB _ (Or.inl (Or.inr (Or.inr (List.mem_map.2 ⟨X.T.getD i default, by rw [List.getD_eq_getElem?_getD, List.getElem?_eq_getElem hi]; exact List.getElem_mem hi, rfl⟩)))))⟩,
   h.refs.same (hw.block _ h.refs.lt (hB _ (Or.inl (Or.inr (Or.inl rfl))))), h.fit, h.nodup⟩
theorem PoolAt.below {w w' : World} {X : PIx} {L : List Int} {R : Nat → Nat} (h : PoolAt w X L R) (hb : Below w.heap.size w w') : PoolAt w' X L R :=
  h.kept (B := fun _ => False) (Only.below hb) (fun _ _ => id)
theorem Moves.stay {w w' : World} {X : PIx} {L : List Int} {R : Nat → Nat} (h : PoolAt w X L R) (hb : Below w.heap.size w w') : Moves w w' X L R := ⟨h.below hb, Only.below hb⟩
theorem Moves.next {w w1 w' : World} {X : PIx} {L L' : List Int} {R R' : Nat → Nat} (h : Moves w w1 X L R) (k : Moves w1 w' X L' R') : Moves w w' X L' R' := ⟨k.st, h.only.trans k.only⟩
theorem PoolAt.c0 {w : World} {X : PIx} {L : List Int} {R : Nat → Nat} (h : PoolAt w X L R) : w.cell? ⟨X.pb, 0, none⟩ = some (.pointer (some ⟨X.mp, 0, none⟩)) := by rw [cell_of_row w _ _ _ _ _ h.box]; rfl
theorem PoolAt.c1 {w : World} {X : PIx} {L : List Int} {R : Nat → Nat} (h : PoolAt w X L R) : w.cell? ⟨X.pb, 1, none⟩ = some X.v := by rw [cell_of_row w _ _ _ _ _ h.box]; rfl
theorem PoolAt.c2 {w : World} {X : PIx} {L : List Int} {R : Nat → Nat} (h : PoolAt w X L R) : w.cell? ⟨X.pb, 2, none⟩ = some (.map (some X.mb)) := by rw [cell_of_row w _ _ _ _ _ h.box]; rfl
theorem owns_slice {w : World} {base k n : Nat} {e : TypeId} {v : Value} {xs : List Value} (h : w.ownsRow base e k v n xs) : ∃ a c, v = .slice a n c := by
  rcases h.2 with ⟨rfl, rfl⟩ | ⟨g, cap, cur, rfl, _⟩
  · exact ⟨_, _, rfl⟩
  · exact ⟨_, _, rfl⟩
/-- A partition's row. -/
theorem stock_row {w : World} {base : Nat} {v : Value} {T : List (Nat × (Nat × Nat))} (h : w.ownsRow base 91 3 v T.length (stockV T)) (i : Nat) (hi : i < T.length) :
    ∃ g c s f m, v = .slice (some ⟨g, 0, none⟩) T.length c ∧ g < w.heap.size ∧ T.getD i default = (s, (f, m)) ∧ w.cell? ⟨g, i * 3, none⟩ = some (.pointer (some ⟨s, 0, none⟩)) ∧ w.cell? ⟨g, i * 3 + 1, none⟩ = some (.int .i64 (f : Int)) ∧ w.cell? ⟨g, i * 3 + 2, none⟩ = some (.int .i64 (m : Int)) := by
  have h' := h
  rcases h.2 with ⟨_, h0⟩ | ⟨g, cap, cur, rfl, _, hgg, _⟩
  · omega
  · obtain ⟨a0, a1, a2⟩ := stockV_get T i hi
    have b0 := h'.cells (g := g) rfl _ _ a0
    have b1 := h'.cells (g := g) rfl _ _ a1
    have b2 := h'.cells (g := g) rfl _ _ a2
    rw [Addr.add_mid, Nat.zero_add] at b0 b1 b2
    generalize T.getD i default = t at *
    obtain ⟨s, f, m⟩ := t
    exact ⟨g, cap, s, f, m, rfl, lt_of_block hgg, rfl, b0, b1, b2⟩

/-- No pool: none is there, or nobody made it. -/
def NoPool (w : World) (p : Option Addr) : Prop := p = none ∨ ∃ b, p = some ⟨b, 0, none⟩ ∧ w.heap[b]? = some (.cells #[.pointer none, .slice none 0 0, .map none] 52 (0, 0))
theorem NoPool.below {w w' : World} {p : Option Addr} (h : NoPool w p) (hb : Below w.heap.size w w') : NoPool w' p := by
  rcases h with h | ⟨b, h, k⟩
  · exact Or.inl h
  · exact Or.inr ⟨b, h, below_block hb k⟩
theorem pool_there (b mp : Nat) (w : World) (h : w.cell? ⟨b, 0, none⟩ = some (.pointer (some ⟨mp, 0, none⟩))) : Calls Tryd.prog 43 #[.pointer (some ⟨b, 0, none⟩)] w fun e w' => e = .returned (.bool true) ∧ w = w' := by
  go_enter Tryd.func43, Tryd.ntmps43
  go_wp2
  go_ret
  exact ⟨rfl, rfl⟩
theorem pool_no (p : Option Addr) (w : World) (h : NoPool w p) : Calls Tryd.prog 43 #[.pointer p] w fun e w' => e = .returned (.bool false) ∧ w = w' := by
  rcases h with rfl | ⟨b, rfl, k⟩
  · go_enter Tryd.func43, Tryd.ntmps43
    go_wp2
    go_ret
    exact ⟨rfl, rfl⟩
  · have h0 : w.cell? ⟨b, 0, none⟩ = some (.pointer none) := by rw [cell_of_row w _ _ _ _ _ k]; rfl
    clear k
    go_enter Tryd.func43, Tryd.ntmps43
    go_wp2
    go_ret
    exact ⟨rfl, rfl⟩

/-- Has a range frames, all of them among the first so many? -/
def isInB (f m : Int) (n : Nat) : Bool := decide (0 ≤ f) && (decide (1 ≤ m) && (decide (m ≤ n) && decide (f ≤ n - m)))
theorem isInB_iff (f m : Int) (n : Nat) : isInB f m n = true ↔ 0 ≤ f ∧ 1 ≤ m ∧ m ≤ n ∧ f ≤ n - m := by simp [isInB]
theorem isIn_any (f m : Int) (n : Nat) (w : World) (hn : n ≤ 1024) : Calls Tryd.prog 49 #[.agg #[.int .i64 f, .int .i64 m], .int .i64 (n : Int)] w fun e w' => e = .returned (.bool (isInB f m n)) ∧ Below w.heap.size w w' := by
  have hb := (Below.refl w.heap.size w).alloc (Nat.le_refl _) (.cells #[.int .i64 f, .int .i64 m] 59)
  have HB := Lib.hid hb
  clear hb
  by_cases h0 : 0 ≤ f
  · have d0 : decide (0 ≤ f) = true := decide_eq_true h0
    by_cases h1 : 1 ≤ m
    · have d1 : decide (1 ≤ m) = true := decide_eq_true h1
      by_cases h2 : m ≤ n
      · have d2 : decide (m ≤ (n : Int)) = true := decide_eq_true h2
        by_cases h3 : f ≤ n - m
        · have d3 : decide (f ≤ (n : Int) - m) = true := decide_eq_true h3
          have E : Hid (isInB f m n = true) := Lib.hid (by rw [isInB, d0, d1, d2, d3]; rfl)
          go_enter Tryd.func49, Tryd.ntmps49
          go_wp2
          go_ret
          exact ⟨by rw [E.out]; rfl, HB.out⟩
        · have d3 : decide (f ≤ (n : Int) - m) = false := decide_eq_false h3
          have E : Hid (isInB f m n = false) := Lib.hid (by rw [isInB, d0, d1, d2, d3]; rfl)
          go_enter Tryd.func49, Tryd.ntmps49
          go_wp2
          go_ret
          exact ⟨by rw [E.out]; rfl, HB.out⟩
      · have d2 : decide (m ≤ (n : Int)) = false := decide_eq_false h2
        have E : Hid (isInB f m n = false) := Lib.hid (by rw [isInB, d0, d1, d2]; rfl)
        go_enter Tryd.func49, Tryd.ntmps49
        go_wp2
        go_ret
        exact ⟨by rw [E.out]; rfl, HB.out⟩
    · have d1 : decide (1 ≤ m) = false := decide_eq_false h1
      have E : Hid (isInB f m n = false) := Lib.hid (by rw [isInB, d0, d1]; rfl)
      go_enter Tryd.func49, Tryd.ntmps49
      go_wp2
      go_ret
      exact ⟨by rw [E.out]; rfl, HB.out⟩
  · have d0 : decide (0 ≤ f) = false := decide_eq_false h0
    have E : Hid (isInB f m n = false) := Lib.hid (by rw [isInB, d0]; rfl)
    go_enter Tryd.func49, Tryd.ntmps49
    go_wp2
    go_ret
    exact ⟨by rw [E.out]; rfl, HB.out⟩
/-- Is a frame in both? -/
def meetB (p q : Nat × Nat) : Bool := decide ((p.1 : Int) < (q.1 : Int) + (q.2 : Int)) && decide ((q.1 : Int) < (p.1 : Int) + (p.2 : Int))
theorem meetB_iff (p q : Nat × Nat) : meetB p q = true ↔ p.1 < q.1 + q.2 ∧ q.1 < p.1 + p.2 := by simp [meetB]; omega
theorem meet_any (p q : Nat × Nat) (w : World) (hp : p.1 + p.2 ≤ 1024) (hq : q.1 + q.2 ≤ 1024) : Calls Tryd.prog 50 #[.agg #[.int .i64 (p.1 : Int), .int .i64 (p.2 : Int)], .agg #[.int .i64 (q.1 : Int), .int .i64 (q.2 : Int)]] w fun e w' => e = .returned (.bool (meetB p q)) ∧ Below w.heap.size w w' := by
  obtain ⟨f, m⟩ := p
  obtain ⟨g, k⟩ := q
  simp only at hp hq ⊢
  have HB := Lib.hid (((Below.refl w.heap.size w).alloc (Nat.le_refl _) (.cells #[.int .i64 (f : Int), .int .i64 (m : Int)] 59)).alloc (by simp) (.cells #[.int .i64 (g : Int), .int .i64 (k : Int)] 59))
  by_cases h0 : (f : Int) < (g : Int) + (k : Int)
  · have d0 : decide ((f : Int) < (g : Int) + (k : Int)) = true := decide_eq_true h0
    by_cases h1 : (g : Int) < (f : Int) + (m : Int)
    · have d1 : decide ((g : Int) < (f : Int) + (m : Int)) = true := decide_eq_true h1
      have E : Hid (meetB (f, m) (g, k) = true) := Lib.hid (by rw [meetB, d0, d1]; rfl)
      go_enter Tryd.func50, Tryd.ntmps50
      go_wp2
      go_ret
      exact ⟨by rw [E.out]; rfl, HB.out⟩
    · have d1 : decide ((g : Int) < (f : Int) + (m : Int)) = false := decide_eq_false h1
      have E : Hid (meetB (f, m) (g, k) = false) := Lib.hid (by rw [meetB, d0, d1]; rfl)
      go_enter Tryd.func50, Tryd.ntmps50
      go_wp2
      go_ret
      exact ⟨by rw [E.out]; rfl, HB.out⟩
  · have d0 : decide ((f : Int) < (g : Int) + (k : Int)) = false := decide_eq_false h0
    have E : Hid (meetB (f, m) (g, k) = false) := Lib.hid (by rw [meetB, d0]; rfl)
    go_enter Tryd.func50, Tryd.ntmps50
    go_wp2
    go_ret
    exact ⟨by rw [E.out]; rfl, HB.out⟩
end Go.Proofs.YtiohnhgoddfebaaDoor
