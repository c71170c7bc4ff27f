/- Texts of mine, joined: A2 A3 A4 A5 A6 A7. What each says and under which conditions stands at its head, below. -/
import Derived.Test.YtkenipanpimolaaGreatDoorGK1
import Derived.Test.YtkenipanpimolaaGreatDoorGA0
/- A map from numbers to numbers of the call's own, as a function of frames; what calls change, as a set of blocks. Condition: the map lies in a block, its keys are frames. -/
namespace Go.Proofs.YtkenipanpimolaaGreatDoor
open Go.RowKit Go.Maps
set_option maxRecDepth 100000

/-- What a map's datum says of frames. -/
structure ReadsAs (D : DataW Unit) (R : Nat → Nat) : Prop where
  at_ : ∀ x : Int, D.atKey (.int .i64 x) (.lit (.int .i64 0)) = .lit (.int .i64 (refI R x))
  frames : Frames D
theorem ReadsAs.empty : ReadsAs (.map []) (fun _ => 0) := ⟨fun x => by simp [refI]; rfl, [], rfl, List.Pairwise.nil, fun p hp => by simp at hp⟩
theorem refI_upd (R : Nat → Nat) (x v : Nat) (y : Int) : refI (upd R x v) y = if y = (x : Int) then (v : Int) else refI R y := by
  unfold refI
  by_cases h0 : 0 ≤ y
  · obtain ⟨y, rfl⟩ := Int.eq_ofNat_of_zero_le h0
    rw [if_pos h0, if_pos h0, Int.toNat_natCast]
    by_cases e : y = x
    · subst e; rw [upd_same, if_pos rfl]
    · rw [upd_other _ _ _ _ e, if_neg (by omega)]
  · rw [if_neg h0, if_neg h0, if_neg (by omega)]
theorem ReadsAs.put {D : DataW Unit} {R : Nat → Nat} (h : ReadsAs D R) (x v : Nat) (hx : x < 1024) : ReadsAs (D.put (.int .i64 (x : Int)) (.lit (.int .i64 (v : Int)))) (upd R x v) :=
  ⟨fun y => by
    rw [refI_upd]
    by_cases e : y = (x : Int)
    · subst e; rw [if_pos rfl, atKey_put_same h.frames.isMap (isKeyI _ (by omega))]
    · rw [if_neg e, atKey_put_other (lit_ne e), h.at_], h.frames.put x hx _⟩
theorem ReadsAs.del {D : DataW Unit} {R : Nat → Nat} (h : ReadsAs D R) (x : Nat) : ReadsAs (D.del (.int .i64 (x : Int))) (upd R x 0) :=
  ⟨fun y => by
    rw [refI_upd]
    by_cases e : y = (x : Int)
    · subst e; rw [if_pos rfl, atKey_del_same]; rfl
    · rw [if_neg e, atKey_del_other (lit_ne e), h.at_], h.frames.del _⟩
/-- A map in block b: how often each frame is held. -/
def RefsAt (w : World) (b : Nat) (R : Nat → Nat) : Prop := ∃ (D : DataW Unit) (k : Nat), w.ownsMap Tryz.prog 3 (plainElem Tryz.prog 3) b k D ∧ k ≤ 1024 ∧ ReadsAs D R
theorem owns_tight {w : World} {b k : Nat} {D : DataW Unit} (h : w.ownsMap Tryz.prog 3 (plainElem Tryz.prog 3) b k D) (m : Nat) (hm : Maps.size D ≤ m) : w.ownsMap Tryz.prog 3 (plainElem Tryz.prog 3) b m D := by
  obtain ⟨es, clock, hb, F, _, rfl⟩ := h
  refine ⟨es, clock, hb, F, ?_, rfl⟩
  simpa [Maps.size, length_sorted] using hm
theorem RefsAt.made (w : World) : RefsAt (w.alloc (.map #[] 0)) w.heap.size (fun _ => 0) := ⟨_, 0, World.ownsMap_made _ _ _ _, by omega, ReadsAs.empty⟩
theorem RefsAt.isMap {w : World} {b : Nat} {R : Nat → Nat} (h : RefsAt w b R) : ∃ es clock, w.heap[b]? = some (.map es clock) := by
  obtain ⟨D, k, ⟨es, clock, hb, _⟩, _⟩ := h
  exact ⟨es, clock, hb⟩
theorem RefsAt.lt {w : World} {b : Nat} {R : Nat → Nat} (h : RefsAt w b R) : b < w.heap.size := by
  obtain ⟨es, clock, hb⟩ := h.isMap
  exact lt_of_block hb
theorem RefsAt.same {w w' : World} {b : Nat} {R : Nat → Nat} (h : RefsAt w b R) (e : w'.heap[b]? = w.heap[b]?) : RefsAt w' b R := by
  obtain ⟨D, k, ⟨es, clock, hb, r⟩, hk, hr⟩ := h
  exact ⟨D, k, ⟨es, clock, e.trans hb, r⟩, hk, hr⟩
section
variable (w : World) {ops : Array Oper} {rest : List Oper} {o : Oper} {a : Act} {Q : Exit → Act → World → Prop}
theorem wpList_refs_look (hg : o.guard = none) (m x : Operand) (hop : o.op = Op.lookup 80 m x false) (b : Nat) (R : Nat → Nat) (hm : a.eval m = .map (some b)) (h : RefsAt w b R) (y c : Int) (hx : a.eval x = .int .i64 y) (hy : -9223372036854775808 ≤ y ∧ y ≤ 9223372036854775807) (hc : refI R y = c)
    (hK : wpList Tryz.prog ops Q rest (a.put o.dst (.int .i64 c)) w) : wpList Tryz.prog ops Q (o :: rest) a w := by
  obtain ⟨D, k, hown, _, hr⟩ := h
  refine wpList_lookup_own_int _ hg m x 80 hop 3 3 .i64 keyI Tryz.underlying80 Tryz.underlying3 (zeroI _) b k D hm hown (.int .i64 y) (.int .i64 y) hx (keyOfI y hy) fun d hd _ => ?_
  rw [hr.at_ y] at hd
  have e : refI R y = d := by cases hd; rfl
  rw [← e, hc]; exact hK
theorem wpList_refs_put (hg : o.guard = none) (m x v : Operand) (hop : o.op = Op.mapUpdate 80 m x v) (b : Nat) (R : Nat → Nat) (hm : a.eval m = .map (some b)) (h : RefsAt w b R) (y c : Nat) (hx : a.eval x = .int .i64 (y : Int)) (hy : y < 1024) (hv : a.eval v = .int .i64 (c : Int)) (hc : c ≤ 9223372036854775807)
    (hK : ∀ w', RefsAt w' b (upd R y c) → w.grownBy w' (some b) → wpList Tryz.prog ops Q rest (a.put o.dst undef) w') : wpList Tryz.prog ops Q (o :: rest) a w := by
  obtain ⟨D, k, hown, hk, hr⟩ := h
  refine wpList_mapUpdate_own _ hg m x v 80 hop 3 3 keyI Tryz.underlying80 _ b k D hm hown (by unfold maxLen; omega) (.int .i64 (y : Int)) (.int .i64 (c : Int)) (.int .i64 (y : Int)) hx hv (keyOfI _ (by omega)) (.lit (.int .i64 (c : Int))) [] (plainElem_int Tryz.underlying3 (wfI _ (by omega))) fun w' h1 h2 => ?_
  have hr' := hr.put y c hy
  exact hK w' ⟨_, 1024, owns_tight h1 1024 hr'.frames.size, Nat.le_refl _, hr'⟩ h2
theorem wpList_refs_drop (hg : o.guard = none) (m x : Operand) (hop : o.op = Op.call { callee := Callee.builtin Builtin.delete, args := #[m, x], argTypes := #[80, 3] }) (b : Nat) (R : Nat → Nat) (hm : a.eval m = .map (some b)) (h : RefsAt w b R) (y : Nat) (hx : a.eval x = .int .i64 (y : Int)) (hy : y < 1024)
    (hK : ∀ w', RefsAt w' b (upd R y 0) → w.grownBy w' (some b) → wpList Tryz.prog ops Q rest (a.put o.dst (.tuple #[])) w') : wpList Tryz.prog ops Q (o :: rest) a w := by
  obtain ⟨D, k, hown, hk, hr⟩ := h
  refine wpList_delete_own _ hg m x 80 3 hop 3 keyI Tryz.underlying80 _ b k D hm hown (.int .i64 (y : Int)) (.int .i64 (y : Int)) hx (keyOfI _ (by omega)) fun w' h1 h2 => ?_
  exact hK w' ⟨_, k, h1, hk, hr.del y⟩ h2.grown
end

end Go.Proofs.YtkenipanpimolaaGreatDoor

/- A pool in memory; the contracts of package palloc's isThere, isIn, meet, Owner. Condition: the pool lies as New laid it, or there is none, or nobody made it. -/
namespace Go.Proofs.YtkenipanpimolaaGreatDoor
open Go.RowKit
set_option maxRecDepth 100000

/-- What a pool is made of: its box, its memory's box and words, its map; the slice of its partitions; of each the set's block and the range. -/
structure PIx where
  pb : Nat
  mp : Nat
  fb : Nat
  mb : Nat
  base : Nat
  n : Nat
  v : Value
  T : List (Nat × (Nat × Nat))
def PIx.P (X : PIx) : List (Nat × Nat) := X.T.map (·.2)
theorem PIx.P_length (X : PIx) : X.P.length = X.T.length := by simp [PIx.P]
theorem P_get (T : List (Nat × (Nat × Nat))) (i : Nat) (h : i < T.length) : (T.map (·.2)).getD i (0, 0) = (T.getD i default).2 := by
  simp [List.getD_eq_getElem?_getD, h]
/-- What calls may change. -/
def PIx.blocks (X : PIx) (k : Nat) : Prop := k = X.fb ∨ k = X.mb ∨ k ∈ X.T.map (·.1)
/-- All of a pool's. -/
def PIx.all (X : PIx) (k : Nat) : Prop := X.blocks k ∨ k = X.pb ∨ k = X.mp ∨ X.v.ownBlock = some k
def stockV (T : List (Nat × (Nat × Nat))) : List Value := T.flatMap fun t => [.pointer (some ⟨t.1, 0, none⟩), .int .i64 (t.2.1 : Int), .int .i64 (t.2.2 : Int)]
theorem stockV_snoc (T : List (Nat × (Nat × Nat))) (t : Nat × (Nat × Nat)) : stockV (T ++ [t]) = stockV T ++ [.pointer (some ⟨t.1, 0, none⟩), .int .i64 (t.2.1 : Int), .int .i64 (t.2.2 : Int)] := by simp [stockV]
theorem stockV_get : ∀ (T : List (Nat × (Nat × Nat))) (i : Nat), i < T.length → (stockV T)[i * 3]? = some (.pointer (some ⟨(T.getD i default).1, 0, none⟩)) ∧ (stockV T)[i * 3 + 1]? = some (.int .i64 ((T.getD i default).2.1 : Int)) ∧ (stockV T)[i * 3 + 2]? = some (.int .i64 ((T.getD i default).2.2 : Int))
  | [], i, h => by simp at h
  | t :: r, 0, _ => ⟨rfl, rfl, rfl⟩
  | t :: r, i + 1, h => by
    have e : stockV (t :: r) = [.pointer (some ⟨t.1, 0, none⟩), .int .i64 (t.2.1 : Int), .int .i64 (t.2.2 : Int)] ++ stockV r := rfl
    have h1 := stockV_get r i (by simpa using h)
    have g : ∀ j, (stockV (t :: r))[(i + 1) * 3 + j]? = (stockV r)[i * 3 + j]? := fun j => by
      rw [e, List.getElem?_append_right (by simp; omega)]
      congr 1
      simp; omega
    refine ⟨(g 0).trans ?_, (g 1).trans ?_, (g 2).trans ?_⟩
    · simpa using h1.1
    · simpa using h1.2.1
    · simpa using h1.2.2

structure PoolAt (w : World) (X : PIx) (L : List Int) (R : Nat → Nat) : Prop where
  mem : MemSt w X.mp X.fb X.n L
  box : w.heap[X.pb]? = some (.cells #[.pointer (some ⟨X.mp, 0, none⟩), X.v, .map (some X.mb)] 83 (0, 0))
  parts : w.ownsRow X.base 142 3 X.v X.T.length (stockV X.T)
  sets : ∀ i, i < X.T.length → SetAt w (X.T.getD i default).1 (freeL (X.T.getD i default).2 R)
  refs : RefsAt w X.mb R
  fit : FitP X.n X.P R
  nodup : ∀ i j, i < X.T.length → j < X.T.length → (X.T.getD i default).1 = (X.T.getD j default).1 → i = j
/-- What a call leaves. -/
structure Moves (w w' : World) (X : PIx) (L : List Int) (R : Nat → Nat) : Prop where
  st : PoolAt w' X L R
  only : Only w w' X.blocks
/-- A pool stays, where nothing of it changes. -/
theorem PoolAt.kept {w w' : World} {X : PIx} {L : List Int} {R : Nat → Nat} {B : Nat → Prop} (h : PoolAt w X L R) (hw : Only w w' B) (hB : ∀ k, X.all k → ¬ B k) : PoolAt w' X L R :=
  ⟨⟨hw.kept h.mem.box (hB _ (Or.inr (Or.inr (Or.inl rfl)))), hw.kept h.mem.row (hB _ (Or.inl (Or.inl rfl))), h.mem.len, h.mem.ne, h.mem.pos, h.mem.top⟩,
   hw.kept h.box (hB _ (Or.inr (Or.inl rfl))), ownsRow_only h.parts hw (fun g hg => hB _ (Or.inr (Or.inr (Or.inr hg)))),
   fun i hi => ⟨(h.sets i hi).good, hw.kept (h.sets i hi).box (hB _ (Or.inl (Or.inr (Or.inr (List.mem_map.2 ⟨X.T.getD i default, by rw [List.getD_eq_getElem?_getD, List.getElem?_eq_getElem hi]; exact List.getElem_mem hi, rfl⟩)))))⟩,
   h.refs.same (hw.block _ h.refs.lt (hB _ (Or.inl (Or.inr (Or.inl rfl))))), h.fit, h.nodup⟩
theorem PoolAt.below {w w' : World} {X : PIx} {L : List Int} {R : Nat → Nat} (h : PoolAt w X L R) (hb : Below w.heap.size w w') : PoolAt w' X L R :=
  h.kept (B := fun _ => False) (Only.below hb) (fun _ _ => id)
theorem Moves.stay {w w' : World} {X : PIx} {L : List Int} {R : Nat → Nat} (h : PoolAt w X L R) (hb : Below w.heap.size w w') : Moves w w' X L R := ⟨h.below hb, Only.below hb⟩
theorem PoolAt.c0 {w : World} {X : PIx} {L : List Int} {R : Nat → Nat} (h : PoolAt w X L R) : w.cell? ⟨X.pb, 0, none⟩ = some (.pointer (some ⟨X.mp, 0, none⟩)) := by rw [cell_of_row w _ _ _ _ _ h.box]; rfl
theorem PoolAt.c1 {w : World} {X : PIx} {L : List Int} {R : Nat → Nat} (h : PoolAt w X L R) : w.cell? ⟨X.pb, 1, none⟩ = some X.v := by rw [cell_of_row w _ _ _ _ _ h.box]; rfl
theorem PoolAt.c2 {w : World} {X : PIx} {L : List Int} {R : Nat → Nat} (h : PoolAt w X L R) : w.cell? ⟨X.pb, 2, none⟩ = some (.map (some X.mb)) := by rw [cell_of_row w _ _ _ _ _ h.box]; rfl
/-- A partition's row. -/
theorem stock_row {w : World} {base : Nat} {v : Value} {T : List (Nat × (Nat × Nat))} (h : w.ownsRow base 142 3 v T.length (stockV T)) (i : Nat) (hi : i < T.length) :
    ∃ g c s f m, v = .slice (some ⟨g, 0, none⟩) T.length c ∧ g < w.heap.size ∧ T.getD i default = (s, (f, m)) ∧ w.cell? ⟨g, i * 3, none⟩ = some (.pointer (some ⟨s, 0, none⟩)) ∧ w.cell? ⟨g, i * 3 + 1, none⟩ = some (.int .i64 (f : Int)) ∧ w.cell? ⟨g, i * 3 + 2, none⟩ = some (.int .i64 (m : Int)) := by
  have h' := h
  rcases h.2 with ⟨_, h0⟩ | ⟨g, cap, cur, rfl, _, hgg, _⟩
  · omega
  · obtain ⟨a0, a1, a2⟩ := stockV_get T i hi
    have b0 := h'.cells (g := g) rfl _ _ a0
    have b1 := h'.cells (g := g) rfl _ _ a1
    have b2 := h'.cells (g := g) rfl _ _ a2
    rw [Addr.add_mid, Nat.zero_add] at b0 b1 b2
    generalize T.getD i default = t at *
    obtain ⟨s, f, m⟩ := t
    exact ⟨g, cap, s, f, m, rfl, lt_of_block hgg, rfl, b0, b1, b2⟩

/-- No pool: none is there, or nobody made it. -/
def NoPool (w : World) (p : Option Addr) : Prop := p = none ∨ ∃ b, p = some ⟨b, 0, none⟩ ∧ w.heap[b]? = some (.cells #[.pointer none, .slice none 0 0, .map none] 83 (0, 0))
theorem pool_there (b mp : Nat) (w : World) (h : w.cell? ⟨b, 0, none⟩ = some (.pointer (some ⟨mp, 0, none⟩))) : Calls Tryz.prog 114 #[.pointer (some ⟨b, 0, none⟩)] w fun e w' => e = .returned (.bool true) ∧ w = w' := by
  go_enter Tryz.func114, Tryz.ntmps114
  go_wp2
  go_ret
  exact ⟨rfl, rfl⟩
/-- Has a range frames, all of them among the first so many? -/
def isInB (f m : Int) (n : Nat) : Bool := decide (0 ≤ f) && (decide (1 ≤ m) && (decide (m ≤ n) && decide (f ≤ n - m)))
theorem isInB_iff (f m : Int) (n : Nat) : isInB f m n = true ↔ 0 ≤ f ∧ 1 ≤ m ∧ m ≤ n ∧ f ≤ n - m := by simp [isInB]
theorem isIn_any (f m : Int) (n : Nat) (w : World) (hn : n ≤ 1024) : Calls Tryz.prog 65 #[.agg #[.int .i64 f, .int .i64 m], .int .i64 (n : Int)] w fun e w' => e = .returned (.bool (isInB f m n)) ∧ Below w.heap.size w w' := by
  have hb := (Below.refl w.heap.size w).alloc (Nat.le_refl _) (.cells #[.int .i64 f, .int .i64 m] 49)
  have HB := Lib.hid hb
  clear hb
  by_cases h0 : 0 ≤ f
  · have d0 : decide (0 ≤ f) = true := decide_eq_true h0
    by_cases h1 : 1 ≤ m
    · have d1 : decide (1 ≤ m) = true := decide_eq_true h1
      by_cases h2 : m ≤ n
      · have d2 : decide (m ≤ (n : Int)) = true := decide_eq_true h2
        by_cases h3 : f ≤ n - m
        · have d3 : decide (f ≤ (n : Int) - m) = true := decide_eq_true h3
          have E : Hid (isInB f m n = true) := Lib.hid (by rw [isInB, d0, d1, d2, d3]; rfl)
          go_enter Tryz.func65, Tryz.ntmps65
          go_wp2
          go_ret
          exact ⟨by rw [E.out]; rfl, HB.out⟩
        · have d3 : decide (f ≤ (n : Int) - m) = false := decide_eq_false h3
          have E : Hid (isInB f m n = false) := Lib.hid (by rw [isInB, d0, d1, d2, d3]; rfl)
          go_enter Tryz.func65, Tryz.ntmps65
          go_wp2
          go_ret
          exact ⟨by rw [E.out]; rfl, HB.out⟩
      · have d2 : decide (m ≤ (n : Int)) = false := decide_eq_false h2
        have E : Hid (isInB f m n = false) := Lib.hid (by rw [isInB, d0, d1, d2]; rfl)
        go_enter Tryz.func65, Tryz.ntmps65
        go_wp2
        go_ret
        exact ⟨by rw [E.out]; rfl, HB.out⟩
    · have d1 : decide (1 ≤ m) = false := decide_eq_false h1
      have E : Hid (isInB f m n = false) := Lib.hid (by rw [isInB, d0, d1]; rfl)
      go_enter Tryz.func65, Tryz.ntmps65
      go_wp2
      go_ret
      exact ⟨by rw [E.out]; rfl, HB.out⟩
  · have d0 : decide (0 ≤ f) = false := decide_eq_false h0
    have E : Hid (isInB f m n = false) := Lib.hid (by rw [isInB, d0]; rfl)
    go_enter Tryz.func65, Tryz.ntmps65
    go_wp2
    go_ret
    exact ⟨by rw [E.out]; rfl, HB.out⟩
/-- Is a frame in both? -/
def meetB (p q : Nat × Nat) : Bool := decide ((p.1 : Int) < (q.1 : Int) + (q.2 : Int)) && decide ((q.1 : Int) < (p.1 : Int) + (p.2 : Int))
theorem meetB_iff (p q : Nat × Nat) : meetB p q = true ↔ p.1 < q.1 + q.2 ∧ q.1 < p.1 + p.2 := by simp [meetB]; omega
theorem meet_any (p q : Nat × Nat) (w : World) (hp : p.1 + p.2 ≤ 1024) (hq : q.1 + q.2 ≤ 1024) : Calls Tryz.prog 66 #[.agg #[.int .i64 (p.1 : Int), .int .i64 (p.2 : Int)], .agg #[.int .i64 (q.1 : Int), .int .i64 (q.2 : Int)]] w fun e w' => e = .returned (.bool (meetB p q)) ∧ Below w.heap.size w w' := by
  obtain ⟨f, m⟩ := p
  obtain ⟨g, k⟩ := q
  simp only at hp hq ⊢
  have HB := Lib.hid (((Below.refl w.heap.size w).alloc (Nat.le_refl _) (.cells #[.int .i64 (f : Int), .int .i64 (m : Int)] 49)).alloc (by simp) (.cells #[.int .i64 (g : Int), .int .i64 (k : Int)] 49))
  by_cases h0 : (f : Int) < (g : Int) + (k : Int)
  · have d0 : decide ((f : Int) < (g : Int) + (k : Int)) = true := decide_eq_true h0
    by_cases h1 : (g : Int) < (f : Int) + (m : Int)
    · have d1 : decide ((g : Int) < (f : Int) + (m : Int)) = true := decide_eq_true h1
      have E : Hid (meetB (f, m) (g, k) = true) := Lib.hid (by rw [meetB, d0, d1]; rfl)
      go_enter Tryz.func66, Tryz.ntmps66
      go_wp2
      go_ret
      exact ⟨by rw [E.out]; rfl, HB.out⟩
    · have d1 : decide ((g : Int) < (f : Int) + (m : Int)) = false := decide_eq_false h1
      have E : Hid (meetB (f, m) (g, k) = false) := Lib.hid (by rw [meetB, d0, d1]; rfl)
      go_enter Tryz.func66, Tryz.ntmps66
      go_wp2
      go_ret
      exact ⟨by rw [E.out]; rfl, HB.out⟩
  · have d0 : decide ((f : Int) < (g : Int) + (k : Int)) = false := decide_eq_false h0
    have E : Hid (meetB (f, m) (g, k) = false) := Lib.hid (by rw [meetB, d0]; rfl)
    go_enter Tryz.func66, Tryz.ntmps66
    go_wp2
    go_ret
    exact ⟨by rw [E.out]; rfl, HB.out⟩
end Go.Proofs.YtkenipanpimolaaGreatDoor

/- The contracts of package palloc's Owner, of, held, Refs, Left. Condition: the pool lies as New laid it, or there is none, or nobody made it. -/
namespace Go.Proofs.YtkenipanpimolaaGreatDoor
open Go.RowKit
set_option maxRecDepth 100000

theorem PoolAt.many {w : World} {X : PIx} {L : List Int} {R : Nat → Nat} (h : PoolAt w X L R) : X.T.length ≤ 8 := by rw [← X.P_length]; exact h.fit.many
theorem inP_cases (f m : Nat) (x : Int) : (inP (f, m) x = false ∧ (x < f ∨ ((f : Int) ≤ x ∧ (m : Int) ≤ x - f))) ∨ (inP (f, m) x = true ∧ (f : Int) ≤ x ∧ x - f < m) := by
  cases h : inP (f, m) x with
  | true =>
    have := (inP_iff _ _).1 h
    exact Or.inr ⟨rfl, this.1, by have := this.2; simp only at this; omega⟩
  | false =>
    refine Or.inl ⟨rfl, ?_⟩
    have : ¬ ((f : Int) ≤ x ∧ x < (f : Int) + (m : Int)) := fun e => by rw [(inP_iff (f, m) x).2 e] at h; cases h
    omega
def OwnRel (w : World) (P : List (Nat × Nat)) (n : Nat) (x : Int) (i : Value) (wr : World) : Prop := ∃ k : Nat, i = .int .i64 (k : Int) ∧ k ≤ n ∧ Below w.heap.size w wr ∧ ∀ j, j < k → inP (P.getD j (0, 0)) x = false
set_option maxHeartbeats 2000000 in
theorem owner_any (X : PIx) (L : List Int) (R : Nat → Nat) (x : Int) (w : World) (h : PoolAt w X L R) (hx : -9223372036854775808 ≤ x ∧ x ≤ 9223372036854775807) : Calls Tryz.prog 71 #[.pointer (some ⟨X.pb, 0, none⟩), .int .i64 x] w fun e w' => e = .returned (.tuple #[.int .i64 (ownA X.P x).1, .int .i64 (ownA X.P x).2]) ∧ Below w.heap.size w w' := by
  have c0 := h.c0
  have c1 := h.c1
  have PT := Lib.hid h.parts
  have FT := Lib.hid h.fit
  have hmany := h.many
  have PG : Hid (∀ i, i < X.T.length → X.P.getD i (0, 0) = (X.T.getD i default).2) := Lib.hid (fun i hi => P_get X.T i hi)
  have PL := Lib.hid X.P_length
  obtain ⟨aa, cc, hv⟩ := owns_slice h.parts
  generalize X.T = T at *
  generalize X.P = P at *
  rw [hv] at c1 PT
  obtain ⟨n, hn⟩ : ∃ n, n = T.length := ⟨_, rfl⟩
  rw [← hn] at c1 hmany
  have HN := Lib.hid hn
  have C0 := Lib.hid c0
  clear h hv hn c0
  go_enter Tryz.func71, Tryz.ntmps71
  go_wp2_with (go_at_call 114; refine (pool_there _ _ _ C0.out).mono ?_; rintro e w' ⟨rfl, rfl⟩)
  go_loopw [16] (fun i wr => OwnRel w P n x i wr) (fun i _ => n - (intOf i).toNat)
  case atStart => exact ⟨0, rfl, Nat.zero_le _, Below.refl _ _, fun j hj => absurd hj (Nat.not_lt_zero _)⟩
  case round =>
    obtain ⟨k, rfl, hk, hB, hno⟩ := hrel
    have B := Lib.hid hB
    have NO := Lib.hid hno
    clear hB hno
    by_cases hlt' : k < n
    · obtain ⟨g, c, s, f, m, hg, hgw, hrow, e0, e1, e2⟩ := stock_row PT.out k (by have := HN.out; omega)
      obtain ⟨rfl, rfl⟩ : aa = some ⟨g, 0, none⟩ ∧ cc = c := by cases hg; exact ⟨rfl, rfl⟩
      have d0 := (B.out.cell (p := ⟨g, k * 3, none⟩) hgw).trans e0
      have d1 := (B.out.cell (p := ⟨g, k * 3 + 1, none⟩) hgw).trans e1
      have d2 := (B.out.cell (p := ⟨g, k * 3 + 2, none⟩) hgw).trans e2
      have hfm : f + m ≤ 1024 := by
        have h1 := (FT.out.rng k (by rw [PL.out, ← HN.out]; exact hlt')).2
        rw [PG.out k (by rw [← HN.out]; exact hlt'), hrow] at h1
        have := FT.out.top
        simp only at h1
        omega
      have ROW : Hid (P.getD k (0, 0) = (f, m)) := Lib.hid (by rw [PG.out k (by rw [← HN.out]; exact hlt'), hrow])
      clear e0 e1 e2 hrow hg
      rcases inP_cases f m x with ⟨hi, hway⟩ | ⟨hi, h1, h2⟩
      · have NO1 : Hid (∀ j, j < k + 1 → inP (P.getD j (0, 0)) x = false) := Lib.hid (fun j hj => by
          by_cases e : j = k
          · subst e; rw [ROW.out]; exact hi
          · exact NO.out j (by omega))
        have B1 := Lib.hid (B.out.alloc B.out.size (.cells #[.pointer (some ⟨s, 0, none⟩), .int .i64 (f : Int), .int .i64 (m : Int)] 142))
        rcases hway with h1 | ⟨h1, h2⟩
        · have q1 : decide ((f : Int) ≤ x) = false := decide_eq_false (by omega)
          go_wp2
          go_roundw
          case rel => exact ⟨k + 1, by go_num, by omega, B1.out, NO1.out⟩
          case measure => simp [intOf]; omega
        · have q1 : decide ((f : Int) ≤ x) = true := decide_eq_true h1
          have q2 : decide (x - (f : Int) < (m : Int)) = false := decide_eq_false (by omega)
          go_wp2
          go_roundw
          case rel => exact ⟨k + 1, by go_num, by omega, B1.out, NO1.out⟩
          case measure => simp [intOf]; omega
      · have q1 : decide ((f : Int) ≤ x) = true := decide_eq_true h1
        have q2 : decide (x - (f : Int) < (m : Int)) = true := decide_eq_true h2
        have E : Hid (ownA P x = ((k : Int), 0)) := Lib.hid (ownA_is P x k (by rw [PL.out, ← HN.out]; exact hlt') (by rw [ROW.out]; exact hi) NO.out)
        have B1 := Lib.hid (B.out.alloc B.out.size (.cells #[.pointer (some ⟨s, 0, none⟩), .int .i64 (f : Int), .int .i64 (m : Int)] 142))
        go_wp2
        go_ret2
        exact ⟨by rw [E.out]; rfl, B1.out⟩
    · obtain rfl : k = n := by omega
      have E : Hid (ownA P x = (0, 2)) := Lib.hid (ownA_none P x (by rw [PL.out, ← HN.out]; exact NO.out))
      go_wp2
      go_ret2
      exact ⟨by rw [E.out]; rfl, B.out⟩
theorem stockInfo : (Tryz.prog.info? 142).map (fun i => (i.zero, i.size)) = some (some (.agg #[.pointer none, .int .i64 0, .int .i64 0]), 3) := by kernel_rfl
theorem stockZero (w : World) : (zeroValue 142).run Tryz.prog w = .ok (.agg #[.pointer none, .int .i64 0, .int .i64 0]) w := (zero_of_info stockInfo).1 w
theorem of_bad (X : PIx) (L : List Int) (R : Nat → Nat) (k : Int) (w : World) (h : PoolAt w X L R) (hk : partB X.P k = false) : Calls Tryz.prog 73 #[.pointer (some ⟨X.pb, 0, none⟩), .int .i64 k] w fun e w' => e = .returned (.tuple #[.agg #[.pointer none, .int .i64 0, .int .i64 0], .int .i64 2]) ∧ Below w.heap.size w w' := by
  have hz := stockZero
  obtain ⟨aa, cc, hv⟩ := owns_slice h.parts
  have hB := (Below.refl w.heap.size w).alloc (Nat.le_refl _) (.cells #[.pointer none, .int .i64 0, .int .i64 0] 142)
  have h1 := h.below hB
  have c0 := Lib.hid h1.c0
  have c1 := h1.c1
  have hmany := h.many
  have hk' : k < 0 ∨ (0 ≤ k ∧ (X.T.length : Int) ≤ k) := by
    have : ¬ partB X.P k = true := by rw [hk]; exact Bool.false_ne_true
    rw [partB_iff, X.P_length] at this
    omega
  rw [hv] at c1
  generalize X.T.length = n at *
  have B := Lib.hid hB
  clear h h1 hv hk hB
  rcases hk' with hk | ⟨hk, hk2⟩
  · have q1 : decide (k < 0) = true := decide_eq_true hk
    go_enter Tryz.func73, Tryz.ntmps73
    go_wp2_with (go_at_call 114; refine (pool_there _ _ _ c0.out).mono ?_; rintro e w' ⟨rfl, rfl⟩)
    refine bodyPost_ret (v := .tuple #[.agg #[.pointer none, .int .i64 0, .int .i64 0], .int .i64 2]) (by simp [results, Tryz.results73, go_sem]) rfl ?_
    exact ⟨rfl, B.out⟩
  · have q1 : decide (k < 0) = false := decide_eq_false (by omega)
    have q2 : decide ((n : Int) ≤ k) = true := decide_eq_true hk2
    go_enter Tryz.func73, Tryz.ntmps73
    go_wp2_with (go_at_call 114; refine (pool_there _ _ _ c0.out).mono ?_; rintro e w' ⟨rfl, rfl⟩)
    refine bodyPost_ret (v := .tuple #[.agg #[.pointer none, .int .i64 0, .int .i64 0], .int .i64 2]) (by simp [results, Tryz.results73, go_sem]) rfl ?_
    exact ⟨rfl, B.out⟩
theorem of_ok (X : PIx) (L : List Int) (R : Nat → Nat) (k s f m : Nat) (w : World) (h : PoolAt w X L R) (hk : k < X.T.length) (hrow : X.T.getD k default = (s, (f, m))) : Calls Tryz.prog 73 #[.pointer (some ⟨X.pb, 0, none⟩), .int .i64 (k : Int)] w fun e w' => e = .returned (.tuple #[.agg #[.pointer (some ⟨s, 0, none⟩), .int .i64 (f : Int), .int .i64 (m : Int)], .int .i64 0]) ∧ Below w.heap.size w w' := by
  have hz := stockZero
  have hB := (Below.refl w.heap.size w).alloc (Nat.le_refl _) (.cells #[.pointer none, .int .i64 0, .int .i64 0] 142)
  have h1 := h.below hB
  have c0 := Lib.hid h1.c0
  have c1 := h1.c1
  have hmany := h.many
  obtain ⟨g, c, s', f', m', hv, hgw, hrow', e0, e1, e2⟩ := stock_row h1.parts k hk
  obtain ⟨rfl, rfl, rfl⟩ : s' = s ∧ f' = f ∧ m' = m := by rw [hrow] at hrow'; cases hrow'; exact ⟨rfl, rfl, rfl⟩
  obtain ⟨_, _, _, _, _, hv', hg', _⟩ := stock_row h.parts k hk
  have hgb : g ≠ w.heap.size := by
    rw [hv] at hv'; cases hv'
    omega
  rw [hv] at c1
  generalize X.T.length = n at *
  have q1 : decide ((k : Int) < 0) = false := decide_eq_false (by omega)
  have q2 : decide ((n : Int) ≤ (k : Int)) = false := decide_eq_false (by omega)
  clear h h1 hv hrow hrow' hB hv' hg' hgw
  go_enter Tryz.func73, Tryz.ntmps73
  go_wp2_with (go_at_call 114; refine (pool_there _ _ _ c0.out).mono ?_; rintro e w' ⟨rfl, rfl⟩)
  refine bodyPost_ret (v := .tuple #[.agg #[.pointer (some ⟨s', 0, none⟩), .int .i64 (f' : Int), .int .i64 (m' : Int)], .int .i64 0]) (by simp [results, Tryz.results73, go_sem]) rfl ?_
  exact ⟨rfl, (Below.refl _ _).alloc (Nat.le_refl _) _⟩
end Go.Proofs.YtkenipanpimolaaGreatDoor

/- The contracts of package palloc's held, Refs, Left, Share, Free, Alloc. Condition: the pool lies as New laid it, or there is none, or nobody made it; for Alloc the library's table reads as its initialiser lays it. -/
namespace Go.Proofs.YtkenipanpimolaaGreatDoor
open Go.RowKit
set_option maxRecDepth 100000

theorem owner_is {X : PIx} {x a e : Int} (ho : ownA X.P x = (a, e)) {L : List Int} {R : Nat → Nat} {w : World} (h : PoolAt w X L R) (hx : I64 x) : Calls Tryz.prog 71 #[.pointer (some ⟨X.pb, 0, none⟩), .int .i64 x] w fun e' w' => e' = .returned (.tuple #[.int .i64 a, .int .i64 e]) ∧ Below w.heap.size w w' := by
  have := owner_any X L R x w h hx
  rwa [ho] at this
/-- held: whose range the frame is in, if it is held. -/
theorem held_any (X : PIx) (L : List Int) (R : Nat → Nat) (x : Int) (w : World) (h : PoolAt w X L R) (hx : I64 x) : Calls Tryz.prog 138 #[.pointer (some ⟨X.pb, 0, none⟩), .int .i64 x] w fun e w' => e = .returned (.tuple #[.int .i64 (if heldE X.P R x = 0 then (ownA X.P x).1 else 0), .int .i64 (heldE X.P R x)]) ∧ Below w.heap.size w w' := by
  have H := Lib.hid h
  rcases frame_ways h.fit x with ⟨ho, he, _⟩ | ⟨y, i, rfl, hy, hi, ho, _, hr, hrI, he⟩ | ⟨y, i, rfl, hy, hi, ho, _, hr, hr2, hrI, he⟩
  · rw [he, ho]
    have HO := Lib.hid ho
    clear h ho he
    go_enter Tryz.func138, Tryz.ntmps138
    go_wp2_with (go_at_call 71; refine (owner_is HO.out H.out hx).mono ?_; rintro e w' ⟨rfl, hb⟩; have B := Lib.hid hb; clear hb)
    go_ret2
    exact ⟨rfl, B.out⟩
  · rw [he, ho]
    have HO := Lib.hid ho
    have HR := Lib.hid hrI
    clear h ho he hrI hr
    go_enter Tryz.func138, Tryz.ntmps138
    go_wp2_with (first
      | (go_at_call 71; refine (owner_is HO.out H.out hx).mono ?_; rintro e w' ⟨rfl, hb⟩; have B := Lib.hid hb; have H1 := Lib.hid (H.out.below hb); have c2 := (H.out.below hb).c2; clear hb)
      | (at_lookup; refine wpList_refs_look _ rfl _ _ rfl X.mb R rfl H1.out.refs _ 0 rfl hx HR.out ?_))
    go_ret2
    exact ⟨rfl, B.out⟩
  · rw [he, ho]
    have HO := Lib.hid ho
    have HR := Lib.hid hrI
    clear h ho he hrI
    generalize R y = q at *
    go_enter Tryz.func138, Tryz.ntmps138
    go_wp2_with (first
      | (go_at_call 71; refine (owner_is HO.out H.out hx).mono ?_; rintro e w' ⟨rfl, hb⟩; have B := Lib.hid hb; have H1 := Lib.hid (H.out.below hb); have c2 := (H.out.below hb).c2; clear hb)
      | (at_lookup; refine wpList_refs_look _ rfl _ _ rfl X.mb R rfl H1.out.refs _ (q : Int) rfl hx HR.out ?_))
    go_ret2
    exact ⟨rfl, B.out⟩
theorem held_is {X : PIx} {R : Nat → Nat} {x a e : Int} (he : heldE X.P R x = e) (ha : (if e = 0 then (ownA X.P x).1 else 0) = a) {L : List Int} {w : World} (h : PoolAt w X L R) (hx : I64 x) : Calls Tryz.prog 138 #[.pointer (some ⟨X.pb, 0, none⟩), .int .i64 x] w fun e' w' => e' = .returned (.tuple #[.int .i64 a, .int .i64 e]) ∧ Below w.heap.size w w' := by
  have := held_any X L R x w h hx
  rwa [he, ha] at this

theorem refs_is {X : PIx} {R : Nat → Nat} {x c : Int} (hc : refI R x = c) {L : List Int} {w : World} (h : PoolAt w X L R) (hx : I64 x) : Calls Tryz.prog 149 #[.pointer (some ⟨X.pb, 0, none⟩), .int .i64 x] w fun e w' => e = .returned (.int .i64 c) ∧ w = w' := by
  have H := Lib.hid h
  have HR := Lib.hid hc
  have c2 := h.c2
  clear h hc
  go_enter Tryz.func149, Tryz.ntmps149
  go_wp2_with (first
    | (go_at_call 114; refine (pool_there _ _ _ H.out.c0).mono ?_; rintro e w' ⟨rfl, rfl⟩)
    | (at_lookup; refine wpList_refs_look _ rfl _ _ rfl X.mb R rfl H.out.refs _ c rfl hx HR.out ?_))
  go_ret
  exact ⟨rfl, rfl⟩

theorem left_any (X : PIx) (L : List Int) (R : Nat → Nat) (k : Int) (w : World) (h : PoolAt w X L R) : Calls Tryz.prog 36 #[.pointer (some ⟨X.pb, 0, none⟩), .int .i64 k] w fun e w' => e = .returned (.int .i64 (leftA X.P R k : Int)) ∧ Below w.heap.size w w' := by
  have H := Lib.hid h
  cases hk : partB X.P k with
  | false =>
    have E : Hid (leftA X.P R k = 0) := Lib.hid (by simp [leftA, hk])
    have HK := Lib.hid hk
    clear h hk
    go_enter Tryz.func36, Tryz.ntmps36
    go_wp2_with (go_at_call 73; refine (of_bad X L R k _ H.out HK.out).mono ?_; rintro e w' ⟨rfl, hb⟩; have B := Lib.hid (hb.alloc hb.size (.cells #[.pointer none, .int .i64 0, .int .i64 0] 142)); clear hb)
    go_ret
    exact ⟨by rw [E.out]; rfl, B.out⟩
  | true =>
    have h1 := (partB_iff _ _).1 hk
    rw [X.P_length] at h1
    obtain ⟨k, rfl⟩ := Int.eq_ofNat_of_zero_le h1.1
    have hkT : k < X.T.length := by omega
    obtain ⟨t, ht⟩ : ∃ t, X.T.getD k default = t := ⟨_, rfl⟩
    obtain ⟨s, f, m⟩ := t
    have hs := h.sets k hkT
    rw [ht] at hs
    obtain ⟨q, hq⟩ : ∃ q, (freeL (f, m) R).length = q := ⟨_, rfl⟩
    have E : Hid (leftA X.P R (k : Int) = q) := Lib.hid (by
      rw [leftA, hk, if_pos rfl, Int.toNat_natCast, PIx.P, P_get X.T k hkT, ht]; exact hq)
    have HK := Lib.hid hkT
    have HT := Lib.hid ht
    have HS := Lib.hid hs
    have HQ := Lib.hid hq
    clear h hk h1 hkT ht hs hq
    go_enter Tryz.func36, Tryz.ntmps36
    go_wp2_with (first
      | (go_at_call 73; refine (of_ok X L R k s f m _ H.out HK.out HT.out).mono ?_; rintro e w' ⟨rfl, hb⟩; have B := Lib.hid (hb.alloc hb.size (.cells #[.pointer (some ⟨s, 0, none⟩), .int .i64 (f : Int), .int .i64 (m : Int)] 142)); clear hb)
      | (go_at_call 74; refine (len_set _ _ _ (HS.out.below B.out)).mono ?_; rw [HQ.out]; rintro e w' ⟨rfl, rfl⟩))
    go_ret
    exact ⟨by rw [E.out]; rfl, B.out⟩
theorem left_is {X : PIx} {R : Nat → Nat} {k : Int} {c : Nat} (hc : leftA X.P R k = c) {L : List Int} {w : World} (h : PoolAt w X L R) : Calls Tryz.prog 36 #[.pointer (some ⟨X.pb, 0, none⟩), .int .i64 k] w fun e w' => e = .returned (.int .i64 (c : Int)) ∧ Below w.heap.size w w' := by
  have := left_any X L R k w h
  rwa [hc] at this
end Go.Proofs.YtkenipanpimolaaGreatDoor

/- The contracts of package palloc's Share, Free, Alloc. Condition: the pool lies as New laid it, or there is none, or nobody made it; for Alloc the library's table reads as its initialiser lays it. -/
namespace Go.Proofs.YtkenipanpimolaaGreatDoor
open Go.RowKit
set_option maxRecDepth 100000

/-- A pool between two of its own steps: its sets are F's. -/
structure PoolG (w : World) (X : PIx) (L : List Int) (R : Nat → Nat) (F : Nat → List Nat) : Prop where
  mem : MemSt w X.mp X.fb X.n L
  box : w.heap[X.pb]? = some (.cells #[.pointer (some ⟨X.mp, 0, none⟩), X.v, .map (some X.mb)] 83 (0, 0))
  parts : w.ownsRow X.base 142 3 X.v X.T.length (stockV X.T)
  sets : ∀ i, i < X.T.length → SetAt w (X.T.getD i default).1 (F i)
  refs : RefsAt w X.mb R
  nodup : ∀ i j, i < X.T.length → j < X.T.length → (X.T.getD i default).1 = (X.T.getD j default).1 → i = j
theorem PoolAt.toG {w : World} {X : PIx} {L : List Int} {R : Nat → Nat} (h : PoolAt w X L R) : PoolG w X L R (fun i => freeL (X.T.getD i default).2 R) := ⟨h.mem, h.box, h.parts, h.sets, h.refs, h.nodup⟩
theorem PoolG.toAt {w : World} {X : PIx} {L : List Int} {R : Nat → Nat} {F : Nat → List Nat} (h : PoolG w X L R F) (hf : FitP X.n X.P R) (hF : ∀ i, i < X.T.length → F i = freeL (X.T.getD i default).2 R) : PoolAt w X L R :=
  ⟨h.mem, h.box, h.parts, fun i hi => by rw [← hF i hi]; exact h.sets i hi, h.refs, hf, h.nodup⟩
theorem mem_T {T : List (Nat × (Nat × Nat))} {i : Nat} (h : i < T.length) : (T.getD i default).1 ∈ T.map (·.1) :=
  List.mem_map.2 ⟨T.getD i default, by rw [List.getD_eq_getElem?_getD, List.getElem?_eq_getElem h]; exact List.getElem_mem h, rfl⟩
theorem ownsRow_grown {w w' : World} {base k n r : Nat} {e : TypeId} {v : Value} {xs : List Value} {o : Obj} (h : w.ownsRow base e k v n xs) (hg : w.grownBy w' (some r)) (ho : w.heap[r]? = some o) (hk : kindOf o ≠ some e) : w'.ownsRow base e k v n xs := by
  refine h.kept hg (Or.inr fun e2 => ?_)
  obtain ⟨cs, hcs⟩ := own_block h e2
  rw [hcs] at ho
  exact hk (by rw [← Option.some.inj ho]; rfl)
theorem box_grown {w w' : World} {k r : Nat} {o o' : Obj} (h : w.heap[k]? = some o) (hg : w.grownBy w' (some r)) (ho : w.heap[r]? = some o') (hk : kindOf o ≠ kindOf o') : w'.heap[k]? = some o :=
  (hg.block k (lt_of_block h) (fun e => kind_ne h ho hk (Option.some.inj e))).trans h
/-- The map's turn. -/
theorem PoolG.map {w w' : World} {X : PIx} {L : List Int} {R R' : Nat → Nat} {F : Nat → List Nat} (h : PoolG w X L R F) (hg : w.grownBy w' (some X.mb)) (hr : RefsAt w' X.mb R') : PoolG w' X L R' F := by
  obtain ⟨es, ck, ho⟩ := h.refs.isMap
  exact ⟨⟨box_grown h.mem.box hg ho (by simp [kindOf]), box_grown h.mem.row hg ho (by simp [kindOf]), h.mem.len, h.mem.ne, h.mem.pos, h.mem.top⟩,
    box_grown h.box hg ho (by simp [kindOf]), ownsRow_grown h.parts hg ho (by simp [kindOf]), fun i hi => ⟨(h.sets i hi).good, box_grown (h.sets i hi).box hg ho (by simp [kindOf])⟩, hr, h.nodup⟩
/-- A set's turn. -/
theorem PoolG.set {w w' : World} {X : PIx} {L : List Int} {R : Nat → Nat} {F : Nat → List Nat} (h : PoolG w X L R F) (i : Nat) (hi : i < X.T.length) (K : List Nat) (ht : Turn w w' (X.T.getD i default).1 K) : PoolG w' X L R (fun j => if j = i then K else F j) := by
  have ho := (h.sets i hi).box
  have hg := ht.grown
  refine ⟨⟨box_grown h.mem.box hg ho (by simp [kindOf]), box_grown h.mem.row hg ho (by simp [kindOf]), h.mem.len, h.mem.ne, h.mem.pos, h.mem.top⟩,
    box_grown h.box hg ho (by simp [kindOf]), ownsRow_grown h.parts hg ho (by simp [kindOf]), fun j hj => ?_, ?_, h.nodup⟩
  · by_cases e : j = i
    · subst e; rw [if_pos rfl]; exact ht.st
    · rw [if_neg e]
      exact (h.sets j hj).kept hg (fun e2 => e (h.nodup j i hj hi (Option.some.inj e2)))
  · obtain ⟨es, ck, hm⟩ := h.refs.isMap
    refine h.refs.same (hg.block _ h.refs.lt (fun e => kind_ne hm ho (by simp [kindOf]) (Option.some.inj e)))
/-- The memory's turn. -/
theorem PoolG.mem_ {w w' : World} {X : PIx} {L L' : List Int} {R : Nat → Nat} {F : Nat → List Nat} (h : PoolG w X L R F) (hp : Puts w w' X.mp X.fb X.n L') : PoolG w' X L' R F := by
  have ho := h.mem.row
  have hg := hp.grown
  refine ⟨hp.st, box_grown h.box hg ho (by simp [kindOf]), ownsRow_grown h.parts hg ho (by simp [kindOf]), fun j hj => ⟨(h.sets j hj).good, box_grown (h.sets j hj).box hg ho (by simp [kindOf])⟩, ?_, h.nodup⟩
  obtain ⟨es, ck, hm⟩ := h.refs.isMap
  exact h.refs.same (hg.block _ h.refs.lt (fun e => kind_ne hm ho (by simp [kindOf]) (Option.some.inj e)))
theorem PoolG.c0 {w : World} {X : PIx} {L : List Int} {R : Nat → Nat} {F : Nat → List Nat} (h : PoolG w X L R F) : w.cell? ⟨X.pb, 0, none⟩ = some (.pointer (some ⟨X.mp, 0, none⟩)) := by rw [cell_of_row w _ _ _ _ _ h.box]; rfl
theorem PoolG.c1 {w : World} {X : PIx} {L : List Int} {R : Nat → Nat} {F : Nat → List Nat} (h : PoolG w X L R F) : w.cell? ⟨X.pb, 1, none⟩ = some X.v := by rw [cell_of_row w _ _ _ _ _ h.box]; rfl
theorem PoolG.c2 {w : World} {X : PIx} {L : List Int} {R : Nat → Nat} {F : Nat → List Nat} (h : PoolG w X L R F) : w.cell? ⟨X.pb, 2, none⟩ = some (.map (some X.mb)) := by rw [cell_of_row w _ _ _ _ _ h.box]; rfl

/-- Who does not hold: nothing happens. -/
theorem held_not {n : Nat} {P : List (Nat × Nat)} {R : Nat → Nat} (h : FitP n P R) (x : Int) : heldE P R x = 0 ∨ heldE P R x = 2 ∨ heldE P R x = 4 := by
  rcases frame_ways h x with ⟨_, he, _⟩ | ⟨_, _, _, _, _, _, _, _, _, he⟩ | ⟨_, _, _, _, _, _, _, _, _, _, he⟩
  · exact Or.inr (Or.inl he)
  · exact Or.inr (Or.inr he)
  · exact Or.inl he
theorem held_frame {n : Nat} {P : List (Nat × Nat)} {R : Nat → Nat} (h : FitP n P R) (x : Int) (h0 : heldE P R x = 0) : ∃ y i : Nat, x = y ∧ y < n ∧ i < P.length ∧ ownA P x = ((i : Int), 0) ∧ inP (P.getD i (0, 0)) (y : Int) = true ∧ R y ≠ 0 ∧ R y ≤ 64 ∧ refI R x = (R y : Int) := by
  rcases frame_ways h x with ⟨_, he, _⟩ | ⟨_, _, _, _, _, _, _, _, _, he⟩ | ⟨y, i, h1, h2, h3, h4, h5, h6, h7, h8, _⟩
  · rw [he] at h0; cases h0
  · rw [he] at h0; cases h0
  · exact ⟨y, i, h1, h2, h3, h4, h5, h6, h7, h8⟩
set_option maxHeartbeats 1000000 in
theorem share_any (X : PIx) (L : List Int) (R : Nat → Nat) (x : Int) (w : World) (h : PoolAt w X L R) (hx : I64 x) : Calls Tryz.prog 101 #[.pointer (some ⟨X.pb, 0, none⟩), .int .i64 x] w fun e w' => e = .returned (.int .i64 (shareE X.P R x)) ∧ Moves w w' X L (shareR X.P R x) := by
  have H := Lib.hid h
  rcases held_not h.fit x with he | he
  · obtain ⟨y, i, rfl, hy, hi, ho, hin, hr, hr2, hrI⟩ := held_frame h.fit x he
    have HE := Lib.hid he
    have HA := Lib.hid (show (if (0 : Int) = 0 then (ownA X.P (y : Int)).1 else 0) = (i : Int) by rw [ho]; rfl)
    have hy2 : y < 1024 := by have := h.fit.top; omega
    have HR := Lib.hid hrI
    by_cases h64 : R y = 64
    · have E : Hid (shareE X.P R (y : Int) = 3 ∧ shareR X.P R (y : Int) = R) := Lib.hid (by
        have : shareE X.P R (y : Int) = 3 := by simp [shareE, he, hrI, h64]
        exact ⟨this, by simp [shareR, this]⟩)
      rw [h64] at HR
      clear h he hr hr2 hrI ho hin hi h64
      go_enter Tryz.func101, Tryz.ntmps101
      go_wp2_with (first
        | (go_at_call 138; refine (held_is HE.out HA.out H.out hx).mono ?_; rintro e w' ⟨rfl, hb⟩; have B := Lib.hid hb; have H1 := Lib.hid (H.out.below hb); have c2 := (H.out.below hb).c2; clear hb)
        | (at_lookup; refine wpList_refs_look _ rfl _ _ rfl X.mb R rfl H1.out.refs _ 64 rfl hx HR.out ?_))
      go_ret
      exact ⟨by rw [E.out.1]; rfl, by rw [E.out.2]; exact Moves.stay H.out B.out⟩
    · have E : Hid (shareE X.P R (y : Int) = 0 ∧ shareR X.P R (y : Int) = upd R y (R y + 1)) := Lib.hid (by
        have : shareE X.P R (y : Int) = 0 := by simp [shareE, he, hrI]; omega
        exact ⟨this, by simp [shareR, this]⟩)
      have FF : Hid (FitP X.n X.P (upd R y (R y + 1)) ∧ ∀ i, i < X.T.length → freeL (X.T.getD i default).2 R = freeL (X.T.getD i default).2 (upd R y (R y + 1))) := Lib.hid
        ⟨h.fit.upd i y _ hi hin (by omega), fun j _ => (freeL_held _ _ _ _ hr (by omega)).symm⟩
      rw [E.out.1, E.out.2]
      clear E
      generalize R y = q at *
      have hne : ((q : Int) == 64) = false := by simp; omega
      clear h he hr hrI ho hin hi
      go_enter Tryz.func101, Tryz.ntmps101
      go_wp2_with (first
        | (go_at_call 138; refine (held_is HE.out HA.out H.out hx).mono ?_; rintro e w1 ⟨rfl, hb⟩; have B := Lib.hid hb; have H1 := Lib.hid (H.out.below hb); have c2 := (H.out.below hb).c2; clear hb)
        | (at_lookup; refine wpList_refs_look _ rfl _ _ rfl X.mb R rfl H1.out.refs _ (q : Int) rfl hx HR.out ?_)
        | (at_mapUpdate; refine wpList_refs_put _ rfl _ _ _ rfl X.mb R rfl H1.out.refs y (q + 1) rfl hy2 (by first | rfl | simp) (by omega) ?_; intro w2 hr2 hg; have G := Lib.hid (PoolG.map H1.out.toG hg hr2); have O := Lib.hid ((Only.below B.out).trans (Only.grown (B := X.blocks) hg (Or.inr (Or.inl rfl)))); clear hr2 hg))
      go_ret
      exact ⟨rfl, G.out.toAt FF.out.1 FF.out.2, O.out⟩
  · have E : Hid (shareE X.P R x = heldE X.P R x ∧ shareR X.P R x = R) := Lib.hid (by
      have := heldE_no h.fit (x := x) (by rcases he with e | e <;> rw [e] <;> decide)
      exact ⟨this.1, this.2.1⟩)
    rw [E.out.1, E.out.2]
    have HA : Hid ((if heldE X.P R x = 0 then (ownA X.P x).1 else 0) = 0) := Lib.hid (by rcases he with e | e <;> rw [e] <;> rfl)
    obtain ⟨q, hq⟩ : ∃ q, heldE X.P R x = q := ⟨_, rfl⟩
    rw [hq] at he HA ⊢
    have HE := Lib.hid hq
    clear h E hq
    rcases he with rfl | rfl
    all_goals
      go_enter Tryz.func101, Tryz.ntmps101
      go_wp2_with (go_at_call 138; refine (held_is HE.out HA.out H.out hx).mono ?_; rintro e w' ⟨rfl, hb⟩; have B := Lib.hid hb; clear hb)
      go_ret
      exact ⟨rfl, Moves.stay H.out B.out⟩
theorem freeR_no {n : Nat} {P : List (Nat × Nat)} {R : Nat → Nat} {x : Int} (h : FitP n P R) (he : heldE P R x = 2 ∨ heldE P R x = 4) : freeR P R x = R := (heldE_no h (by rcases he with e | e <;> rw [e] <;> decide)).2.2
set_option maxHeartbeats 1000000 in
theorem free_any (X : PIx) (L : List Int) (R : Nat → Nat) (x : Int) (w : World) (h : PoolAt w X L R) (hx : I64 x) : Calls Tryz.prog 177 #[.pointer (some ⟨X.pb, 0, none⟩), .int .i64 x] w fun e w' => e = .returned (.int .i64 (heldE X.P R x)) ∧ Moves w w' X L (freeR X.P R x) := by
  have H := Lib.hid h
  rcases held_not h.fit x with he | he
  · obtain ⟨y, i, rfl, hy, hi, ho, hin, hr, hr2, hrI⟩ := held_frame h.fit x he
    have HE := Lib.hid he
    have HA := Lib.hid (show (if (0 : Int) = 0 then (ownA X.P (y : Int)).1 else 0) = (i : Int) by rw [ho]; rfl)
    have hy2 : y < 1024 := by have := h.fit.top; omega
    have HR := Lib.hid hrI
    have E : freeR X.P R (y : Int) = upd R y (R y - 1) := by simp [freeR, he]
    rw [he, E]
    by_cases h1 : R y = 1
    · have hiT : i < X.T.length := by rw [← X.P_length]; exact hi
      have hrow := P_get X.T i hiT
      rw [show (X.T.map (·.2)) = X.P from rfl] at hrow
      obtain ⟨t, ht⟩ : ∃ t, X.T.getD i default = t := ⟨_, rfl⟩
      obtain ⟨s, f, m⟩ := t
      have hinT : f ≤ y ∧ y < f + m := by
        rw [hrow, ht] at hin
        have := (inP_iff _ _).1 hin
        simp only at this
        omega
      obtain ⟨hn, hgive⟩ := freeL_give (f, m) R y hinT (by omega)
      have FF : Hid (FitP X.n X.P (upd R y 0) ∧ ∀ j, j < X.T.length → (if j = i then ins (freeL (f, m) R) y else freeL (X.T.getD j default).2 R) = freeL (X.T.getD j default).2 (upd R y 0)) := Lib.hid
        ⟨h.fit.upd i y _ hi hin (by omega), fun j hj => by
          by_cases e : j = i
          · subst e; rw [if_pos rfl, ht]; exact hgive.symm
          · rw [if_neg e, ← P_get X.T j hj]; exact (h.fit.free_far i y 0 hi hin j (by rw [X.P_length]; exact hj) e).symm⟩
      have PE : Hid (putE (freeL (f, m) R) (y : Int) = 0 ∧ putL (freeL (f, m) R) (y : Int) = ins (freeL (f, m) R) y) := Lib.hid (by
        have h5 : numB (y : Int) = true := (numB_iff _).2 (by omega)
        exact ⟨by simp [putE, h5, hn], by simp [putL, h5, hn]⟩)
      have NB : Hid (i < X.T.length) := Lib.hid hiT
      have TT := Lib.hid ht
      have hmany := h.many
      rw [h1]
      rw [h1] at HR
      have hi8 : i < X.T.length := hiT
      clear h he E hr hr2 hrI ho hin hi h1 hrow hinT hn hgive hiT ht
      go_enter Tryz.func177, Tryz.ntmps177
      go_wp2_with (first
        | (go_at_call 138; refine (held_is HE.out HA.out H.out hx).mono ?_; rintro e w1 ⟨rfl, hb⟩; have B := Lib.hid hb; have H1 := Lib.hid (H.out.below hb); have c2 := (H.out.below hb).c2; clear hb)
        | (at_lookup; refine wpList_refs_look _ rfl _ _ rfl X.mb R rfl H1.out.refs _ 1 rfl hx HR.out ?_)
        | (at_delete; refine wpList_refs_drop _ rfl _ _ rfl X.mb R rfl H1.out.refs y rfl hy2 ?_; intro w2 hr2 hg; have G := Lib.hid (PoolG.map H1.out.toG hg hr2); have O := Lib.hid ((Only.below B.out).trans (Only.grown (B := X.blocks) hg (Or.inr (Or.inl rfl)))); clear hr2 hg c2
           obtain ⟨g, c, s', f', m', hv, _, hrow', e0, _, _⟩ := stock_row G.out.parts i NB.out
           obtain ⟨rfl, rfl, rfl⟩ : s' = s ∧ f' = f ∧ m' = m := by rw [TT.out] at hrow'; cases hrow'; exact ⟨rfl, rfl, rfl⟩
           have c1 := G.out.c1
           have S2 := G.out.sets i NB.out
           simp only [TT.out] at S2
           have S2 := Lib.hid S2
           rw [hv] at c1
           clear hv hrow')
        | (go_at_call 113; refine (put_any _ _ _ _ S2.out).mono ?_; rw [PE.out.1, PE.out.2]; rintro e w3 ⟨rfl, ht⟩; have T3 := Lib.hid (TT.out ▸ ht : Turn w2 w3 (X.T.getD i default).1 (ins (freeL (f', m') R) y)); clear ht))
      go_ret
      exact ⟨rfl, (G.out.set i NB.out _ T3.out).toAt FF.out.1 FF.out.2, O.out.trans (Only.grown T3.out.grown (Or.inr (Or.inr (mem_T NB.out))))⟩
    · have FF : Hid (FitP X.n X.P (upd R y (R y - 1)) ∧ ∀ i, i < X.T.length → freeL (X.T.getD i default).2 R = freeL (X.T.getD i default).2 (upd R y (R y - 1))) := Lib.hid
        ⟨h.fit.upd i y _ hi hin (by omega), fun j _ => (freeL_held _ _ _ _ hr (by omega)).symm⟩
      obtain ⟨q, hq⟩ : ∃ q, R y = q + 2 := ⟨R y - 2, by omega⟩
      rw [hq] at HR FF ⊢
      rw [show q + 2 - 1 = q + 1 by omega] at FF ⊢
      have hq2 : q ≤ 62 := by omega
      rw [show ((q + 2 : Nat) : Int) = (q : Int) + 2 by omega] at HR
      have hgt : decide ((1 : Int) < (q : Int) + 2) = true := decide_eq_true (by omega)
      clear h he E hr hr2 hrI ho hin hi h1 hq
      go_enter Tryz.func177, Tryz.ntmps177
      go_wp2_with (first
        | (go_at_call 138; refine (held_is HE.out HA.out H.out hx).mono ?_; rintro e w1 ⟨rfl, hb⟩; have B := Lib.hid hb; have H1 := Lib.hid (H.out.below hb); have c2 := (H.out.below hb).c2; clear hb)
        | (at_lookup; refine wpList_refs_look _ rfl _ _ rfl X.mb R rfl H1.out.refs _ ((q : Int) + 2) rfl hx HR.out ?_)
        | (at_mapUpdate; refine wpList_refs_put _ rfl _ _ _ rfl X.mb R rfl H1.out.refs y (q + 1) rfl hy2 (by simp [go_sem]; omega) (by omega) ?_; intro w2 hr2 hg; have G := Lib.hid (PoolG.map H1.out.toG hg hr2); have O := Lib.hid ((Only.below B.out).trans (Only.grown (B := X.blocks) hg (Or.inr (Or.inl rfl)))); clear hr2 hg))
      go_ret
      exact ⟨rfl, G.out.toAt FF.out.1 FF.out.2, O.out⟩
  · have E : Hid (freeR X.P R x = R) := Lib.hid (freeR_no h.fit he)
    rw [E.out]
    have HA : Hid ((if heldE X.P R x = 0 then (ownA X.P x).1 else 0) = 0) := Lib.hid (by rcases he with e | e <;> rw [e] <;> rfl)
    obtain ⟨q, hq⟩ : ∃ q, heldE X.P R x = q := ⟨_, rfl⟩
    rw [hq] at he HA ⊢
    have HE := Lib.hid hq
    clear h E hq
    rcases he with rfl | rfl
    all_goals
      go_enter Tryz.func177, Tryz.ntmps177
      go_wp2_with (go_at_call 138; refine (held_is HE.out HA.out H.out hx).mono ?_; rintro e w' ⟨rfl, hb⟩; have B := Lib.hid hb; clear hb)
      go_ret
      exact ⟨rfl, Moves.stay H.out B.out⟩
end Go.Proofs.YtkenipanpimolaaGreatDoor

/- The contract of package palloc's Alloc; the calls' contracts by equations. Condition: the pool lies as New laid it; for Alloc the library's table reads as its initialiser lays it. -/
namespace Go.Proofs.YtkenipanpimolaaGreatDoor
open Go.RowKit
set_option maxRecDepth 100000

set_option maxHeartbeats 1000000 in
theorem alloc_any (X : PIx) (L : List Int) (R : Nat → Nat) (k : Int) (w : World) (h : PoolAt w X L R) (hT : LaidQ w) : Calls Tryz.prog 120 #[.pointer (some ⟨X.pb, 0, none⟩), .int .i64 k] w fun e w' => e = .returned (.tuple #[.int .i64 (allocA X.P R k).1, .int .i64 (allocA X.P R k).2]) ∧ Moves w w' X (allocL X.P R k L) (allocR X.P R k) := by
  have H := Lib.hid h
  have HT := Lib.hid hT
  cases hk : partB X.P k with
  | false =>
    rw [show allocA X.P R k = (0, 2) by simp [allocA, hk], show allocL X.P R k L = L by simp [allocL, hk], show allocR X.P R k = R by simp [allocR, hk]]
    have HK := Lib.hid hk
    clear h hT hk
    go_enter Tryz.func120, Tryz.ntmps120
    go_wp2_with (go_at_call 73; refine (of_bad X L R k _ H.out HK.out).mono ?_; rintro e w' ⟨rfl, hb⟩; have B := Lib.hid (hb.alloc hb.size (.cells #[.pointer none, .int .i64 0, .int .i64 0] 142)); clear hb)
    go_ret2
    exact ⟨rfl, Moves.stay H.out B.out⟩
  | true =>
    have h1 := (partB_iff _ _).1 hk
    rw [X.P_length] at h1
    obtain ⟨i, rfl⟩ := Int.eq_ofNat_of_zero_le h1.1
    have hiT : i < X.T.length := by omega
    obtain ⟨t, ht⟩ : ∃ t, X.T.getD i default = t := ⟨_, rfl⟩
    obtain ⟨s, f, m⟩ := t
    have hs := h.sets i hiT
    rw [ht] at hs
    have hP : X.P.getD i (0, 0) = (f, m) := by rw [PIx.P, P_get X.T i hiT, ht]
    have NB := Lib.hid hiT
    have TT := Lib.hid ht
    have S := Lib.hid hs
    cases hF : freeL (f, m) R with
    | nil =>
      rw [show allocA X.P R i = (0, 3) by simp only [allocA, hk, if_true, Int.toNat_natCast, hP, hF], show allocL X.P R i L = L by simp only [allocL, hk, if_true, Int.toNat_natCast, hP, hF], show allocR X.P R i = R by simp only [allocR, hk, if_true, Int.toNat_natCast, hP, hF]]
      have FF : Hid (∀ j, j < X.T.length → (if j = i then [] else freeL (X.T.getD j default).2 R) = freeL (X.T.getD j default).2 R) := Lib.hid (fun j _ => by
        by_cases e : j = i
        · subst e; rw [if_pos rfl, ht, hF]
        · rw [if_neg e])
      rw [hF] at S
      clear h hT hk h1 hiT ht hs hP hF
      go_enter Tryz.func120, Tryz.ntmps120
      go_wp2_with (first
        | (go_at_call 73; refine (of_ok X L R i s f m _ H.out NB.out TT.out).mono ?_; rintro e w1 ⟨rfl, hb⟩; have B := Lib.hid (hb.alloc hb.size (.cells #[.pointer (some ⟨s, 0, none⟩), .int .i64 (f : Int), .int .i64 (m : Int)] 142)); clear hb)
        | (go_at_call 153; refine (take_ok s [] _ (S.out.below B.out) (HT.out.below B.out)).mono ?_; rw [show takeA [] = (0, 4, []) from rfl]; rintro e w2 ⟨rfl, ht⟩; have T2 := Lib.hid ht; clear ht))
      go_ret2
      refine ⟨rfl, ((H.out.below B.out).toG.set i NB.out [] (by rw [TT.out]; exact T2.out)).toAt H.out.fit FF.out, (Only.below B.out).trans (Only.grown T2.out.grown (Or.inr (Or.inr ?_)))⟩
      have := mem_T NB.out
      rwa [TT.out] at this
    | cons x r =>
      rw [show allocA X.P R i = ((x : Int), 0) by simp only [allocA, hk, if_true, Int.toNat_natCast, hP, hF], show allocL X.P R i L = putRow L x zeros by simp only [allocL, hk, if_true, Int.toNat_natCast, hP, hF], show allocR X.P R i = upd R x 1 by simp only [allocR, hk, if_true, Int.toNat_natCast, hP, hF]]
      have hx := (mem_freeL (f, m) R x).1 (by rw [hF]; simp)
      have hi : i < X.P.length := by rw [X.P_length]; exact hiT
      have hin : inP (X.P.getD i (0, 0)) (x : Int) = true := by rw [hP, inP_iff]; simp only; omega
      have FF : Hid (FitP X.n X.P (upd R x 1) ∧ ∀ j, j < X.T.length → (if j = i then r else freeL (X.T.getD j default).2 R) = freeL (X.T.getD j default).2 (upd R x 1)) := Lib.hid
        ⟨h.fit.upd i x 1 hi hin (by omega), fun j hj => by
          by_cases e : j = i
          · subst e; rw [if_pos rfl, ht]; exact (freeL_take _ _ _ _ _ hF (by omega)).symm
          · rw [if_neg e, ← P_get X.T j hj]; exact (h.fit.free_far i x 1 hi hin j (by rw [X.P_length]; exact hj) e).symm⟩
      have XN : Hid (x < X.n) := Lib.hid (by
        have := (h.fit.rng i hi).2
        rw [hP] at this
        simp only at this hx
        omega)
      have hx2 : x < 1024 := by have := XN.out; have := h.fit.top; omega
      have MT := Lib.hid (mem_T hiT)
      rw [ht] at MT
      rw [hF] at S
      clear h hT hk h1 hiT ht hs hP hF hx hi hin
      go_enter Tryz.func120, Tryz.ntmps120
      go_wp2_with (first
        | (go_at_call 73; refine (of_ok X L R i s f m _ H.out NB.out TT.out).mono ?_; rintro e w1 ⟨rfl, hb⟩; have B := Lib.hid (hb.alloc hb.size (.cells #[.pointer (some ⟨s, 0, none⟩), .int .i64 (f : Int), .int .i64 (m : Int)] 142)); clear hb)
        | (go_at_call 153; refine (take_ok s (x :: r) _ (S.out.below B.out) (HT.out.below B.out)).mono ?_; rw [show takeA (x :: r) = ((x : Int), 0, r) from rfl]; rintro e w2 ⟨rfl, ht⟩
           have O2 := Lib.hid ((Only.below B.out).trans (Only.grown (B := X.blocks) ht.grown (Or.inr (Or.inr MT.out))))
           have G2 := Lib.hid ((H.out.below B.out).toG.set i NB.out r (by rw [TT.out]; exact ht))
           have c2 := G2.out.c2
           clear ht)
        | (at_mapUpdate; refine wpList_refs_put _ rfl _ _ _ rfl X.mb R rfl G2.out.refs x 1 rfl hx2 rfl (by omega) ?_; intro w3 hr3 hg
           have O3 := Lib.hid (O2.out.trans (Only.grown hg (Or.inr (Or.inl rfl))))
           have G3 := Lib.hid (G2.out.map hg hr3)
           have c0 := G3.out.c0
           clear hr3 hg c2)
        | (go_at_call 154; refine (zero_ok X.mp X.fb X.n x L _ G3.out.mem XN.out).mono ?_; rintro e w4 ⟨rfl, hp⟩
           have O4 := Lib.hid (O3.out.trans (Only.grown hp.grown (Or.inl rfl)))
           have G4 := Lib.hid (G3.out.mem_ hp)
           clear hp))
      go_ret2
      exact ⟨rfl, G4.out.toAt FF.out.1 FF.out.2, O4.out⟩
theorem alloc_is {X : PIx} {R R' : Nat → Nat} {L L' : List Int} {k a e : Int} (ha : allocA X.P R k = (a, e)) (hl : allocL X.P R k L = L') (hr : allocR X.P R k = R') {w : World} (h : PoolAt w X L R) (hT : LaidQ w) : Calls Tryz.prog 120 #[.pointer (some ⟨X.pb, 0, none⟩), .int .i64 k] w fun e' w' => e' = .returned (.tuple #[.int .i64 a, .int .i64 e]) ∧ Moves w w' X L' R' := by
  have := alloc_any X L R k w h hT
  rwa [ha, hl, hr] at this
theorem share_is {X : PIx} {R R' : Nat → Nat} {L : List Int} {x e : Int} (he : shareE X.P R x = e) (hr : shareR X.P R x = R') {w : World} (h : PoolAt w X L R) (hx : I64 x) : Calls Tryz.prog 101 #[.pointer (some ⟨X.pb, 0, none⟩), .int .i64 x] w fun e' w' => e' = .returned (.int .i64 e) ∧ Moves w w' X L R' := by
  subst he hr; exact share_any X L R x w h hx
theorem free_is {X : PIx} {R R' : Nat → Nat} {L : List Int} {x e : Int} (he : heldE X.P R x = e) (hr : freeR X.P R x = R') {w : World} (h : PoolAt w X L R) (hx : I64 x) : Calls Tryz.prog 177 #[.pointer (some ⟨X.pb, 0, none⟩), .int .i64 x] w fun e' w' => e' = .returned (.int .i64 e) ∧ Moves w w' X L R' := by
  subst he hr; exact free_any X L R x w h hx
end Go.Proofs.YtkenipanpimolaaGreatDoor
