/- Two pools of a law's own; the contract of layer 9's answer. Condition: the library's table reads as its initialiser lays it. -/
import Derived.Test.YtiohnhgoddfebaaDoorA12
import Derived.Test.YtiohnhgoddfebaaDoorOA
namespace Go.Proofs.YtiohnhgoddfebaaDoor
open Go.RowKit
set_option maxRecDepth 100000

theorem pallocNone_at (n : Int) (v : Value) (S : List (Int × Int)) (W : World) (hn : I64 n) (hv : ArgPairs W v S) (hT : LaidQ W) : Calls Tryd.prog 4 #[.int .i64 n, v] W fun e w' => e = .returned (.bool true) ∧ Below W.heap.size W w' := pallocNone_walk n v W hn hv.slice hT

/-- What kinds of things a pool's blocks are. -/
theorem PoolAt.kind {w : World} {X : PIx} {L : List Int} {R : Nat → Nat} (h : PoolAt w X L R) (k : Nat) (hk : X.all k) : ∃ o, w.heap[k]? = some o ∧ (kindOf o = none ∨ kindOf o = some 83 ∨ kindOf o = some 109 ∨ kindOf o = some 52 ∨ kindOf o = some 70 ∨ kindOf o = some 91) := by
  rcases hk with (e | e | e) | e | e | e
  · exact ⟨_, e ▸ h.mem.row, Or.inr (Or.inl rfl)⟩
  · obtain ⟨es, ck, hm⟩ := h.refs.isMap
    exact ⟨_, e ▸ hm, Or.inl rfl⟩
  · obtain ⟨t, ht, rfl⟩ := List.mem_map.1 e
    obtain ⟨i, hi, e2⟩ := List.getElem_of_mem ht
    have := (h.sets i hi).box
    rw [List.getD_eq_getElem?_getD, List.getElem?_eq_getElem hi, Option.getD_some, e2] at this
    exact ⟨_, this, Or.inr (Or.inr (Or.inl rfl))⟩
  · exact ⟨_, e ▸ h.box, Or.inr (Or.inr (Or.inr (Or.inl rfl)))⟩
  · exact ⟨_, e ▸ h.mem.box, Or.inr (Or.inr (Or.inr (Or.inr (Or.inl rfl))))⟩
  · obtain ⟨cs, hcs⟩ := own_block h.parts e
    exact ⟨_, hcs, Or.inr (Or.inr (Or.inr (Or.inr (Or.inr rfl))))⟩
theorem PoolAt.lt {w : World} {X : PIx} {L : List Int} {R : Nat → Nat} (h : PoolAt w X L R) (k : Nat) (hk : X.all k) : k < w.heap.size := by
  obtain ⟨o, ho, _⟩ := h.kind k hk
  exact lt_of_block ho
/-- A block of another kind is none of a pool's. -/
theorem PoolAt.other {w : World} {X : PIx} {L : List Int} {R : Nat → Nat} {cs : Array Value} {t : TypeId} {z : Nat × Nat} {b : Nat} (h : PoolAt w X L R) (hb : w.heap[b]? = some (.cells cs t z)) (ht : t ≠ 83 ∧ t ≠ 109 ∧ t ≠ 52 ∧ t ≠ 70 ∧ t ≠ 91) : ¬ X.all b := fun hk => by
  obtain ⟨o, ho, hx⟩ := h.kind b hk
  rw [hb] at ho
  rw [← Option.some.inj ho] at hx
  simp only [kindOf, Option.some.injEq, reduceCtorEq, false_or] at hx
  rcases hx with e | e | e | e | e
  · exact ht.1 e
  · exact ht.2.1 e
  · exact ht.2.2.1 e
  · exact ht.2.2.2.1 e
  · exact ht.2.2.2.2 e
/-- A row of the law's own is none of a pool's. -/
theorem PoolAt.rowApart {w : World} {X : PIx} {L : List Int} {R : Nat → Nat} {base k n : Nat} {e : TypeId} {v : Value} {xs : List Value} (h : PoolAt w X L R) (ho : w.ownsRow base e k v n xs) (ht : e ≠ 83 ∧ e ≠ 109 ∧ e ≠ 52 ∧ e ≠ 70 ∧ e ≠ 91) : ∀ g, v.ownBlock = some g → ¬ X.all g := fun g hg => by
  obtain ⟨cs, hcs⟩ := own_block ho hg
  exact h.other hcs ht
theorem OwnPool.append {W w w' : World} {X : PIx} {L : List Int} {R : Nat → Nat} {base k n : Nat} {e : TypeId} {v : Value} {xs : List Value} (h : OwnPool W w X L R) (ho : w.ownsRow base e k v n xs) (hg : w.grownBy w' v.ownBlock) (hb : W.heap.size ≤ base) (ht : e ≠ 83 ∧ e ≠ 109 ∧ e ≠ 52 ∧ e ≠ 70 ∧ e ≠ 91) : OwnPool W w' X L R :=
  have ho' : Only w w' (fun k => v.ownBlock = some k) := Only.grownTo hg (fun _ e => e)
  ⟨h.st.kept ho' (fun k hk e2 => h.st.rowApart ho ht k e2 hk), ho'.old h.below h.below.size (fun k e2 => Nat.le_trans hb (ho.lt k e2).1), h.new, h.laid⟩
/-- Two pools of a law's own. -/
structure Pools (W w : World) (X Y : PIx) (L : List Int) (R : Nat → Nat) (K : List Int) (Q : Nat → Nat) : Prop where
  one : OwnPool W w X L R
  two : OwnPool W w Y K Q
  apart : ∀ k, X.all k → Y.all k → False
theorem Pools.step {W w w' : World} {X Y : PIx} {L K : List Int} {R Q : Nat → Nat} (h : Pools W w X Y L R K Q) (hb : Below w.heap.size w w') : Pools W w' X Y L R K Q := ⟨h.one.step hb, h.two.step hb, h.apart⟩
theorem Pools.move1 {W w w' : World} {X Y : PIx} {L L' K : List Int} {R R' Q : Nat → Nat} (h : Pools W w X Y L R K Q) (k : Moves w w' X L' R') : Pools W w' X Y L' R' K Q :=
  ⟨h.one.move k, ⟨h.two.st.kept k.only (fun j hj e => h.apart j (Or.inl e) hj), (h.one.move k).below, h.two.new, h.two.laid⟩, h.apart⟩
theorem Pools.move2 {W w w' : World} {X Y : PIx} {L K K' : List Int} {R Q Q' : Nat → Nat} (h : Pools W w X Y L R K Q) (k : Moves w w' Y K' Q') : Pools W w' X Y L R K' Q' :=
  ⟨⟨h.one.st.kept k.only (fun j hj e => h.apart j hj (Or.inl e)), (h.two.move k).below, h.one.new, h.one.laid⟩, h.two.move k, h.apart⟩
theorem Pools.append {W w w' : World} {X Y : PIx} {L K : List Int} {R Q : Nat → Nat} {base k n : Nat} {e : TypeId} {v : Value} {xs : List Value} (h : Pools W w X Y L R K Q) (ho : w.ownsRow base e k v n xs) (hg : w.grownBy w' v.ownBlock) (hb : W.heap.size ≤ base) (ht : e ≠ 83 ∧ e ≠ 109 ∧ e ≠ 52 ∧ e ≠ 70 ∧ e ≠ 91) : Pools W w' X Y L R K Q := ⟨h.one.append ho hg hb ht, h.two.append ho hg hb ht, h.apart⟩
/-- A row of the law's own stays, whatever a pool does. -/
theorem row_moves {w w' : World} {X : PIx} {L L' : List Int} {R R' : Nat → Nat} {base k n : Nat} {e : TypeId} {v : Value} {xs : List Value} (ho : w.ownsRow base e k v n xs) (h : PoolAt w X L R) (hm : Moves w w' X L' R') (ht : e ≠ 83 ∧ e ≠ 109 ∧ e ≠ 52 ∧ e ≠ 70 ∧ e ≠ 91) : w'.ownsRow base e k v n xs :=
  ownsRow_only ho hm.only (fun g hg hb => h.rowApart ho ht g hg (Or.inl hb))
theorem OwnMem.wider {W w w' : World} {mp fb n : Nat} {L : List Int} (h : OwnMem w w' mp fb n L) (hb : Below W.heap.size W w) : OwnMem W w' mp fb n L := ⟨h.st, hb.trans (h.below.mono hb.size), Nat.le_trans hb.size h.lm, Nat.le_trans hb.size h.lf⟩

/-- What a call answers, as one number, and how often each frame is held then. -/
def ansA (P : List (Nat × Nat)) (R : Nat → Nat) (o : Int × Int) : Int :=
  if o.1 = 1 then (allocA P R 0).1 * 100 + (allocA P R 0).2 else if o.1 = 2 then shareE P R o.2 else if o.1 = 3 then heldE P R o.2 else refI R o.2
def ansR (P : List (Nat × Nat)) (R : Nat → Nat) (o : Int × Int) : Nat → Nat :=
  if o.1 = 1 then allocR P R 0 else if o.1 = 2 then shareR P R o.2 else if o.1 = 3 then freeR P R o.2 else R
theorem allocA_range {n : Nat} {P : List (Nat × Nat)} {R : Nat → Nat} (h : FitP n P R) (k : Int) : 0 ≤ (allocA P R k).1 ∧ (allocA P R k).1 ≤ 1023 ∧ 0 ≤ (allocA P R k).2 ∧ (allocA P R k).2 ≤ 3 := by
  unfold allocA
  split
  · rename_i hk
    have hk := (partB_iff _ _).1 hk
    cases hF : freeL (P.getD k.toNat (0, 0)) R with
    | nil => simp
    | cons x r =>
      have hx := (mem_freeL _ _ x).1 (by rw [hF]; simp)
      have := (h.rng k.toNat (by omega)).2
      have := h.top
      simp only
      omega
  · simp
set_option maxHeartbeats 1000000 in
theorem answer_any (X : PIx) (L : List Int) (R : Nat → Nat) (d x : Int) (w : World) (h : PoolAt w X L R) (hT : LaidQ w) (hx : I64 x) : Calls Tryd.prog 25 #[.pointer (some ⟨X.pb, 0, none⟩), .agg #[.int .i64 d, .int .i64 x]] w fun e w' => e = .returned (.int .i64 (ansA X.P R (d, x))) ∧ ∃ L', Moves w w' X L' (ansR X.P R (d, x)) := by
  have hB := (Below.refl w.heap.size w).alloc (Nat.le_refl _) (.cells #[.int .i64 d, .int .i64 x] 43)
  have H := Lib.hid (h.below hB)
  have B := Lib.hid hB
  have HT := Lib.hid (hT.below hB)
  by_cases d1 : d = 1
  · subst d1
    obtain ⟨a, ha⟩ : ∃ a, allocA X.P R 0 = a := ⟨_, rfl⟩
    obtain ⟨a, e⟩ := a
    have hr := allocA_range h.fit 0
    rw [ha] at hr
    simp only at hr
    rw [show ansA X.P R (1, x) = a * 100 + e by simp [ansA, ha], show ansR X.P R (1, x) = allocR X.P R 0 by simp [ansR]]
    have HA := Lib.hid ha
    clear h hT hB ha
    go_enter Tryd.func25, Tryd.ntmps25
    go_wp2_with (go_at_call 18; refine (alloc_is HA.out rfl rfl H.out HT.out).mono ?_; rintro e w2 ⟨rfl, hm⟩; have M := Lib.hid hm; clear hm)
    go_ret
    exact ⟨rfl, _, M.out.st, (Only.below B.out).trans M.out.only⟩
  · by_cases d2 : d = 2
    · subst d2
      rw [show ansA X.P R (2, x) = shareE X.P R x by simp [ansA], show ansR X.P R (2, x) = shareR X.P R x by simp [ansR]]
      clear h hT hB
      go_enter Tryd.func25, Tryd.ntmps25
      go_wp2_with (go_at_call 20; refine (share_any X L R x _ H.out hx).mono ?_; rintro e w2 ⟨rfl, hm⟩; have M := Lib.hid hm; clear hm)
      go_ret
      exact ⟨rfl, _, M.out.st, (Only.below B.out).trans M.out.only⟩
    · by_cases d3 : d = 3
      · subst d3
        rw [show ansA X.P R (3, x) = heldE X.P R x by simp [ansA], show ansR X.P R (3, x) = freeR X.P R x by simp [ansR]]
        clear h hT hB
        go_enter Tryd.func25, Tryd.ntmps25
        go_wp2_with (go_at_call 21; refine (free_any X L R x _ H.out hx).mono ?_; rintro e w2 ⟨rfl, hm⟩; have M := Lib.hid hm; clear hm)
        go_ret
        exact ⟨rfl, _, M.out.st, (Only.below B.out).trans M.out.only⟩
      · rw [show ansA X.P R (d, x) = refI R x by simp [ansA, d1, d2, d3], show ansR X.P R (d, x) = R by simp [ansR, d1, d2, d3]]
        clear h hT hB
        go_enter Tryd.func25, Tryd.ntmps25
        go_wp2_with (go_at_call 22; refine (refs_is rfl H.out hx).mono ?_; rintro e w2 ⟨rfl, rfl⟩)
        go_ret
        exact ⟨rfl, L, H.out, Only.below B.out⟩
theorem ansA_range {n : Nat} {P : List (Nat × Nat)} {R : Nat → Nat} (h : FitP n P R) (o : Int × Int) : 0 ≤ ansA P R o ∧ ansA P R o ≤ 200000 := by
  unfold ansA
  have hr := allocA_range h 0
  split
  · omega
  · have h64 : ∀ x : Int, 0 ≤ refI R x ∧ refI R x ≤ 64 := fun x => by
      unfold refI
      split
      · have := h.most x.toNat; omega
      · omega
    have hh := held_not h o.2
    have hs : 0 ≤ shareE P R o.2 ∧ shareE P R o.2 ≤ 5 := by
      unfold shareE
      split
      · split <;> omega
      · omega
    split
    · omega
    · split
      · omega
      · have := h64 o.2; omega
/-- How often frames are held behind so many calls. -/
def runA (P : List (Nat × Nat)) (S : List (Int × Int)) (k : Nat) : Nat → Nat := (S.take k).foldl (ansR P) R0
theorem runA_zero (P : List (Nat × Nat)) (S : List (Int × Int)) : runA P S 0 = R0 := rfl
theorem runA_next (P : List (Nat × Nat)) (S : List (Int × Int)) (k : Nat) (h : k < S.length) : runA P S (k + 1) = ansR P (runA P S k) (S.getD k default) := by
  unfold runA
  rw [List.take_succ_eq_append_getElem h, List.foldl_append, List.getD_eq_getElem?_getD, List.getElem?_eq_getElem h]
  rfl
def seenV (P : List (Nat × Nat)) (S : List (Int × Int)) (k : Nat) : List Value := (List.range k).map fun i => .int .i64 (ansA P (runA P S i) (S.getD i default))
theorem seenV_snoc (P : List (Nat × Nat)) (S : List (Int × Int)) (k : Nat) : seenV P S (k + 1) = seenV P S k ++ [.int .i64 (ansA P (runA P S k) (S.getD k default))] := by simp [seenV, List.range_succ]
theorem seenV_get (P : List (Nat × Nat)) (S : List (Int × Int)) (k i : Nat) (h : i < k) : (seenV P S k)[i]? = some (.int .i64 (ansA P (runA P S i) (S.getD i default))) := by simp [seenV, h]
end Go.Proofs.YtiohnhgoddfebaaDoor
