/- Each call by what it answers: refused, it leaves the state; else a state. Condition: the listed tables read as laid. -/
import Derived.Test.YtfpcoomkbmfchaaGreatDoorHV
namespace Go.Proofs.YtfpcoomkbmfchaaGreatDoor
open Go.RowKit Go.Maps
set_option maxRecDepth 100000

/-- Spaces, in some state. -/
def AnyS (W0 w : World) (I : SIx) (q : Nat) : Prop := ∃ c D Q V Lb G, Sta W0 w I q c D Q V Lb G ow0 (PG G)
/-- What a call leaves. -/
def DidS (W0 w : World) (I : SIx) (q c : Nat) (D : Int → Option Sp) (Q : Nat → Nat) (V : Nat → Nat → Int) (Lb : List Nd) (G : Int → Option Pc) (e : Ending) (w' : World) : Prop := ∃ er, e = .returned (.int .i64 er) ∧ KeepB w w' ∧ (er ≠ 0 → Sta W0 w' I q c D Q V Lb G ow0 (PG G)) ∧ AnyS W0 w' I q
theorem findSE_off {G : Int → Option Pc} {i : Int} (h : G i = none) : findSE G i ≠ 0 := by
  unfold findSE; rw [h]; split <;> decide
/-- Where no process has a space, nothing is charged, and all is free. -/
theorem J.empty {n q c : Nat} {D : Int → Option Sp} {Q : Nat → Nat} {Lb : List Nd} {P : Int → Nat → Option Bool} (h : J n q c D Q Lb ow0 P) (hD : ∀ j, 1 ≤ j ∧ j ≤ 8 → D j = none) : c = q ∧ ∀ nd ∈ Lb, nd.2.2.2 = 0 := by
  have hA : ∀ j, D j = none := fun j => by
    cases hx : D j with
    | none => rfl
    | some F => rw [hD j (h.pid j F hx)] at hx; cases hx
  refine ⟨?_, fun nd hnd => ?_⟩
  · have h1 := h.sum
    rw [exQ_zero fun y _ => by rw [h.cnt y]; exact sum8_zero fun j _ => by rw [hA j]; rfl, sum8_zero (f := fun i => costD (D i)) fun j _ => by rw [hA j]; rfl] at h1
    omega
  · have h1 := h.bud nd.1
    unfold usedN at h1
    rw [atN_mem h.tree.good.up hnd, hA nd.1] at h1
    have h2 : nd.2.2.2.toNat = 0 := h1
    have h3 := h.tree.good.ok nd hnd
    dsimp only [okN] at h3
    omega
section
variable {W0 w : World} {I : SIx} {q c : Nat} {Q : Nat → Nat} {V : Nat → Nat → Int} {Lb : List Nd} {G : Int → Option Pc} {D : Int → Option Sp}
theorem Sta.any (h : Sta W0 w I q c D Q V Lb G ow0 (PG G)) : AnyS W0 w I q := ⟨_, _, _, _, _, _, h⟩
theorem AnyS.step {w' : World} (h : AnyS W0 w I q) (hb : Below w.heap.size w w') : AnyS W0 w' I q := by
  obtain ⟨c, D, Q, V, Lb, G, h⟩ := h
  exact (h.step hb).any
theorem AnyS.below (h : AnyS W0 w I q) : Below W0.heap.size W0 w := by
  obtain ⟨c, D, Q, V, Lb, G, h⟩ := h
  exact h.bl.below
theorem Fresh.any (h : Fresh W0 w I q) : AnyS W0 w I q := ⟨_, _, _, _, _, _, h⟩
theorem Sta.didBad (h : Sta W0 w I q c D Q V Lb G ow0 (PG G)) {er : Int} {e : Ending} {w' : World} (he : e = .returned (.int .i64 er)) (hb : Below w.heap.size w w') : DidS W0 w I q c D Q V Lb G e w' := ⟨er, he, KeepB.below hb, fun _ => h.step hb, (h.step hb).any⟩
theorem Sta.didOpen (h : Sta W0 w I q c D Q V Lb G ow0 (PG G)) (i : Int) :
    Calls Tryz.prog 13 #[.pointer (some ⟨I.ss, 0, none⟩), .int .i64 i] w (DidS W0 w I q c D Q V Lb G) := by
  refine (h.open_ i).mono ?_
  rintro e w' ⟨rfl, hk, ⟨_, hs⟩ | ⟨h0, _, _, s, c', _, hs⟩⟩
  · exact ⟨_, rfl, hk, fun _ => hs, hs.any⟩
  · exact ⟨_, rfl, hk, fun hne => absurd h0 hne, hs.any⟩
theorem Sta.didClose (h : Sta W0 w I q c D Q V Lb G ow0 (PG G)) (i : Int) :
    Calls Tryz.prog 14 #[.pointer (some ⟨I.ss, 0, none⟩), .int .i64 i] w fun e w' => ∃ er c' D' Q' V' Lb' G', e = .returned (.int .i64 er) ∧ Sta W0 w' I q c' D' Q' V' Lb' G' ow0 (PG G') ∧ D' i = none ∧ ∀ j, D j = none → D' j = none := by
  cases hG : G i with
  | none =>
    have hD : D i = none := by obtain ⟨W, Pb, _, hl⟩ := h.bl; exact hl.none_ i hG
    refine (h.closeBad i (findSE_off hG)).mono ?_
    rintro e w' ⟨rfl, hb⟩
    exact ⟨_, _, _, _, _, _, _, rfl, h.step hb, hD, fun j hj => hj⟩
  | some s =>
    obtain ⟨F, hD⟩ := h.bl.hasD hG
    refine (h.close hG hD).mono ?_
    rintro e w' ⟨rfl, _, c', D', Q', Lb', hs, hn, hr⟩
    refine ⟨0, c', D', Q', V, Lb', delG G i, rfl, hs, hn, fun j hj => ?_⟩
    by_cases e : j = i
    · rw [e]; exact hn
    · have := (hr j e).1
      rw [hj] at this
      cases hx : D' j with
      | none => rfl
      | some y => rw [hx] at this; cases this
theorem Sta.didFork (h : Sta W0 w I q c D Q V Lb G ow0 (PG G)) (f t : Int) :
    Calls Tryz.prog 15 #[.pointer (some ⟨I.ss, 0, none⟩), .int .i64 f, .int .i64 t] w (DidS W0 w I q c D Q V Lb G) := by
  by_cases h0 : forkE0 G Lb f t = 0
  · obtain ⟨p, hG⟩ : ∃ p, G f = some p := by
      cases hG : G f with
      | some p => exact ⟨p, rfl⟩
      | none =>
        unfold forkE0 at h0
        rw [hG] at h0
        split at h0
        · cases h0
        · cases h0
    obtain ⟨K, hD⟩ := h.bl.hasD hG
    refine (h.fork f t h0 hG hD).mono ?_
    rintro e w' (⟨_, rfl, hb⟩ | ⟨_, rfl, hk, _, _, s, c', D', Q', _, hs, _⟩)
    · exact h.didBad rfl hb
    · exact ⟨0, rfl, hk, fun hne => absurd rfl hne, hs.any⟩
  · refine (h.forkBad f t h0).mono ?_
    rintro e w' ⟨rfl, hb⟩
    exact h.didBad rfl hb
theorem Sta.didGrow (h : Sta W0 w I q c D Q V Lb G ow0 (PG G)) (i x y : Int) (d : Bool) (hx : I64 x) (hy : I64 y) :
    Calls Tryz.prog 16 #[.pointer (some ⟨I.ss, 0, none⟩), .int .i64 i, .agg #[.int .i64 x, .int .i64 y, .bool d]] w (DidS W0 w I q c D Q V Lb G) := by
  cases hG : G i with
  | none =>
    refine (h.growBad i x y d (findSE_off hG)).mono ?_
    rintro e w' ⟨rfl, hb⟩
    exact h.didBad rfl hb
  | some s =>
    refine (h.grow hG x y d hx hy).mono ?_
    rintro e w' ⟨er, M, _, rfl, hk, ⟨_, hs⟩ | ⟨rfl, v, hs⟩⟩
    · exact ⟨_, rfl, hk, fun _ => hs, hs.any⟩
    · exact ⟨_, rfl, hk, fun hne => absurd rfl hne, hs.any⟩
theorem Sta.didShrink (h : Sta W0 w I q c D Q V Lb G ow0 (PG G)) (i x y : Int) (hx : I64 x) (hy : I64 y) :
    Calls Tryz.prog 17 #[.pointer (some ⟨I.ss, 0, none⟩), .int .i64 i, .int .i64 x, .int .i64 y] w (DidS W0 w I q c D Q V Lb G) := by
  cases hG : G i with
  | none =>
    refine (h.shrinkBad i x y (findSE_off hG)).mono ?_
    rintro e w' ⟨rfl, hb⟩
    exact h.didBad rfl hb
  | some s =>
    obtain ⟨F, hD⟩ := h.bl.hasD hG
    refine (h.shrink hG hD x y hx hy).mono ?_
    rintro e w' ⟨er, M, _, rfl, hk, ⟨_, hs⟩ | ⟨rfl, v, c', D', Q', Lb', hs, _⟩⟩
    · exact ⟨_, rfl, hk, fun _ => hs, hs.any⟩
    · exact ⟨_, rfl, hk, fun hne => absurd rfl hne, hs.any⟩
theorem Sta.didProtect (h : Sta W0 w I q c D Q V Lb G ow0 (PG G)) (i x y : Int) (b : Bool) (hx : I64 x) (hy : I64 y) :
    Calls Tryz.prog 18 #[.pointer (some ⟨I.ss, 0, none⟩), .int .i64 i, .int .i64 x, .int .i64 y, .bool b] w (DidS W0 w I q c D Q V Lb G) := by
  cases hG : G i with
  | none =>
    refine (h.protectBad i x y b (findSE_off hG)).mono ?_
    rintro e w' ⟨rfl, hb⟩
    exact h.didBad rfl hb
  | some s =>
    obtain ⟨F, hD⟩ := h.bl.hasD hG
    refine (h.protect hG hD x y b hx hy).mono ?_
    rintro e w' ⟨er, M, _, rfl, hk, ⟨_, hs⟩ | ⟨rfl, v, D', hs, _⟩⟩
    · exact ⟨_, rfl, hk, fun _ => hs, hs.any⟩
    · exact ⟨_, rfl, hk, fun hne => absurd rfl hne, hs.any⟩
theorem Sta.didStore (h : Sta W0 w I q c D Q V Lb G ow0 (PG G)) (i va x : Int) (hva : 0 ≤ va ∧ va ≤ 4294967295) (hx : 0 ≤ x ∧ x ≤ 4294967295) :
    Calls Tryz.prog 19 #[.pointer (some ⟨I.ss, 0, none⟩), .int .i64 i, .int .u32 va, .int .u32 x] w (DidS W0 w I q c D Q V Lb G) := by
  cases hG : G i with
  | none =>
    refine (h.storeBad i va x (findSE_off hG)).mono ?_
    rintro e w' ⟨rfl, hb⟩
    exact h.didBad rfl hb
  | some s =>
    obtain ⟨F, hD⟩ := h.bl.hasD hG
    refine (h.store hG hD va x (by omega) (by omega)).mono ?_
    rintro e w' ⟨rfl, c', D', Q', V', Lb', hs, hk, hn, _⟩
    refine ⟨_, rfl, hk, fun hne => ?_, hs.any⟩
    obtain ⟨rfl, rfl, rfl, rfl, rfl⟩ := hn hne
    exact hs
theorem Sta.didReach (h : Sta W0 w I q c D Q V Lb G ow0 (PG G)) (i va n : Int) (hva : 0 ≤ va ∧ va ≤ 4294967295) (hn : I64 n) (b : Bool) :
    Calls Tryz.prog 20 #[.pointer (some ⟨I.ss, 0, none⟩), .int .i64 i, .int .u32 va, .int .i64 n, .bool b] w (DidS W0 w I q c D Q V Lb G) := by
  by_cases hb : idB i = true ∧ (1 ≤ n ∧ n ≤ 1024) ∧ (G i).isSome = true
  · obtain ⟨_, ⟨h1, h2⟩, h3⟩ := hb
    obtain ⟨s, hG⟩ := Option.isSome_iff_exists.1 h3
    obtain ⟨F, hD⟩ := h.bl.hasD hG
    obtain ⟨k, rfl⟩ : ∃ k : Nat, n = (k : Int) := ⟨n.toNat, by omega⟩
    refine (h.reach_ hG hD va (by omega) k (by omega) (by omega) b).mono ?_
    rintro e w' ⟨rfl, c', D', Q', V', Lb', hs, hk, hn, _⟩
    refine ⟨_, rfl, hk, fun hne => ?_, hs.any⟩
    obtain ⟨rfl, rfl, rfl, rfl, rfl⟩ := hn hne
    exact hs
  · refine (h.reachBad i va n hn b hb).mono ?_
    rintro e w' ⟨⟨er, _, rfl⟩, hb⟩
    exact h.didBad rfl hb
theorem Sta.didCarve (h : Sta W0 w I q c D Q V Lb G ow0 (PG G)) (id up n : Int) :
    Calls Tryz.prog 29 #[.pointer (some ⟨I.bb, 0, none⟩), .int .i64 id, .int .i64 up, .int .i64 n] w (DidS W0 w I q c D Q V Lb G) := by
  refine (h.bl.carve id up n rfl).mono ?_
  rintro e w' ⟨rfl, hb, hk⟩
  have hs : Sta W0 w' I q c D Q V (openL Lb id up n) G ow0 (PG G) := ⟨hb, h.j.carve id up n⟩
  refine ⟨_, rfl, hk, fun hne => ?_, hs.any⟩
  have e1 : openL Lb id up n = Lb := by unfold openL; rw [if_neg hne]
  rwa [e1] at hs
/-- What is asked of a process: what is left of its container, how many frames are free, how many pages are mapped, how many areas there are. -/
structure Obs (I : SIx) (i l : Int) (f m a : Nat) (V : World) : Prop where
  left : Calls Tryz.prog 33 #[.pointer (some ⟨I.bb, 0, none⟩), .int .i64 i] V fun e w' => e = .returned (.int .i64 l) ∧ Below V.heap.size V w'
  free : Calls Tryz.prog 32 #[.pointer (some ⟨I.X.pb, 0, none⟩), .int .i64 0] V fun e w' => e = .returned (.int .i64 (f : Int)) ∧ Below V.heap.size V w'
  mapped : Calls Tryz.prog 22 #[.pointer (some ⟨I.ss, 0, none⟩), .int .i64 i] V fun e w' => ∃ b c, e = .returned (.slice b m c) ∧ Below V.heap.size V w'
  areas : Calls Tryz.prog 21 #[.pointer (some ⟨I.ss, 0, none⟩), .int .i64 i] V fun e w' => ∃ b c, e = .returned (.slice b a c) ∧ Below V.heap.size V w'
theorem Sta.obs (h : Sta W0 w I q c D Q V Lb G ow0 (PG G)) {i l : Int} {m a : Nat} (hl : leftL Lb i = l) (hm : (pgL fun p => prD D i p).length = m) (ha : lenA G i = a) : Obs I i l c m a w := by
  refine ⟨h.bl.leftB i hl, h.bl.left, ?_, ?_⟩
  · refine (h.mappedS i).mono ?_
    rintro e w' ⟨v, rfl, ho, hb⟩
    obtain ⟨b, cp, rfl⟩ := ownsForm ho
    rw [hm]
    exact ⟨b, cp, rfl, hb⟩
  · have := h.areas i
    rwa [ha] at this
end
end Go.Proofs.YtfpcoomkbmfchaaGreatDoor
