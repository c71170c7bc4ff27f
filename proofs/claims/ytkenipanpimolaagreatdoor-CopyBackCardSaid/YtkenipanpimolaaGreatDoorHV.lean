/- Texts of mine, joined: S43 S44 S46. What each says and under which conditions stands at its head, below. -/
import Derived.Test.YtkenipanpimolaaGreatDoorHT
import Derived.Test.YtkenipanpimolaaGreatDoorGD8
/- The contract of the laws' see: what loads answer, in order. No condition. -/
namespace Go.Proofs.YtkenipanpimolaaGreatDoor
open Go.RowKit Go.Maps
set_option maxRecDepth 100000

/-- Words in a row. -/
def seeV (f : Nat → Int) (n : Nat) : List Value := (List.range n).map fun k => .int .u32 (f k)
theorem seeV_len (f : Nat → Int) (n : Nat) : (seeV f n).length = n := by simp [seeV]
theorem seeV_get (f : Nat → Int) (n k : Nat) (h : k < n) : (seeV f n)[k]? = some (.int .u32 (f k)) := by simp [seeV, h]
theorem KeepB.ownNew {w V V' : World} {g : Nat} (h : KeepB w V) (hg : w.heap.size ≤ g) (k : V.grownBy V' (some g)) : KeepB w V' :=
  ⟨⟨k.os.trans h.only.os, k.tape.trans h.only.tape, k.output.trans h.only.output, Nat.le_trans h.only.size k.size, fun j hj hB => (k.block j (Nat.lt_of_lt_of_le hj h.only.size) (fun e => by have := Option.some.inj e; omega)).trans (h.only.block j hj hB)⟩⟩
end Go.Proofs.YtkenipanpimolaaGreatDoor

/- Rows of one's own beside spaces: what is written there leaves them. Condition: the listed tables read as laid. -/
namespace Go.Proofs.YtkenipanpimolaaGreatDoor
open Go.RowKit Go.Maps
set_option maxRecDepth 100000

/-- Areas lie below a block. -/
def ArN (G : Int → Option Pc) (N : Nat) : Prop := ∀ i s, G i = some s → s.ar = [] ∨ ∃ b o n c, s.v = .slice (some ⟨b, o, none⟩) n c ∧ b < N
theorem ArN.mono {G : Int → Option Pc} {N M : Nat} (h : ArN G N) (hm : N ≤ M) : ArN G M := fun i s hi => (h i s hi).imp id fun ⟨b, o, n, c, e, hb⟩ => ⟨b, o, n, c, e, Nat.lt_of_lt_of_le hb hm⟩
theorem ArAt.far {w w' : World} {v : Value} {L : List Ar} {g : Nat} (h : ArAt w v L) (ho : Only w w' (fun k => k = g)) (hg : L = [] ∨ ∃ b o n c, v = .slice (some ⟨b, o, none⟩) n c ∧ b < g) : ArAt w' v L := by
  obtain ⟨a, c, rfl, hl, hw, h⟩ := h
  refine ⟨a, c, rfl, hl, hw, ?_⟩
  rcases h with h | ⟨b, o, rfl, hlt, hc⟩
  · exact Or.inl h
  · rcases hg with hg | ⟨b', o', n', c', e, hb⟩
    · exact Or.inl hg
    · injection e with e1
      injection e1 with e1
      injection e1 with e1 e2
      subst e1
      have k : ∀ q, w'.cell? ⟨b, q, none⟩ = w.cell? ⟨b, q, none⟩ := fun q => World.cell?_of_block (w := w) (a := ⟨b, q, none⟩) (ho.block b hlt (by omega))
      exact Or.inr ⟨b, o, rfl, Nat.lt_of_lt_of_le hlt ho.size, fun i hi => by
        obtain ⟨c0, c1, c2⟩ := hc i hi
        exact ⟨(k _).trans c0, (k _).trans c1, (k _).trans c2⟩⟩
section
variable {W0 w : World} {I : SIx} {c : Nat} {Q : Nat → Nat} {V : Nat → Nat → Int} {Lb : List Nd} {G : Int → Option Pc} {D : Int → Option Sp}
theorem BL.arN (h : BL W0 w I c Q V Lb G D) : ArN G w.heap.size := fun i s hi => by
  obtain ⟨⟨a, cp, e, _, _, hc⟩, _⟩ := h.area hi
  rcases hc with hc | ⟨b, o, rfl, hlt, _⟩
  · exact Or.inl hc
  · exact Or.inr ⟨b, o, _, _, e, hlt⟩
theorem BL.foreign (h : BL W0 w I c Q V Lb G D) {w' : World} {g : Nat} {cs : Array Value} (hb : w.heap[g]? = some (.cells cs 23 (0, 0))) (hn : W0.heap.size ≤ g) (hA : ArN G g) (ho : Only w w' (fun k => k = g)) : BL W0 w' I c Q V Lb G D := by
  obtain ⟨W, Pb, h1, h2⟩ := h
  have hnm : ¬ Mov w g := not_mov hb (by decide)
  refine ⟨W, Pb, ⟨h1.sys.kept ho (fun k hk hkb => ?_) (ho.old h1.sys.below h1.sys.below.size (fun k hk => by rw [hk]; exact hn)), h1.bud.kept (ho.block _ (lt_of_block h1.bud.box) fun hk => ?_) (fun k hk => ho.block _ (h1.bud.lt hk) fun hkb => hnm (hkb ▸ (h1.bud.noAr k hk).2)), ho.kept h1.box fun hk => ?_, h1.map.same (ho.block _ h1.map.lt fun hk => ?_), fun i s hi => ?_, h1.nbm, h1.nmm, h1.nod, h1.nsp, h1.ne, h1.fz.only ho (fun k cs hk _ hkb => ?_) (fun _ _ => Or.inl)⟩, h2⟩
  · obtain ⟨_, o, hoo, hx⟩ := h1.sys.kind k hk
    rw [hkb, hb] at hoo
    rw [← Option.some.inj hoo] at hx
    simp only [kindOf, Option.some.injEq, reduceCtorEq, false_and, false_or] at hx
    revert hx; decide
  · have := h1.bud.box
    rw [hk, hb] at this
    simp only [budO, Option.some.injEq, Obj.cells.injEq] at this
    exact absurd this.2.1 (by decide)
  · have := h1.box
    rw [hk, hb] at this
    simp only [ssO, Option.some.injEq, Obj.cells.injEq] at this
    exact absurd this.2.1 (by decide)
  · obtain ⟨es, ck, hm⟩ := h1.map.isMap
    rw [hk, hb] at hm; cases hm
  · obtain ⟨a, bb, d⟩ := h1.sp i s hi
    refine ⟨ho.kept a fun hk => ?_, bb.far ho (hA i s hi), d⟩
    rw [hk, hb] at a
    simp only [spO, Option.some.injEq, Obj.cells.injEq] at a
    exact absurd a.2.1 (by decide)
  · rw [hkb, hb] at hk
    simp only [Option.some.injEq, Obj.cells.injEq] at hk
    exact absurd hk.2.1 (by decide)
end
section
variable {W0 w : World} {I : SIx} {q : Nat} {Lb : List Nd} {G : Int → Option Pc} {pr : Int → Nat → Bool} {rd : Int → Nat → Nat → Int}
theorem Hv.arN (h : Hv W0 w I q Lb G pr rd) : ArN G w.heap.size := by
  obtain ⟨c, D, Q, V, h1, _⟩ := h
  exact h1.bl.arN
theorem Hv.own (h : Hv W0 w I q Lb G pr rd) {w' : World} {g : Nat} {cs : Array Value} (hb : w.heap[g]? = some (.cells cs 23 (0, 0))) (hn : W0.heap.size ≤ g) (hA : ArN G g) (hg : w.grownBy w' (some g)) : Hv W0 w' I q Lb G pr rd := by
  obtain ⟨c, D, Q, V, h1, h2⟩ := h
  exact ⟨c, D, Q, V, ⟨h1.bl.foreign hb hn hA (Only.grown hg rfl), h1.j⟩, h2⟩
end
end Go.Proofs.YtkenipanpimolaaGreatDoor

/- Spaces of one container; what is taken away. Condition: the listed tables read as laid. -/
namespace Go.Proofs.YtkenipanpimolaaGreatDoor
open Go.RowKit Go.Maps
set_option maxRecDepth 100000

/-- One container. -/
abbrev oneL (q u : Int) : List Nd := [(1, 0, q, u)]
section
variable {W0 w : World} {I : SIx} {q : Nat} {Lb : List Nd} {G : Int → Option Pc} {pr : Int → Nat → Bool} {rd : Int → Nat → Nat → Int}
theorem Hv.mapd (h : Hv W0 w I q Lb G pr rd) {i : Int} {r : Nat} (hr : r < 1024) (hp : pr i r = true) : ∃ s x, G i = some s ∧ atD s.ar (r : Int) = some x := by
  obtain ⟨c, D, Q, V, h1, h2, _⟩ := h
  rw [← h2 i r hr] at hp
  cases hD : D i with
  | none => rw [prD_none hD] at hp; cases hp
  | some F =>
    obtain ⟨s, hG⟩ := h1.bl.has hD
    rw [prD_some hD] at hp
    have := h1.j.perm i F r hD hr hp
    rw [PG_some hG] at this
    exact ⟨s, _, hG, this⟩
theorem Hv.used (h : Hv W0 w I q Lb G pr rd) {i : Int} {s : Pc} (hG : G i = some s) : usedN Lb i = costP (pr i) := by
  obtain ⟨c, D, Q, V, h1, h2, _⟩ := h
  obtain ⟨F, hD⟩ := h1.bl.hasD hG
  have := h1.j.bud i
  rw [hD] at this
  rw [this, show costD (some F) = costF F from rfl, costF_eq, costP_congr fun p hp => show onF F p = pr i p by rw [← h2 i p hp, prD_some hD]]
  rfl
theorem Hv.congr {pr' : Int → Nat → Bool} {rd' : Int → Nat → Nat → Int} (h : Hv W0 w I q Lb G pr rd) (hp : ∀ j r, r < 1024 → pr' j r = pr j r) (hr : ∀ j r y, r < 1024 → y < 32 → rd' j r y = rd j r y) : Hv W0 w I q Lb G pr' rd' := by
  obtain ⟨c, D, Q, V, h1, h2, h3⟩ := h
  exact ⟨c, D, Q, V, h1, fun j r hj => (h2 j r hj).trans (hp j r hj).symm, fun j r y hj hy => (h3 j r y hj hy).trans (hr j r y hj hy).symm⟩
end
end Go.Proofs.YtkenipanpimolaaGreatDoor
