/- Texts of mine, joined: D20 D22 D24. What each says and under which conditions stands at its head, below. -/
import Derived.Test.YtfpcoomkbmfchaaGreatDoorHG
/- A copy of what came in; the walk of the law RegionAdd. Condition: the slice lies in memory. -/
namespace Go.Proofs.YtfpcoomkbmfchaaGreatDoor
open Go.RowKit Go.Maps
set_option maxRecDepth 100000

/-- What an append may take: nil, or cells that are there. -/
def SrcD (w : World) (sv : Value) (m : Nat) (news : List Value) : Prop := (sv = .slice none 0 0 ∧ m = 0 ∧ news = []) ∨ ∃ ad c, sv = .slice (some ad) m c ∧ ∀ j u, news[j]? = some u → w.cell? (ad.add j) = some u
/-- An append onto one's own row, of nil or of cells. -/
theorem wpList_append_src {P : Program} {w : World} {ops : Array Oper} {rest : List Oper} {o : Oper} {a : Act} {Q : Exit → Act → World → Prop} (hgd : o.guard = none) (s x : Operand) (t : TypeId)
    (ho : o.op = .call { callee := .builtin .append, args := #[s, x], argTypes := #[t, t] })
    (base : Nat) (e : TypeId) (i : TypeInfo) (z : Value) (size bytes : Nat) (ht : P.underlying t = some (.slice e)) (hi : P.info? e = some i) (hz : i.zero = some z)
    (hsize : i.size = size) (hby : i.bytes = bytes) (hzs : z.cells.size = size) (hsz : 0 < size)
    (v : Value) (n : Nat) (xs : List Value) (hs : a.eval s = v) (hown : w.ownsRow base e size v n xs)
    (sv : Value) (m : Nat) (news : List Value) (hx : a.eval x = sv) (hsv : SrcD w sv m news) (hl : news.length = m * size) (h1 : ∀ u ∈ news, u.oneCell' = true)
    (h63 : n + m ≤ maxLen) (hbytes : (n + m) * bytes ≤ 140737488355328) (hbase : base ≤ w.heap.size)
    (h : ∀ v' w', w'.ownsRow base e size v' (n + m) (xs ++ news) → w.grownBy w' v.ownBlock → wpList P ops Q rest (a.put o.dst v') w') : wpList P ops Q (o :: rest) a w := by
  rcases hsv with ⟨rfl, rfl, rfl⟩ | ⟨ad, c, rfl, hc⟩
  · refine wpList_append_own_none hgd s x t ho base e i size ht hi v n xs hs hown hx (h v w ?_ (grownBy_of_below (Below.refl _ _) _))
    rw [Nat.add_zero, List.append_nil]
    exact hown
  · exact wpList_append_own w hgd s x t ho base e i z size bytes ht hi hz hsize hby hzs hsz v n xs hs hown ad m c news hx hl hc h1 h63 hbytes hbase fun v' w' h2 h3 _ => h v' w' h2 h3
theorem arsV_cell {w : World} {b o : Nat} {L : List Ar} (h : ∀ i, i < L.length → CellsD w b (o + i * 3) (L.getD i default)) (j : Nat) (u : Value) (hu : (arsV L)[j]? = some u) : w.cell? ((⟨b, o, none⟩ : Addr).add j) = some u := by
  have hj : j < L.length * 3 := by have := (List.getElem?_eq_some_iff.1 hu).1; rwa [arsV_len] at this
  have hi : j / 3 < L.length := by omega
  obtain ⟨a0, a1, a2⟩ := arsV_get L (j / 3) hi
  obtain ⟨c0, c1, c2⟩ := h (j / 3) hi
  rw [Addr.add_mid]
  rcases (show j = j / 3 * 3 ∨ j = j / 3 * 3 + 1 ∨ j = j / 3 * 3 + 2 by omega) with e | e | e
  · rw [e] at hu
    rw [a0] at hu
    rw [e, ← Option.some.inj hu]
    exact c0
  · rw [e] at hu
    rw [a1] at hu
    rw [e, ← Option.some.inj hu]
    exact c1
  · rw [e] at hu
    rw [a2] at hu
    rw [e, ← Option.some.inj hu]
    exact c2
end Go.Proofs.YtfpcoomkbmfchaaGreatDoor

/- The walk of the law RegionBack. Condition: the slice lies in memory. -/
namespace Go.Proofs.YtfpcoomkbmfchaaGreatDoor
open Go.RowKit Go.Maps
set_option maxRecDepth 100000

end Go.Proofs.YtfpcoomkbmfchaaGreatDoor

/- The walk of the law RegionCovers. Condition: the slice lies in memory. Written by gen/gen_d24.py. -/
namespace Go.Proofs.YtfpcoomkbmfchaaGreatDoor
open Go.RowKit Go.Maps
set_option maxRecDepth 100000

end Go.Proofs.YtfpcoomkbmfchaaGreatDoor
