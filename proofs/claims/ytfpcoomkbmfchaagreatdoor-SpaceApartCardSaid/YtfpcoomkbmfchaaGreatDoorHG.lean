/- Texts of mine, joined: D18 D10 D11 D13 D14 D15 D12 D16 D17 D19. What each says and under which conditions stands at its head, below. -/
import Derived.Test.YtfpcoomkbmfchaaGreatDoorHE
import Derived.Laws.AppendOwnNone
import Derived.StillTailTactics
/- What the sentinel of layer 14's laws does: some answers that the document fixes. No condition. -/
namespace Go.Proofs.YtfpcoomkbmfchaaGreatDoor
open Go.RowKit Go.Maps
set_option maxRecDepth 100000

end Go.Proofs.YtfpcoomkbmfchaaGreatDoor

/- The contract of the document's Check of layer 14. Condition: the slice lies in memory. -/
namespace Go.Proofs.YtfpcoomkbmfchaaGreatDoor
open Go.RowKit Go.Maps
set_option maxRecDepth 100000

end Go.Proofs.YtfpcoomkbmfchaaGreatDoor

/- The contracts of the document's Find, Covers, Pages, Same, meet of layer 14. Condition: the slices lie in memory. -/
namespace Go.Proofs.YtfpcoomkbmfchaaGreatDoor
open Go.RowKit Go.Maps
set_option maxRecDepth 100000

end Go.Proofs.YtfpcoomkbmfchaaGreatDoor

/- The contracts of the document's outside and less of layer 14. Condition: the slice lies in memory. -/
namespace Go.Proofs.YtfpcoomkbmfchaaGreatDoor
open Go.RowKit Go.Maps
set_option maxRecDepth 100000

/-- A row of one's own, told as areas. -/
def OwnD (base : Nat) (w : World) (v : Value) (L : List Ar) : Prop := w.ownsRow base 23 3 v L.length (arsV L)
theorem OwnD.of {base : Nat} {w : World} {v : Value} {L : List Ar} (h : OwnD base w v L) (hl : L.length ≤ 2000) (hw : ∀ x ∈ L, WideD x) : ArAt w v L := ArAt.of_row h hl hw
end Go.Proofs.YtfpcoomkbmfchaaGreatDoor

/- The contracts of the document's less and few of layer 14. Condition: the slice lies in memory. -/
namespace Go.Proofs.YtfpcoomkbmfchaaGreatDoor
open Go.RowKit Go.Maps
set_option maxRecDepth 100000

theorem arsV_one (L : List Ar) : ∀ u ∈ arsV L, u.oneCell' = true := fun u hu => by
  simp only [arsV, List.mem_flatMap] at hu
  obtain ⟨x, -, hu⟩ := hu
  simp only [List.mem_cons, List.not_mem_nil, or_false] at hu
  rcases hu with rfl | rfl | rfl <;> rfl
theorem OwnD.step {base : Nat} {w w' : World} {v : Value} {L : List Ar} (h : OwnD base w v L) (hb : Below w.heap.size w w') : OwnD base w' v L := own_step h hb
/-- A row, as the source of an append. -/
theorem OwnD.src {base : Nat} {w : World} {v : Value} {L : List Ar} (h : OwnD base w v L) : (v = .slice none 0 0 ∧ L = []) ∨ ∃ g c, v = .slice (some ⟨g, 0, none⟩) L.length c ∧ ∀ j u, (arsV L)[j]? = some u → w.cell? ((⟨g, 0, none⟩ : Addr).add j) = some u := by
  have h' : w.ownsRow base 23 3 v L.length (arsV L) := h
  rcases h.2 with ⟨rfl, h0⟩ | ⟨g, cap, cur, rfl, hb, hgg, _⟩
  · exact Or.inl ⟨rfl, List.eq_nil_of_length_eq_zero h0⟩
  · exact Or.inr ⟨g, cap, rfl, fun j u hu => h'.cells (g := g) rfl _ _ hu⟩
end Go.Proofs.YtfpcoomkbmfchaaGreatDoor

/- The contract of the document's with of layer 14: an area more, joined with those at its sides. Condition: the slice lies in memory. Written by gen/gen_d15.py. -/
namespace Go.Proofs.YtfpcoomkbmfchaaGreatDoor
open Go.RowKit Go.Maps
set_option maxRecDepth 100000

def boxD (b : Ar) : Obj := .cells #[.int .i64 b.1, .int .i64 b.2.1, .bool b.2.2] 23 (0, 0)
/-- Where the document's with stands: what it kept, and the area that grows, in its box. -/
structure WithD (w wr : World) (s : Value) (out : List Ar) (b : Ar) : Prop where
  row : OwnD (w.heap.size + 1) wr s out
  box : wr.heap[w.heap.size]? = some (boxD b)
  below : Below w.heap.size w wr
theorem WithD.step {w wr w' : World} {s : Value} {out : List Ar} {b : Ar} (h : WithD w wr s out b) (hb : Below wr.heap.size wr w') : WithD w w' s out b := ⟨h.row.step hb, below_block hb h.box, h.below.trans (hb.mono h.below.size)⟩
theorem WithD.ne {w wr : World} {s : Value} {out : List Ar} {b : Ar} (h : WithD w wr s out b) : ∀ g, s.ownBlock = some g → g ≠ w.heap.size := fun g hg e => by
  have := (World.ownsRow.lt h.row g hg).1
  omega
theorem WithD.kept {w wr w' : World} {s s' : Value} {out out' : List Ar} {b : Ar} (h : WithD w wr s out b) (hg : wr.grownBy w' s.ownBlock) (ho : OwnD (w.heap.size + 1) w' s' out') : WithD w w' s' out' b :=
  ⟨ho, (hg.block _ (lt_of_block h.box) (fun e => h.ne _ e.symm rfl)).trans h.box, below_grown h.below hg (Nat.le_refl _) (fun g hg' => by have := (World.ownsRow.lt h.row g hg').1; omega)⟩
/-- The box is written. -/
theorem WithD.put {w wr w' : World} {s : Value} {out : List Ar} {b b' : Ar} (h : WithD w wr s out b) (hg : wr.grownBy w' (some w.heap.size)) (hb : w'.heap[w.heap.size]? = some (boxD b')) : WithD w w' s out b' :=
  ⟨ownsRow_only (B := fun k => k = w.heap.size) h.row (Only.grown hg rfl) (fun g hg' => h.ne g hg'), hb, below_grown h.below hg (Nat.le_refl _) (fun g hg' => by rw [← Option.some.inj hg']; exact Nat.le_refl _)⟩
theorem drop_atD {L : List Ar} {j : Nat} (h : j < L.length) : L.drop j = L.getD j default :: L.drop (j + 1) := by
  rw [List.drop_eq_getElem_cons h, List.getD_eq_getElem?_getD, List.getElem?_eq_getElem h]; rfl
/-- What with answers. -/
def WithPost (w : World) (g : Int → Option Bool) (e : Ending) (w' : World) : Prop := ∃ v R, e = .returned v ∧ ArAt w' v R ∧ UpD R ∧ (∀ p, atD R p = g p) ∧ Below w.heap.size w w'
theorem WInv.cut {l : List Ar} {a : Ar} {K : List Ar} {b : Ar} (h : WInv l a [] K b) {k : Nat} (hk : k ≤ K.length) (h1 : ∀ i, i < k → (K.getD i default).1 < b.1) (h2 : k < K.length → b.1 ≤ (K.getD k default).1) : UpD (K.take k ++ b :: K.drop k) ∧ ∀ p, atD (K.take k ++ b :: K.drop k) p = withD a (atD l) p := by
  have e := List.take_append_drop k K
  rw [← e] at h
  refine h.ends (fun z hz => ?_) (fun z hz => ?_)
  · obtain ⟨i, hi, rfl⟩ := List.getElem_of_mem hz
    rw [List.length_take] at hi
    have := h1 i (by omega)
    rw [List.getD_eq_getElem?_getD, List.getElem?_eq_getElem (by omega)] at this
    rw [List.getElem_take]
    exact this
  · by_cases hlt : k < K.length
    · rw [drop_atD hlt] at hz
      rw [← Option.some.inj hz]
      exact h2 hlt
    · rw [List.drop_of_length_le (by omega)] at hz
      cases hz
end Go.Proofs.YtfpcoomkbmfchaaGreatDoor

/- The contracts of the document's Pages, Same of layer 14. Condition: the slices lie in memory. -/
namespace Go.Proofs.YtfpcoomkbmfchaaGreatDoor
open Go.RowKit Go.Maps
set_option maxRecDepth 100000

end Go.Proofs.YtfpcoomkbmfchaaGreatDoor

/- The contracts of the document's Add, Cut, Set of layer 14. Condition: the slice lies in memory. -/
namespace Go.Proofs.YtfpcoomkbmfchaaGreatDoor
open Go.RowKit Go.Maps
set_option maxRecDepth 100000

end Go.Proofs.YtfpcoomkbmfchaaGreatDoor

/- The contracts of the document's Cut and Set of layer 14. Condition: the slice lies in memory. -/
namespace Go.Proofs.YtfpcoomkbmfchaaGreatDoor
open Go.RowKit Go.Maps
set_option maxRecDepth 100000

end Go.Proofs.YtfpcoomkbmfchaaGreatDoor

/- The walk of the law RegionCheck. Condition: the slice lies in memory. -/
namespace Go.Proofs.YtfpcoomkbmfchaaGreatDoor
open Go.RowKit Go.Maps
set_option maxRecDepth 100000

/-- A slice of areas that came in. -/
def ArgAr (w : World) (v : Value) (L : List Ar) : Prop := ∃ a c, v = .slice a L.length c ∧ (a = none → c = 0) ∧ (∀ x ∈ L, WideD x) ∧ (L = [] ∨ ∃ b o, a = some ⟨b, o, none⟩ ∧ b < w.heap.size ∧ ∀ i, i < L.length → CellsD w b (o + i * 3) (L.getD i default))
theorem ArgAr.form {w : World} {v : Value} {L : List Ar} (h : ArgAr w v L) : ∃ a c, v = .slice a L.length c := by
  obtain ⟨a, c, e, _⟩ := h
  exact ⟨a, c, e⟩
end Go.Proofs.YtfpcoomkbmfchaaGreatDoor
