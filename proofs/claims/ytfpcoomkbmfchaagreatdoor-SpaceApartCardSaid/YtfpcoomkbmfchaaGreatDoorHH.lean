/- Texts of mine, joined: D20 D22 D24. What each says and under which conditions stands at its head, below. -/
import Derived.Test.YtfpcoomkbmfchaaGreatDoorHG
/- A copy of what came in; the walk of the law RegionAdd. Condition: the slice lies in memory. -/
namespace Go.Proofs.YtfpcoomkbmfchaaGreatDoor
open Go.RowKit Go.Maps
set_option maxRecDepth 100000

/-- What an append may take: nil, or cells that are there. -/
def SrcD (w : World) (sv : Value) (m : Nat) (news : List Value) : Prop := (sv = .slice none 0 0 ∧ m = 0 ∧ news = []) ∨ ∃ ad c, sv = .slice (some ad) m c ∧ ∀ j u, news[j]? = some u → w.cell? (ad.add j) = some u
/-- An append onto one's own row, of nil or of cells. -/
theorem wpList_append_src {P : Program} {w : World} {ops : Array Oper} {rest : List Oper} {o : Oper} {a : Act} {Q : Exit → Act → World → Prop} (hgd : o.guard = none) (s x : Operand) (t : TypeId)
    (ho : o.op = .call { callee := .builtin .append, args := #[s, x], argTypes := #[t, t] })
    (base : Nat) (e : TypeId) (i : TypeInfo) (z : Value) (size bytes : Nat) (ht : P.underlying t = some (.slice e)) (hi : P.info? e = some i) (hz : i.zero = some z)
    (hsize : i.size = size) (hby : i.bytes = bytes) (hzs : z.cells.size = size) (hsz : 0 < size)
    (v : Value) (n : Nat) (xs : List Value) (hs : a.eval s = v) (hown : w.ownsRow base e size v n xs)
    (sv : Value) (m : Nat) (news : List Value) (hx : a.eval x = sv) (hsv : SrcD w sv m news) (hl : news.length = m * size) (h1 : ∀ u ∈ news, u.oneCell' = true)
    (h63 : n + m ≤ maxLen) (hbytes : (n + m) * bytes ≤ 140737488355328) (hbase : base ≤ w.heap.size)
    (h : ∀ v' w', w'.ownsRow base e size v' (n + m) (xs ++ news) → w.grownBy w' v.ownBlock → wpList P ops Q rest (a.put o.dst v') w') : wpList P ops Q (o :: rest) a w := by
  rcases hsv with ⟨rfl, rfl, rfl⟩ | ⟨ad, c, rfl, hc⟩
  · refine wpList_append_own_none hgd s x t ho base e i size ht hi v n xs hs hown hx (h v w ?_ (grownBy_of_below (Below.refl _ _) _))
    rw [Nat.add_zero, List.append_nil]
    exact hown
  · exact wpList_append_own w hgd s x t ho base e i z size bytes ht hi hz hsize hby hzs hsz v n xs hs hown ad m c news hx hl hc h1 h63 hbytes hbase fun v' w' h2 h3 _ => h v' w' h2 h3
theorem arsV_cell {w : World} {b o : Nat} {L : List Ar} (h : ∀ i, i < L.length → CellsD w b (o + i * 3) (L.getD i default)) (j : Nat) (u : Value) (hu : (arsV L)[j]? = some u) : w.cell? ((⟨b, o, none⟩ : Addr).add j) = some u := by
  have hj : j < L.length * 3 := by have := (List.getElem?_eq_some_iff.1 hu).1; rwa [arsV_len] at this
  have hi : j / 3 < L.length := by omega
  obtain ⟨a0, a1, a2⟩ := arsV_get L (j / 3) hi
  obtain ⟨c0, c1, c2⟩ := h (j / 3) hi
  rw [Addr.add_mid]
  rcases (show j = j / 3 * 3 ∨ j = j / 3 * 3 + 1 ∨ j = j / 3 * 3 + 2 by omega) with e | e | e
  · rw [e] at hu
    rw [a0] at hu
    rw [e, ← Option.some.inj hu]
    exact c0
  · rw [e] at hu
    rw [a1] at hu
    rw [e, ← Option.some.inj hu]
    exact c1
  · rw [e] at hu
    rw [a2] at hu
    rw [e, ← Option.some.inj hu]
    exact c2
theorem ArgAr.src {w : World} {v : Value} {L : List Ar} (h : ArgAr w v L) : ∀ V, Below w.heap.size w V → SrcD V v L.length (arsV L) := by
  obtain ⟨a, c, rfl, hn, hw, hc⟩ := h
  intro V hV
  cases a with
  | none =>
    rcases hc with rfl | ⟨b, o, e, _⟩
    · exact Or.inl ⟨by rw [hn rfl]; rfl, rfl, rfl⟩
    · cases e
  | some ad =>
    refine Or.inr ⟨ad, c, rfl, fun j u hu => ?_⟩
    rcases hc with rfl | ⟨b, o, e, hlt, hc⟩
    · simp [arsV] at hu
    · cases e
      refine arsV_cell (fun i hi => ?_) j u hu
      obtain ⟨c0, c1, c2⟩ := hc i hi
      have k : ∀ q, V.cell? ⟨b, q, none⟩ = w.cell? ⟨b, q, none⟩ := fun q => hV.cell (p := ⟨b, q, none⟩) hlt
      exact ⟨(k _).trans c0, (k _).trans c1, (k _).trans c2⟩
end Go.Proofs.YtfpcoomkbmfchaaGreatDoor

/- The walk of the law RegionBack. Condition: the slice lies in memory. -/
namespace Go.Proofs.YtfpcoomkbmfchaaGreatDoor
open Go.RowKit Go.Maps
set_option maxRecDepth 100000

theorem AddD.okay {L : List Ar} {a : Ar} {M : List Ar} (h : AddD L a 0 M) : OkD L ∧ FitD a.1 a.2.1 ∧ (∀ p, HasD a p → atD L p = none) ∧ OkD M ∧ ∀ p, atD M p = withD a (atD L) p := by
  obtain ⟨⟨h1, h2⟩, h3, h4⟩ := two_okD (by decide) (by decide) h
  obtain ⟨h5, h6⟩ := h4.ok
  exact ⟨h1, h2, h3, h5, h6⟩
theorem AddD.pages {L : List Ar} {a : Ar} {M : List Ar} (h : AddD L a 0 M) : pagesD M = pagesD L + a.2.1 := by
  obtain ⟨-, h2, h3, -, h5⟩ := h.okay
  rw [← cntD_has a h2]
  refine cntD_or (fun p => ?_) (fun p hp => ?_) 0 1024
  · rw [h5]
    unfold withD
    by_cases hp : HasD a p
    · rw [if_pos hp]; simp [hp]
    · rw [if_neg hp]; simp [hp]
  · by_cases hh : HasD a p
    · rw [h3 p hh] at hp; simp at hp
    · simp [hh]
theorem AddD.wide {L : List Ar} {a : Ar} {er : Int} {M : List Ar} (h : AddD L a er M) : M.length ≤ 8 := two_len h
end Go.Proofs.YtfpcoomkbmfchaaGreatDoor

/- The walk of the law RegionCovers. Condition: the slice lies in memory. Written by gen/gen_d24.py. -/
namespace Go.Proofs.YtfpcoomkbmfchaaGreatDoor
open Go.RowKit Go.Maps
set_option maxRecDepth 100000

theorem CutD.okay {L : List Ar} {f m : Int} {M : List Ar} (h : CutD L f m 0 M) : OkD M ∧ CovD L f m ∧ FitD f m ∧ ∀ p, atD M p = lessD f m (atD L) p := by
  obtain ⟨⟨h1, h2⟩, h3, h4⟩ := two_okD (by decide) (by decide) h
  obtain ⟨h5, h6⟩ := h4.ok
  exact ⟨h5, h3, h2, h6⟩
theorem CutD.pages {L : List Ar} {f m : Int} {M : List Ar} (h : CutD L f m 0 M) : pagesD L = pagesD M + m := by
  obtain ⟨-, h3, h2, h5⟩ := h.okay
  have hh := cntD_has (f, m, true) h2
  simp only at hh
  rw [← hh]
  refine cntD_or (fun p => ?_) (fun p hp => ?_) 0 1024
  · rw [h5]
    unfold lessD
    by_cases hp : f ≤ p ∧ p < f + m
    · rw [if_pos hp]
      have : HasD (f, m, true) p := hp
      cases ha : atD L p with
      | none => exact absurd ha (h3 p hp.1 hp.2)
      | some d => simp [this]
    · rw [if_neg hp]
      have : ¬ HasD (f, m, true) p := hp
      simp [this]
  · rw [h5] at hp
    unfold lessD at hp
    by_cases hh : f ≤ p ∧ p < f + m
    · rw [if_pos hh] at hp; simp at hp
    · have : ¬ HasD (f, m, true) p := hh
      simp [this]
theorem CutD.bad {L : List Ar} {f m : Int} {M : List Ar} {er : Int} (h : CutD L f m er M) (ok : OkD L ∧ FitD f m) (n : er ≠ 0) : (¬ CovD L f m ∧ er = 4 ∨ CovD L f m ∧ er = 3) := by
  rcases h with ⟨h, _⟩ | ⟨_, ⟨h1, h2, _⟩ | ⟨h1, h2⟩⟩
  · exact absurd ok h
  · exact Or.inl ⟨h1, h2⟩
  · rcases h2.er with e | ⟨e, _⟩
    · exact absurd e n
    · exact Or.inr ⟨h1, e⟩
end Go.Proofs.YtfpcoomkbmfchaaGreatDoor
