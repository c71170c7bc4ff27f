/- The contract of the document's serve of layer 13. Condition: the table is a law's own, its row the call's. -/
import Derived.Test.YtbmiodkdoacbeaaY24
import Derived.Deep.RegionHeld3
import Derived.Deep.AppendLies
import Derived.Great.BuildSlice
namespace Go.Proofs.Ytbmiodkdoacbeaa
open Go.RowKit Go.Maps
set_option maxRecDepth 100000

theorem prsV_set2 (L : List Nd) (i : Nat) (n : Nd) (s : Int) (hi : i < L.length) (hn : L.getD i default = n) : prsV (L.set i (n.1, n.2.1, s, n.2.2.2)) = (prsV L).set (i * 4 + 2) (.int .i64 s) := by
  induction L generalizing i with
  | nil => simp at hi
  | cons y l ih =>
    have e : ∀ (z : Nd) (r : List Nd), prsV (z :: r) = [.int .i64 z.1, .int .i64 z.2.1, .int .i64 z.2.2.1, .int .u32 z.2.2.2] ++ prsV r := fun z r => by simp [prsV]
    cases i with
    | zero =>
      simp only [List.getD_cons_zero] at hn
      subst hn
      simp [prsV]
    | succ i =>
      have := ih i (by simpa using hi) (by simpa using hn)
      rw [List.set_cons_succ, e, this, e, List.set_append_right _ _ (by simp; omega)]
      congr 2
      simp; omega
theorem map_setSt (id s : Int) : ∀ {L : List Nd}, L.Pairwise (fun a b => a.1 < b.1) → ∀ {n : Nd}, atN id L = some n → L.map (setSt id s) = L.set (posN id L) (n.1, n.2.1, s, n.2.2.2)
  | y :: r, hp, n, h => by
    obtain ⟨h1, h2⟩ := List.pairwise_cons.1 hp
    unfold atN at h
    unfold posN
    split at h
    · rename_i e
      cases h
      rw [if_pos e, List.set_cons_zero, List.map_cons]
      have : r.map (setSt id s) = r := by
        conv => rhs; rw [← List.map_id r]
        apply List.map_congr_left
        intro x hx
        have := h1 x hx
        unfold setSt
        rw [if_neg (by omega)]; rfl
      rw [this]
      unfold setSt
      rw [if_pos e]
    · rename_i e
      rw [if_neg e, List.set_cons_succ, List.map_cons, map_setSt id s h2 h]
      unfold setSt
      rw [if_neg e]
theorem rise_posY {L : List Nd} (h : L.Pairwise (fun a b => a.1 < b.1)) {i j : Nat} (hi : i < L.length) (hj : j < L.length) (e : (L.getD i default).1 = (L.getD j default).1) : i = j := by
  have g : ∀ (a b : Nat) (ha : a < L.length) (hb : b < L.length), a < b → (L.getD a default).1 < (L.getD b default).1 := fun a b ha hb hab => by
    have := List.pairwise_iff_getElem.1 h a b ha hb hab
    rw [List.getD_eq_getElem?_getD, List.getElem?_eq_getElem ha, List.getD_eq_getElem?_getD, List.getElem?_eq_getElem hb]
    exact this
  rcases Nat.lt_trichotomy i j with c | c | c
  · have := g i j hi hj c; omega
  · exact c
  · have := g j i hj hi c; omega
/-- One is served: which row is left. -/
theorem stepL_cut {j : Int} {L : List Nd} (hp : L.Pairwise (fun a b => a.1 < b.1)) {c : Nd} (h : isSrv j L = some c) : stepL j L = (L.map (setSt j 1)).take (posZ j L) ++ (L.map (setSt j 1)).drop (posZ j L + 1) ∧ stepR j L = [(j, c.1, c.2.2.2)] := by
  have hz : zomb j L = some c := by
    unfold isSrv at h
    split at h
    · cases h
    · split at h
      · exact h
      · cases h
  have hc := (zomb_some hz).1
  obtain ⟨p1, p2⟩ := posZ_at hz
  have ha := atN_mem hp hc
  obtain ⟨q1, q2⟩ := pos_at ha
  have e : posZ j L = posN c.1 L := rise_posY hp p1 q1 (by rw [p2, q2])
  refine ⟨?_, by unfold stepR; rw [h]⟩
  have ha2 : atN c.1 (L.map (setSt j 1)) = some (setSt j 1 c) := by rw [atN_map (setSt_id j 1), ha]; rfl
  have := delN_cut (map_rise (setSt_id j 1) hp) ha2
  rw [posN_map (setSt_id j 1), ← e] at this
  unfold stepL
  rw [h]
  exact this
theorem new_reapY (w : World) (a b c : Int) (t : TypeId) : ∀ j u, [Value.int .i64 a, .int .i64 b, .int .u32 c][j]? = some u → (w.alloc (.cells #[.int .i64 a, .int .i64 b, .int .u32 c] t)).cell? ((⟨w.heap.size, 0, none⟩ : Addr).add j) = some u := fun j u hu => by
  rw [Addr.add_mid, Nat.zero_add, cell_of_row _ _ _ _ _ _ (heap_alloc_new w _)]
  simpa using hu
theorem only_grown {w w' : World} {r : Option Nat} (h : w.grownBy w' r) : Only w w' (fun k => r = some k) := ⟨h.os, h.tape, h.output, h.size, fun k hk hB => h.block k hk (fun e => hB e.symm)⟩
/-- Another's row grows. -/
theorem RTab.grown {base : Nat} {w w' : World} {rb : Nat} {n : Int} {L : List Nd} {v : Value} (h : RTab base w rb n L v) {r : Option Nat} (hg : w.grownBy w' r) (hr : ∀ k, r = some k → ∃ cs, w.heap[k]? = some (.cells cs 58 (0, 0))) : RTab base w' rb n L v := by
  refine ⟨(hg.block rb (lt_of_block h.box) (fun e => ?_)).trans h.box, ownsRow_only h.row (only_grown hg) (fun g hg' e => ?_), Nat.le_trans h.low hg.size⟩
  · obtain ⟨cs, hcs⟩ := hr rb e.symm
    rw [h.box] at hcs
    exact absurd (show (some 30 : Option Nat) = some 58 from congrArg kindOf (Option.some.inj hcs)) (by decide)
  · obtain ⟨cs, hcs⟩ := hr g e
    obtain ⟨cs', hcs'⟩ := own_block h.row hg'
    rw [hcs'] at hcs
    exact absurd (show (some 42 : Option Nat) = some 58 from congrArg kindOf (Option.some.inj hcs)) (by decide)
/-- A cell of the row is set. -/
theorem RTab.setRow {base : Nat} {w : World} {rb : Nat} {n : Int} {L L' : List Nd} {g m cp q : Nat} {u : Value} (h : RTab base w rb n L (.slice (some ⟨g, 0, none⟩) m cp)) (hm : m = L.length) (hl : L'.length = L.length) (he : prsV L' = (prsV L).set q u) : RTab base (w.setCell ⟨g, q, none⟩ u) rb n L' (.slice (some ⟨g, 0, none⟩) m cp) := by
  have hne : rb ≠ g := fun e => h.ne (by rw [e]; rfl)
  refine ⟨((grownBy_setCell w g q u).block rb (lt_of_block h.box) (fun e => hne (by simpa using e))).trans h.box, ?_, by simpa using h.low⟩
  have hr := h.row
  rw [← hm] at hr
  rw [he, hl, ← hm]
  exact own_set hr u
theorem rp_set {w : World} {base k : Nat} {u : Value} {xs : List Value} (h : w.ownsRow base 58 3 u k xs) {g q : Nat} {x : Value} {t : TypeId} {cs : Array Value} (hg : w.heap[g]? = some (.cells cs t (0, 0))) (ht : t ≠ 58) : (w.setCell ⟨g, q, none⟩ x).ownsRow base 58 3 u k xs :=
  ownsRow_only h (only_grown (grownBy_setCell w g q x)) (fun g' h1 e => by
    obtain ⟨cs', hcs'⟩ := own_block h h1
    obtain rfl : g = g' := by simpa using e
    rw [hcs'] at hg
    exact ht (show t = _ from (Option.some.inj (congrArg kindOf (Option.some.inj hg))).symm))
/-- What serve has done, ahead of process j + 1. -/
structure SrvAt (base : Nat) (w0 w : World) (rb : Nat) (n : Int) (L : List Nd) (u : Value) (j : Nat) : Prop where
  tab : ∃ v, RTab base w rb n (srvL j L) v
  out : w.ownsRow w0.heap.size 58 3 u (srvR j L).length (rpV (srvR j L))
  only : Only w0 w (fun k => k = rb ∨ base ≤ k)
theorem SrvAt.skip {base : Nat} {w0 w w' : World} {rb : Nat} {n : Int} {L : List Nd} {u : Value} {j : Nat} (h : SrvAt base w0 w rb n L u j) (hs : isSrv ((j : Int) + 1) (srvL j L) = none) (hb : Below w.heap.size w w') : SrvAt base w0 w' rb n L u (j + 1) := by
  obtain ⟨v, hv⟩ := h.tab
  have e1 : srvL (j + 1) L = srvL j L := by show stepL _ _ = _; unfold stepL; rw [hs]
  have e2 : srvR (j + 1) L = srvR j L := by show _ ++ stepR _ _ = _; unfold stepR; rw [hs]; simp
  refine ⟨⟨v, ?_⟩, ?_, h.only.trans (Only.below hb)⟩
  · rw [e1]; exact hv.below hb
  · rw [e2]; exact own_step h.out hb
/-- One has been served. -/
theorem SrvAt.served {base : Nat} {w0 wr wx w4 w6 : World} {rb : Nat} {n : Int} {L M R' L6 : List Nd} {R : List Rp} {u u4 v6 y : Value} {j g0 m cp q : Nat} {a b c : Int} (h : SrvAt base w0 wr rb n L u j) (hlow : base ≤ w0.heap.size) (hM : M = srvL j L) (hR : R = srvR j L)
    (hout : wx.ownsRow w0.heap.size 58 3 u R.length (rpV R)) (hx : Below wr.heap.size wr wx) (hg : wx.grownBy w4 u.ownBlock)
    (ho : w4.ownsRow w0.heap.size 58 3 u4 (R.length + 1) (rpV R ++ [.int .i64 a, .int .i64 b, .int .u32 c]))
    (t4 : RTab base w4 rb n M (.slice (some ⟨g0, 0, none⟩) m cp)) (t5 : RTab base (w4.setCell ⟨g0, q, none⟩ y) rb n R' (.slice (some ⟨g0, 0, none⟩) m cp))
    (hb : Below (w4.setCell ⟨g0, q, none⟩ y).heap.size (w4.setCell ⟨g0, q, none⟩ y) w6) (h6 : w6.ownsRow (w4.setCell ⟨g0, q, none⟩ y).heap.size 42 4 v6 L6.length (prsV L6))
    (hcut : stepL ((j : Int) + 1) M = L6 ∧ stepR ((j : Int) + 1) M = [(a, b, c)]) : SrvAt base w0 (w6.setCell ⟨rb, 1, none⟩ v6) rb n L u4 (j + 1) := by
  subst hM hR
  obtain ⟨s1, s2⟩ := t5.store hb h6
  have o5 := rp_set (q := q) (x := y) ho (own_block t4.row rfl).choose_spec (by decide)
  have o6 := own_step o5 hb
  have o7 := rp_set (q := 1) (x := v6) o6 (t5.below hb).box (by decide)
  refine ⟨⟨v6, ?_⟩, ?_, ?_⟩
  · show RTab _ _ _ _ (stepL _ _) _
    rw [hcut.1]; exact s1
  · have e : srvR (j + 1) L = srvR j L ++ [(a, b, c)] := by show _ ++ stepR _ _ = _; rw [hcut.2]
    rw [e, List.length_append, rpV_snoc]; exact o7
  · exact h.only.trans ((Only.below hx).trans (((only_grown hg).mono (fun k hk => Or.inr (Nat.le_trans hlow (hout.lt k hk).1))).trans ((Only.grown (grownBy_setCell _ _ _ _) (Or.inr (t4.row.lt g0 rfl).1)).trans (s2.mono (fun k hk => Or.inl hk)))))
/-- What serve answers, and leaves. -/
def SrvPost (base : Nat) (w : World) (rb : Nat) (n : Int) (L : List Nd) (e : Ending) (w' : World) : Prop := ∃ u, e = .returned u ∧ (∃ v, RTab base w' rb n (serveL n L) v) ∧ w'.ownsRow w.heap.size 58 3 u (serveR n L).length (rpV (serveR n L)) ∧ Only w w' (fun k => k = rb ∨ base ≤ k)
end Go.Proofs.Ytbmiodkdoacbeaa
