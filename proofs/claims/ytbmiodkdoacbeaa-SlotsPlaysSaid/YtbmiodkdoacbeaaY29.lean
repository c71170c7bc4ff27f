/- The contract of layer 13's play: a call on both. Condition: both say the same ahead. -/
import Derived.Test.YtbmiodkdoacbeaaY28
namespace Go.Proofs.Ytbmiodkdoacbeaa
open Go.RowKit Go.Maps
set_option maxRecDepth 100000

/-- The document's table says L, the table L'; they are apart. -/
structure MidY (W w : World) (b : Nat) (n : Int) (rb : Nat) (L L' : List Nd) : Prop where
  ex : ∃ v, RTab W.heap.size w rb n L v ∧ OT W w b n (fun k => k = rb ∨ v.ownBlock = some k) L'
  nrb : W.heap.size ≤ rb
theorem MidY.good {W w : World} {b : Nat} {n : Int} {rb : Nat} {L L' : List Nd} (h : MidY W w b n rb L L') : GoodY n L' := let ⟨_, _, o⟩ := h.ex; o.good
theorem MidY.ot {W w : World} {b : Nat} {n : Int} {rb : Nat} {L L' : List Nd} (h : MidY W w b n rb L L') : OT W w b n (fun _ => False) L' := let ⟨_, _, o⟩ := h.ex; o.less fun _ hk => hk.elim
theorem MidY.below {W w : World} {b : Nat} {n : Int} {rb : Nat} {L L' : List Nd} (h : MidY W w b n rb L L') : Below W.heap.size W w := h.ot.below
theorem MidY.step {W w w' : World} {b : Nat} {n : Int} {rb : Nat} {L L' : List Nd} (h : MidY W w b n rb L L') (hb : Below w.heap.size w w') : MidY W w' b n rb L L' := let ⟨v, t, o⟩ := h.ex; ⟨⟨v, t.below hb, o.step hb⟩, h.nrb⟩
theorem MidY.rlt {W w : World} {b : Nat} {n : Int} {rb : Nat} {L L' : List Nd} (h : MidY W w b n rb L L') : rb < w.heap.size := let ⟨_, t, _⟩ := h.ex; lt_of_block t.box
/-- Ahead of the table's call. -/
theorem MidY.turn {W w : World} {b : Nat} {n : Int} {rb : Nat} {L : List Nd} (h : MidY W w b n rb L L) {g : Nat} {cs : Array Value} {T : TypeId} (hg : w.heap[g]? = some (.cells cs T (0, 0))) (hT : T ≠ 42) :
    ∃ F, OT W w b n F L ∧ ∀ w' L', OT W w' b n F L' → KeptY F w w' → MidY W w' b n rb L L' ∧ w'.heap[g]? = some (.cells cs T (0, 0)) := by
  obtain ⟨v, t, o⟩ := h.ex
  refine ⟨_, o.apart hg hT, fun w' L' o' k => ⟨⟨⟨v, ⟨(k.block rb (Or.inl (Or.inl rfl))).trans t.box, k.own t.row (fun g hg => Or.inl (Or.inr hg)), Nat.le_trans t.low k.size⟩, o'.less fun _ hk => Or.inl hk⟩, h.nrb⟩, (k.block g (Or.inr rfl)).trans hg⟩⟩
/-- Behind the document's. -/
theorem MidY.ref {W w w' : World} {b : Nat} {n : Int} {rb : Nat} {L L' : List Nd} (h : MidY W w b n rb L L') (k : RTo W.heap.size w w' rb n L') : MidY W w' b n rb L' L' := by
  obtain ⟨v, t, o⟩ := h.ex
  obtain ⟨⟨v', t', hv⟩, on⟩ := k
  obtain ⟨m, P, h1, h2⟩ := o.ex
  have hb : ¬ b = rb := fun e => by
    have := h1.box
    rw [e, t.box] at this
    exact absurd (show (some 30 : Option Nat) = some 49 from congrArg kindOf (Option.some.inj this)) (by decide)
  refine ⟨⟨v', t', ⟨⟨m, P, h1.kept (on.block _ (lt_of_block h1.box) hb) (fun k hk => on.block k (h1.lt hk) (fun e => (h2 k hk).2 (Or.inl e))), fun k hk => ⟨(h2 k hk).1, ?_⟩⟩, Only.old o.below on o.below.size (fun k hk => by rw [hk]; exact h.nrb), o.nb, fun k hk => ?_⟩⟩, h.nrb⟩
  · rintro (e | e)
    · exact (h2 k hk).2 (Or.inl e)
    · rcases hv with e1 | e1
      · have := t.cells.2.1
        rw [e1] at this
        obtain rfl := Option.some.inj this
        exact (h2 k hk).2 (Or.inr e)
      · have := e1 k e
        have := h1.lt hk
        omega
  · rcases hk with rfl | e
    · exact lt_of_block t'.box
    · exact (t'.row.lt k e).2
def playYL (n : Int) (L : List Nd) (d pid c : Int) : List Nd := if d = 1 then addL n L pid else if d = 2 then exitL n L pid c else if d = 3 then waitL n L pid else L
theorem serveR_len (L : List Nd) {n : Int} (h : 1 ≤ n ∧ n ≤ 8) : (serveR n L).length ≤ 1000 := by have := srvR_length L n.toNat; unfold serveR; omega
theorem exitR_len (L : List Nd) (pid c : Int) {n : Int} (h : 1 ≤ n ∧ n ≤ 8) : (exitR n L pid c).length ≤ 1000 := by unfold exitR; split; { exact serveR_len _ h }; simp
theorem waitR_len (L : List Nd) (pid : Int) {n : Int} (h : 1 ≤ n ∧ n ≤ 8) : (waitR n L pid).length ≤ 1000 := by unfold waitR; split; { exact serveR_len _ h }; simp
/-- Both rows of ends, behind the document's call. -/
theorem reaps {w1 w2 w3 : World} {rb : Nat} {R : List Rp} {u v : Value} (hrb : rb < w1.heap.size) (h : ReapOut w1 R u w2) (on : Only w2 w3 (fun k => k = rb)) (h3 : w3.ownsRow w2.heap.size 58 3 v R.length (rpV R)) : RpsAt w3 u R ∧ RpsAt w3 v R :=
  ⟨RpsAt.of_row (ownsRow_only h on (fun g hg e => by have := (World.ownsRow.lt h g hg).1; omega)), RpsAt.of_row h3⟩
set_option maxHeartbeats 8000000 in
theorem playY13 {W w : World} {b : Nat} {n : Int} {rb : Nat} {L : List Nd} (h : MidY W w b n rb L L) (d pid c : Int) (hI : I64 pid) (hc : 0 ≤ c ∧ c ≤ 4294967295) :
    Calls Try.prog 12 #[.pointer (some ⟨b, 0, none⟩), .pointer (some ⟨rb, 0, none⟩), .agg #[.int .i64 d, .int .i64 pid, .int .u32 c]] w fun e w' => e = .returned (.bool true) ∧ MidY W w' b n rb (playYL n L d pid c) (playYL n L d pid c) := by
  obtain ⟨w1, hw1⟩ : ∃ w1, w1 = w.alloc (.cells #[.int .i64 d, .int .i64 pid, .int .u32 c] 38) := ⟨_, rfl⟩
  have B1 : Below w.heap.size w w1 := by rw [hw1]; exact (Below.refl _ _).alloc (Nat.le_refl _) _
  have X1 : w1.heap[w.heap.size]? = some (.cells #[.int .i64 d, .int .i64 pid, .int .u32 c] 38 (0, 0)) := by rw [hw1]; exact heap_alloc_new w _
  have H1 := h.step B1
  obtain ⟨F, hF, hT⟩ := H1.turn X1 (by decide)
  have OF := Lib.hid hF
  have TF := Lib.hid hT
  have GL := Lib.hid h.good
  have HRB := Lib.hid H1.rlt
  have H8 := Lib.hid h.good.most
  have HE := Lib.hid H1
  have z0 : w1.cell? ⟨w.heap.size, 0, none⟩ = some (.int .i64 d) := by rw [cell_of_row _ _ _ _ _ _ X1]; rfl
  have z1 : w1.cell? ⟨w.heap.size, 1, none⟩ = some (.int .i64 pid) := by rw [cell_of_row _ _ _ _ _ _ X1]; rfl
  have z2 : w1.cell? ⟨w.heap.size, 2, none⟩ = some (.int .u32 c) := by rw [cell_of_row _ _ _ _ _ _ X1]; rfl
  have hwe := Lib.hid hw1
  rw [hw1] at z0 z1 z2
  have hIH := Lib.hid hI
  have hCH := Lib.hid hc
  clear h B1 X1 H1 hF hT hw1 hI hc
  by_cases e1 : d = 1
  · subst e1
    unfold playYL
    rw [if_pos rfl]
    obtain ⟨pr, hpr⟩ : ∃ pr, pr = addP n L pid := ⟨_, rfl⟩
    obtain ⟨er, her⟩ : ∃ er, er = addE n L pid := ⟨_, rfl⟩
    obtain ⟨L2, hL2⟩ : ∃ L2, L2 = addL n L pid := ⟨_, rfl⟩
    have CA := Lib.hid (ot_add OF.out pid hIH.out hpr.symm her.symm hL2.symm)
    have CB : Hid (∀ V, MidY W V b n rb L L2 → Calls Try.prog 23 #[.pointer (some ⟨rb, 0, none⟩), .int .i64 pid] V fun e w' => e = .returned (.tuple #[.int .i64 pr, .int .i64 er]) ∧ MidY W w' b n rb L2 L2) := Lib.hid fun V hV => by
      obtain ⟨v, t, -⟩ := hV.ex
      refine (raddY t GL.out pid).mono ?_
      rintro e w3 ⟨he, hr⟩
      rw [← hL2] at hr
      exact ⟨by rw [he, hpr, her], hV.ref hr⟩
    rw [← hL2]
    clear hpr her hL2
    go_enter Try.func12, Try.ntmps12
    go_wp2_with fail
    rw [← hwe.out]
    clear hwe z0 z1 z2
    refine CA.out.mono ?_
    rintro e w2 ⟨rfl, h, hk⟩
    obtain ⟨hm, X2⟩ := TF.out _ _ h hk
    have M2 := Lib.hid hm
    have y1 : w2.cell? ⟨w.heap.size, 1, none⟩ = some (.int .i64 pid) := by rw [cell_of_row _ _ _ _ _ _ X2]; rfl
    clear h hk hm X2
    go_wp2_with fail
    refine (CB.out _ M2.out).mono ?_
    rintro e w3 ⟨rfl, hm⟩
    have M3 := Lib.hid hm
    clear hm y1
    go_wp2
    go_ret
    exact ⟨rfl, M3.out⟩
  by_cases e2 : d = 2
  · subst e2
    unfold playYL
    rw [if_neg (by decide), if_pos rfl]
    clear e1
    obtain ⟨er, her⟩ : ∃ er, er = exitE L pid := ⟨_, rfl⟩
    obtain ⟨R, hR⟩ : ∃ R, R = exitR n L pid c := ⟨_, rfl⟩
    obtain ⟨L2, hL2⟩ : ∃ L2, L2 = exitL n L pid c := ⟨_, rfl⟩
    have RL : Hid (R.length ≤ 1000) := Lib.hid (by rw [hR]; exact exitR_len _ _ _ H8.out)
    have CA := Lib.hid (ot_exit OF.out pid c hIH.out hCH.out her.symm hL2.symm hR.symm)
    have CB : Hid (∀ V, MidY W V b n rb L L2 → Calls Try.prog 24 #[.pointer (some ⟨rb, 0, none⟩), .int .i64 pid, .int .u32 c] V fun e w' => ∃ u, e = .returned (.tuple #[u, .int .i64 er]) ∧ w'.ownsRow V.heap.size 58 3 u R.length (rpV R) ∧ Only V w' (fun k => k = rb) ∧ MidY W w' b n rb L2 L2) := Lib.hid fun V hV => by
      obtain ⟨v, t, -⟩ := hV.ex
      refine (rexitY t GL.out pid c hCH.out).mono ?_
      rintro e w3 ⟨⟨u, he, ho⟩, hr⟩
      rw [← hL2] at hr
      rw [← hR] at ho
      exact ⟨u, by rw [he, her], ho, hr.only, hV.ref hr⟩
    rw [← hL2]
    clear her hL2 hR
    go_enter Try.func12, Try.ntmps12
    go_wp2_with fail
    rw [← hwe.out]
    clear hwe z0 z1 z2
    refine CA.out.mono ?_
    rintro e w2 ⟨v2, rfl, r2, h, hk⟩
    obtain ⟨hm, X2⟩ := TF.out _ _ h hk
    have M2 := Lib.hid hm
    have R2 := Lib.hid r2
    obtain ⟨a2, c2, rfl⟩ := owns_slice r2
    have y1 : w2.cell? ⟨w.heap.size, 1, none⟩ = some (.int .i64 pid) := by rw [cell_of_row _ _ _ _ _ _ X2]; rfl
    have y2 : w2.cell? ⟨w.heap.size, 2, none⟩ = some (.int .u32 c) := by rw [cell_of_row _ _ _ _ _ _ X2]; rfl
    clear h hk hm X2 r2
    go_wp2_with fail
    refine (CB.out _ M2.out).mono ?_
    rintro e w3 ⟨v3, rfl, ho, hon, hm⟩
    obtain ⟨p1, p2⟩ := reaps HRB.out R2.out hon ho
    have P1 := Lib.hid p1
    have P2 := Lib.hid p2
    have M3 := Lib.hid hm
    obtain ⟨a3, c3, rfl⟩ := owns_slice ho
    clear hm y1 y2 p1 p2 ho hon
    go_wp2_with fail
    refine (sameR R _ _ w3 RL.out P1.out P2.out).mono ?_
    rintro e w4 ⟨rfl, hb⟩
    have M4 := Lib.hid (M3.out.step hb)
    clear hb
    go_wp2
    go_ret
    exact ⟨rfl, M4.out⟩
  by_cases e3 : d = 3
  · subst e3
    unfold playYL
    rw [if_neg (by decide), if_neg (by decide), if_pos rfl]
    clear e1 e2
    obtain ⟨er, her⟩ : ∃ er, er = waitE L pid := ⟨_, rfl⟩
    obtain ⟨R, hR⟩ : ∃ R, R = waitR n L pid := ⟨_, rfl⟩
    obtain ⟨L2, hL2⟩ : ∃ L2, L2 = waitL n L pid := ⟨_, rfl⟩
    have RL : Hid (R.length ≤ 1000) := Lib.hid (by rw [hR]; exact waitR_len _ _ H8.out)
    have CA := Lib.hid (ot_wait OF.out pid hIH.out her.symm hL2.symm hR.symm)
    have CB : Hid (∀ V, MidY W V b n rb L L2 → Calls Try.prog 25 #[.pointer (some ⟨rb, 0, none⟩), .int .i64 pid] V fun e w' => ∃ u, e = .returned (.tuple #[u, .int .i64 er]) ∧ w'.ownsRow V.heap.size 58 3 u R.length (rpV R) ∧ Only V w' (fun k => k = rb) ∧ MidY W w' b n rb L2 L2) := Lib.hid fun V hV => by
      obtain ⟨v, t, -⟩ := hV.ex
      refine (rwaitY t GL.out pid).mono ?_
      rintro e w3 ⟨⟨u, he, ho⟩, hr⟩
      rw [← hL2] at hr
      rw [← hR] at ho
      exact ⟨u, by rw [he, her], ho, hr.only, hV.ref hr⟩
    rw [← hL2]
    clear her hL2 hR
    go_enter Try.func12, Try.ntmps12
    go_wp2_with fail
    rw [← hwe.out]
    clear hwe z0 z1 z2
    refine CA.out.mono ?_
    rintro e w2 ⟨v2, rfl, r2, h, hk⟩
    obtain ⟨hm, X2⟩ := TF.out _ _ h hk
    have M2 := Lib.hid hm
    have R2 := Lib.hid r2
    obtain ⟨a2, c2, rfl⟩ := owns_slice r2
    have y1 : w2.cell? ⟨w.heap.size, 1, none⟩ = some (.int .i64 pid) := by rw [cell_of_row _ _ _ _ _ _ X2]; rfl
    clear h hk hm X2 r2
    go_wp2_with fail
    refine (CB.out _ M2.out).mono ?_
    rintro e w3 ⟨v3, rfl, ho, hon, hm⟩
    obtain ⟨p1, p2⟩ := reaps HRB.out R2.out hon ho
    have P1 := Lib.hid p1
    have P2 := Lib.hid p2
    have M3 := Lib.hid hm
    obtain ⟨a3, c3, rfl⟩ := owns_slice ho
    clear hm y1 p1 p2 ho hon
    go_wp2_with fail
    refine (sameR R _ _ w3 RL.out P1.out P2.out).mono ?_
    rintro e w4 ⟨rfl, hb⟩
    have M4 := Lib.hid (M3.out.step hb)
    clear hb
    go_wp2
    go_ret
    exact ⟨rfl, M4.out⟩
  · have d1 : (d == 1) = false := by simpa using e1
    have d2 : (d == 2) = false := by simpa using e2
    have d3 : (d == 3) = false := by simpa using e3
    unfold playYL
    rw [if_neg e1, if_neg e2, if_neg e3]
    go_enter Try.func12, Try.ntmps12
    go_wp2
    go_ret
    rw [← hwe.out]
    exact ⟨rfl, HE.out⟩
end Go.Proofs.Ytbmiodkdoacbeaa
