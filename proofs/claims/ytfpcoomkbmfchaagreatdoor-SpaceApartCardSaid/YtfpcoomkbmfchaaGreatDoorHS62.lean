/- Texts of mine, joined: S58 S62. What each says and under which conditions stands at its head, below. -/
import Derived.Test.YtfpcoomkbmfchaaGreatDoorHX
import Derived.Test.YtfpcoomkbmfchaaGreatDoorS42
import Derived.Test.YtfpcoomkbmfchaaGreatDoorHY
/- What SpaceApart's calls answer, by the words that are seen alone. Condition: the listed tables read as laid. -/
namespace Go.Proofs.YtfpcoomkbmfchaaGreatDoor
open Go.RowKit Go.Maps
set_option maxRecDepth 100000

theorem cntR_low {b : Nat → Bool} {m : Nat} (h : ∀ y, m ≤ y → b y = false) : ∀ k, cntR b k ≤ m ∧ cntR b k ≤ k
  | 0 => by simp [cntR]
  | k + 1 => by
    have ih := cntR_low h k
    rw [cntR_succ]
    by_cases hk : m ≤ k
    · rw [h k hk]; simp; omega
    · split <;> omega
theorem costP_low {b : Nat → Bool} (h : ∀ p, 24 ≤ p → b p = false) : costP b ≤ 26 := by
  have h1 := (cntR_low h 1024).1
  have h2 : ∀ y, 1 ≤ y → hasP b y = false := fun y hy => by
    cases hx : hasP b y with
    | false => rfl
    | true =>
      obtain ⟨j, hj, hb⟩ := (hasP_iff _ _).1 hx
      rw [h _ (by omega)] at hb; cases hb
  have h3 := (cntR_low h2 32).1
  unfold costP
  omega
/-- Spaces by their words alone. -/
def HvR (W0 w : World) (I : SIx) (q : Nat) (G : Int → Option Pc) (rd : Int → Nat → Nat → Int) : Prop := ∃ Lb pr, Hv W0 w I q Lb G pr rd
theorem see_nil (ss : Nat) (pid : Int) (a : Option Addr) (c : Nat) (w : World) :
    Calls Tryz.prog 30 #[.pointer (some ⟨ss, 0, none⟩), .int .i64 pid, .slice a 0 c] w fun e w' => e = .returned (.slice none 0 0) ∧ w' = w := by
  go_enter Tryz.func30, Tryz.ntmps30
  go_wp2_with fail
  go_loopw [7, 8] (fun l i wr => i = .int .i64 ((0 : Nat) : Int) ∧ l = .slice none 0 0 ∧ wr = w) (fun _ _ _ => 0)
  case atStart => exact ⟨rfl, rfl, rfl⟩
  case round =>
    obtain ⟨rfl, rfl, rfl⟩ := hrel
    go_wp2_with fail
    go_ret
    exact ⟨rfl, rfl⟩
section
variable {W0 w : World} {I : SIx} {q : Nat} {Lb : List Nd} {G : Int → Option Pc} {pr : Int → Nat → Bool} {rd : Int → Nat → Nat → Int}
theorem Hv.words (h : Hv W0 w I q Lb G pr rd) : HvR W0 w I q G rd := ⟨_, _, h⟩
theorem HvR.step {w' : World} (h : HvR W0 w I q G rd) (hb : Below w.heap.size w w') : HvR W0 w' I q G rd := by
  obtain ⟨Lb, pr, h⟩ := h
  exact (h.step hb).words
theorem HvR.below (h : HvR W0 w I q G rd) : Below W0.heap.size W0 w := by
  obtain ⟨Lb, pr, h⟩ := h
  exact h.below
theorem HvR.arN (h : HvR W0 w I q G rd) : ArN G w.heap.size := by
  obtain ⟨Lb, pr, h⟩ := h
  exact h.arN
theorem HvR.own (h : HvR W0 w I q G rd) {w' : World} {g : Nat} {cs : Array Value} (hb : w.heap[g]? = some (.cells cs 25 (0, 0))) (hn : W0.heap.size ≤ g) (hA : ArN G g) (hg : w.grownBy w' (some g)) : HvR W0 w' I q G rd := by
  obtain ⟨Lb, pr, h⟩ := h
  exact (h.own hb hn hA hg).words
theorem HvR.load (h : HvR W0 w I q G rd) {i : Int} {s : Pc} (hG : G i = some s) (va : Int) (hva : 0 ≤ va ∧ va ≤ 4294967295) :
    Calls Tryz.prog 12 #[.pointer (some ⟨I.ss, 0, none⟩), .int .i64 i, .int .u32 va] w fun e w' => ∃ er, e = .returned (.tuple #[.int .u32 (ldR rd i va), .int .i64 er]) ∧ KeepB w w' ∧ HvR W0 w' I q G rd := by
  obtain ⟨Lb, pr, h⟩ := h
  refine (h.load hG va (by omega) rfl).mono ?_
  rintro e w' ⟨rfl, hk, hn, hz⟩
  refine ⟨_, rfl, hk, ?_⟩
  by_cases h0 : reachP s.ar Lb (pr i) i va 1 false = 0
  · exact (hz h0).words
  · exact (hn h0).words
/-- See, of addresses that came in. -/
theorem HvR.see (h : HvR W0 w I q G rd) {i : Int} {s : Pc} (hG : G i = some s) {L : List Int} {a : Option Addr} (cp : Nat) (hl : L.length ≤ 1000) (hw : ∀ x ∈ L, 0 ≤ x ∧ x ≤ 4294967295) (hc : L = [] ∨ ∃ b o, a = some ⟨b, o, none⟩ ∧ b < W0.heap.size ∧ ∀ k, k < L.length → W0.cell? ⟨b, o + k, none⟩ = some (.int .u32 (L.getD k 0))) :
    Calls Tryz.prog 30 #[.pointer (some ⟨I.ss, 0, none⟩), .int .i64 i, .slice a L.length cp] w fun e w' => ∃ v, e = .returned v ∧ w'.ownsRow w.heap.size 25 1 v L.length (seeV (fun k => ldR rd i (L.getD k 0)) L.length) ∧ HvR W0 w' I q G rd ∧ KeepB w w' := by
  rcases hc with rfl | ⟨b, o, rfl, hb, hcs⟩
  · refine (see_nil I.ss i a cp w).mono ?_
    rintro e w' ⟨rfl, rfl⟩
    exact ⟨_, rfl, World.ownsRow_nil _ _ _ _, h, KeepB.refl _⟩
  · have hA := h.arN
    refine (see_ok I.ss i b o cp L.length hl (fun k => L.getD k 0) (fun k => ldR rd i (L.getD k 0)) (fun V => HvR W0 V I q G rd ∧ KeepB w V) w
      (fun V hV k hk => (hV.1.below.cell (p := ⟨b, o + k, none⟩) hb).trans (hcs k hk)) (fun V V' hV hb => ⟨hV.1.step hb, hV.2.trans (KeepB.below hb)⟩)
      (fun V V' g cs hV hcs hge hg => ⟨hV.1.own hcs (Nat.le_trans h.below.size hge) (hA.mono hge) hg, hV.2.ownNew hge hg⟩)
      (fun V k hk hV => ((hV.1.load hG (L.getD k 0) (hw _ (by rw [List.getD_eq_getElem?_getD, List.getElem?_eq_getElem hk]; exact List.getElem_mem _))).mono fun e w' ⟨er, he, hk, h'⟩ => ⟨er, he, hk, h', hV.2.trans hk⟩)) ⟨h, KeepB.refl _⟩).mono ?_
    rintro e w' ⟨v, rfl, ho, ⟨h', hk⟩, _⟩
    exact ⟨v, rfl, ho, h', hk⟩
/-- A store, and a load of it. -/
theorem HvR.store (h : HvR W0 w I q G rd) {i : Int} {s : Pc} (hG : G i = some s) {x y : Int} (hs : s.ar = [(x, y, true)]) (va u : Int) (hva : 0 ≤ va ∧ va ≤ 4294967295) (hu : 0 ≤ u ∧ u ≤ 4294967295) :
    Calls Tryz.prog 19 #[.pointer (some ⟨I.ss, 0, none⟩), .int .i64 i, .int .u32 va, .int .u32 u] w fun e w' => ∃ er rd', e = .returned (.int .i64 er) ∧ KeepB w w' ∧ (∀ j, j ≠ i → rd' j = rd j) ∧ HvR W0 w' I q G rd' ∧
      Calls Tryz.prog 12 #[.pointer (some ⟨I.ss, 0, none⟩), .int .i64 i, .int .u32 va] w' fun e w'' => ∃ v er, e = .returned (.tuple #[.int .u32 v, .int .i64 er]) ∧ (er = 0 → v = u) ∧ KeepB w' w'' ∧ HvR W0 w'' I q G rd' := by
  obtain ⟨Lb, pr, h⟩ := h
  refine (h.store hG va u (by omega) (by omega) rfl).mono ?_
  rintro e w' ⟨rfl, hk, hn, hz⟩
  by_cases h0 : reachP s.ar Lb (pr i) i va 1 true = 0
  · obtain ⟨hlt, h'⟩ := hz h0
    refine ⟨_, stR rd i va u, rfl, hk, fun j hj => by funext r z; exact stR_far rd va u hj r z, h'.words, ?_⟩
    have hm : mayL s.ar true (pgs va 1) = 0 := by
      unfold reachP at h0
      rw [if_neg (by omega)] at h0
      by_cases hm : mayL s.ar true (pgs va 1) = 0
      · exact hm
      · rw [if_pos hm] at h0; exact absurd h0 hm
    rw [pgs_one] at h' hm
    obtain ⟨d, hd, _⟩ := mayE_zero (mayL_at.1 hm (va / 32).toNat (by simp))
    refine (h'.load0 hG ⟨hva.1, hlt⟩ hd (orP_in (by simp)) (stR_at rd i va u)).mono ?_
    rintro e w'' ⟨rfl, hk, h''⟩
    exact ⟨u, 0, rfl, fun _ => rfl, hk, h''.words⟩
  · have h' := hn h0
    refine ⟨_, rd, rfl, hk, fun j _ => rfl, h'.words, ?_⟩
    have e1 : reachP s.ar Lb (pr i) i va 1 false = reachP s.ar Lb (pr i) i va 1 true := by
      unfold reachP
      have : mayL s.ar false (pgs va 1) = mayL s.ar true (pgs va 1) := by
        have key : mayE (atD [(x, y, true)] ((va / 32).toNat : Int)) false = mayE (atD [(x, y, true)] ((va / 32).toNat : Int)) true := by
          have hat : atD [(x, y, true)] ((va / 32).toNat : Int) = if x ≤ ((va / 32).toNat : Int) ∧ ((va / 32).toNat : Int) < x + y then some true else none := rfl
          rw [hat]
          split <;> rfl
        rw [pgs_one, hs]
        unfold mayL
        rw [key]; rfl
      rw [this]
    refine (h'.load hG va (by omega) e1).mono ?_
    rintro e w'' ⟨rfl, hk, hn2, _⟩
    exact ⟨_, _, rfl, fun h => absurd h h0, hk, (hn2 h0).words⟩
end
/-- What is charged behind stores to the law's area. -/
theorem Hv.low {W0 w : World} {I : SIx} {u : Int} {s : Pc} {pr : Int → Nat → Bool} {rd : Int → Nat → Nat → Int} (h : Hv W0 w I 140 (oneL 140 u) (putG G0 1 s) pr rd) (hs : s.ar = [(0, 24, true)]) : 1 ≤ u ∧ u ≤ 26 := by
  have h1 := h.useOne (putG_same _ _ _)
  have h2 : costP (pr 1) = costP fun p => pr 1 p && decide (p < 24) := costP_congr fun p hp => by
    by_cases h24 : p < 24
    · simp [h24]
    · simp only [h24, decide_false, Bool.and_false]
      cases hx : pr 1 p with
      | false => rfl
      | true =>
        obtain ⟨t, x, hG, ha⟩ := h.mapd hp hx
        rw [putG_same] at hG
        obtain rfl := Option.some.inj hG
        rw [hs] at ha
        have hat : atD [((0 : Int), (24 : Int), true)] (p : Int) = if (0 : Int) ≤ (p : Int) ∧ (p : Int) < 0 + 24 then some true else none := rfl
        rw [hat, if_neg (by omega)] at ha
        cases ha
  have h3 := costP_low (b := fun p => pr 1 p && decide (p < 24)) (fun p hp => by simp; omega)
  have h4 := costP_pos (pr 1)
  omega
end Go.Proofs.YtfpcoomkbmfchaaGreatDoor

/- The walk of the law SpaceApart. Condition: the listed tables lie as laid. -/
namespace Go.Proofs.YtfpcoomkbmfchaaGreatDoor
open Go.RowKit Go.Maps
set_option maxRecDepth 100000

theorem apart_far (m1 m2 c1 c2 : Nat) (p1 p2 : Option Addr) (b : Bool) (W : World) (h : 30 < m1 ∨ 30 < m2) (hL : LaidN W) : Calls Tryz.prog 4 #[.slice p1 m1 c1, .slice p2 m2 c2, .bool b] W fun e w' => e = .returned (.bool true) ∧ Below W.heap.size W w' := by
  have AW := Lib.hid (hL.awake W (Below.refl _ _))
  clear hL
  have h3 : decide (30 < (m1 : Int)) = true ∨ (decide (30 < (m1 : Int)) = false ∧ decide (30 < (m2 : Int)) = true) := by
    by_cases h1 : 30 < m1
    · exact Or.inl (decide_eq_true (by omega))
    · exact Or.inr ⟨decide_eq_false (by omega), decide_eq_true (by omega)⟩
  clear h
  rcases h3 with d0 | ⟨d0, d1⟩
  all_goals
    go_enter Tryz.func4, Tryz.ntmps4
    go_wp2_with fail
    refine AW.out.mono ?_
    rintro e w1 ⟨rfl, hb⟩
    have B := Lib.hid hb
    clear hb
    go_wp2_with fail
    go_ret
    exact ⟨rfl, B.out⟩
/-- A row of words that see told. -/
def SeeAt (w : World) (a : Option Addr) (f : Nat → Int) (n : Nat) : Prop := ∀ k, k < n → ∃ g, a = some ⟨g, 0, none⟩ ∧ g < w.heap.size ∧ w.cell? ⟨g, k, none⟩ = some (.int .u32 (f k))
theorem SeeAt.of_row {w : World} {base : Nat} {a : Option Addr} {c : Nat} {f : Nat → Int} {n : Nat} (h : w.ownsRow base 25 1 (.slice a n c) n (seeV f n)) : SeeAt w a f n := fun k hk => by
  rcases h.2 with ⟨_, h0⟩ | ⟨g, cap, cur, e, _, _, _⟩
  · omega
  · injection e with e1 _ _
    subst e1
    refine ⟨g, rfl, (h.lt g rfl).2, ?_⟩
    have := h.cells (g := g) rfl k (.int .u32 (f k)) (seeV_get _ _ k hk)
    rwa [Addr.add_mid, Nat.zero_add] at this
theorem SeeAt.below {w w' : World} {a : Option Addr} {f : Nat → Int} {n : Nat} (h : SeeAt w a f n) (hb : Below w.heap.size w w') : SeeAt w' a f n := fun k hk => by
  obtain ⟨g, rfl, hg, hc⟩ := h k hk
  exact ⟨g, rfl, Nat.lt_of_lt_of_le hg hb.size, (hb.cell (p := ⟨g, k, none⟩) hg).trans hc⟩
set_option maxHeartbeats 16000000 in
theorem apart_in (L : List Int) (S : List Op16) (v1 v2 : Value) (bk : Bool) (W : World) (hl1 : L.length ≤ 30) (hl2 : S.length ≤ 30) (hv1 : ArgWs W v1 L) (hv2 : ArgOps16 W v2 S) (hL : LaidN W) : Calls Tryz.prog 4 #[v1, v2, .bool bk] W fun e w' => e = .returned (.bool true) ∧ Below W.heap.size W w' := by
  have MD := Lib.hid (madeS_ok 140 W (by decide) (by decide) hL.lq hL.lw)
  have AW := Lib.hid hL.awake
  obtain ⟨a1, c1, rfl, hw1, hc1⟩ := hv1
  obtain ⟨a2, c2, rfl, hw2, hc2⟩ := hv2
  obtain ⟨n, hn⟩ : ∃ n, n = L.length := ⟨_, rfl⟩
  obtain ⟨m, hm⟩ : ∃ m, m = S.length := ⟨_, rfl⟩
  have HN := Lib.hid hn
  have HM := Lib.hid hm
  have HC1 := Lib.hid hc1
  have HW1 := Lib.hid hw1
  have HC2 := Lib.hid hc2
  have HW2 := Lib.hid hw2
  rw [← hn] at hl1 ⊢
  rw [← hm] at hl2 ⊢
  have d0 : decide (30 < (n : Int)) = false := decide_eq_false (by omega)
  have d1 : decide (30 < (m : Int)) = false := decide_eq_false (by omega)
  clear hL hn hm hc1 hw1 hc2 hw2
  go_enter Tryz.func4, Tryz.ntmps4
  go_wp2_with fail
  refine (show Calls Tryz.prog 28 #[.int .i64 140] W _ from MD.out).mono ?_
  rintro e w1 ⟨I, rfl, hf⟩
  have H1 := Lib.hid hf.hv
  clear hf d0 d1
  go_wp2_with fail
  refine (H1.out.open_ (i := 1) (by decide)).mono ?_
  rintro e w2 ⟨rfl, hk, s, hs, h⟩
  have H2 : Hid (Hv W w2 I 140 (oneL 140 1) (putG G0 1 s) (fun _ _ => false) (fun _ _ _ => 0)) := Lib.hid h
  have S2 := Lib.hid hs
  clear hk hs h
  go_wp2_with fail
  refine (H2.out.grow1 (putG_same _ _ _) S2.out (x := 0) (y := 24) (by unfold FitD; omega) true).mono ?_
  rintro e w3 ⟨rfl, hk, s3, hs, h⟩
  rw [putG_putG] at h
  have H3 := Lib.hid h
  have S3 := Lib.hid hs
  clear hk hs h
  go_wp2_with fail
  go_loopw [11] (fun i wr => ∃ k : Nat, i = .int .i64 (k : Int) ∧ k ≤ n ∧ ∃ u pr rd, Hv W wr I 140 (oneL 140 u) (putG G0 1 s3) pr rd) (fun i _ => (n - (intOf i).toNat))
  case atStart => exact ⟨0, rfl, Nat.zero_le _, _, _, _, H3.out⟩
  case round =>
    obtain ⟨k, rfl, hk, u, pr, rd, h⟩ := hrel
    have H4 := Lib.hid h
    clear h
    by_cases hlt : k < n
    · obtain ⟨b, o, rfl, hb, hcs⟩ := HC1.out.resolve_left (by intro e; have := HN.out; rw [e] at this; simp at this; omega)
      have ck : wr.cell? ⟨b, o + k, none⟩ = some (.int .u32 (L.getD k 0)) := (H4.out.below.cell (p := ⟨b, o + k, none⟩) hb).trans (hcs k (by have := HN.out; omega))
      have hx : 0 ≤ L.getD k 0 ∧ L.getD k 0 ≤ 4294967295 := HW1.out _ (by
        rw [List.getD_eq_getElem?_getD, List.getElem?_eq_getElem (by have := HN.out; omega)]; exact List.getElem_mem _)
      generalize L.getD k 0 = x at ck hx
      clear hb hcs
      go_wp2_with fail
      refine (H4.out.store (putG_same _ _ _) x ((k : Int) + 1) (by omega) (by omega) rfl).mono ?_
      rintro e w5 ⟨rfl, hk5, hn5, hz5⟩
      have H5 : Hid (∃ u pr rd, Hv W w5 I 140 (oneL 140 u) (putG G0 1 s3) pr rd) := Lib.hid (by
        by_cases e0 : reachP s3.ar (oneL 140 u) (pr 1) 1 x 1 true = 0
        · have := (hz5 e0).2
          obtain ⟨u', hu⟩ := charge_one 140 u (needP (pr 1) (pgs x 1) : Int)
          rw [hu] at this
          exact ⟨u', _, _, this⟩
        · exact ⟨u, pr, rd, hn5 e0⟩)
      generalize reachP s3.ar (oneL 140 u) (pr 1) 1 x 1 true = er
      clear hk5 hn5 hz5
      go_wp2_with fail
      go_roundw
      case rel => exact ⟨k + 1, by go_num, by omega, H5.out⟩
      case measure => simp [intOf]; omega
    · obtain rfl : n = k := by omega
      have LO := Lib.hid (H4.out.low S3.out)
      have OP : Hid (openEU (oneL 140 u) 2 1 60 = 0 ∧ openL (oneL 140 u) 2 1 60 = [(1, 0, 140, u), (2, 1, 60, 0)]) := Lib.hid (by
        have e : openEU (oneL 140 u) 2 1 60 = 0 := openEU_zero.2 ⟨⟨by decide, by decide⟩, ⟨_, rfl⟩, rfl, by rw [left_one]; have := LO.out; omega⟩
        refine ⟨e, ?_⟩
        unfold openL
        rw [if_pos e]; rfl)
      clear hlt hk
      go_wp2_with fail
      refine (H4.out.carve 2 1 60).mono ?_
      rw [OP.out.1, OP.out.2]
      rintro e w5 ⟨rfl, hk, h⟩
      have H5 := Lib.hid h
      clear hk h
      go_wp2_with fail
      refine (H5.out.fork 1 2 (forkE0_zero (by decide) (putG_same _ _ _) rfl (by rw [putG_other _ _ _ (by decide)])) (putG_same _ _ _) (by
        have h1 : usedN [(1, 0, 140, u), (2, 1, 60, 0)] 1 = u.toNat := rfl
        have h2 : leftL [((1 : Int), (0 : Int), (140 : Int), u), (2, 1, 60, 0)] 2 = 60 := rfl
        rw [h1, h2]; have := LO.out; omega)).mono ?_
      rintro e w6 ⟨rfl, hk, t, ht, h⟩
      have T6 := Lib.hid (ht.trans S3.out)
      have H6 : Hid (HvR W w6 I 140 (putG (putG G0 1 s3) 2 t) (fkR rd 1 2)) := Lib.hid h.words
      clear hk ht h
      obtain ⟨r6, hr6⟩ : ∃ r, r = fkR rd 1 2 := ⟨_, rfl⟩
      have RR : Hid (r6 1 = r6 2) := Lib.hid (by rw [hr6]; funext r y; unfold fkR; simp)
      rw [← hr6] at H6
      clear hr6
      obtain ⟨one, other, ho, hg1, hg2, hbk⟩ : ∃ (one other : Int), one ≠ other ∧ (∃ p, putG (putG G0 1 s3) 2 t one = some p) ∧ (∃ p : Pc, p.ar = [(0, 24, true)] ∧ putG (putG G0 1 s3) 2 t other = some p) ∧ (one = 1 ∧ other = 2 ∧ bk = false ∨ one = 2 ∧ other = 1 ∧ bk = true) := by
        have k1 : putG (putG G0 1 s3) 2 t 1 = some s3 := by rw [putG_other _ _ _ (by decide), putG_same]
        have k2 : putG (putG G0 1 s3) 2 t 2 = some t := putG_same _ _ _
        cases bk with
        | false => exact ⟨1, 2, by decide, ⟨_, k1⟩, ⟨_, T6.out, k2⟩, Or.inl ⟨rfl, rfl, rfl⟩⟩
        | true => exact ⟨2, 1, by decide, ⟨_, k2⟩, ⟨_, S3.out, k1⟩, Or.inr ⟨rfl, rfl, rfl⟩⟩
      have R12 : Hid (r6 one = r6 other) := Lib.hid (by
        rcases hbk with ⟨rfl, rfl, _⟩ | ⟨rfl, rfl, _⟩
        · exact RR.out
        · exact RR.out.symm)
      obtain ⟨p1, hp1⟩ := hg1
      obtain ⟨p2, hpa, hp2⟩ := hg2
      have P1 := Lib.hid hp1
      have P2 := Lib.hid (And.intro hpa hp2)
      have NE := Lib.hid ho
      generalize putG (putG G0 1 s3) 2 t = G6 at *
      clear hp1 hpa hp2 ho
      have SEE : Hid (∀ (V : World) (rd' : Int → Nat → Nat → Int), HvR W V I 140 G6 rd' → rd' one = r6 one → Calls Tryz.prog 30 #[.pointer (some ⟨I.ss, 0, none⟩), .int .i64 one, .slice a1 n c1] V fun e w' => ∃ v, e = .returned v ∧ w'.ownsRow V.heap.size 25 1 v n (seeV (fun k => ldR r6 one (L.getD k 0)) n) ∧ HvR W w' I 140 G6 rd' ∧ KeepB V w') := Lib.hid fun V rd' hV he => by
        have := hV.see P1.out c1 (L := L) (a := a1) (by have := HN.out; omega) HW1.out HC1.out
        have e2 : (fun k => ldR rd' one (L.getD k 0)) = fun k => ldR r6 one (L.getD k 0) := by funext k; unfold ldR; rw [he]
        rwa [e2, ← HN.out] at this
      have SE2 : Hid (∀ V, HvR W V I 140 G6 r6 → Calls Tryz.prog 30 #[.pointer (some ⟨I.ss, 0, none⟩), .int .i64 other, .slice a1 n c1] V fun e w' => ∃ v, e = .returned v ∧ w'.ownsRow V.heap.size 25 1 v n (seeV (fun k => ldR r6 one (L.getD k 0)) n) ∧ HvR W w' I 140 G6 r6 ∧ KeepB V w') := Lib.hid fun V hV => by
        have := hV.see P2.out.2 c1 (L := L) (a := a1) (by have := HN.out; omega) HW1.out HC1.out
        have e2 : (fun k => ldR r6 other (L.getD k 0)) = fun k => ldR r6 one (L.getD k 0) := by funext k; unfold ldR; rw [R12.out]
        rwa [e2, ← HN.out] at this
      obtain ⟨f, hf⟩ : ∃ f, f = fun k => ldR r6 one (L.getD k 0) := ⟨_, rfl⟩
      rw [← hf] at SEE SE2
      clear hf OP LO H4 H5 RR
      have KEY : Hid (one = 1 ∧ other = 2 ∧ bk = false ∨ one = 2 ∧ other = 1 ∧ bk = true) := Lib.hid hbk
      clear hbk
      rcases KEY.out with ⟨rfl, rfl, rfl⟩ | ⟨rfl, rfl, rfl⟩
      · as_aux_lemma =>
          clear KEY
          go_wp2_with fail
          refine (SEE.out _ _ H6.out rfl).mono ?_
          rintro e w7 ⟨v7, rfl, ho7, h, _⟩
          have H7 := Lib.hid h
          have W7 := Lib.hid ho7
          obtain ⟨x7, y7, rfl⟩ := ownsForm ho7
          clear ho7 h
          go_wp2_with fail
          refine (SE2.out w7 H7.out).mono ?_
          rintro e w8 ⟨v8, rfl, ho8, h, hk⟩
          have H8 := Lib.hid h
          have W8 := Lib.hid (hk.row W7.out (by decide))
          obtain ⟨x8, y8, rfl⟩ := ownsForm ho8
          have Q7 := Lib.hid (SeeAt.of_row W8.out)
          have Q8 := Lib.hid (SeeAt.of_row ho8)
          clear ho8 h hk W7 H6 H7
          go_wp2_with fail
          go_loopw [16] (fun i wr2 => ∃ k : Nat, i = .int .i64 (k : Int) ∧ k ≤ n ∧ Below w8.heap.size w8 wr2) (fun i _ => (n - (intOf i).toNat))
          case atStart => exact ⟨0, rfl, Nat.zero_le _, Below.refl _ _⟩
          case round =>
            obtain ⟨k, rfl, hk, hB⟩ := hrel
            have BR := Lib.hid hB
            clear hB
            by_cases hlt : k < n
            · obtain ⟨g7, rfl, hg7, q7⟩ := Q7.out.below BR.out k hlt
              obtain ⟨g8, rfl, hg8, q8⟩ := Q8.out.below BR.out k hlt
              generalize f k = fk at q7 q8
              have ff : (fk != fk) = false := by simp
              have hlt2 : (k : Int) < (n : Int) := by omega
              clear hg7 hg8
              go_wp2_with fail
              go_quiet (fail)
              go_wp2_with fail
              go_roundw
              case rel => exact ⟨k + 1, by go_num, by omega, below_drewN BR.out nq⟩
              case measure => simp [intOf]; omega
            · obtain rfl : n = k := by omega
              have W9 := Lib.hid (own_step W8.out BR.out)
              have H9 := Lib.hid (H8.out.step BR.out)
              clear hlt hk BR Q7 Q8 W8 H8
              go_wp2_with fail
              go_loopw [17] (fun i wr3 => ∃ j : Nat, i = .int .i64 (j : Int) ∧ j ≤ m ∧ ∃ rd', HvR W wr3 I 140 G6 rd' ∧ rd' 1 = r6 1 ∧ wr3.ownsRow w6.heap.size 25 1 (.slice x7 n y7) n (seeV f n)) (fun i _ => (m - (intOf i).toNat))
              case atStart => exact ⟨0, rfl, Nat.zero_le _, r6, H9.out, rfl, W9.out⟩
              case round =>
                obtain ⟨j, rfl, hj, rd', h, he, ho⟩ := hrel
                have HA := Lib.hid h
                have EA := Lib.hid he
                have WA := Lib.hid ho
                clear h he ho
                by_cases hlt : j < m
                · obtain ⟨b, o, rfl, hb, hcs⟩ := HC2.out.resolve_left (by intro e; have := HM.out; rw [e] at this; simp at this; omega)
                  have hkl : j < S.length := by have := HM.out; omega
                  obtain ⟨⟨qk, qi, qt, qn, qx, qy, qd, va, u⟩, hq⟩ : ∃ z, S.getD j default = z := ⟨_, rfl⟩
                  have O : Hid (WideOp qk qi qt qn qx qy va u) := Lib.hid (by
                    have := HW2.out _ (by rw [List.getD_eq_getElem?_getD, List.getElem?_eq_getElem hkl]; exact List.getElem_mem _ : S.getD j default ∈ S)
                    rw [hq] at this; exact this)
                  have CL : Hid (∀ V, Below W.heap.size W V → V.cell? ⟨b, o + j * 9 + 7, none⟩ = some (.int .u32 va) ∧ V.cell? ⟨b, o + j * 9 + 8, none⟩ = some (.int .u32 u)) := Lib.hid fun V hV => by
                    have := (hcs j hkl).below hV hb
                    rw [hq] at this
                    exact ⟨this.c7, this.c8⟩
                  have DR : Hid (Below wr.heap.size wr wr.drew) := Lib.hid (Below.refl _ _).drew
                  have ST := Lib.hid ((HA.out.step DR.out).store P2.out.2 P2.out.1 va u O.out.wv O.out.wu)
                  have hlt2 : (j : Int) < (m : Int) := by omega
                  have uu : (u != u) = false := by simp
                  clear hcs hb hkl hq
                  go_wp2_with fail
                  go_region_held3 (fun V => V.cell? ⟨b, o + j * 9 + 7, none⟩ = some (.int .u32 va) ∧ V.cell? ⟨b, o + j * 9 + 8, none⟩ = some (.int .u32 u)) (first | with_reducible exact CL.out _ (HA.out.step DR.out).below | with_reducible exact CL.out w9 H9'.out.below)
                    (first
                      | (go_at_call 19; with_reducible refine ST.out.mono ?_; rintro e w9 ⟨er9, rd9, rfl, hk, hfar, h, hl⟩; have H9' := Lib.hid h; have L9 := Lib.hid hl; have W9' := Lib.hid (hk.row (own_step WA.out DR.out) (by decide)); have F9 : Hid (rd9 1 = r6 1) := Lib.hid ((hfar 1 (by decide)).trans EA.out); clear hk hfar h hl))
                  have q7 := (CL.out w9 H9'.out.below).1
                  clear ST WA HA EA
                  go_wp2_with fail
                  refine L9.out.mono ?_
                  rintro e w10 ⟨x10, er10, rfl, hv, hk, h⟩
                  have H10 := Lib.hid h
                  have W10 := Lib.hid (hk.row W9'.out (by decide))
                  clear hk h q7
                  have q8 := (CL.out w10 H10.out.below).2
                  have key : (er10 == 0) = true ∧ x10 = u ∨ (er10 == 0) = false := by
                    by_cases e0 : er10 = 0
                    · exact Or.inl ⟨by simpa using e0, hv e0⟩
                    · exact Or.inr (by simpa using e0)
                  clear hv
                  rcases key with ⟨e10, rfl⟩ | e10
                  all_goals
                    go_wp2_with fail
                    refine (SEE.out w10 rd9 H10.out F9.out).mono ?_
                    rintro e w11 ⟨v11, rfl, ho, h, hk⟩
                    have H11 := Lib.hid h
                    have W11 := Lib.hid (hk.row W10.out (by decide))
                    obtain ⟨x11, y11, rfl⟩ := ownsForm ho
                    have Q7 := Lib.hid (SeeAt.of_row W11.out)
                    have Q8 := Lib.hid (SeeAt.of_row ho)
                    clear ho h hk q8 e10
                    go_wp2_with fail
                    go_loopw [21] (fun i wr4 => ∃ k : Nat, i = .int .i64 (k : Int) ∧ k ≤ n ∧ Below w11.heap.size w11 wr4) (fun i _ => (n - (intOf i).toNat))
                    case atStart => exact ⟨0, rfl, Nat.zero_le _, Below.refl _ _⟩
                    case round =>
                      obtain ⟨k, rfl, hk, hB⟩ := hrel
                      have BR := Lib.hid hB
                      clear hB
                      by_cases hlt4 : k < n
                      · obtain ⟨g7, rfl, hg7, q7⟩ := Q7.out.below BR.out k hlt4
                        obtain ⟨g8, rfl, hg8, q8⟩ := Q8.out.below BR.out k hlt4
                        generalize f k = fk at q7 q8
                        have ff : (fk != fk) = false := by simp
                        have hlt5 : (k : Int) < (n : Int) := by omega
                        clear hg7 hg8
                        go_wp2_with fail
                        go_quiet (fail)
                        go_wp2_with fail
                        go_roundw
                        case rel => exact ⟨k + 1, by go_num, by omega, below_drewN BR.out nq⟩
                        case measure => simp [intOf]; omega
                      · obtain rfl : n = k := by omega
                        clear hlt4 hk
                        go_wp2_with fail
                        go_roundw
                        case rel => exact ⟨j + 1, by go_num, by omega, rd9, H11.out.step BR.out, F9.out, own_step W11.out BR.out⟩
                        case measure => simp [intOf]; omega
                · obtain rfl : m = j := by omega
                  have B9 := Lib.hid HA.out.below
                  clear hlt
                  go_wp2_with fail
                  refine (AW.out _ B9.out).mono ?_
                  rintro e w10 ⟨rfl, hb⟩
                  have B10 := Lib.hid (B9.out.trans (hb.mono B9.out.size))
                  clear hb
                  go_wp2_with fail
                  go_ret
                  exact ⟨rfl, B10.out⟩
      · as_aux_lemma =>
          clear KEY
          go_wp2_with fail
          refine (SEE.out _ _ H6.out rfl).mono ?_
          rintro e w7 ⟨v7, rfl, ho7, h, _⟩
          have H7 := Lib.hid h
          have W7 := Lib.hid ho7
          obtain ⟨x7, y7, rfl⟩ := ownsForm ho7
          clear ho7 h
          go_wp2_with fail
          refine (SE2.out w7 H7.out).mono ?_
          rintro e w8 ⟨v8, rfl, ho8, h, hk⟩
          have H8 := Lib.hid h
          have W8 := Lib.hid (hk.row W7.out (by decide))
          obtain ⟨x8, y8, rfl⟩ := ownsForm ho8
          have Q7 := Lib.hid (SeeAt.of_row W8.out)
          have Q8 := Lib.hid (SeeAt.of_row ho8)
          clear ho8 h hk W7 H6 H7
          go_wp2_with fail
          go_loopw [16] (fun i wr2 => ∃ k : Nat, i = .int .i64 (k : Int) ∧ k ≤ n ∧ Below w8.heap.size w8 wr2) (fun i _ => (n - (intOf i).toNat))
          case atStart => exact ⟨0, rfl, Nat.zero_le _, Below.refl _ _⟩
          case round =>
            obtain ⟨k, rfl, hk, hB⟩ := hrel
            have BR := Lib.hid hB
            clear hB
            by_cases hlt : k < n
            · obtain ⟨g7, rfl, hg7, q7⟩ := Q7.out.below BR.out k hlt
              obtain ⟨g8, rfl, hg8, q8⟩ := Q8.out.below BR.out k hlt
              generalize f k = fk at q7 q8
              have ff : (fk != fk) = false := by simp
              have hlt2 : (k : Int) < (n : Int) := by omega
              clear hg7 hg8
              go_wp2_with fail
              go_quiet (fail)
              go_wp2_with fail
              go_roundw
              case rel => exact ⟨k + 1, by go_num, by omega, below_drewN BR.out nq⟩
              case measure => simp [intOf]; omega
            · obtain rfl : n = k := by omega
              have W9 := Lib.hid (own_step W8.out BR.out)
              have H9 := Lib.hid (H8.out.step BR.out)
              clear hlt hk BR Q7 Q8 W8 H8
              go_wp2_with fail
              go_loopw [17] (fun i wr3 => ∃ j : Nat, i = .int .i64 (j : Int) ∧ j ≤ m ∧ ∃ rd', HvR W wr3 I 140 G6 rd' ∧ rd' 2 = r6 2 ∧ wr3.ownsRow w6.heap.size 25 1 (.slice x7 n y7) n (seeV f n)) (fun i _ => (m - (intOf i).toNat))
              case atStart => exact ⟨0, rfl, Nat.zero_le _, r6, H9.out, rfl, W9.out⟩
              case round =>
                obtain ⟨j, rfl, hj, rd', h, he, ho⟩ := hrel
                have HA := Lib.hid h
                have EA := Lib.hid he
                have WA := Lib.hid ho
                clear h he ho
                by_cases hlt : j < m
                · obtain ⟨b, o, rfl, hb, hcs⟩ := HC2.out.resolve_left (by intro e; have := HM.out; rw [e] at this; simp at this; omega)
                  have hkl : j < S.length := by have := HM.out; omega
                  obtain ⟨⟨qk, qi, qt, qn, qx, qy, qd, va, u⟩, hq⟩ : ∃ z, S.getD j default = z := ⟨_, rfl⟩
                  have O : Hid (WideOp qk qi qt qn qx qy va u) := Lib.hid (by
                    have := HW2.out _ (by rw [List.getD_eq_getElem?_getD, List.getElem?_eq_getElem hkl]; exact List.getElem_mem _ : S.getD j default ∈ S)
                    rw [hq] at this; exact this)
                  have CL : Hid (∀ V, Below W.heap.size W V → V.cell? ⟨b, o + j * 9 + 7, none⟩ = some (.int .u32 va) ∧ V.cell? ⟨b, o + j * 9 + 8, none⟩ = some (.int .u32 u)) := Lib.hid fun V hV => by
                    have := (hcs j hkl).below hV hb
                    rw [hq] at this
                    exact ⟨this.c7, this.c8⟩
                  have DR : Hid (Below wr.heap.size wr wr.drew) := Lib.hid (Below.refl _ _).drew
                  have ST := Lib.hid ((HA.out.step DR.out).store P2.out.2 P2.out.1 va u O.out.wv O.out.wu)
                  have hlt2 : (j : Int) < (m : Int) := by omega
                  have uu : (u != u) = false := by simp
                  clear hcs hb hkl hq
                  go_wp2_with fail
                  go_region_held3 (fun V => V.cell? ⟨b, o + j * 9 + 7, none⟩ = some (.int .u32 va) ∧ V.cell? ⟨b, o + j * 9 + 8, none⟩ = some (.int .u32 u)) (first | with_reducible exact CL.out _ (HA.out.step DR.out).below | with_reducible exact CL.out w9 H9'.out.below)
                    (first
                      | (go_at_call 19; with_reducible refine ST.out.mono ?_; rintro e w9 ⟨er9, rd9, rfl, hk, hfar, h, hl⟩; have H9' := Lib.hid h; have L9 := Lib.hid hl; have W9' := Lib.hid (hk.row (own_step WA.out DR.out) (by decide)); have F9 : Hid (rd9 2 = r6 2) := Lib.hid ((hfar 2 (by decide)).trans EA.out); clear hk hfar h hl))
                  have q7 := (CL.out w9 H9'.out.below).1
                  clear ST WA HA EA
                  go_wp2_with fail
                  refine L9.out.mono ?_
                  rintro e w10 ⟨x10, er10, rfl, hv, hk, h⟩
                  have H10 := Lib.hid h
                  have W10 := Lib.hid (hk.row W9'.out (by decide))
                  clear hk h q7
                  have q8 := (CL.out w10 H10.out.below).2
                  have key : (er10 == 0) = true ∧ x10 = u ∨ (er10 == 0) = false := by
                    by_cases e0 : er10 = 0
                    · exact Or.inl ⟨by simpa using e0, hv e0⟩
                    · exact Or.inr (by simpa using e0)
                  clear hv
                  rcases key with ⟨e10, rfl⟩ | e10
                  all_goals
                    go_wp2_with fail
                    refine (SEE.out w10 rd9 H10.out F9.out).mono ?_
                    rintro e w11 ⟨v11, rfl, ho, h, hk⟩
                    have H11 := Lib.hid h
                    have W11 := Lib.hid (hk.row W10.out (by decide))
                    obtain ⟨x11, y11, rfl⟩ := ownsForm ho
                    have Q7 := Lib.hid (SeeAt.of_row W11.out)
                    have Q8 := Lib.hid (SeeAt.of_row ho)
                    clear ho h hk q8 e10
                    go_wp2_with fail
                    go_loopw [21] (fun i wr4 => ∃ k : Nat, i = .int .i64 (k : Int) ∧ k ≤ n ∧ Below w11.heap.size w11 wr4) (fun i _ => (n - (intOf i).toNat))
                    case atStart => exact ⟨0, rfl, Nat.zero_le _, Below.refl _ _⟩
                    case round =>
                      obtain ⟨k, rfl, hk, hB⟩ := hrel
                      have BR := Lib.hid hB
                      clear hB
                      by_cases hlt4 : k < n
                      · obtain ⟨g7, rfl, hg7, q7⟩ := Q7.out.below BR.out k hlt4
                        obtain ⟨g8, rfl, hg8, q8⟩ := Q8.out.below BR.out k hlt4
                        generalize f k = fk at q7 q8
                        have ff : (fk != fk) = false := by simp
                        have hlt5 : (k : Int) < (n : Int) := by omega
                        clear hg7 hg8
                        go_wp2_with fail
                        go_quiet (fail)
                        go_wp2_with fail
                        go_roundw
                        case rel => exact ⟨k + 1, by go_num, by omega, below_drewN BR.out nq⟩
                        case measure => simp [intOf]; omega
                      · obtain rfl : n = k := by omega
                        clear hlt4 hk
                        go_wp2_with fail
                        go_roundw
                        case rel => exact ⟨j + 1, by go_num, by omega, rd9, H11.out.step BR.out, F9.out, own_step W11.out BR.out⟩
                        case measure => simp [intOf]; omega
                · obtain rfl : m = j := by omega
                  have B9 := Lib.hid HA.out.below
                  clear hlt
                  go_wp2_with fail
                  refine (AW.out _ B9.out).mono ?_
                  rintro e w10 ⟨rfl, hb⟩
                  have B10 := Lib.hid (B9.out.trans (hb.mono B9.out.size))
                  clear hb
                  go_wp2_with fail
                  go_ret
                  exact ⟨rfl, B10.out⟩
theorem spaceApart_walk (v1 : Value) (L : List Int) (v2 : Value) (S : List Op16) (bk : Bool) (W : World) (h1 : ArgWs W v1 L) (h2 : ArgOps16 W v2 S) (hL : LaidN W) : Calls Tryz.prog 4 #[v1, v2, .bool bk] W fun e w' => e = .returned (.bool true) ∧ Below W.heap.size W w' := by
  by_cases h : 30 < L.length ∨ 30 < S.length
  · obtain ⟨a1, c1, rfl, _⟩ := h1
    obtain ⟨a2, c2, rfl, _⟩ := h2
    exact apart_far L.length S.length c1 c2 a1 a2 bk W h hL
  · exact apart_in L S v1 v2 bk W (by omega) (by omega) h1 h2 hL
end Go.Proofs.YtfpcoomkbmfchaaGreatDoor
