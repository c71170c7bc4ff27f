/- Texts of mine, joined: S36 S37 S38 S39 S35 S40 S41. What each says and under which conditions stands at its head, below. -/
import Derived.Test.YtkenipanpimolaaGreatDoorHP
import Derived.Test.YtkenipanpimolaaGreatDoorHN
import Derived.Test.YtkenipanpimolaaGreatDoorHC
import Derived.Test.YtkenipanpimolaaGreatDoorGL
import Derived.Test.YtkenipanpimolaaGreatDoorHR
import Derived.Test.YtkenipanpimolaaGreatDoorHQ
import Derived.Test.YtkenipanpimolaaGreatDoorHG
/- The contract of package space's New. Condition: the listed tables read as laid. -/
namespace Go.Proofs.YtkenipanpimolaaGreatDoor
open Go.RowKit Go.Maps
set_option maxRecDepth 100000

theorem InvS.start {n lo hi : Nat} (h : lo < hi ∧ hi ≤ n) (hn : n ≤ 1024) : InvS n lo hi (List.replicate (n * 32) 0) R0 noS (fun _ => none) (fun _ => none) :=
  ⟨by simp, h, hn, fun _ => rfl, fun _ _ h => (by cases h), fun _ _ _ h => (by cases h), fun _ _ _ h => (by cases h), fun _ _ _ h => (by cases h), fun _ h => (by cases h), fun _ h => (by cases h)⟩
theorem leftS_start (lo hi : Nat) : leftS lo hi R0 = hi - lo := by
  unfold leftS
  rw [freeL_all _ R0 (fun _ _ _ => rfl)]
  simp [span]
theorem SysS.start {W0 w : World} {tb sb n lo hi : Nat} {X : PIx} {T : List (Nat × Nat)} (h : Mg W0 w tb sb X (List.replicate (n * 32) 0) R0 noS) (hl : lo < hi ∧ hi ≤ n) (hn : n ≤ 1024) (hX : X.n = n) (hP : X.P = partsS lo hi T) : SysS W0 w tb sb X n lo hi (hi - lo) (fun _ => none) (fun _ => 0) (fun _ _ => 0) :=
  ⟨⟨_, R0, noS, fun _ => none, T, h, InvS.start hl hn, leftS_start lo hi, hP, fun f => by unfold QF; rfl, fun _ _ _ _ h => absurd rfl h, fun _ h => absurd rfl h⟩, hX⟩
theorem J.start {n q : Nat} (hn : n ≤ 1024) (hq : q ≤ 65536) : J n q q (fun _ => none) (fun _ => 0) [(1, 0, (q : Int), 0)] ow0 (PG fun _ => none) := by
  refine ⟨fun _ _ h => (by cases h), fun _ _ _ h => (by cases h), fun _ _ _ _ _ _ h => (by cases h), fun f => ?_, fun _ _ _ h => (by cases h), fun _ _ _ h => (by cases h), fun i => ?_, Tree.one ⟨by omega, by omega⟩, ?_, hn⟩
  · simp [sum8, b1, hasO]
  · unfold usedN atN costD ow0
    by_cases e : (1 : Int) = i
    · simp [e]
    · simp [e, atN]
  · rw [exQ_zero (fun _ _ => rfl)]; simp [sum8, costD]
theorem words_zeroS (n : Nat) : Words (List.replicate n 0) := fun i => by
  simp only [List.getD_eq_getElem?_getD, List.getElem?_replicate]
  split <;> simp
/-- What New leaves. -/
def NewS (W0 w : World) (X : PIx) (n lo hi bb q : Nat) (e : Ending) (w' : World) : Prop := ∃ I : SIx, e = .returned (.tuple #[.pointer (some ⟨I.ss, 0, none⟩), .int .i64 0]) ∧ I.X = X ∧ I.bb = bb ∧ I.n = n ∧ I.lo = lo ∧ I.hi = hi ∧ Sta W0 w' I q q (fun _ => none) (fun _ => 0) (fun _ _ => 0) [(1, 0, (q : Int), 0)] (fun _ => none) ow0 (PG fun _ => none) ∧ Below w.heap.size w w'
set_option maxHeartbeats 4000000 in
theorem newS_ok {W0 w : World} {X : PIx} {n lo hi q bb bm : Nat} {Pb : Pt} {T : List (Nat × Nat)} (h : OwnPool W0 w X (List.replicate (n * 32) 0) R0) (hw : LaidW W0) (hl : lo < hi ∧ hi ≤ n) (hn : n ≤ 1024) (hX : X.n = n) (hP : X.P = partsS lo hi T) (hq : q = hi - lo)
    (hB : BudAt w bb bm Pb [(1, 0, (q : Int), 0)]) (hbm : W0.heap.size ≤ bm) (hPb : ∀ i p, Pb i = some p → W0.heap.size ≤ p) (hne : bm ≠ X.mb) :
    Calls Tryz.prog 14 #[.pointer (some ⟨X.mp, 0, none⟩), .pointer (some ⟨X.pb, 0, none⟩), .int .i64 0, .pointer (some ⟨bb, 0, none⟩)] w (NewS W0 w X n lo hi bb q) := by
  have AL := Lib.hid (allm11_ok hB)
  have MG := Lib.hid (show ∀ W, Below w.heap.size w W → _ from fun W hb => newmg_ok (h.step hb) hw (words_zeroS (n * 32)) (by rw [hP]; simp [partB]))
  have HH := Lib.hid (And.intro hl (And.intro hn (And.intro hX (And.intro hP hq))))
  have BB := Lib.hid (And.intro hB (And.intro hbm (And.intro hPb hne)))
  have HP := Lib.hid h
  have hmm := @run_makeMap Tryz.prog
  have d0 : decide ((q : Int) < (q : Int)) = false := by simp
  clear hl hn hX hP hq hB hbm hPb hne h
  go_enter Tryz.func14, Tryz.ntmps14
  go_wp2_with fail
  refine AL.out.mono ?_
  rintro e w1 ⟨v, rfl, ho, hb⟩
  have B1 := Lib.hid hb
  have N1 := Lib.hid (NdSl.of_row ho)
  obtain ⟨a, cp, rfl, hg⟩ := N1.out
  obtain ⟨g, rfl, hg1, hg2⟩ := hg.resolve_left (by simp)
  have c2 : w1.cell? ⟨g, 2, none⟩ = some (.int .i64 (q : Int)) := (hg2 0 (by simp)).2.2.1
  have G1 := Lib.hid (And.intro hg1 c2)
  clear ho hb hg hg1 hg2 c2 N1
  simp only [List.length_singleton]
  go_wp2_with fail
  refine (MG.out w1 B1.out).mono ?_
  rintro e w2 ⟨tb, sb, rfl, hg, hb2, ht, hs⟩
  have B2 := Lib.hid (B1.out.trans (hb2.mono B1.out.size))
  have c2 : w2.cell? ⟨g, 2, none⟩ = some (.int .i64 (q : Int)) := (hb2.cell (p := ⟨g, 2, none⟩) G1.out.1).trans G1.out.2
  have SY := Lib.hid (SysS.start hg HH.out.1 HH.out.2.1 HH.out.2.2.1 HH.out.2.2.2.1)
  rw [← HH.out.2.2.2.2] at SY
  have LF := Lib.hid (SY.out.step (Below.refl _ _).drew).left
  have GL := Lib.hid (show g < w2.heap.size from Nat.lt_of_lt_of_le G1.out.1 hb2.size)
  have TS := Lib.hid (And.intro ht hs)
  have SBW := Lib.hid hg.spc.lt
  clear hg hb2 ht hs
  go_wp2_with fail
  go_region_held3 (fun W => W.cell? ⟨g, 2, none⟩ = some (.int .i64 (q : Int))) (first | go_keep | exact c2)
    (first
      | ((go_at_call 36; with_reducible refine LF.out.mono ?_); rintro e w3 ⟨rfl, hb3⟩; have B3 : Hid (Below w2.heap.size w2 w3) := Lib.hid (drew_then hb3); have c2 : w3.cell? ⟨g, 2, none⟩ = some (.int .i64 (q : Int)) := (B3.out.cell (p := ⟨g, 2, none⟩) GL.out).trans c2; clear hb3))
  have hle := B2.out.size
  have hle3 := B3.out.size
  have hbw := BB.out.1.lt (Or.inl rfl)
  have hmb : X.mb < w.heap.size := HP.out.st.lt _ (Or.inl (Or.inr (Or.inl rfl)))
  have SZ := Lib.hid (And.intro hle (And.intro hle3 (And.intro hbw hmb)))
  clear hle hle3 hbw hmb
  go_wp2_with fail
  go_ret2
  have hb := below_two w3 (.map #[] 0) (ssO ⟨w3.heap.size + 1, tb, sb, bb, bm, w3.heap.size, X, n, lo, hi, fun _ => none⟩)
  have hB3 := B3.out.trans (hb.mono B3.out.size)
  have hS := SY.out.step hB3
  have hd := SZ.out
  have ht := TS.out
  refine ⟨⟨w3.heap.size + 1, tb, sb, bb, bm, w3.heap.size, X, n, lo, hi, fun _ => none⟩, rfl, rfl, rfl, rfl, rfl, rfl, ⟨⟨fun _ => none, Pb, ⟨hS, BB.out.1.step (B2.out.trans (hB3.mono B2.out.size)), heap_alloc2_new _ _ _, (PtrsAt.made w3).same ((heap_alloc2_old w3 _ _).trans (heap_alloc_new w3 _).symm), fun _ _ h => (by cases h), BB.out.2.1, ?_, BB.out.2.2.1, fun _ _ h => (by cases h), ⟨BB.out.2.2.2, ?_, ?_, ?_, ?_⟩, fun _ _ h => (by cases h)⟩, ⟨fun _ _ => rfl, fun _ _ h => (by cases h), fun _ _ _ _ h => (by cases h)⟩⟩, J.start HH.out.2.1 ?_⟩, B2.out.trans (hB3.mono B2.out.size)⟩
  · exact Nat.le_trans (SY.out.step B3.out).below.size (Nat.le_refl _)
  · show bm ≠ sb; have := B1.out.size; omega
  · show w3.heap.size ≠ X.mb; omega
  · show w3.heap.size ≠ sb; have := SBW.out; omega
  · show w3.heap.size ≠ bm; omega
  · have := HH.out; omega
end Go.Proofs.YtkenipanpimolaaGreatDoor

/- Spaces of a law's own. Condition: the listed tables read as laid. -/
namespace Go.Proofs.YtkenipanpimolaaGreatDoor
open Go.RowKit Go.Maps
set_option maxRecDepth 100000

abbrev D0 : Int → Option Sp := fun _ => none
abbrev G0 : Int → Option Pc := fun _ => none
/-- Spaces that are new. -/
def Fresh (W0 w : World) (I : SIx) (q : Nat) : Prop := Sta W0 w I q q D0 (fun _ => 0) (fun _ _ => 0) [(1, 0, (q : Int), 0)] G0 ow0 (PG G0)
/-- What the law's maker leaves. -/
def MadeS (W0 : World) (q : Nat) (e : Ending) (w' : World) : Prop := ∃ I : SIx, e = .returned (.tuple #[.pointer (some ⟨I.X.pb, 0, none⟩), .pointer (some ⟨I.bb, 0, none⟩), .pointer (some ⟨I.ss, 0, none⟩), .bool true]) ∧ Fresh W0 w' I q
end Go.Proofs.YtkenipanpimolaaGreatDoor

/- Spaces by what is seen of them: containers, areas, pages, words. Condition: the listed tables read as laid. -/
namespace Go.Proofs.YtkenipanpimolaaGreatDoor
open Go.RowKit Go.Maps
set_option maxRecDepth 100000

theorem needP_congr {b d : Nat → Bool} (h : ∀ r, r < 1024 → b r = d r) : ∀ {L : List Nat}, (∀ p ∈ L, p < 1024) → ∀ {b' d' : Nat → Bool}, (∀ r, r < 1024 → b' r = d' r) → needP b' L = needP d' L
  | [], _, _, _, _ => rfl
  | p :: r, hL, b', d', hb => by
    have hp := hL p (by simp)
    rw [needP, needP, hb p hp, newP_congr hp hb]
    congr 1
    refine needP_congr h (fun x hx => hL x (by simp [hx])) fun y hy => ?_
    unfold bOn; rw [hb y hy]
/-- What stands against words that are reached, by the pages that are seen. -/
def reachP (A : List Ar) (Lb : List Nd) (b : Nat → Bool) (i va : Int) (words : Nat) (wr : Bool) : Int :=
  if 32768 ≤ va then 7 else if mayL A wr (pgs va words) ≠ 0 then mayL A wr (pgs va words) else chargeEU Lb i (needP b (pgs va words) : Int)
theorem atD_from {p : Int} {x : Bool} : ∀ {L : List Ar}, atD L p = some x → ∃ z ∈ L, HasD z p
  | [], h => by cases h
  | z :: r, h => by
    by_cases e : HasD z p
    · exact ⟨z, by simp, e⟩
    · rw [atD, if_neg e] at h
      obtain ⟨y, hy, hp⟩ := atD_from h
      exact ⟨y, by simp [hy], hp⟩
theorem may_low {A : List Ar} (hA : OkD A) {wr : Bool} {L : List Nat} (h : mayL A wr L = 0) : ∀ p ∈ L, p < 1024 := fun p hp => by
  obtain ⟨x, hx, _⟩ := mayE_zero (mayL_at.1 h p hp)
  obtain ⟨z, hz1, hz2⟩ := atD_from hx
  have := hA.up.fit z hz1
  unfold FitD at this
  unfold HasD at hz2
  omega
theorem reachE_P {A : List Ar} (hA : OkD A) {Lb : List Nd} {F : Sp} {b : Nat → Bool} (h : ∀ r, r < 1024 → onF F r = b r) (i va : Int) (words : Nat) (wr : Bool) : reachE A Lb F i va words wr = reachP A Lb b i va words wr := by
  unfold reachE reachP
  by_cases h1 : 32768 ≤ va
  · rw [if_pos h1, if_pos h1]
  · rw [if_neg h1, if_neg h1]
    by_cases h2 : mayL A wr (pgs va words) = 0
    · rw [if_neg (fun h => h h2), if_neg (fun h => h h2), needP_congr h (may_low hA h2) h]
    · rw [if_pos h2, if_pos h2]
theorem reachE_need {A : List Ar} (hA : OkD A) {Lb : List Nd} {F : Sp} {b : Nat → Bool} (h : ∀ r, r < 1024 → onF F r = b r) {i va : Int} {words : Nat} {wr : Bool} (h0 : reachP A Lb b i va words wr = 0) : needP (onF F) (pgs va words) = needP b (pgs va words) := by
  unfold reachP at h0
  by_cases h1 : 32768 ≤ va
  · rw [if_pos h1] at h0; cases h0
  · rw [if_neg h1] at h0
    by_cases h2 : mayL A wr (pgs va words) = 0
    · exact needP_congr h (may_low hA h2) h
    · rw [if_pos h2] at h0; exact absurd h0 h2
/-- Spaces, with what is seen. -/
def Hv (W0 w : World) (I : SIx) (q : Nat) (Lb : List Nd) (G : Int → Option Pc) (pr : Int → Nat → Bool) (rd : Int → Nat → Nat → Int) : Prop := ∃ c D Q V, Sta W0 w I q c D Q V Lb G ow0 (PG G) ∧ (∀ j r, r < 1024 → prD D j r = pr j r) ∧ ∀ j r y, r < 1024 → y < 32 → rdD D V j r y = rd j r y
section
variable {W0 w : World} {I : SIx} {q : Nat} {Lb : List Nd} {G : Int → Option Pc} {pr : Int → Nat → Bool} {rd : Int → Nat → Nat → Int}
theorem Hv.step {w' : World} (h : Hv W0 w I q Lb G pr rd) (hb : Below w.heap.size w w') : Hv W0 w' I q Lb G pr rd := by
  obtain ⟨c, D, Q, V, h1, h2⟩ := h
  exact ⟨c, D, Q, V, h1.step hb, h2⟩
theorem Hv.open_ (h : Hv W0 w I q Lb G pr rd) {i : Int} (he : openSE G Lb i = 0) :
    Calls Tryz.prog 16 #[.pointer (some ⟨I.ss, 0, none⟩), .int .i64 i] w fun e w' => e = .returned (.int .i64 0) ∧ KeepB w w' ∧ ∃ s, s.ar = [] ∧ Hv W0 w' I q (chargeL Lb i 1) (putG G i s) pr rd := by
  obtain ⟨c, D, Q, V, h1, h2, h3⟩ := h
  refine (h1.open_ i).mono ?_
  rintro e w' ⟨rfl, hk, ⟨hne, _⟩ | ⟨_, hi, hG, s, c', hs, hst⟩⟩
  · exact absurd he hne
  · have hD : D i = none := by obtain ⟨W, Pb, _, hl⟩ := h1.bl; exact hl.none_ i hG
    rw [he]
    refine ⟨rfl, hk, s, hs, c', _, Q, V, hst, fun j r hr => ?_, fun j r y hr hy => ?_⟩
    · rw [prD_set, ← h2 j r hr]
      by_cases e : j = i
      · rw [if_pos e, e, prD_none hD]; rfl
      · rw [if_neg e]
    · rw [rdD_set, ← h3 j r y hr hy]
      by_cases e : j = i
      · rw [if_pos e, e, rdD_none hD]; simp [noF, z0]
      · rw [if_neg e]
theorem Hv.grow (h : Hv W0 w I q Lb G pr rd) {i : Int} {s : Pc} (hG : G i = some s) (x y : Int) (d : Bool) (hx : I64 x) (hy : I64 y) :
    Calls Tryz.prog 18 #[.pointer (some ⟨I.ss, 0, none⟩), .int .i64 i, .agg #[.int .i64 x, .int .i64 y, .bool d]] w fun e w' => ∃ er M, AddD s.ar (x, y, d) er M ∧ e = .returned (.int .i64 er) ∧ KeepB w w' ∧ (er ≠ 0 ∧ Hv W0 w' I q Lb G pr rd ∨ er = 0 ∧ ∃ s', s'.ar = M ∧ Hv W0 w' I q Lb (putG G i s') pr rd) := by
  obtain ⟨c, D, Q, V, h1, h2, h3⟩ := h
  refine (h1.grow hG x y d hx hy).mono ?_
  rintro e w' ⟨er, M, ha, rfl, hk, ⟨hne, hst⟩ | ⟨rfl, v, hst⟩⟩
  · exact ⟨er, M, ha, rfl, hk, Or.inl ⟨hne, c, D, Q, V, hst, h2, h3⟩⟩
  · exact ⟨0, M, ha, rfl, hk, Or.inr ⟨rfl, arS s v M, rfl, c, D, Q, V, hst, h2, h3⟩⟩
theorem Hv.carve (h : Hv W0 w I q Lb G pr rd) (id up n : Int) :
    Calls Tryz.prog 21 #[.pointer (some ⟨I.bb, 0, none⟩), .int .i64 id, .int .i64 up, .int .i64 n] w fun e w' => e = .returned (.int .i64 (openEU Lb id up n)) ∧ KeepB w w' ∧ Hv W0 w' I q (openL Lb id up n) G pr rd := by
  obtain ⟨c, D, Q, V, h1, h2, h3⟩ := h
  exact (h1.bl.carve id up n rfl).mono fun e w' ⟨he, hb, hk⟩ => ⟨he, hk, c, D, Q, V, ⟨hb, h1.j.carve id up n⟩, h2, h3⟩
/-- Pages of a process, after some of its are touched. -/
def orP (pr : Int → Nat → Bool) (i : Int) (L : List Nat) (j : Int) (r : Nat) : Bool := pr j r || (decide (j = i) && decide (r ∈ L))
def stR (rd : Int → Nat → Nat → Int) (i va x : Int) (j : Int) (r y : Nat) : Int := if j = i ∧ r = (va / 32).toNat ∧ y = (va % 32).toNat then x else rd j r y
def ldR (rd : Int → Nat → Nat → Int) (i va : Int) : Int := if va < 32768 then rd i (va / 32).toNat (va % 32).toNat else 0
theorem Hv.store (h : Hv W0 w I q Lb G pr rd) {i : Int} {s : Pc} (hG : G i = some s) (va x : Int) (hva : 0 ≤ va ∧ va < 4294967296) (hx : 0 ≤ x ∧ x < 4294967296) {er : Int} (her : reachP s.ar Lb (pr i) i va 1 true = er) :
    Calls Tryz.prog 60 #[.pointer (some ⟨I.ss, 0, none⟩), .int .i64 i, .int .u32 va, .int .u32 x] w fun e w' => e = .returned (.int .i64 er) ∧ KeepB w w' ∧ (er ≠ 0 → Hv W0 w' I q Lb G pr rd) ∧ (er = 0 → va < 32768 ∧ Hv W0 w' I q (chargeL Lb i (needP (pr i) (pgs va 1) : Int)) G (orP pr i (pgs va 1)) (stR rd i va x)) := by
  subst her
  obtain ⟨c, D, Q, V, h1, h2, h3⟩ := h
  obtain ⟨F, hD⟩ := h1.bl.hasD hG
  have hon : ∀ r, r < 1024 → onF F r = pr i r := fun r hr => by rw [← h2 i r hr, prD_some hD]
  have hA := (h1.bl.area hG).2
  refine (h1.store hG hD va x hva hx).mono ?_
  rw [reachE_P hA hon]
  rintro e w' ⟨rfl, c', D', Q', V', Lb', hst, hk, hn, hz⟩
  refine ⟨rfl, hk, fun hne => ?_, fun h0 => ?_⟩
  · obtain ⟨rfl, rfl, rfl, rfl, rfl⟩ := hn hne
    exact ⟨_, _, _, _, hst, h2, h3⟩
  · obtain ⟨⟨hs, hlt⟩, rfl⟩ := hz h0
    rw [reachE_need hA hon h0] at hst
    refine ⟨hlt, _, _, _, _, hst, fun j r hr => ?_, fun j r y hr hy => ?_⟩
    · rw [hs.pr j r hr, h2 j r hr]; unfold orP; rw [pgs_one]; simp
    · rw [hs.rd j r y hr hy]
      unfold stR
      split
      · rfl
      · exact h3 j r y hr hy
theorem Hv.load (h : Hv W0 w I q Lb G pr rd) {i : Int} {s : Pc} (hG : G i = some s) (va : Int) (hva : 0 ≤ va ∧ va < 4294967296) {er : Int} (her : reachP s.ar Lb (pr i) i va 1 false = er) :
    Calls Tryz.prog 28 #[.pointer (some ⟨I.ss, 0, none⟩), .int .i64 i, .int .u32 va] w fun e w' => e = .returned (.tuple #[.int .u32 (ldR rd i va), .int .i64 er]) ∧ KeepB w w' ∧ (er ≠ 0 → Hv W0 w' I q Lb G pr rd) ∧ (er = 0 → Hv W0 w' I q (chargeL Lb i (needP (pr i) (pgs va 1) : Int)) G (orP pr i (pgs va 1)) rd) := by
  subst her
  obtain ⟨c, D, Q, V, h1, h2, h3⟩ := h
  obtain ⟨F, hD⟩ := h1.bl.hasD hG
  have hon : ∀ r, r < 1024 → onF F r = pr i r := fun r hr => by rw [← h2 i r hr, prD_some hD]
  have hA := (h1.bl.area hG).2
  refine (h1.load hG hD va hva).mono ?_
  rw [reachE_P hA hon]
  rintro e w' ⟨rfl, c', D', Q', V', Lb', hst, hk, hn, hz⟩
  refine ⟨?_, hk, fun hne => ?_, fun h0 => ?_⟩
  · have : rdAt D V i va = ldR rd i va := by
      unfold rdAt ldR
      by_cases hv : va < 32768
      · rw [if_pos hv, if_pos hv]; exact h3 _ _ _ (by omega) (by omega)
      · rw [if_neg hv, if_neg hv]
    rw [this]
  · obtain ⟨rfl, rfl, rfl, rfl, rfl⟩ := hn hne
    exact ⟨_, _, _, _, hst, h2, h3⟩
  · obtain ⟨hs, rfl⟩ := hz h0
    rw [reachE_need hA hon h0] at hst
    refine ⟨_, _, _, _, hst, fun j r hr => ?_, fun j r y hr hy => ?_⟩
    · rw [hs.pr j r hr, h2 j r hr]; rfl
    · rw [hs.rd j r y hr hy]; exact h3 j r y hr hy
/-- What one sees behind a fork. -/
def fkP (pr : Int → Nat → Bool) (f t : Int) (j : Int) (r : Nat) : Bool := if j = t then pr f r else pr j r
def fkR (rd : Int → Nat → Nat → Int) (f t : Int) (j : Int) (r y : Nat) : Int := if j = t then rd f r y else rd j r y
theorem Hv.fork (h : Hv W0 w I q Lb G pr rd) (f t : Int) (h0 : forkE0 G Lb f t = 0) {p : Pc} (hGf : G f = some p) (hl : (usedN Lb f : Int) ≤ leftL Lb t) :
    Calls Tryz.prog 22 #[.pointer (some ⟨I.ss, 0, none⟩), .int .i64 f, .int .i64 t] w fun e w' => e = .returned (.int .i64 0) ∧ KeepB w w' ∧ ∃ s, s.ar = p.ar ∧ Hv W0 w' I q (chargeL Lb t (usedN Lb f : Int)) (putG G t s) (fkP pr f t) (fkR rd f t) := by
  obtain ⟨c, D, Q, V, h1, h2, h3⟩ := h
  obtain ⟨F, hD⟩ := h1.bl.hasD hGf
  have hu : usedN Lb f = costF F := by have := h1.j.bud f; rw [hD] at this; simpa [costD, ow0] using this
  refine (h1.fork f t h0 hGf hD).mono ?_
  rw [← hu]
  rintro e w' (⟨hlt, _⟩ | ⟨_, rfl, hk, _, _, s, c', D', Q', hs, hst, hd⟩)
  · exact absurd hlt (by omega)
  · refine ⟨rfl, hk, s, hs, c', D', Q', V, hst, fun j r hr => ?_, fun j r y hr hy => ?_⟩
    · rw [hd.pr j r hr, h2 f r hr, h2 j r hr]; rfl
    · rw [hd.rd j r y hr, h3 f r y hr hy, h3 j r y hr hy]; rfl
end
end Go.Proofs.YtkenipanpimolaaGreatDoor

/- What layer 16's sentinel does. Condition: the listed tables read as laid. -/
namespace Go.Proofs.YtkenipanpimolaaGreatDoor
open Go.RowKit Go.Maps
set_option maxRecDepth 100000

theorem withD_one (a : Ar) (p : Int) : atD [a] p = withD a (atD []) p := rfl
/-- One area, of none. -/
theorem addD_new {x y : Int} {d : Bool} {er : Int} {M : List Ar} (hf : FitD x y) (h : AddD [] (x, y, d) er M) : er = 0 ∧ M = [(x, y, d)] := by
  have hok : OkD [] := OkD.nil
  rcases h with ⟨hn, _⟩ | ⟨_, ⟨hn, _⟩ | ⟨_, ha⟩⟩
  · exact absurd ⟨hok, hf⟩ hn
  · exact absurd (fun p _ => rfl) hn
  · have hup : UpD [(x, y, d)] := ⟨fun z hz => by rw [List.mem_singleton.1 hz]; exact hf, by simp⟩
    exact ha.uniq (AnsD.few hup (withD_one _) (by simp)) fun _ => rfl
end Go.Proofs.YtkenipanpimolaaGreatDoor

/- The contracts of package space's Areas, with the copy of a slice of areas. Condition: the listed tables read as laid. -/
namespace Go.Proofs.YtkenipanpimolaaGreatDoor
open Go.RowKit Go.Maps
set_option maxRecDepth 100000

section
variable {W0 w : World} {I : SIx} {q c : Nat} {Q : Nat → Nat} {V : Nat → Nat → Int} {Lb : List Nd} {G : Int → Option Pc} {D : Int → Option Sp}
/-- How many areas a space has. -/
def lenA (G : Int → Option Pc) (i : Int) : Nat := if findSE G i = 0 then (match G i with | none => 0 | some s => s.ar.length) else 0
end
end Go.Proofs.YtkenipanpimolaaGreatDoor

/- More calls by what is seen; a page touched, set, drawn. Condition: the listed tables read as laid. -/
namespace Go.Proofs.YtkenipanpimolaaGreatDoor
open Go.RowKit Go.Maps
set_option maxRecDepth 100000

section
variable {A : List Ar} {Lb : List Nd} {b : Nat → Bool} {i va : Int}
theorem reach_one {wr : Bool} {k : Nat} (h0 : va < 32768) (hm : mayE (atD A ((va / 32).toNat : Int)) wr = 0) (hk : needP b [(va / 32).toNat] = k) (hc : chargeEU Lb i (k : Int) = 0) : reachP A Lb b i va 1 wr = 0 := by
  have h1 : mayL A wr [(va / 32).toNat] = 0 := by rw [mayL, if_pos hm]; rfl
  unfold reachP
  rw [if_neg (by omega), pgs_one, if_neg (fun h => h h1), hk, hc]
theorem need_in {p : Nat} (h : b p = true) : needP b [p] = 0 := by rw [needP, if_pos h]; rfl
theorem orP_in {pr : Int → Nat → Bool} {i : Int} {L : List Nat} {p : Nat} (h : p ∈ L) : orP pr i L i p = true := by unfold orP; simp [h]
end
section
variable {W0 w : World} {I : SIx} {q : Nat} {Lb : List Nd} {G : Int → Option Pc} {pr : Int → Nat → Bool} {rd : Int → Nat → Nat → Int}
theorem Hv.below (h : Hv W0 w I q Lb G pr rd) : Below W0.heap.size W0 w := by
  obtain ⟨c, D, Q, V, h1, _⟩ := h
  exact h1.bl.below
theorem Hv.grow1 (h : Hv W0 w I q Lb G pr rd) {i : Int} {s : Pc} (hG : G i = some s) (hs : s.ar = []) {x y : Int} (hf : FitD x y) (d : Bool) :
    Calls Tryz.prog 18 #[.pointer (some ⟨I.ss, 0, none⟩), .int .i64 i, .agg #[.int .i64 x, .int .i64 y, .bool d]] w fun e w' => e = .returned (.int .i64 0) ∧ KeepB w w' ∧ ∃ s', s'.ar = [(x, y, d)] ∧ Hv W0 w' I q Lb (putG G i s') pr rd := by
  have hf' := hf
  unfold FitD at hf'
  refine (h.grow hG x y d (by unfold I64; omega) (by unfold I64; omega)).mono ?_
  rintro e w' ⟨er, M, ha, rfl, hk, hz⟩
  rw [hs] at ha
  obtain ⟨rfl, rfl⟩ := addD_new hf ha
  rcases hz with ⟨hne, _⟩ | ⟨_, hz⟩
  · exact absurd rfl hne
  · exact ⟨rfl, hk, hz⟩
end
end Go.Proofs.YtkenipanpimolaaGreatDoor

/- Loads and stores on pages that are mapped. Condition: the listed tables read as laid. -/
namespace Go.Proofs.YtkenipanpimolaaGreatDoor
open Go.RowKit Go.Maps
set_option maxRecDepth 100000

theorem chargeL_zero (L : List Nd) (i : Int) : chargeL L i 0 = L := by
  unfold chargeL
  split
  · have : setU i 0 = id := by
      funext n
      unfold setU
      split
      · simp
      · rfl
    rw [this, List.map_id]
  · rfl
theorem orP_same {pr : Int → Nat → Bool} {i : Int} {L : List Nat} (h : ∀ p ∈ L, pr i p = true) : orP pr i L = pr := by
  funext j r
  unfold orP
  by_cases e : j = i ∧ r ∈ L
  · rw [e.1, h r e.2]; simp
  · have : (decide (j = i) && decide (r ∈ L)) = false := by
      rw [Bool.and_eq_false_iff]
      by_cases e1 : j = i
      · exact Or.inr (decide_eq_false fun e2 => e ⟨e1, e2⟩)
      · exact Or.inl (decide_eq_false e1)
    rw [this, Bool.or_false]
theorem ldR_is {rd : Int → Nat → Nat → Int} {i va x : Int} (h : va < 32768) (hx : rd i (va / 32).toNat (va % 32).toNat = x) : ldR rd i va = x := by unfold ldR; rw [if_pos h, hx]
section
variable {W0 w : World} {I : SIx} {q : Nat} {Lb : List Nd} {G : Int → Option Pc} {pr : Int → Nat → Bool} {rd : Int → Nat → Nat → Int}
theorem Hv.zero (h : Hv W0 w I q Lb G pr rd) {i : Int} {s : Pc} (hG : G i = some s) : chargeEU Lb i ((0 : Nat) : Int) = 0 := by
  obtain ⟨c, D, Q, V, h1, _⟩ := h
  obtain ⟨F, hD⟩ := h1.bl.hasD hG
  have hN := h1.j.there hD
  have h2 := h1.j.tree.leftL i
  refine chargeEU_zero.2 ⟨fitB_iff.2 ⟨h1.j.pid i F hD, by omega, by omega⟩, ?_, by omega⟩
  cases ha : atN i Lb with
  | none => exact absurd ha hN
  | some x => exact ⟨x, rfl⟩
theorem Hv.load0 (h : Hv W0 w I q Lb G pr rd) {i : Int} {s : Pc} (hG : G i = some s) {va x : Int} (hva : 0 ≤ va ∧ va < 32768) {d : Bool} (hm : atD s.ar ((va / 32).toNat : Int) = some d) (hp : pr i (va / 32).toNat = true) (hx : rd i (va / 32).toNat (va % 32).toNat = x) :
    Calls Tryz.prog 28 #[.pointer (some ⟨I.ss, 0, none⟩), .int .i64 i, .int .u32 va] w fun e w' => e = .returned (.tuple #[.int .u32 x, .int .i64 0]) ∧ KeepB w w' ∧ Hv W0 w' I q Lb G pr rd := by
  refine (h.load hG va (by omega) (er := 0) (reach_one hva.2 (by rw [hm]; unfold mayE; simp) (need_in hp) (h.zero hG))).mono ?_
  rintro e w' ⟨rfl, hk, _, hz⟩
  have := hz rfl
  rw [pgs_one, need_in hp, orP_same (fun p hp' => by rw [List.mem_singleton.1 hp']; exact hp)] at this
  rw [ldR_is hva.2 hx]
  exact ⟨rfl, hk, by rwa [show (((0 : Nat) : Int)) = 0 from rfl, chargeL_zero] at this⟩
theorem Hv.store0 (h : Hv W0 w I q Lb G pr rd) {i : Int} {s : Pc} (hG : G i = some s) {va x : Int} (hva : 0 ≤ va ∧ va < 32768) (hx : 0 ≤ x ∧ x < 4294967296) (hm : atD s.ar ((va / 32).toNat : Int) = some true) (hp : pr i (va / 32).toNat = true) :
    Calls Tryz.prog 60 #[.pointer (some ⟨I.ss, 0, none⟩), .int .i64 i, .int .u32 va, .int .u32 x] w fun e w' => e = .returned (.int .i64 0) ∧ KeepB w w' ∧ Hv W0 w' I q Lb G pr (stR rd i va x) := by
  refine (h.store hG va x (by omega) hx (er := 0) (reach_one hva.2 (by rw [hm]; rfl) (need_in hp) (h.zero hG))).mono ?_
  rintro e w' ⟨rfl, hk, _, hz⟩
  have := (hz rfl).2
  rw [pgs_one, need_in hp, orP_same (fun p hp' => by rw [List.mem_singleton.1 hp']; exact hp)] at this
  exact ⟨rfl, hk, by rwa [show (((0 : Nat) : Int)) = 0 from rfl, chargeL_zero] at this⟩
end
end Go.Proofs.YtkenipanpimolaaGreatDoor
