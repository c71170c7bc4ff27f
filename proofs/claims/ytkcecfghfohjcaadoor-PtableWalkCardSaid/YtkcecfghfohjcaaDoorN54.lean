/- The law PtableWalk: its walk. Condition: the listed tables read as laid. Written by tpl/gen_n54.py. -/
import Derived.Test.YtkcecfghfohjcaaDoorGU
namespace Go.Proofs.YtkcecfghfohjcaaDoor
open Go.RowKit Go.Maps
set_option maxRecDepth 100000
attribute [local irreducible] allF tabF plF mapB segN

/-- Where an address is, of a space as a function of pages. -/
def atW (F : Sp) (p q : Nat) (wr : Bool) : Int × Int × Int :=
  if hasB F (p / 32) = false then (0, 0, 2) else
  if (F p).1 = false then (0, 0, 3) else
  if wr = true ∧ (F p).2.2.1 = true then (0, 0, 5) else
  if wr = true ∧ (F p).2.1 = false then (0, 0, 4) else ((F p).2.2.2, (q : Int), 0)
theorem Inv.atE_ {n m : Nat} {L : List Int} {R : Nat → Nat} {S : Nat → Bool} {W : Nat → Option Sp} {O : Own} (h : Inv n m L R S W O) {r : Nat} {F : Sp} (hr : W r = some F) {p q : Nat} (hp : p < 1024) (hq : q < 32) (wr : Bool) : atE n L (r : Int) ((p : Int) * 32 + (q : Int)) wr = atW F p q wr := by
  have e1 : ((p : Int) * 32 + (q : Int)) / 32 = (p : Int) := by omega
  have e2 : ((p : Int) * 32 + (q : Int)) % 32 = (q : Int) := by omega
  have e3 : (p : Int) / 32 = ((p / 32 : Nat) : Int) := by omega
  have e4 : (p : Int) % 32 = ((p % 32 : Nat) : Int) := by omega
  unfold atE atW
  rw [if_neg (by omega), e1, e2]
  cases hh : hasB F (p / 32) with
  | false =>
    have h1 := h.no r F (p / 32) hr (by omega) hh
    have : pageE n L (r : Int) (p : Int) = (z0, 2) := by unfold pageE; rw [e3, h1]; rfl
    rw [this]; rfl
  | true =>
    obtain ⟨g, hg, ho, h1, h2⟩ := h.yes r F (p / 32) hr (by omega) hh
    have h3 := h2 (p % 32) (by omega)
    rw [show 32 * (p / 32) + p % 32 = p by omega] at h3
    have : pageE n L (r : Int) (p : Int) = if (F p).1 = false then (z0, 3) else (F p, 0) := by
      unfold pageE
      rw [e3, h1]
      simp only [Bool.true_eq_false, if_false]
      rw [e4, h3]
    rw [this]
    cases hf : (F p).1 with
    | false => simp
    | true => simp
theorem Sys.at_ {W0 w : World} {tb sb n m c : Nat} {X : PIx} {W : Nat → Option Sp} (h : Sys W0 w tb sb X n m c W) {r : Nat} {F : Sp} (hr : W r = some F) {p q : Nat} (hp : p < 1024) (hq : q < 32) (wr : Bool) {a b f : Int} (he : atW F p q wr = (a, b, f)) :
    Calls Tryd.prog 27 #[.pointer (some ⟨X.mp, 0, none⟩), .int .i64 (r : Int), .int .u32 ((p : Int) * 32 + (q : Int)), .bool wr] w fun e w' => e = .returned (.tuple #[.int .i64 a, .int .i64 b, .int .u8 f]) ∧ Below w.heap.size w w' := by
  obtain ⟨L, R, S, O, k1, k2, k3⟩ := h.ex
  have h1 := at_mem X.mp X.fb X.n L (r : Int) ((p : Int) * 32 + (q : Int)) wr w k1.tabW k1.wd k1.own.st.mem (by omega)
  rw [h.hn, k2.atE_ hr hp hq wr, he] at h1
  exact h1
/-- What the law asks, of what a page holds. -/
theorem atW_says {W : Nat → Option Sp} {r : Nat} {F : Sp} (hr : W r = some F) {p : Nat} (hp : p < 1024) (q : Nat) {ep ex ek : Bool} {eg : Int} (he : unmE' W (r : Int) (p : Int) = (ep, ex, ek, eg)) {is : Bool} (hi : decide (unmErr W (r : Int) (p : Int) = 0) = is) {a b f c d g : Int} (h1 : atW F p q false = (a, b, f)) (h2 : atW F p q true = (c, d, g)) :
    (is = false ∧ ek = false ∧ ex = false ∧ (f = 2 ∨ f = 3) ∧ g = f) ∨ (is = true ∧ f = 0 ∧ a = eg ∧ b = (q : Int) ∧ ((ek = true ∧ g = 5) ∨ (ek = false ∧ ex = false ∧ g = 4) ∨ (ek = false ∧ ex = true ∧ g = 0 ∧ c = a ∧ d = b))) := by
  have hs : spOf W (r : Int) = some F := by rw [spOf_nat, hr]
  have hu := unmErr_in hs hp
  cases hf : (F p).1 with
  | false =>
    rw [hf] at hu
    have e1 : unmErr W (r : Int) (p : Int) ≠ 0 := by rw [hu]; decide
    have e2 : unmE' W (r : Int) (p : Int) = z0 := by unfold unmE'; rw [if_neg e1]
    rw [e2] at he
    simp only [z0, Prod.mk.injEq] at he
    obtain ⟨-, rfl, rfl, -⟩ := he
    refine Or.inl ⟨by rw [← hi]; exact decide_eq_false e1, rfl, rfl, ?_⟩
    unfold atW at h1 h2
    rw [hf] at h1 h2
    cases hh : hasB F (p / 32) with
    | false => rw [hh] at h1 h2; simp at h1 h2; omega
    | true => rw [hh] at h1 h2; simp at h1 h2; omega
  | true =>
    rw [hf, if_pos rfl] at hu
    have e2 := (unm_in hs hp hf).2
    rw [he] at e2
    have hh := hasB_of hf
    have e3 : (F p).2.1 = ex := by rw [← e2]
    have e4 : (F p).2.2.1 = ek := by rw [← e2]
    have e5 : (F p).2.2.2 = eg := by rw [← e2]
    unfold atW at h1 h2
    rw [hf, hh, e3, e4, e5] at h1 h2
    have hi' : is = true := by rw [← hi]; exact decide_eq_true hu
    cases ek with
    | true => simp at h1 h2; exact Or.inr ⟨hi', by omega, by omega, by omega, Or.inl ⟨rfl, by omega⟩⟩
    | false =>
      cases ex with
      | false => simp at h1 h2; exact Or.inr ⟨hi', by omega, by omega, by omega, Or.inr (Or.inl ⟨rfl, rfl, by omega⟩)⟩
      | true => simp at h1 h2; exact Or.inr ⟨hi', by omega, by omega, by omega, Or.inr (Or.inr ⟨rfl, rfl, by omega, by omega, by omega⟩)⟩
set_option maxHeartbeats 1000000 in
theorem walk_far (n pg qt : Int) (q c : Nat) (s : Option Addr) (W : World) (h : n < 1 ∨ (1 ≤ n ∧ 30 < n) ∨ (1 ≤ n ∧ n ≤ 30 ∧ 100 < q) ∨ (1 ≤ n ∧ n ≤ 30 ∧ q ≤ 100 ∧ pg < 0) ∨ (1 ≤ n ∧ n ≤ 30 ∧ q ≤ 100 ∧ 0 ≤ pg ∧ 1023 < pg) ∨ (1 ≤ n ∧ n ≤ 30 ∧ q ≤ 100 ∧ 0 ≤ pg ∧ pg ≤ 1023 ∧ qt < 0) ∨ (1 ≤ n ∧ n ≤ 30 ∧ q ≤ 100 ∧ 0 ≤ pg ∧ pg ≤ 1023 ∧ 0 ≤ qt ∧ 31 < qt)) (hL : LaidN W) : Calls Tryd.prog 5 #[.int .i64 n, .slice s q c, .int .i64 pg, .int .i64 qt] W fun e w' => e = .returned (.bool true) ∧ Below W.heap.size W w' := by
  have HL := Lib.hid hL
  clear hL
  rcases h with h | ⟨h1, h⟩ | ⟨h1, h2, h⟩ | ⟨h1, h2, h3, h⟩ | ⟨h1, h2, h3, h4, h⟩ | ⟨h1, h2, h3, h4, h5, h⟩ | ⟨h1, h2, h3, h4, h5, h6, h⟩
  · have d0 : decide (n < 1) = true := decide_eq_true (by omega)
    go_enter Tryd.func5, Tryd.ntmps5
    go_wp2_with (go_at_call 9; refine (awake10 _ HL.out.lq HL.out.lw).mono ?_; rintro e w2 ⟨rfl, hb⟩; have B := Lib.hid hb; clear hb)
    go_ret
    exact ⟨rfl, B.out⟩
  · have d0 : decide (n < 1) = false := decide_eq_false (by omega)
    have d1 : decide (30 < n) = true := decide_eq_true (by omega)
    go_enter Tryd.func5, Tryd.ntmps5
    go_wp2_with (go_at_call 9; refine (awake10 _ HL.out.lq HL.out.lw).mono ?_; rintro e w2 ⟨rfl, hb⟩; have B := Lib.hid hb; clear hb)
    go_ret
    exact ⟨rfl, B.out⟩
  · have d0 : decide (n < 1) = false := decide_eq_false (by omega)
    have d1 : decide (30 < n) = false := decide_eq_false (by omega)
    have d2 : decide (100 < (q : Int)) = true := decide_eq_true (by omega)
    have d2' : decide (100 < q) = true := decide_eq_true (by omega)
    go_enter Tryd.func5, Tryd.ntmps5
    go_wp2_with (go_at_call 9; refine (awake10 _ HL.out.lq HL.out.lw).mono ?_; rintro e w2 ⟨rfl, hb⟩; have B := Lib.hid hb; clear hb)
    go_ret
    exact ⟨rfl, B.out⟩
  · have d0 : decide (n < 1) = false := decide_eq_false (by omega)
    have d1 : decide (30 < n) = false := decide_eq_false (by omega)
    have d2 : decide (100 < (q : Int)) = false := decide_eq_false (by omega)
    have d2' : decide (100 < q) = false := decide_eq_false (by omega)
    have d3 : decide (pg < 0) = true := decide_eq_true (by omega)
    go_enter Tryd.func5, Tryd.ntmps5
    go_wp2_with (go_at_call 9; refine (awake10 _ HL.out.lq HL.out.lw).mono ?_; rintro e w2 ⟨rfl, hb⟩; have B := Lib.hid hb; clear hb)
    go_ret
    exact ⟨rfl, B.out⟩
  · have d0 : decide (n < 1) = false := decide_eq_false (by omega)
    have d1 : decide (30 < n) = false := decide_eq_false (by omega)
    have d2 : decide (100 < (q : Int)) = false := decide_eq_false (by omega)
    have d2' : decide (100 < q) = false := decide_eq_false (by omega)
    have d3 : decide (pg < 0) = false := decide_eq_false (by omega)
    have d4 : decide (1023 < pg) = true := decide_eq_true (by omega)
    go_enter Tryd.func5, Tryd.ntmps5
    go_wp2_with (go_at_call 9; refine (awake10 _ HL.out.lq HL.out.lw).mono ?_; rintro e w2 ⟨rfl, hb⟩; have B := Lib.hid hb; clear hb)
    go_ret
    exact ⟨rfl, B.out⟩
  · have d0 : decide (n < 1) = false := decide_eq_false (by omega)
    have d1 : decide (30 < n) = false := decide_eq_false (by omega)
    have d2 : decide (100 < (q : Int)) = false := decide_eq_false (by omega)
    have d2' : decide (100 < q) = false := decide_eq_false (by omega)
    have d3 : decide (pg < 0) = false := decide_eq_false (by omega)
    have d4 : decide (1023 < pg) = false := decide_eq_false (by omega)
    have d5 : decide (qt < 0) = true := decide_eq_true (by omega)
    go_enter Tryd.func5, Tryd.ntmps5
    go_wp2_with (go_at_call 9; refine (awake10 _ HL.out.lq HL.out.lw).mono ?_; rintro e w2 ⟨rfl, hb⟩; have B := Lib.hid hb; clear hb)
    go_ret
    exact ⟨rfl, B.out⟩
  · have d0 : decide (n < 1) = false := decide_eq_false (by omega)
    have d1 : decide (30 < n) = false := decide_eq_false (by omega)
    have d2 : decide (100 < (q : Int)) = false := decide_eq_false (by omega)
    have d2' : decide (100 < q) = false := decide_eq_false (by omega)
    have d3 : decide (pg < 0) = false := decide_eq_false (by omega)
    have d4 : decide (1023 < pg) = false := decide_eq_false (by omega)
    have d5 : decide (qt < 0) = false := decide_eq_false (by omega)
    have d6 : decide (31 < qt) = true := decide_eq_true (by omega)
    go_enter Tryd.func5, Tryd.ntmps5
    go_wp2_with (go_at_call 9; refine (awake10 _ HL.out.lq HL.out.lw).mono ?_; rintro e w2 ⟨rfl, hb⟩; have B := Lib.hid hb; clear hb)
    go_ret
    exact ⟨rfl, B.out⟩
/-- Where a round of the script begins. -/
def WalkRel (W : World) (tb sb : Nat) (X : PIx) (m base wb lb n : Nat) (i : Value) (wr : World) : Prop :=
  ∃ (j c q : Nat) (Wf : Nat → Option Sp) (D : List Nat), i = .int .i64 (j : Int) ∧ j ≤ n ∧ q ≤ j ∧ D.length ≤ j ∧ PlSt W wr tb sb X m base wb lb Wf c Wf c q D
def WalkRel2 (w7 : World) (q : Nat) (i : Value) (wr : World) : Prop := ∃ j : Nat, i = .int .i64 (j : Int) ∧ j ≤ q ∧ Below w7.heap.size w7 wr
set_option maxHeartbeats 4000000 in
theorem walk_in (m : Nat) (L : List Op10) (n cc : Nat) (aa : Option Addr) (pn qn : Nat) (W : World) (hm1 : 1 ≤ m) (hm30 : m ≤ 30) (hn : n = L.length) (hn100 : n ≤ 100) (hpn : pn < 1024) (hqn : qn < 32) (hv : ArgOps10 W (.slice aa n cc) L) (hL : LaidN W) : Calls Tryd.prog 5 #[.int .i64 (m : Int), .slice aa n cc, .int .i64 (pn : Int), .int .i64 (qn : Int)] W fun e w' => e = .returned (.bool true) ∧ Below W.heap.size W w' := by
  have HL := Lib.hid hL
  have HV := Lib.hid hv
  have HN := Lib.hid hn
  have d0 : decide ((m : Int) < 1) = false := decide_eq_false (by omega)
  have d0' : decide (m < 1) = false := decide_eq_false (by omega)
  have d1 : decide (30 < (m : Int)) = false := decide_eq_false (by omega)
  have d1' : decide (30 < m) = false := decide_eq_false (by omega)
  have d2 : decide (100 < (n : Int)) = false := decide_eq_false (by omega)
  have d2' : decide (100 < n) = false := decide_eq_false (by omega)
  have d3 : decide ((pn : Int) < 0) = false := decide_eq_false (by omega)
  have d4 : decide (1023 < (pn : Int)) = false := decide_eq_false (by omega)
  have d4' : decide (1023 < pn) = false := decide_eq_false (by omega)
  have d5 : decide ((qn : Int) < 0) = false := decide_eq_false (by omega)
  have d6 : decide (31 < (qn : Int)) = false := decide_eq_false (by omega)
  have d6' : decide (31 < qn) = false := decide_eq_false (by omega)
  have dm : IntKind.i64.wrap ((m : Int) + 2) = ((m + 2 : Nat) : Int) := (IntWalk.i64_in _ (by omega)).trans (by omega)
  clear hL hv hn
  go_enter Tryd.func5, Tryd.ntmps5
  go_wp2_with fail
  refine (made_sys m W (by omega) (by omega) HL.out.lq HL.out.lw).mono ?_
  rintro e w1 ⟨tb, sb, X, rfl, hs⟩
  have S1 := Lib.hid hs
  clear hs d0 d0' d1 d1' d2 d2' d3 d4 d4' d5 d6 d6'
  go_wp2_with fail
  obtain ⟨w2, hw2⟩ : ∃ w2, w2 = (w1.alloc (.cells #[.slice none 0 0, .int .i64 ((m : Int) + 2), .int .i64 (m : Int)] 31)).alloc (.cells #[.slice none 0 0] 32) := ⟨_, rfl⟩
  have K0 : Hid (PlSt W w2 tb sb X m w1.heap.size w1.heap.size (w1.heap.size + 1) (fun _ => none) m (fun _ => none) m 0 []) := Lib.hid (by
    have e2 : ((m + 2 : Nat) : Int) = (m : Int) + 2 := by omega
    exact S1.out.begin_ (by rw [hw2]; exact below_two w1 _ _) (by rw [hw2, e2]; exact heap_alloc2_old w1 _ _) (by rw [hw2]; exact heap_alloc2_new w1 _ _) (Nat.le_refl _) (Nat.le_succ _))
  rw [← hw2]
  obtain ⟨base, hbase⟩ : ∃ base, base = w1.heap.size := ⟨_, rfl⟩
  rw [← hbase] at K0 ⊢
  obtain ⟨lb, hlb⟩ : ∃ lb, lb = base + 1 := ⟨_, rfl⟩
  rw [← hlb] at K0 ⊢
  obtain ⟨wb, hwb⟩ : ∃ wb, wb = base := ⟨_, rfl⟩
  have K1 : Hid (PlSt W w2 tb sb X m base wb lb (fun _ => none) m (fun _ => none) m 0 []) := Lib.hid (by rw [hwb]; exact K0.out)
  rw [← hwb]
  clear hbase hlb hwb hw2 S1 K0 dm
  go_loopw [15] (fun i wr => WalkRel W tb sb X m base wb lb n i wr) (fun i _ => (n - (intOf i).toNat))
  case atStart => exact ⟨0, m, 0, _, [], rfl, Nat.zero_le _, Nat.le_refl _, Nat.le_refl _, K1.out⟩
  case round =>
    obtain ⟨j, c, q, Wf, D, rfl, hj, hqj, hDj, hP⟩ := hrel
    have P0 := Lib.hid hP
    clear hP K1
    by_cases hlt : j < n
    · obtain ⟨bb, o, d, s, pg, ep, ex, ek, eg, rfl, hbl, ipg, hCB⟩ := HV.out.at_ HN.out hlt
      have CB := Lib.hid hCB
      have IPG := Lib.hid ipg
      have HBL := Lib.hid hbl
      clear hCB ipg hbl
      obtain ⟨y0, y1, y2, y3, y4, y5, y6⟩ := CB.out wr P0.out.sys.below
      go_wp2_with (go_at_call 11; refine (play_ok P0.out (by omega) (by omega) (by omega) d s pg ep ex ek eg IPG.out).mono ?_; rintro e w5 ⟨rfl, Wf5, c5, q5, D5, h5, hq5, hD5⟩; have P5 := Lib.hid h5; have HQ5 := Lib.hid hq5; have HD5 := Lib.hid hD5; clear h5 hq5 hD5)
      go_roundw
      case rel => exact ⟨j + 1, c5, q5, Wf5, D5, by go_num, by omega, by have := HQ5.out; omega, by have := HD5.out; omega, P5.out⟩
      case measure => simp [intOf]; omega
    · obtain rfl : j = n := by omega
      obtain ⟨w4, hw4⟩ : ∃ w4, w4 = wr := ⟨_, rfl⟩
      subst hw4
      obtain ⟨a6, cc6, K6, hR6, hM6, hU6, hq6⟩ := P0.out.ref
      obtain ⟨k6, hk6⟩ : ∃ k6, k6 = K6.length := ⟨_, rfl⟩
      have HK6 := Lib.hid hk6
      have M6 := Lib.hid hM6
      have R6 := Lib.hid hR6
      have hk100 : k6 ≤ 100 := by omega
      have CW : Hid (∀ V, Below w4.heap.size w4 V → V.cell? ⟨wb, 0, none⟩ = some (.slice a6 k6 cc6)) := Lib.hid fun V hV => by rw [hk6]; exact (cells3 (hR6.step hV).box).1
      clear hR6 hM6 hU6 hq6 hk6 hlt
      go_wp2_with fail
      go_loopw [16] (fun i w' => WalkRel2 w4 k6 i w') (fun i _ => (k6 - (intOf i).toNat))
      case atStart => exact ⟨0, rfl, Nat.zero_le _, Below.refl _ _⟩
      case round =>
        obtain ⟨i, rfl, hi, hB⟩ := hrel
        have BB := Lib.hid hB
        have y0 := CW.out wr hB
        clear hB
        by_cases hlt2 : i < k6
        · obtain ⟨⟨r, F, u⟩, hy⟩ : ∃ y, K6.getD i default = y := ⟨_, rfl⟩
          have hik : i < K6.length := by rw [← HK6.out]; exact hlt2
          have hw := M6.out.has i hik
          rw [hy] at hw
          simp only at hw
          have hrm : r < m := by
            obtain ⟨L, R, S, O, k1, k2, k3⟩ := P0.out.sys.ex
            exact (k2.root r F hw).1
          have IR : Hid (I64 (r : Int)) := Lib.hid ⟨by omega, by omega⟩
          have HW := Lib.hid hw
          obtain ⟨bL, rfl, hbl, hc1, hc2, hmp⟩ := (show SpV w4 (.slice a6 k6 cc6) K6 by rw [HK6.out]; exact R6.out.spv).at_ HK6.out hlt2 hy
          have RA := Lib.hid ((R6.out.step BB.out).box)
          have hikI : (i : Int) < (k6 : Int) := by omega
          have y1 : wr.cell? ⟨bL, i * 2, none⟩ = some (.int .i64 (r : Int)) := (BB.out.cell (p := ⟨bL, _, none⟩) hbl).trans hc1
          have SPV := Lib.hid (show SpV wr (.slice (some ⟨bL, 0, none⟩) k6 cc6) K6 by rw [HK6.out]; exact (R6.out.step BB.out).spv)
          obtain ⟨x0, x1, x2⟩ := cells3 RA.out
          rw [← HK6.out] at x0
          obtain ⟨⟨ep, ex, ek, eg⟩, hue⟩ : ∃ u, unmE' Wf (r : Int) (pn : Int) = u := ⟨_, rfl⟩
          obtain ⟨is, his⟩ : ∃ is, decide (unmErr Wf (r : Int) (pn : Int) = 0) = is := ⟨_, rfl⟩
          obtain ⟨⟨a, b, f⟩, hA1⟩ : ∃ t, atW F pn qn false = t := ⟨_, rfl⟩
          obtain ⟨⟨c', d', g'⟩, hA2⟩ : ∃ t, atW F pn qn true = t := ⟨_, rfl⟩
          have SAYS := Lib.hid (atW_says hw hpn qn hue his hA1 hA2)
          have HUE := Lib.hid hue
          have HIS := Lib.hid his
          have HA1 := Lib.hid hA1
          have HA2 := Lib.hid hA2
          have w1' : IntKind.i64.wrap ((pn : Int) * 32) = (pn : Int) * 32 := IntWalk.i64_in _ (by omega)
          have w2' : IntKind.i64.wrap ((pn : Int) * 32 + (qn : Int)) = (pn : Int) * 32 + (qn : Int) := IntWalk.i64_in _ (by omega)
          have w3' : IntKind.u32.wrap ((pn : Int) * 32 + (qn : Int)) = (pn : Int) * 32 + (qn : Int) := IntWalk.u32_in _ (by omega)
          clear hw hy hc1 hc2 hmp hue his hA1 hA2 hik
          go_wp2_with fail
          refine (rquery_ok Wf K6 _ k6 cc6 (m + 2) m (r : Int) (pn : Int) wr HK6.out hk100 SPV.out M6.out HUE.out).mono ?_
          rw [HIS.out]
          rintro e w5 ⟨rfl, hb⟩
          obtain ⟨w6, hw6⟩ : ∃ w6, w6 = w5.alloc (.cells #[.bool ep, .bool ex, .bool ek, .int .i64 eg] 37) := ⟨_, rfl⟩
          have B5 := Lib.hid (BB.out.trans (hb.mono BB.out.size))
          have A6 : Hid (Below w5.heap.size w5 w6) := Lib.hid (by rw [hw6]; exact (Below.refl _ _).alloc (Nat.le_refl _) _)
          have E6 : Hid (w6.heap[w5.heap.size]? = some (entO (ep, ex, ek, eg))) := Lib.hid (by rw [hw6]; exact heap_alloc_new w5 _)
          have B6 := Lib.hid (B5.out.trans (A6.out.mono B5.out.size))
          clear hb y1 x0 x1 x2 y0
          go_wp2_with fail
          rw [← hw6]
          clear hw6
          obtain ⟨b5, hb5⟩ : ∃ b5, b5 = w5.heap.size := ⟨_, rfl⟩
          rw [← hb5] at E6 ⊢
          clear hb5
          refine ((P0.out.step B6.out).sys.at_ HW.out hpn hqn false HA1.out).mono ?_
          rintro e w7 ⟨rfl, hb⟩
          have B7 := Lib.hid (B6.out.trans (hb.mono B6.out.size))
          have E7 := Lib.hid (below_block hb E6.out)
          clear hb
          go_wp2_with fail
          refine ((P0.out.step B7.out).sys.at_ HW.out hpn hqn true HA2.out).mono ?_
          rintro e w8 ⟨rfl, hb⟩
          have B8 := Lib.hid (B7.out.trans (hb.mono B7.out.size))
          have E8 := Lib.hid (below_block hb E7.out)
          clear hb w1' w2' w3'
          obtain ⟨n0, n1, n2, n3⟩ := cells4 E8.out
          simp only at n0 n1 n2 n3
          rcases SAYS.out with ⟨rfl, rfl, rfl, rfl | rfl, rfl⟩ | ⟨rfl, rfl, rfl, rfl, ⟨rfl, rfl⟩ | ⟨rfl, rfl, rfl⟩ | ⟨rfl, rfl, rfl, rfl, rfl⟩⟩
          all_goals
            go_wp2_with fail
            go_roundw
            case rel => exact ⟨i + 1, by go_num, by omega, B8.out⟩
            case measure => simp [intOf]; omega
        · obtain rfl : i = k6 := by omega
          have P9 := Lib.hid (P0.out.step BB.out)
          go_wp2_with (go_at_call 9; refine (awake10 _ (HL.out.lq.below P9.out.sys.below) (HL.out.lw.below P9.out.sys.below)).mono ?_; rintro e w9 ⟨rfl, hb⟩; have B9 := Lib.hid (P9.out.sys.below.trans (hb.mono P9.out.sys.below.size)); clear hb)
          go_ret
          exact ⟨rfl, B9.out⟩
theorem ptableWalk_walk (n : Int) (v : Value) (L : List Op10) (pg qt : Int) (W : World) (_ : I64 n) (hv : ArgOps10 W v L) (_ : I64 pg) (_ : I64 qt) (hL : LaidN W) : Calls Tryd.prog 5 #[.int .i64 n, v, .int .i64 pg, .int .i64 qt] W fun e w' => e = .returned (.bool true) ∧ Below W.heap.size W w' := by
  have hv' := hv
  obtain ⟨a, c, rfl, _⟩ := hv
  by_cases h : 1 ≤ n ∧ n ≤ 30 ∧ L.length ≤ 100 ∧ 0 ≤ pg ∧ pg < 1024 ∧ 0 ≤ qt ∧ qt < 32
  · obtain ⟨h1, h2, h3, h4, h5, h6, h7⟩ := h
    obtain ⟨m, rfl⟩ := Int.eq_ofNat_of_zero_le (show 0 ≤ n by omega)
    obtain ⟨p, rfl⟩ := Int.eq_ofNat_of_zero_le h4
    obtain ⟨q, rfl⟩ := Int.eq_ofNat_of_zero_le h6
    exact walk_in m L L.length c a p q W (by omega) (by omega) rfl h3 (by omega) (by omega) hv' hL
  · exact walk_far n pg qt L.length c a W (by omega) hL
end Go.Proofs.YtkcecfghfohjcaaDoor
