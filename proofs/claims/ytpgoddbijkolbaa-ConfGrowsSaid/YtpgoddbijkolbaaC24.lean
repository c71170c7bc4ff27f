/- The walk of ConfGrows. Condition: the configuration lies as it came in. Written by gen/gen_c24.py. -/
import Derived.Test.YtpgoddbijkolbaaC22
import Derived.StillTailTactics
namespace Go.Proofs.Ytpgoddbijkolbaa
open Go.RowKit
set_option maxRecDepth 100000

theorem own_set {w : World} {base k g n cap j : Nat} {e : TypeId} {xs : List Value} (h : w.ownsRow base e k (.slice (some ⟨g, 0, none⟩) n cap) n xs) (u : Value) : (w.setCell ⟨g, j, none⟩ u).ownsRow base e k (.slice (some ⟨g, 0, none⟩) n cap) n (xs.set j u) := by
  rcases h.2 with ⟨h0, _⟩ | ⟨g', cap', cur, hv, hb, hg, h1, h2, h3, h4⟩
  · simp at h0
  · simp only [Value.slice.injEq, Option.some.injEq, Addr.mk.injEq] at hv
    obtain ⟨⟨rfl, -, -⟩, -, rfl⟩ := hv
    refine ⟨by rw [List.length_set]; exact h.1, Or.inr ⟨g, cap, cur.setIfInBounds j u, rfl, hb, heap_setCell_same w g j _ _ u hg, h1, h2, by simpa using h3, ?_⟩⟩
    rw [Array.toList_setIfInBounds, List.take_set, h4]
theorem flatV_set (S : List Row) (i : Nat) (x y z : Int) (hT : ∀ T ∈ S, T.length = 2) (hi : i < S.length) (hr : S.getD i [] = [x, y]) : flatV (S.set i [z, y]) = (flatV S).set (i * 2) (.int .i64 z) := by
  have hT' : ∀ T ∈ S.set i [z, y], T.length = 2 := fun T h => by
    rcases List.mem_or_eq_of_mem_set h with h | h
    · exact hT T h
    · rw [h]; rfl
  have l1 := flatV_length 2 S hT
  have l2 := flatV_length 2 _ hT'
  rw [List.length_set] at l2
  apply List.ext_getElem?
  intro m
  by_cases hm : m < S.length * 2
  · have hq : m / 2 < S.length := by omega
    have g1 := flatV_get 2 S hT (m / 2) hq (m % 2) (by omega)
    have g2 := flatV_get 2 _ hT' (m / 2) (by rw [List.length_set]; exact hq) (m % 2) (by omega)
    rw [show m / 2 * 2 + m % 2 = m by omega] at g1 g2
    rw [g2, List.getElem?_set]
    by_cases he : i = m / 2
    · have e1 : (S.set i [z, y]).getD (m / 2) [] = [z, y] := by rw [← he]; simp [List.getD_eq_getElem?_getD, hi]
      rw [e1]
      rw [← he, hr] at g1
      by_cases hz : m % 2 = 0
      · rw [if_pos (by omega), if_pos (by omega), hz]; rfl
      · have h1 : m % 2 = 1 := by omega
        rw [if_neg (by omega), g1, h1]; rfl
    · have e1 : (S.set i [z, y]).getD (m / 2) [] = S.getD (m / 2) [] := by simp [List.getD_eq_getElem?_getD, he]
      rw [e1, if_neg (by omega), g1]
  · rw [List.getElem?_eq_none (by omega), List.getElem?_eq_none (by rw [List.length_set]; omega)]
theorem sum_set (f : Row → Int) (T : Row) : ∀ (S : List Row) (i : Nat), i < S.length → ((S.set i T).map f).sum = (S.map f).sum - f (S.getD i []) + f T
  | [], i, h => by simp at h
  | U :: S, 0, _ => by simp; omega
  | U :: S, i + 1, h => by
    have := sum_set f T S i (by simpa using h)
    simp only [List.set_cons_succ, List.map_cons, List.sum_cons, List.getD_cons_succ]
    omega
theorem rows_news {w : World} {a : Option Addr} {n c : Nat} {S : List Row} (h : RowsAt 2 w (.slice a n c) S) (hn : 0 < n) : ∃ ad : Addr, a = some ad ∧ ∀ j u, (flatV S)[j]? = some u → w.cell? (ad.add j) = some u := by
  obtain ⟨a', c', hq, _, hT, hS⟩ := h
  obtain ⟨e1, e2, -⟩ := Value.slice.inj hq
  subst e1
  obtain ⟨b, o, rfl, hlt, hc⟩ := hS.resolve_left (by intro e; rw [e] at e2; simp at e2; omega)
  refine ⟨_, rfl, fun j u hu => ?_⟩
  have l1 := flatV_length 2 S hT
  have hj : j < S.length * 2 := by
    rcases Nat.lt_or_ge j (flatV S).length with h | h
    · omega
    · rw [List.getElem?_eq_none h] at hu; cases hu
  have g1 := flatV_get 2 S hT (j / 2) (by omega) (j % 2) (by omega)
  rw [show j / 2 * 2 + j % 2 = j by omega, hu] at g1
  have := hc (j / 2) (by omega) (j % 2) (by omega)
  rw [show o + j / 2 * 2 + j % 2 = o + j by omega] at this
  rw [show (⟨b, o, none⟩ : Addr).add j = ⟨b, o + j, none⟩ by unfold Addr.add; split <;> simp_all]
  rw [this, g1]
theorem flatV_one (S : List Row) : ∀ u ∈ flatV S, u.oneCell' = true := by
  intro u hu
  simp only [flatV, List.mem_flatMap, List.mem_map] at hu
  obtain ⟨T, _, x, _, rfl⟩ := hu
  rfl
theorem own_some {w : World} {base k n : Nat} {e : TypeId} {v : Value} {xs : List Value} (h : w.ownsRow base e k v n xs) (hn : 0 < n) : ∃ g cap cur, v = .slice (some ⟨g, 0, none⟩) n cap ∧ base ≤ g ∧ w.heap[g]? = some (.cells cur e (0, 0)) := by
  rcases h.2 with ⟨_, h0⟩ | ⟨g, cap, cur, hv, hb, hg, _⟩
  · omega
  · exact ⟨g, cap, cur, hv, hb, hg⟩
theorem own_plain {w : World} {base k n : Nat} {e : TypeId} {v : Value} {xs : List Value} (h : w.ownsRow base e k v n ([] ++ xs)) : w.ownsRow base e k v n xs := h
theorem own_block {w : World} {base k n m g cap : Nat} {e : TypeId} {xs : List Value} (h : w.ownsRow base e k (.slice (some ⟨g, 0, none⟩) m cap) n xs) (hn : 0 < n) : ∃ (_ : Nat) (cur : Array Value), w.heap[g]? = some (.cells cur e (0, 0)) := by
  obtain ⟨g', cap', cur, hv, _, hg⟩ := own_some h hn
  simp only [Value.slice.injEq, Option.some.injEq, Addr.mk.injEq] at hv
  obtain ⟨⟨rfl, -, -⟩, -, -⟩ := hv
  exact ⟨0, cur, hg⟩
/-- What a frame more of a quota does. -/
theorem grow_facts {P W H : List Row} {i : Nat} {x y : Int} (hk : chk (P, W, H) = 0) (hi : i < P.length) (hr : P.getD i [] = [x, y]) :
    (4 ≤ x ∧ x ≤ 256) ∧ (0 ≤ framesA (P, W, H) ∧ framesA (P, W, H) ≤ 1024) ∧
    ((x = 256 ∧ chk (P.set i [x + 1, y], W, H) = 2) ∨ (x < 256 ∧ framesA (P.set i [x + 1, y], W, H) = framesA (P, W, H) + 1 ∧ ((chk (P.set i [x + 1, y], W, H) = 0 ∧ framesA (P, W, H) + 1 ≤ 1024) ∨ (chk (P.set i [x + 1, y], W, H) = 3 ∧ ¬ framesA (P, W, H) + 1 ≤ 1024)) ∧ decide ((P, W, H) = (P.set i [x + 1, y], W, H)) = false)) := by
  obtain ⟨hm, hf⟩ := chk_zero hk
  have hfa : framesA (P, W, H) = framesC (P, W, H) := by unfold framesA; rw [if_pos hm]
  have hf0 := (framesC_le hm).1
  have hm0 := hm
  simp only [mayB, Bool.and_eq_true, List.all_eq_true] at hm
  obtain ⟨⟨p1, p2⟩, hw, hh⟩ := hm
  have hp := p2 _ (getD_mem hi)
  rw [hr] at hp
  have hpx : (4 ≤ x ∧ x ≤ 256) ∧ (1 ≤ y ∧ y ≤ 8) := by simpa [partB, inB] using hp
  refine ⟨hpx.1, ⟨by rw [hfa]; exact hf0, by rw [hfa]; exact hf⟩, ?_⟩
  by_cases hx : x = 256
  · left
    refine ⟨hx, ?_⟩
    have : mayB (P.set i [x + 1, y], W, H) = false := by
      cases hb : mayB (P.set i [x + 1, y], W, H) with
      | false => rfl
      | true =>
        simp only [mayB, Bool.and_eq_true, List.all_eq_true] at hb
        have := hb.1.2 [x + 1, y] (List.mem_set hi _)
        simp [partB, inB] at this
        omega
    unfold chk
    rw [this]; rfl
  · right
    have hD : mayB (P.set i [x + 1, y], W, H) = true := by
      simp only [mayB, Bool.and_eq_true, List.all_eq_true, List.length_set] at hw hh p1 ⊢
      refine ⟨⟨p1, fun T hT => ?_⟩, hw, hh⟩
      rcases List.mem_or_eq_of_mem_set hT with h | h
      · exact p2 T h
      · rw [h]; simp [partB, inB]; omega
    have hs : framesC (P.set i [x + 1, y], W, H) = framesC (P, W, H) + 1 := by
      unfold framesC
      simp only
      rw [sum_set partF _ P i hi, hr]
      simp [partF]
      omega
    have hfd : framesA (P.set i [x + 1, y], W, H) = framesC (P, W, H) + 1 := by unfold framesA; rw [if_pos hD, hs]
    refine ⟨by omega, by rw [hfd, hfa], ?_, decide_eq_false fun e => ?_⟩
    · rw [hfa]
      by_cases hle : framesC (P, W, H) + 1 ≤ 1024
      · exact Or.inl ⟨by unfold chk; rw [if_pos hD, hs, if_pos hle], hle⟩
      · exact Or.inr ⟨by unfold chk; rw [if_pos hD, hs, if_neg hle], hle⟩
    · have e1 : P = P.set i [x + 1, y] := (Prod.mk.inj e).1
      have e2 : P.getD i [] = [x + 1, y] := by rw [e1]; simp [List.getD_eq_getElem?_getD, hi]
      rw [hr] at e2
      have := (List.cons.inj e2).1
      omega

set_option maxHeartbeats 3000000 in
theorem confGrows_walk (v : Value) (C : Cf) (part : Int) (W0 : World) (hC : ConfIn W0 v C) (_hp : -9223372036854775808 ≤ part ∧ part ≤ 9223372036854775807) : Calls Try.prog 7 #[v, .int .i64 part] W0 fun e w' => e = .returned (.bool true) ∧ Below W0.heap.size W0 w' := by
  obtain ⟨aa1, na1, ma1, aa2, na2, ma2, aa3, na3, ma3, rfl⟩ := hC.slices
  obtain ⟨w1, hw1⟩ : ∃ w1, w1 = W0.alloc (.cells #[.slice aa1 na1 ma1, .slice aa2 na2 ma2, .slice aa3 na3 ma3] 26) := ⟨_, rfl⟩
  have hb1 : Below W0.heap.size W0 w1 := by rw [hw1]; exact (Below.refl _ _).alloc (Nat.le_refl _) _
  have K := Lib.hid hb1
  have IA := Lib.hid (hC.below hb1)
  have XA : Hid (CBox w1 W0.heap.size (.slice aa1 na1 ma1) (.slice aa2 na2 ma2) (.slice aa3 na3 ma3)) := Lib.hid (by rw [hw1]; exact CBox.new W0 _ _ _)
  clear hC hb1
  by_cases la : longC C
  · have LA := Lib.hid (long_yes _ C w1 IA.out la)
    clear la
    go_enter Try.func7, Try.ntmps7
    go_wp2_with fail
    rw [← hw1]
    clear hw1
    refine LA.out.mono ?_
    rintro e w2 ⟨rfl, hb⟩
    have K2 := Lib.hid (K.out.trans (hb.mono K.out.size))
    clear hb
    go_wp2_with fail
    refine (awake_conf _).mono ?_
    rintro e w9 ⟨rfl, hb⟩
    have K9 := Lib.hid (K2.out.trans (hb.mono K2.out.size))
    clear hb
    go_wp2
    go_ret
    exact ⟨rfl, K9.out⟩
  have VA := Lib.hid (show VarAt w1 W0.heap.size _ _ _ C from ⟨XA.out, IA.out.at_ la⟩)
  have LA := Lib.hid (long_no _ _ _ C w1 VA.out.cf la)
  clear la IA XA
  by_cases hk : chk C = 0
  rotate_left
  · obtain ⟨c, hc⟩ : ∃ c, chk C = c := ⟨_, rfl⟩
    rw [hc] at hk
    have PC := Lib.hid hc
    have hcb : (c != 0) = true := by simpa using hk
    clear hc
    go_enter Try.func7, Try.ntmps7
    go_wp2_with fail
    rw [← hw1]
    clear hw1
    refine (LA.out).mono ?_
    rintro e w9 ⟨rfl, hb⟩
    have VA := Lib.hid (VA.out.below hb)
    have K := Lib.hid (K.out.trans (hb.mono K.out.size))
    clear hb
    have x0 := VA.out.box.c0
    have x1 := VA.out.box.c1
    have x2 := VA.out.box.c2
    go_wp2_with fail
    refine (check_is _ _ _ C c PC.out _ VA.out.cf).mono ?_
    rintro e w9 ⟨rfl, hb⟩
    have VA := Lib.hid (VA.out.below hb)
    have K := Lib.hid (K.out.trans (hb.mono K.out.size))
    clear hb
    have x0 := VA.out.box.c0
    have x1 := VA.out.box.c1
    have x2 := VA.out.box.c2
    go_wp2_with fail
    refine (awake_conf _).mono ?_
    rintro e w9 ⟨rfl, hb⟩
    have K9 := Lib.hid (K.out.trans (hb.mono K.out.size))
    clear hb
    go_wp2
    go_ret
    exact ⟨rfl, K9.out⟩
  have PC := Lib.hid hk
  by_cases h0 : part < 0
  · clear hk
    go_enter Try.func7, Try.ntmps7
    go_wp2_with fail
    rw [← hw1]
    clear hw1
    refine (LA.out).mono ?_
    rintro e w9 ⟨rfl, hb⟩
    have VA := Lib.hid (VA.out.below hb)
    have K := Lib.hid (K.out.trans (hb.mono K.out.size))
    clear hb
    have x0 := VA.out.box.c0
    have x1 := VA.out.box.c1
    have x2 := VA.out.box.c2
    go_wp2_with fail
    refine (check_is _ _ _ C 0 PC.out _ VA.out.cf).mono ?_
    rintro e w9 ⟨rfl, hb⟩
    have VA := Lib.hid (VA.out.below hb)
    have K := Lib.hid (K.out.trans (hb.mono K.out.size))
    clear hb
    have x0 := VA.out.box.c0
    have x1 := VA.out.box.c1
    have x2 := VA.out.box.c2
    go_wp2_with fail
    refine (awake_conf _).mono ?_
    rintro e w9 ⟨rfl, hb⟩
    have K9 := Lib.hid (K.out.trans (hb.mono K.out.size))
    clear hb
    go_wp2
    go_ret
    exact ⟨rfl, K9.out⟩
  by_cases h1 : (na1 : Int) ≤ part
  · clear hk
    go_enter Try.func7, Try.ntmps7
    go_wp2_with fail
    rw [← hw1]
    clear hw1
    refine (LA.out).mono ?_
    rintro e w9 ⟨rfl, hb⟩
    have VA := Lib.hid (VA.out.below hb)
    have K := Lib.hid (K.out.trans (hb.mono K.out.size))
    clear hb
    have x0 := VA.out.box.c0
    have x1 := VA.out.box.c1
    have x2 := VA.out.box.c2
    go_wp2_with fail
    refine (check_is _ _ _ C 0 PC.out _ VA.out.cf).mono ?_
    rintro e w9 ⟨rfl, hb⟩
    have VA := Lib.hid (VA.out.below hb)
    have K := Lib.hid (K.out.trans (hb.mono K.out.size))
    clear hb
    have x0 := VA.out.box.c0
    have x1 := VA.out.box.c1
    have x2 := VA.out.box.c2
    go_wp2_with fail
    refine (awake_conf _).mono ?_
    rintro e w9 ⟨rfl, hb⟩
    have K9 := Lib.hid (K.out.trans (hb.mono K.out.size))
    clear hb
    go_wp2
    go_ret
    exact ⟨rfl, K9.out⟩
  obtain ⟨i, rfl⟩ := Int.eq_ofNat_of_zero_le (show 0 ≤ part by omega)
  have hin : i < na1 := by omega
  obtain ⟨P, W, H⟩ := C
  have hps := VA.out.cf.ps
  have hshape := VA.out.cf.shape
  obtain ⟨hnP, b, oo, x, y, rfl, hbl, hrow, g0, g1⟩ := (show RowsAt 2 w1 (.slice aa1 na1 ma1) P from hps).two (Below.refl _ _) i hin
  have hlen8 := (mayB_parts (chk_zero hk).1).1.1
  simp only at hlen8
  obtain ⟨hx, hfb, hcase⟩ := grow_facts hk (show i < P.length by omega) hrow
  obtain ⟨f, hf⟩ : ∃ f, framesA (P, W, H) = f := ⟨_, rfl⟩
  rw [hf] at hfb hcase
  have PF := Lib.hid hf
  have ROW := Lib.hid hrow
  have NP := Lib.hid hnP
  have C0 := Lib.hid g0
  have TT : Hid (∀ T ∈ P, T.length = 2) := Lib.hid hshape.1
  have hn100 : na1 ≤ 100 := by omega
  obtain ⟨ie, hi, hbi⟩ := Option.map_eq_some_iff.1 info_part
  simp only [Prod.mk.injEq] at hbi
  obtain ⟨hi0, hi1, hi2⟩ := hbi
  clear hk hps hshape hrow hnP g0 g1 hf hlen8
  go_enter Try.func7, Try.ntmps7
  go_wp2_with fail
  rw [← hw1]
  clear hw1
  refine LA.out.mono ?_
  rintro e w2 ⟨rfl, hb⟩
  have K0 := Lib.hid hb
  have VA := Lib.hid (VA.out.below hb)
  have K := Lib.hid (K.out.trans (hb.mono K.out.size))
  clear hb
  have x0 := VA.out.box.c0
  have x1 := VA.out.box.c1
  have x2 := VA.out.box.c2
  go_wp2_with fail
  refine (check_is _ _ _ (P, W, H) 0 PC.out _ VA.out.cf).mono ?_
  rintro e w3 ⟨rfl, hb⟩
  have K0 := Lib.hid (K0.out.trans (hb.mono K0.out.size))
  have VA := Lib.hid (VA.out.below hb)
  have K := Lib.hid (K.out.trans (hb.mono K.out.size))
  clear hb
  have x0 := VA.out.box.c0
  have x1 := VA.out.box.c1
  have x2 := VA.out.box.c2
  have DV := Lib.hid (VarAt.new VA.out.cf)
  have hXd : Below w3.heap.size w3 (w3.alloc (.cells #[.slice (some ⟨b, oo, none⟩) na1 ma1, .slice aa2 na2 ma2, .slice aa3 na3 ma3] 26)) := (Below.refl _ _).alloc (Nat.le_refl _) _
  have hsd : (w3.alloc (.cells #[.slice (some ⟨b, oo, none⟩) na1 ma1, .slice aa2 na2 ma2, .slice aa3 na3 ma3] 26)).heap.size = w3.heap.size + 1 := by simp
  have hEd : Below (w3.heap.size + 1) (w3.alloc (.cells #[.slice (some ⟨b, oo, none⟩) na1 ma1, .slice aa2 na2 ma2, .slice aa3 na3 ma3] 26)) ((w3.alloc (.cells #[.slice (some ⟨b, oo, none⟩) na1 ma1, .slice aa2 na2 ma2, .slice aa3 na3 ma3] 26)).alloc (.cells #[] 41)) := (Below.refl _ _).alloc (by simp) _
  have B4 : Hid (Below w3.heap.size w3 ((w3.alloc (.cells #[.slice (some ⟨b, oo, none⟩) na1 ma1, .slice aa2 na2 ma2, .slice aa3 na3 ma3] 26)).alloc (.cells #[] 41))) := Lib.hid (hXd.trans (hEd.mono (Nat.le_succ _)))
  have D4 : Hid (CBox ((w3.alloc (.cells #[.slice (some ⟨b, oo, none⟩) na1 ma1, .slice aa2 na2 ma2, .slice aa3 na3 ma3] 26)).alloc (.cells #[] 41)) w3.heap.size (.slice (some ⟨b, oo, none⟩) na1 ma1) (.slice aa2 na2 ma2) (.slice aa3 na3 ma3)) := Lib.hid (DV.out.box.below (by rw [hsd]; exact hEd))
  have OE : Hid (((w3.alloc (.cells #[.slice (some ⟨b, oo, none⟩) na1 ma1, .slice aa2 na2 ma2, .slice aa3 na3 ma3] 26)).alloc (.cells #[] 41)).ownsRow (w3.heap.size + 1) 41 2 (.slice (some ⟨w3.heap.size + 1, 0, none⟩) 0 0) 0 []) := Lib.hid ⟨rfl, Or.inr ⟨w3.heap.size + 1, 0, #[], rfl, Nat.le_refl _, by rw [← hsd]; exact heap_alloc_new _ _, Nat.le_refl _, Nat.zero_le _, rfl, rfl⟩⟩
  have ZE : Hid (w3.heap.size + 1 ≤ ((w3.alloc (.cells #[.slice (some ⟨b, oo, none⟩) na1 ma1, .slice aa2 na2 ma2, .slice aa3 na3 ma3] 26)).alloc (.cells #[] 41)).heap.size) := Lib.hid (by simp)
  have NEWS : Hid (∀ j u, (flatV P)[j]? = some u → ((w3.alloc (.cells #[.slice (some ⟨b, oo, none⟩) na1 ma1, .slice aa2 na2 ma2, .slice aa3 na3 ma3] 26)).alloc (.cells #[] 41)).cell? ((⟨b, oo, none⟩ : Addr).add j) = some u) := Lib.hid (by
    obtain ⟨ad, e, h⟩ := rows_news (show RowsAt 2 _ (.slice (some ⟨b, oo, none⟩) na1 ma1) P from (VA.out.cf.below B4.out).ps) (by omega)
    obtain rfl := Option.some.inj e
    exact h)
  have LEN : Hid ((flatV P).length = na1 * 2) := Lib.hid (by rw [flatV_length 2 P TT.out, NP.out])
  have G4 : Hid (w3.heap[W0.heap.size]? = some (.cells #[.slice (some ⟨b, oo, none⟩) na1 ma1, .slice aa2 na2 ma2, .slice aa3 na3 ma3] 26 (0, 0))) := Lib.hid VA.out.box
  have C3 := Lib.hid ((K0.out.cell (p := ⟨b, oo + i * 2, none⟩) hbl).trans C0.out)
  have hb3 : b < w3.heap.size := Nat.lt_of_lt_of_le hbl K0.out.size
  have hlt3 : W0.heap.size < w3.heap.size := lt_of_block VA.out.box
  have hlt4 : W0.heap.size < w3.heap.size + 1 := Nat.lt_succ_of_lt hlt3
  clear hXd hsd hEd C0 hbl
  go_wp2_with (at_builtin; refine wpList_append_own _ rfl (.tmp 28) (.tmp 30) 22 rfl (w3.heap.size + 1) 41 ie (.agg #[.int .i64 0, .int .i64 0]) 2 16 Try.underlying22 hi hi0 hi1 hi2 rfl (by decide) _ 0 [] rfl OE.out ⟨b, oo, none⟩ na1 ma1 (flatV P) rfl LEN.out NEWS.out (flatV_one P) (by unfold maxLen; omega) (by omega) ZE.out ?_)
  intro v5 w5 ho hg _
  obtain ⟨g, cap, cur, rfl, hgl, hgh⟩ := own_some ho (by omega)
  have O5 := Lib.hid (own_plain ho)
  have G5 := Lib.hid hg
  have D5 := Lib.hid (show CBox w5 w3.heap.size (.slice (some ⟨b, oo, none⟩) na1 ma1) (.slice aa2 na2 ma2) (.slice aa3 na3 ma3) from (hg.block w3.heap.size (lt_of_block D4.out) (fun e => by have := Option.some.inj e; simp at this)).trans D4.out)
  have y0 := D5.out.c0
  have f0 : w5.frozen? ⟨w3.heap.size, 0, none⟩ = false := frozen_of_row w5 _ 0 _ _ D5.out
  clear ho hg hgh
  try simp only [Nat.zero_add] at O5 ⊢
  go_wp2_with fail
  have hgne : g ≠ w3.heap.size := by omega
  have B5 : Hid (Below w3.heap.size w3 w5) := Lib.hid (B4.out.trans (below_of_grownBy G5.out B4.out.size (Nat.le_succ _)))
  have hs6 := grownBy_setCell w5 w3.heap.size 0 (.slice (some ⟨g, 0, none⟩) na1 cap)
  have O6 := Lib.hid (O5.out.kept hs6 (Or.inr (own_ne O5.out D5.out (by decide))))
  have D6 := Lib.hid (D5.out.set0 (.slice (some ⟨g, 0, none⟩) na1 cap))
  have B6 := Lib.hid (B5.out.trans (below_of_grownBy hs6 B5.out.size (Nat.le_refl _)))
  generalize w5.setCell ⟨w3.heap.size, 0, none⟩ (.slice (some ⟨g, 0, none⟩) na1 cap) = w6 at *
  obtain ⟨cap', cur', hgc⟩ := own_block O6.out (show 0 < na1 by omega)
  have x0 := (CBox.below (VA.out.box) B6.out).c0
  have z0 := D6.out.c0
  have c3 := (B6.out.cell (p := ⟨b, oo + i * 2, none⟩) hb3).trans C3.out
  have cg : w6.cell? ⟨g, i * 2, none⟩ = some (.int .i64 x) := by
    have h1 := O6.out.cells (g := g) rfl (i * 2) (.int .i64 x) (by
      have := flatV_get 2 P TT.out i (by have := NP.out; omega) 0 (by decide)
      rw [Nat.add_zero, ROW.out] at this
      exact this)
    rwa [show (⟨g, 0, none⟩ : Addr).add (i * 2) = ⟨g, i * 2, none⟩ by unfold Addr.add; split <;> simp_all] at h1
  have fg : w6.frozen? ⟨g, i * 2, none⟩ = false := frozen_of_row w6 g (i * 2) _ _ hgc
  have x1 := (CBox.below (VA.out.box) B6.out).c1
  have z1 := D6.out.c1
  have z2 := D6.out.c2
  have hs7 := grownBy_setCell w6 g (i * 2) (.int .i64 (x + 1))
  have O7 : (w6.setCell ⟨g, i * 2, none⟩ (.int .i64 (x + 1))).ownsRow (w3.heap.size + 1) 41 2 (.slice (some ⟨g, 0, none⟩) na1 cap) na1 ((flatV P).set (i * 2) (.int .i64 (x + 1))) := own_set O6.out _
  rw [← flatV_set P i x y (x + 1) TT.out (by have := NP.out; omega) ROW.out] at O7
  have B7 := Lib.hid (B6.out.trans (below_of_grownBy hs7 B6.out.size (by omega))).drew
  have D7 : Hid (CBox (w6.setCell ⟨g, i * 2, none⟩ (.int .i64 (x + 1))).drew w3.heap.size (.slice (some ⟨g, 0, none⟩) na1 cap) (.slice aa2 na2 ma2) (.slice aa3 na3 ma3)) := Lib.hid (show (w6.setCell ⟨g, i * 2, none⟩ (.int .i64 (x + 1))).heap[w3.heap.size]? = _ from kept_block hs7 D6.out (fun e => hgne e.symm))
  have VA7 := Lib.hid (VA.out.below B7.out)
  have RP : RowsAt 2 (w6.setCell ⟨g, i * 2, none⟩ (.int .i64 (x + 1))) (.slice (some ⟨g, 0, none⟩) na1 cap) (P.set i [x + 1, y]) := own_rows (by rw [List.length_set, ← NP.out]; exact O7) (fun T hT => by
    rcases List.mem_or_eq_of_mem_set hT with h | h
    · exact TT.out T h
    · rw [h]; rfl) (by rw [List.length_set, ← NP.out]; omega)
  have VD7 : Hid (VarAt (w6.setCell ⟨g, i * 2, none⟩ (.int .i64 (x + 1))).drew w3.heap.size (.slice (some ⟨g, 0, none⟩) na1 cap) (.slice aa2 na2 ma2) (.slice aa3 na3 ma3) (P.set i [x + 1, y], W, H)) := Lib.hid ⟨D7.out, ⟨RP.below (Below.refl _ _).drew, VA7.out.cf.ws, VA7.out.cf.hs⟩⟩
  have K7 := Lib.hid (K.out.trans (B7.out.mono K.out.size))
  have C7 : Hid ((w6.setCell ⟨g, i * 2, none⟩ (.int .i64 (x + 1))).drew.cell? ⟨b, oo + i * 2, none⟩ = some (.int .i64 x)) := Lib.hid ((B7.out.cell (p := ⟨b, oo + i * 2, none⟩) hb3).trans C3.out)
  have hb7 : b < (w6.setCell ⟨g, i * 2, none⟩ (.int .i64 (x + 1))).drew.heap.size := Nat.lt_of_lt_of_le hb3 B7.out.size
  clear x2 hs6 O7 hs7 RP
  go_still_tail 12, (by kernel_rfl)
  go_wp2_with fail
  rcases hcase with ⟨hx2, hq⟩ | ⟨hx2, hfr, hq, hsame⟩
  · refine (check_is _ _ _ (P.set i [x + 1, y], W, H) 2 hq _ VD7.out.cf).mono ?_
    rintro e w8 ⟨rfl, hb⟩
    have VA := Lib.hid (VA7.out.below hb)
    have K := Lib.hid (K7.out.trans (hb.mono K7.out.size))
    have c8 := (hb.cell (p := ⟨b, oo + i * 2, none⟩) hb7).trans C7.out
    clear hb
    have x0 := VA.out.box.c0
    go_wp2_with fail
    refine (awake_conf _).mono ?_
    rintro e w9 ⟨rfl, hb⟩
    have K9 := Lib.hid (K.out.trans (hb.mono K.out.size))
    clear hb
    go_wp2
    go_ret
    exact ⟨rfl, K9.out⟩
  · rcases hq with ⟨hq, hle⟩ | ⟨hq, hle⟩
    · have FR := Lib.hid hfr
      have SM := Lib.hid hsame
      clear hfr hsame
      refine (check_is _ _ _ (P.set i [x + 1, y], W, H) 0 hq _ VD7.out.cf).mono ?_
      clear hq
      rintro e w8 ⟨rfl, hb⟩
      have VA := Lib.hid (VA7.out.below hb)
      have VD := Lib.hid (VD7.out.below hb)
      have K := Lib.hid (K7.out.trans (hb.mono K7.out.size))
      clear hb
      have x0 := VA.out.box.c0
      have x1 := VA.out.box.c1
      have x2 := VA.out.box.c2
      have z0 := VD.out.box.c0
      have z1 := VD.out.box.c1
      have z2 := VD.out.box.c2
      go_wp2_with fail
      refine (frames_is _ _ _ (P.set i [x + 1, y], W, H) (f + 1) FR.out _ VD.out.cf).mono ?_
      rintro e w9 ⟨rfl, hb⟩
      have VA := Lib.hid (VA.out.below hb)
      have VD := Lib.hid (VD.out.below hb)
      have K := Lib.hid (K.out.trans (hb.mono K.out.size))
      clear hb
      have x0 := VA.out.box.c0
      have x1 := VA.out.box.c1
      have x2 := VA.out.box.c2
      have z0 := VD.out.box.c0
      have z1 := VD.out.box.c1
      have z2 := VD.out.box.c2
      go_wp2_with fail
      refine (frames_is _ _ _ (P, W, H) f PF.out _ VA.out.cf).mono ?_
      rintro e w10 ⟨rfl, hb⟩
      have VA := Lib.hid (VA.out.below hb)
      have VD := Lib.hid (VD.out.below hb)
      have K := Lib.hid (K.out.trans (hb.mono K.out.size))
      clear hb
      have x0 := VA.out.box.c0
      have x1 := VA.out.box.c1
      have x2 := VA.out.box.c2
      have z0 := VD.out.box.c0
      have z1 := VD.out.box.c1
      have z2 := VD.out.box.c2
      go_wp2_with fail
      refine (same_is _ _ _ _ _ _ (P, W, H) (P.set i [x + 1, y], W, H) false SM.out _ VA.out.cf VD.out.cf).mono ?_
      rintro e w11 ⟨rfl, hb⟩
      have VA := Lib.hid (VA.out.below hb)
      have VD := Lib.hid (VD.out.below hb)
      have K := Lib.hid (K.out.trans (hb.mono K.out.size))
      clear hb
      have x0 := VA.out.box.c0
      have x1 := VA.out.box.c1
      have x2 := VA.out.box.c2
      have z0 := VD.out.box.c0
      have z1 := VD.out.box.c1
      have z2 := VD.out.box.c2
      go_wp2_with fail
      refine (awake_conf _).mono ?_
      rintro e w9 ⟨rfl, hb⟩
      have K9 := Lib.hid (K.out.trans (hb.mono K.out.size))
      clear hb
      go_wp2
      go_ret
      exact ⟨rfl, K9.out⟩
    · have FR := Lib.hid hfr
      have SM := Lib.hid hsame
      clear hfr hsame
      refine (check_is _ _ _ (P.set i [x + 1, y], W, H) 3 hq _ VD7.out.cf).mono ?_
      clear hq
      rintro e w8 ⟨rfl, hb⟩
      have VA := Lib.hid (VA7.out.below hb)
      have VD := Lib.hid (VD7.out.below hb)
      have K := Lib.hid (K7.out.trans (hb.mono K7.out.size))
      clear hb
      have x0 := VA.out.box.c0
      have x1 := VA.out.box.c1
      have x2 := VA.out.box.c2
      have z0 := VD.out.box.c0
      have z1 := VD.out.box.c1
      have z2 := VD.out.box.c2
      go_wp2_with fail
      refine (frames_is _ _ _ (P.set i [x + 1, y], W, H) (f + 1) FR.out _ VD.out.cf).mono ?_
      rintro e w9 ⟨rfl, hb⟩
      have VA := Lib.hid (VA.out.below hb)
      have VD := Lib.hid (VD.out.below hb)
      have K := Lib.hid (K.out.trans (hb.mono K.out.size))
      clear hb
      have x0 := VA.out.box.c0
      have x1 := VA.out.box.c1
      have x2 := VA.out.box.c2
      have z0 := VD.out.box.c0
      have z1 := VD.out.box.c1
      have z2 := VD.out.box.c2
      go_wp2_with fail
      refine (frames_is _ _ _ (P, W, H) f PF.out _ VA.out.cf).mono ?_
      rintro e w10 ⟨rfl, hb⟩
      have VA := Lib.hid (VA.out.below hb)
      have VD := Lib.hid (VD.out.below hb)
      have K := Lib.hid (K.out.trans (hb.mono K.out.size))
      clear hb
      have x0 := VA.out.box.c0
      have x1 := VA.out.box.c1
      have x2 := VA.out.box.c2
      have z0 := VD.out.box.c0
      have z1 := VD.out.box.c1
      have z2 := VD.out.box.c2
      go_wp2_with fail
      refine (same_is _ _ _ _ _ _ (P, W, H) (P.set i [x + 1, y], W, H) false SM.out _ VA.out.cf VD.out.cf).mono ?_
      rintro e w11 ⟨rfl, hb⟩
      have VA := Lib.hid (VA.out.below hb)
      have VD := Lib.hid (VD.out.below hb)
      have K := Lib.hid (K.out.trans (hb.mono K.out.size))
      clear hb
      have x0 := VA.out.box.c0
      have x1 := VA.out.box.c1
      have x2 := VA.out.box.c2
      have z0 := VD.out.box.c0
      have z1 := VD.out.box.c1
      have z2 := VD.out.box.c2
      go_wp2_with fail
      refine (awake_conf _).mono ?_
      rintro e w9 ⟨rfl, hb⟩
      have K9 := Lib.hid (K.out.trans (hb.mono K.out.size))
      clear hb
      go_wp2
      go_ret
      exact ⟨by rw [show decide (f + 1 ≤ 1024) = false from decide_eq_false (by omega)]; rfl, K9.out⟩
end Go.Proofs.Ytpgoddbijkolbaa
