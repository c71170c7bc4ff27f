/- The contracts of the document's New, Send and Recv of layer 19. Condition: the document's ring lies in memory. -/
import Derived.Test.YtnapodeiigkebaaG14
namespace Go.Proofs.Ytnapodeiigkebaa
open Go.RowKit
set_option maxRecDepth 100000

theorem refOne (c d out : Nat) (lv : Value) (h : lv.oneCell' = true) : (refA c d out lv).all (·.oneCell') = true := by
  cases lv <;> simp_all [refA, Value.oneCell']
theorem rnewG_ok (c d : Nat) (hc : 1 ≤ c ∧ c ≤ 8) (hd : 1 ≤ d ∧ d ≤ 8) (w : World) : Calls Try.prog 34 #[.int .i64 (c : Int), .int .i64 (d : Int)] w fun e w' => e = .returned (.tuple #[.agg (refA c d 0 (.slice none 0 0)), .int .i64 0]) ∧ Below w.heap.size w w' := by
  have hz := refZero
  have d1 : decide ((c : Int) < 1) = false := decide_eq_false (by omega)
  have d2 : decide (8 < (c : Int)) = false := decide_eq_false (by omega)
  have d3 : decide ((d : Int) < 1) = false := decide_eq_false (by omega)
  have d4 : decide (8 < (d : Int)) = false := decide_eq_false (by omega)
  have d5 : decide (8 < c) = false := decide_eq_false (by omega)
  have d6 : decide (8 < d) = false := decide_eq_false (by omega)
  have N1 := Lib.hid (heap_alloc_new w (.cells #[.int .i64 0, .int .i64 0, .slice none 0 0, .int .i64 0] 83))
  have B1 := Lib.hid (below_step1 w (.cells #[.int .i64 0, .int .i64 0, .slice none 0 0, .int .i64 0] 83))
  clear hc hd
  go_enter Try.func34, Try.ntmps34
  go_wp2_with (refine wpR_store refTy rfl (.tmp 4) (.tmp 23) rfl w.heap.size (refA c d 0 (.slice none 0 0)) rfl rfl _ N1.out rfl rfl (refOne c d 0 _ rfl) ?_)
  exact bodyPost_ret (v := .tuple #[.agg (refA c d 0 (.slice none 0 0)), .int .i64 0]) (resR2 refTy Try.results34 _ _ w.heap.size (refA c d 0 (.slice none 0 0)) _ rfl rfl (setRow_heap _ _ _ _ _ _ N1.out) rfl) rfl ⟨rfl, below_setRow B1.out (Nat.le_refl _) _⟩
section
variable {w : World} {rb c d out : Nat} {lv : Value} {Ls : List (List Int)}
theorem rsendG_bad (R : RefAt w rb c d out lv Ls) (a : Option Addr) (n cl : Nat) (hn : n < 1 ∨ (1 ≤ n ∧ d < n)) : Calls Try.prog 59 #[.pointer (some ⟨rb, 0, none⟩), .slice a n cl] w fun e w' => e = .returned (.int .i64 2) ∧ w' = w := by
  have c1 := R.wid
  clear R
  rcases hn with hn | ⟨h1, h2⟩
  · obtain rfl : n = 0 := by omega
    go_enter Try.func59, Try.ntmps59
    go_wp2
    go_ret
    exact ⟨rfl, rfl⟩
  · have d0 : decide (n < 1) = false := decide_eq_false (by omega)
    have d1 : decide ((n : Int) < 1) = false := decide_eq_false (by omega)
    have d2 : decide (d < n) = true := decide_eq_true h2
    go_enter Try.func59, Try.ntmps59
    go_wp2
    go_ret
    exact ⟨rfl, rfl⟩
theorem rsendG_full (R : RefAt w rb c d out lv Ls) (hf : Ls.length = c) (a : Option Addr) (n cl : Nat) (hn : 1 ≤ n ∧ n ≤ d) : Calls Try.prog 59 #[.pointer (some ⟨rb, 0, none⟩), .slice a n cl] w fun e w' => e = .returned (.int .i64 12) ∧ Below w.heap.size w w' := by
  have c0 := R.cap
  have c1 := R.wid
  have c2 := R.lst
  obtain ⟨a', cl', hv⟩ := R.ls.form
  rw [hv, hf] at c2
  have d0 : decide (n < 1) = false := decide_eq_false (by omega)
  have d1 : decide ((n : Int) < 1) = false := decide_eq_false (by omega)
  have d2 : decide (d < n) = false := decide_eq_false (by omega)
  clear R hf hv
  go_enter Try.func59, Try.ntmps59
  go_wp2_with fail
  go_quiet (fail)
  go_wp2
  go_ret
  exact ⟨rfl, below_drewN (Below.refl _ _) _⟩
theorem msgsInfo : (Try.prog.info? 43).map (fun i => (i.zero, i.size, i.bytes)) = some (some (.slice none 0 0), 1, 24) := by kernel_rfl
theorem one_atG (w : World) (u : Value) (t : TypeId) : ∀ (j : Nat) (x : Value), [u][j]? = some x → (w.alloc (.cells #[u] t)).cell? ((⟨w.heap.size, 0, none⟩ : Addr).add j) = some x := fun j x hx => by
  rw [Addr.add_mid, cell_of_row _ _ _ _ _ _ (heap_alloc_new w _)]
  match j, hx with
  | 0, hx => exact hx
  | j + 1, hx => simp at hx
theorem grown_msgG {w' : World} {base n g : Nat} {v : Value} {us : List Value} {L : List Int} (hg : w.grownBy w' v.ownBlock) (h : w.ownsRow base 43 1 v n us) (m : MsgG w g L) : MsgG w' g L := by
  obtain ⟨cs, h1, h2⟩ := m
  refine ⟨cs, (hg.block g (lt_of_block h1) (fun e => ?_)).trans h1, h2⟩
  obtain ⟨cs', h3⟩ := own_block h e.symm
  exact kind_ne h1 h3 (by simp only [kindOf]; decide) rfl
theorem own_arrG {base n : Nat} {v : Value} {us : List Value} (h : w.ownsRow base 43 1 v n us) : ArrG w v us := by
  have hl : us.length = n := by have := h.1; omega
  subst hl
  rcases h.2 with ⟨rfl, h0⟩ | ⟨g, cap, cur, rfl, hb, hg, h1, h2, h3, h4⟩
  · have h0 : us = [] := List.eq_nil_of_length_eq_zero h0
    subst h0
    exact ⟨none, 0, rfl, Nat.le_refl _, Nat.zero_le _, fun _ => rfl, Or.inl rfl⟩
  · refine ⟨_, cap, rfl, h1, h2, (fun e => by cases e), Or.inr ⟨g, 0, cur, rfl, hg, fun i u hu => ?_⟩⟩
    have := h.cells (g := g) rfl i u hu
    rw [Addr.add_mid, cell_of_row w g _ _ _ _ hg] at this
    exact this
set_option maxHeartbeats 2000000 in
theorem rsendG_ok (R : RefAt w rb c d out lv Ls) (hf : Ls.length < c) (v : Value) (L : List Int) (M : RowAt w v L) (hL : 1 ≤ L.length ∧ L.length ≤ d) : Calls Try.prog 59 #[.pointer (some ⟨rb, 0, none⟩), v] w fun e w' => ∃ lv', e = .returned (.int .i64 0) ∧ RefAt w' rb c d out lv' (Ls ++ [L]) ∧ Only w w' (fun j => j = rb) := by
  obtain ⟨ii, hi, hi0, hi1, hi2⟩ := info_parts wordInfoG
  obtain ⟨jj, hj, hj0, hj1, hj2⟩ := info_parts msgsInfo
  have c0 := R.cap
  have c1 := R.wid
  have c2 := R.lst
  have RR := Lib.hid R
  obtain ⟨P, hP, hM, a, cl, rfl, h1, h2, h2', h3⟩ := R.ls
  have hlen : P.length = Ls.length := by rw [← hP, List.length_map]
  rw [List.length_map] at h1 c2
  obtain ⟨va, vc, rfl, hm⟩ := M
  obtain ⟨mb, mo, rfl, hmb, hmc⟩ := hm.resolve_left (by rintro rfl; simp at hL)
  obtain ⟨p, hp⟩ : ∃ p, p = P.length := ⟨_, rfl⟩
  obtain ⟨n, hn⟩ : ∃ n, n = L.length := ⟨_, rfl⟩
  have p8 : p < c ∧ c ≤ 8 := ⟨by omega, R.c8⟩
  have n8 : 1 ≤ n ∧ n ≤ d ∧ d ≤ 8 := ⟨by omega, by omega, R.d8⟩
  rw [← hp] at c2 h1
  rw [← hn]
  have d0 : decide (n < 1) = false := decide_eq_false (by omega)
  have d1 : decide ((n : Int) < 1) = false := decide_eq_false (by omega)
  have d2 : decide (d < n) = false := decide_eq_false (by omega)
  have d3 : decide (c ≤ p) = false := decide_eq_false (by omega)
  have d4 : decide ((c : Int) ≤ (p : Int)) = false := decide_eq_false (by omega)
  have SR : Hid (∀ V : World, Below w.heap.size w V → SrcD (V.alloc (.cells #[] 43)) (.slice a p cl) p (P.map (·.1))) := Lib.hid fun V BV => by
    have b1 := below_step1 V (.cells #[] 43)
    rcases h3 with h3 | ⟨b, o, cs, rfl, e2, e3⟩
    · rw [List.map_eq_nil_iff] at h3
      have p0 : p = 0 := by rw [hp, h3]; rfl
      rw [h3, p0]
      cases a with
      | none => exact Or.inl ⟨by rw [h2' rfl], rfl, rfl⟩
      | some ad => exact Or.inr ⟨ad, cl, rfl, fun j u hu => by simp at hu⟩
    · refine Or.inr ⟨_, cl, rfl, fun j u hu => ?_⟩
      rw [Addr.add_mid, cell_of_row _ b _ _ _ _ (below_block b1 (below_block BV e2))]
      exact e3 j u hu
  have C2 : Hid (∀ V : World, Below w.heap.size w V → V.cell? ⟨rb, 2, none⟩ = some (.slice a p cl)) := Lib.hid fun V BV => by
    have := (R.below BV).lst
    rwa [List.length_map, ← hp] at this
  have UL : Hid ((P.map (·.1)).length = p * 1) := Lib.hid (by rw [List.length_map, hp, Nat.mul_one])
  have U1 : Hid (∀ u ∈ P.map (·.1), u.oneCell' = true) := Lib.hid fun u hu => by
    obtain ⟨q, hq, rfl⟩ := List.mem_map.1 hu
    exact (hM q hq).one
  have LP : Hid (∀ W base v' u, Below w.heap.size w W → MsgV W u L → W.ownsRow base 43 1 v' (p + 1) (P.map (·.1) ++ [u]) → LsAt W v' (Ls ++ [L])) := Lib.hid fun W base v' u hb hu ho => by
    refine ⟨P ++ [(u, L)], by rw [List.map_append, hP]; rfl, fun q hq => ?_, by rw [List.map_append]; exact own_arrG ho⟩
    rcases List.mem_append.1 hq with hq | hq
    · exact (hM q hq).only (B := fun _ => False) (Only.below hb) (fun _ e => e.elim)
    · rw [List.mem_singleton.1 hq]; exact hu
  have XL : Hid ((wdsL L).length = n * 1) := Lib.hid (by simp [wdsL, hn])
  have X1 := Lib.hid (wdsL_one L)
  have XC : Hid (∀ W, Below w.heap.size w W → ∀ j u, (wdsL L)[j]? = some u → W.cell? ((⟨mb, mo, none⟩ : Addr).add j) = some u) := Lib.hid fun W hW j u hu => by
    have hj : j < L.length := by have := (List.getElem?_eq_some_iff.1 hu).1; simpa [wdsL] using this
    rw [wdsL_get L j hj] at hu
    rw [Addr.add_mid, ← Option.some.inj hu]
    exact (hW.cell (p := ⟨mb, mo + j, none⟩) hmb).trans (hmc j hj)
  have XM : Hid (∀ W base v, W.ownsRow base 57 1 v (0 + n) ([] ++ wdsL L) → ∃ g c, v = .slice (some ⟨g, 0, none⟩) n c ∧ base ≤ g ∧ MsgG W g L) := Lib.hid fun W base v h => by
    rw [Nat.zero_add, List.nil_append, hn] at h
    have := OwnW.msg h hL.1
    rwa [← hn] at this
  have MV : Hid (∀ W g c, MsgG W g L → MsgV W (.slice (some ⟨g, 0, none⟩) n c) L) := Lib.hid fun W g c h => ⟨g, c, by rw [hn], h⟩
  have LE : Hid ((Ls ++ [L]).length ≤ c) := Lib.hid (by simp; omega)
  generalize wdsL L = xs at XL X1 XC XM
  generalize P.map (·.1) = us at SR UL U1 LP
  clear R hP hM h1 h2 h2' h3 hlen hmb hmc hm hp hn hL hf
  go_enter Try.func59, Try.ntmps59
  go_wp2_with fail
  go_quiet (fail)
  obtain ⟨V, hV⟩ : ∃ V, V = w.drewN nq := ⟨_, rfl⟩
  have BW : Hid (Below w.heap.size w V) := Lib.hid (by rw [hV]; exact below_drewN (Below.refl _ _) nq)
  rw [← hV]
  clear hV c0 c1 c2
  have B1 := Lib.hid (below_step1 V (.cells #[] 43))
  have c2 := C2.out _ (BW.out.trans (B1.out.mono BW.out.size))
  have SR := Lib.hid (SR.out V BW.out)
  have OM1 := Lib.hid (World.ownsRow_lit (base := V.heap.size) (e := 43) (size := 1) V #[] 0 (Nat.le_refl _) (by decide) rfl)
  go_wp2_with (first
    | (at_builtin; refine wpList_append_src rfl (.tmp 28) (.tmp 32) 64 rfl V.heap.size 43 jj (.slice none 0 0) 1 24 Try.underlying64 hj hj0 hj1 hj2 rfl (by decide) _ 0 [] rfl OM1.out _ p us rfl SR.out UL.out U1.out (by unfold maxLen; omega) (by omega) (by simp) ?_; intro v5 w5 ho hg; have B5 : Hid (Below V.heap.size V w5) := Lib.hid (B1.out.grown hg (by simp) (fun g h => (World.ownsRow.lt OM1.out g h).1)); rw [Nat.zero_add, List.nil_append] at ho; have O5 := Lib.hid ho; have BW5 := Lib.hid (BW.out.trans (B5.out.mono BW.out.size)); have A5 := Lib.hid (below_step1 w5 (.cells #[] 57)); have OM2 := Lib.hid (World.ownsRow_lit (base := w5.heap.size) (e := 57) (size := 1) w5 #[] 0 (Nat.le_refl _) (by decide) rfl); have XC5 := Lib.hid (XC.out _ (BW5.out.trans (A5.out.mono BW5.out.size))); obtain ⟨a5, k5, rfl⟩ := owns_slice ho; clear ho hg)
    | (at_builtin; refine wpList_append_own _ rfl (.tmp 34) (.tmp 35) 43 rfl w5.heap.size 57 ii (.int .u32 0) 1 4 Try.underlying43 hi hi0 hi1 hi2 rfl (by decide) _ 0 [] rfl OM2.out ⟨mb, mo, none⟩ n _ xs rfl XL.out XC5.out X1.out (by unfold maxLen; omega) (by omega) (by simp) ?_; intro v6 w6 ho hg _; have B6 : Hid (Below w5.heap.size w5 w6) := Lib.hid (A5.out.grown hg (by simp) (fun g h => (World.ownsRow.lt OM2.out g h).1)); obtain ⟨g6, c6, rfl, hg6, hm6⟩ := XM.out _ _ _ ho; have M6 := Lib.hid hm6; have O6 := Lib.hid (own_step O5.out B6.out); have O7 := Lib.hid (own_step O6.out (below_step1 w6 (.cells #[.slice (some ⟨g6, 0, none⟩) n c6] 43))); clear ho hg hg6 hm6)
    | (at_builtin; refine wpList_append_own _ rfl (.tmp 33) (.tmp 37) 64 rfl V.heap.size 43 jj (.slice none 0 0) 1 24 Try.underlying64 hj hj0 hj1 hj2 rfl (by decide) _ p us rfl O7.out ⟨w6.heap.size, 0, none⟩ 1 1 [.slice (some ⟨g6, 0, none⟩) n c6] rfl rfl (one_atG w6 _ _) (by simp [Value.oneCell']) (by unfold maxLen; omega) (by omega) (Nat.le_trans B5.out.size (Nat.le_trans B6.out.size (by simp))) ?_; intro v7 w7 ho hg _; have B61 := below_step1 w6 (.cells #[.slice (some ⟨g6, 0, none⟩) n c6] 43); have BV6 := (B5.out.trans (B6.out.mono B5.out.size)).trans (B61.mono (Nat.le_trans B5.out.size B6.out.size)); have BV7 := BV6.grown hg BV6.size (fun g h => (World.ownsRow.lt O7.out g h).1); have BW7 := Lib.hid (BW.out.trans (BV7.mono BW.out.size)); have LS := Lib.hid (LP.out _ _ _ _ BW7.out (MV.out _ _ c6 (grown_msgG hg O7.out (M6.out.below B61))) ho); have R7 := RR.out.below BW7.out; have y2 := C2.out _ BW7.out; have f2 := R7.free 2; obtain ⟨a7, k7, rfl⟩ := owns_slice ho; clear ho hg B61 BV6 BV7 R7))
  go_ret
  obtain ⟨w8, hw8⟩ : ∃ w8, w8 = w7.setCell ⟨rb, 2, none⟩ (.slice a7 (p + 1) k7) := ⟨_, rfl⟩
  rw [← hw8]
  have R7 := RR.out.below BW7.out
  have O8 : Only w7 w8 (fun j => j = rb) := Only.grown (hw8 ▸ grownBy_setCell w7 _ _ _) rfl
  exact ⟨rfl, ⟨_, R7.c1, R7.c8, R7.d8, LE.out, R7.o300, LS.out.only O8 (fun k e => e ▸ R7.other), by rw [hw8, heap_setCell_same w7 rb 2 _ _ _ R7.box]; rfl⟩, (Only.below BW7.out).trans O8⟩
theorem rrecvG_empty (R : RefAt w rb c d out lv []) : Calls Try.prog 60 #[.pointer (some ⟨rb, 0, none⟩)] w fun e w' => e = .returned (.tuple #[.slice none 0 0, .int .i64 12]) ∧ w' = w := by
  have c2 := R.lst
  obtain ⟨a, cl, rfl⟩ := R.ls.form
  have c2 : w.cell? ⟨rb, 2, none⟩ = some (.slice a 0 cl) := c2
  clear R
  go_enter Try.func60, Try.ntmps60
  go_wp2
  go_ret2
  exact ⟨rfl, rfl⟩
theorem slice_tailM (b o k c : Nat) (h : k + 1 ≤ c) (hc : c ≤ maxLen) : ∃ ad cr, (∀ w : World, (Instr.sliceAt 64 (.slice (some ⟨b, o, none⟩) (k + 1) c) (some (.int .i64 1)) none none).run Try.prog w = .ok (.slice (some ad) k cr) w) ∧ k ≤ cr ∧ cr ≤ maxLen ∧ (k = 0 ∨ ad = ⟨b, o + 1, none⟩) := by
  have hm : c ≤ 9223372036854775807 := by unfold maxLen at hc; omega
  by_cases hcc : c = 1
  · subst hcc
    obtain rfl : k = 0 := by omega
    refine ⟨⟨b, o, none⟩, 0, fun w => ?_, Nat.le_refl _, Nat.zero_le _, Or.inl rfl⟩
    simp [Instr.sliceAt, Try.underlying64, go_sem]
  · refine ⟨⟨b, o + 1, none⟩, c - 1, fun w => ?_, by omega, by omega, Or.inr rfl⟩
    simp [Instr.sliceAt, Try.underlying64, go_sem, hcc]
    intro h'
    omega
set_option maxHeartbeats 1000000 in
theorem rrecvG_ok {L : List Int} (R : RefAt w rb c d out lv (L :: Ls)) (ho : out < 300) : Calls Try.prog 60 #[.pointer (some ⟨rb, 0, none⟩)] w fun e w' => ∃ u lv', e = .returned (.tuple #[u, .int .i64 0]) ∧ MsgV w' u L ∧ RefAt w' rb c d (out + 1) lv' Ls ∧ Only w w' (fun j => j = rb) := by
  have RR := Lib.hid R
  have c2 := R.lst
  have c3 := R.outs
  have f2 := R.free 2
  have f3 := R.free 3
  obtain ⟨P, hP, hM, a, cl, rfl, h1, h2, h2', h3⟩ := R.ls
  match P, hP with
  | (u, L') :: P, hP =>
    obtain ⟨rfl, hP2⟩ : L' = L ∧ P.map (·.2) = Ls := by simpa using hP
    obtain ⟨b, o, cs, rfl, e2, e3⟩ := h3.resolve_left (by simp)
    simp only [List.map_cons, List.length_cons, List.length_map] at h1 c2
    have e0 := e3 0 u (by simp)
    have cu : w.cell? ⟨b, o, none⟩ = some u := by rw [cell_of_row w b _ _ _ _ e2]; exact e0
    obtain ⟨ad, cr, sl, k1, k2, had⟩ := slice_tailM b o P.length cl h1 h2
    have HU := Lib.hid (hM (u, L') (by simp))
    have LT : Hid (LsAt w (.slice (some ad) P.length cr) Ls) := Lib.hid ⟨P, hP2, fun q hq => hM q (by simp [hq]), some ad, cr, by rw [List.length_map], by rw [List.length_map]; exact k1, k2, (fun e => by cases e), by
      rcases had with h0 | rfl
      · exact Or.inl (by rw [List.map_eq_nil_iff]; exact List.eq_nil_of_length_eq_zero h0)
      · exact Or.inr ⟨b, o + 1, cs, rfl, e2, fun i u' hu => by
          have := e3 (i + 1) u' (by simpa using hu)
          rwa [show o + (i + 1) = o + 1 + i by omega] at this⟩⟩
    have ne0 : ((P.length : Int) + 1 == 0) = false := by simp; omega
    have LE : Hid (Ls.length ≤ c) := Lib.hid (by have := R.lc; simp at this; omega)
    obtain ⟨ua, uc, hu⟩ : ∃ a c, u = .slice a L'.length c := let ⟨g, c, e, _⟩ := HU.out; ⟨_, c, e⟩
    obtain ⟨p, hp⟩ : ∃ p, p = P.length := ⟨_, rfl⟩
    rw [← hp] at c2 sl LT ne0 h1
    have C2 : w.cell? ⟨rb, 2, none⟩ = some (.slice (some ⟨b, o, none⟩) (p + 1) cl) := c2
    clear R hP2 hM h2' h3 e2 e3 e0 had k1 k2 hp c2
    subst hu
    have nn : ¬ 3 = 2 := by decide
    go_enter Try.func60, Try.ntmps60
    go_wp2
    go_ret2
    obtain ⟨w8, hw8⟩ : ∃ w8, w8 = (w.setCell ⟨rb, 2, none⟩ (.slice (some ad) p cr)).setCell ⟨rb, 3, none⟩ (.int .i64 ((out : Int) + 1)) := ⟨_, rfl⟩
    rw [← hw8]
    have O8 : Only w w8 (fun j => j = rb) := by
      rw [hw8]
      exact (Only.grown (B := fun j => j = rb) (r := rb) (grownBy_setCell _ _ _ _) rfl).trans (Only.grown (B := fun j => j = rb) (r := rb) (grownBy_setCell _ _ _ _) rfl)
    have ot : ∀ k, k = rb → OtherG w k := fun k e => e ▸ RR.out.other
    exact ⟨_, rfl, HU.out.only O8 ot, ⟨_, RR.out.c1, RR.out.c8, RR.out.d8, LE.out, by omega, LT.out.only O8 ot, by rw [hw8, heap_setCell_same _ rb 3 _ _ _ (heap_setCell_same w rb 2 _ _ _ RR.out.box)]; rfl⟩, O8⟩
end
end Go.Proofs.Ytnapodeiigkebaa
