/- The contract of package plan's Turn. Conditions: the configuration's lists lie in memory. Written by gen/gen_p7.py. -/
import Derived.Test.YtepfljfaclakeaaP6
namespace Go.Proofs.Ytepfljfaclakeaa
open Go.RowKit Go.Shelf
attribute [local go_sem] Oper.semAt_some
set_option maxRecDepth 100000

def turnHit (a : Int) (L : List LaidW) : Option LaidW := L.find? fun x => decide (a < x.2.1 + x.2.2)
def turnR (S : List Row) (r : Option LaidW) : Int × Int := match r with | some x => ((S.getD x.1.toNat []).getD 0 0, x.1) | none => (0, 0)
/-- What Turn answers. -/
def turnA (C : Cf) (t : Int) : Int × Int × Int := if chk C = 0 then ((turnR C.2.1 (turnHit (t % majorA C) (laidL 0 (winL C)))).1, (turnR C.2.1 (turnHit (t % majorA C) (laidL 0 (winL C)))).2, 0) else (0, 0, chk C)
theorem turnHit_miss {a : Int} {L : List LaidW} {x : LaidW} (h : turnHit a L = none) (hx : ¬ a < x.2.1 + x.2.2) : turnHit a (L ++ [x]) = none := by
  unfold turnHit at h ⊢
  rw [List.find?_append, h]
  simp [hx]
theorem turnHit_hit {a : Int} {L : List LaidW} {x : LaidW} (h : turnHit a L = none) (hx : a < x.2.1 + x.2.2) : turnHit a (L ++ [x]) = some x := by
  unfold turnHit at h ⊢
  rw [List.find?_append, h]
  simp [hx]
theorem turnHit_pre {a : Int} {L M : List LaidW} {x : LaidW} (h : turnHit a L = some x) (hp : L <+: M) : turnHit a M = some x := by
  obtain ⟨t, rfl⟩ := hp
  unfold turnHit at h ⊢
  rw [List.find?_append, h]; rfl
/-- A range of a window's: the window's number. -/
theorem laid_window {C : Cf} {pre : List LaidW} {x : LaidW} (h : pre ++ [x] <+: laidL 0 (winL C)) : ∃ i : Nat, i < C.2.1.length ∧ x.1 = (i : Int) := by
  obtain ⟨M, y, hM, -, rfl⟩ := laidL_split h
  obtain ⟨i, hi, rfl⟩ := mem_winL (hM.subset (by simp : y ∈ M ++ [y]))
  exact ⟨i, hi, rfl⟩
theorem sumL_winL {C : Cf} (hm : mayB C = true) : 1 ≤ sumL (winL C) ∧ sumL (winL C) ≤ 1000000 := by
  obtain ⟨w1, w2, w3⟩ := mayB_wins hm
  obtain ⟨n, hn⟩ : ∃ n, C.2.1.length = n + 1 := ⟨C.2.1.length - 1, by omega⟩
  have h1 := winL_small hm (winN C.2.1 n) (winN_pre _ (by omega))
  have h2 := winL_small hm (winL C) List.prefix_rfl
  have h3 : sumL (winL C) = sumL (winN C.2.1 n) + (winAt C.2.1 n).2 := by rw [winL, hn, winN_succ, sumL_snoc]
  have h4 := winB_le _ _ (w3 _ (getD_mem (show n < C.2.1.length by omega)))
  have h5 : (winAt C.2.1 n).2 = (C.2.1.getD n []).getD 1 0 := rfl
  omega
/-- The variables of Turn. -/
structure TurnSt (w V : World) (s b : Nat) (v1 v2 v3 : Value) (a p q : Int) : Prop where
  bel : Below w.heap.size w V
  box : CBox V s v1 v2 v3
  part : Boxed V (s + 1) 3 (.int .i64 p)
  window : Boxed V (s + 1 + 1) 3 (.int .i64 q)
  at_ : Boxed V b 3 (.int .i64 a)
theorem TurnSt.hangs {β : Type} {w : World} {s b B : Nat} {v1 v2 v3 : Value} {a : Int} (hw : w.heap.size ≤ B) (hs : s + 3 ≤ B) (hb : b < B) (f : β → Int × Int) : Hangs B (fun x V => TurnSt w V s b v1 v2 v3 a (f x).1 (f x).2) :=
  fun _ _ _ h hb' => ⟨h.bel.trans (hb'.mono hw), (hb'.block _ (by omega)).trans h.box, (hb'.block _ (by omega)).trans h.part, (hb'.block _ (by omega)).trans h.window, (hb'.block _ (by omega)).trans h.at_⟩
theorem TurnSt.alloc {w V : World} {s b : Nat} {v1 v2 v3 : Value} {a p q : Int} (h : TurnSt w V s b v1 v2 v3 a p q) (o : Obj) : TurnSt w (V.alloc o) s b v1 v2 v3 a p q :=
  ⟨h.bel.alloc h.bel.size _, h.box.below ((Below.refl _ _).alloc (Nat.le_refl _) _), h.part.alloc _, h.window.alloc _, h.at_.alloc _⟩
theorem CBox.other {V : World} {s k : Nat} {v1 v2 v3 u : Value} (h : CBox V s v1 v2 v3) (hne : s ≠ k) : CBox (V.setCell ⟨k, 0, none⟩ u) s v1 v2 v3 := (Below.heap_setCell _ _ _ _ (by simpa using hne)).trans h
theorem TurnSt.set {w V : World} {s b : Nat} {v1 v2 v3 : Value} {a p q : Int} (h : TurnSt w V s b v1 v2 v3 a p q) (hs : w.heap.size ≤ s) (hb : s + 1 + 1 < b) (p' q' : Int) : TurnSt w ((V.setCell ⟨s + 1, 0, none⟩ (.int .i64 p')).setCell ⟨s + 1 + 1, 0, none⟩ (.int .i64 q')) s b v1 v2 v3 a p' q' :=
  ⟨(h.bel.setCell (p := ⟨s + 1, 0, none⟩) (by simp only; omega) _).setCell (p := ⟨s + 1 + 1, 0, none⟩) (by simp only; omega) _, (h.box.other (by omega)).other (by omega), (h.part.set _).other (by omega) _, (h.window.other (by omega) _).set _, (h.at_.other (by omega) _).other (by omega) _⟩
/-- The three variables ahead of the call of Major. -/
structure TurnPre (w V : World) (s : Nat) (v1 v2 v3 : Value) : Prop where
  bel : Below w.heap.size w V
  box : CBox V s v1 v2 v3
  part : Boxed V (s + 1) 3 (.int .i64 0)
  window : Boxed V (s + 1 + 1) 3 (.int .i64 0)
  size : s + 3 ≤ V.heap.size
theorem TurnPre.below {w V V' : World} {s : Nat} {v1 v2 v3 : Value} (h : TurnPre w V s v1 v2 v3) (hb : Below V.heap.size V V') : TurnPre w V' s v1 v2 v3 :=
  ⟨h.bel.trans (hb.mono h.bel.size), h.box.below hb, below_block hb h.part, below_block hb h.window, Nat.le_trans h.size hb.size⟩
theorem TurnPre.new (w : World) (v1 v2 v3 : Value) : TurnPre w (((w.alloc (.cells #[v1, v2, v3] 26)).alloc (.cells #[.int .i64 0] 3)).alloc (.cells #[.int .i64 0] 3)) w.heap.size v1 v2 v3 := by
  obtain ⟨wa, hwa⟩ : ∃ wa, wa = w.alloc (.cells #[v1, v2, v3] 26) := ⟨_, rfl⟩
  have hza : wa.heap.size = w.heap.size + 1 := by rw [hwa]; simp
  refine ⟨below_three _ _ _ _, ?_, ?_, ?_, by simp⟩
  · exact below_block (below_two _ _ _) (CBox.new w _ _ _)
  · rw [← hwa, ← hza]; exact (Boxed.new wa _ _).alloc _
  · rw [← hwa, ← hza]; exact heap_alloc2_new wa _ _
set_option maxHeartbeats 8000000 in
theorem turn_ok (v1 v2 v3 : Value) (C : Cf) (t : Int) (ht : 0 ≤ t) (w : World) (h : CfAt w v1 v2 v3 C) :
    Calls Try.prog 16 #[.agg #[v1, v2, v3], .int .u64 t] w fun e w' => e = ans3 (turnA C t) ∧ Below w.heap.size w w' := by
  obtain ⟨W1, hW1⟩ : ∃ W1, W1 = ((w.alloc (.cells #[v1, v2, v3] 26)).alloc (.cells #[.int .i64 0] 3)).alloc (.cells #[.int .i64 0] 3) := ⟨_, rfl⟩
  have hp : TurnPre w W1 w.heap.size v1 v2 v3 := by rw [hW1]; exact TurnPre.new w _ _ _
  have HC := Lib.hid (h.below hp.bel)
  have H0 := Lib.hid h
  have P1 := Lib.hid hp
  have c0 := hp.box.c0
  have c1 := hp.box.c1
  have c2 := hp.box.c2
  clear h hp
  refine (callsIn_wide (n := 12)).1 ?_
  refine callsIn_of_wp_marks Try.func16 rfl trivial ?_ rfl
  simp only [Try.ntmps16, List.size_toArray, List.length_cons, List.length_nil, Nat.reduceAdd, Nat.reduceSub, Array.replicate_succ, Array.replicate_zero, List.push_toArray, List.append_toArray, List.nil_append, List.cons_append]
  gi_wp2
  refine ⟨trivial, ?_⟩
  rw [← hW1]
  clear hW1
  refine (callsIn_wide.2 (major_ok v1 v2 v3 C W1 HC.out)).mono ?_
  rintro e W2 ⟨rfl, hb⟩
  have P2 := Lib.hid (P1.out.below hb)
  have hz2 := P2.out.size
  clear hb P1 HC c0 c1 c2
  clear W1
  by_cases hk : chk C = 0
  · have hm := (chk_zero hk).1
    have hM : majorA C = sumL (winL C) := by unfold majorA; rw [if_pos hk]
    obtain ⟨m1, m2⟩ := sumL_winL hm
    rw [← hM] at m1 m2
    have HTA : Hid (∀ r, turnHit (t % majorA C) (laidL 0 (winL C)) = r → turnA C t = ((turnR C.2.1 r).1, (turnR C.2.1 r).2, 0)) := Lib.hid (by intro r hr; unfold turnA; rw [if_pos hk, hr])
    rw [hk]
    clear hM
    generalize majorA C = m at *
    have hmod : t.tmod m = t % m := Int.tmod_eq_emod_of_nonneg ht
    have a0 : 0 ≤ t % m := Int.emod_nonneg _ (by omega)
    have a1 : t % m < m := Int.emod_lt_of_pos _ (by omega)
    obtain ⟨a, ha⟩ : ∃ a, a = t % m := ⟨_, rfl⟩
    rw [← ha] at hmod a0 a1 HTA
    have hm0 : ¬ m = 0 := by omega
    have hmod2 : t % m = a := ha.symm
    clear ha
    have c0 := P2.out.box.c0
    have c1 := P2.out.box.c1
    have c2 := P2.out.box.c2
    have hlt2 : w.heap.size < W2.heap.size := by omega
    obtain ⟨W3, hW3⟩ : ∃ W3, W3 = ((W2.alloc (.cells #[.int .i64 a] 3)).alloc (.cells #[v1, v2, v3] 26)).alloc (.cells #[.func (.func 39) #[] #[.pointer (some ⟨W2.heap.size + 1, 0, none⟩)]] 59) := ⟨_, rfl⟩
    obtain ⟨Wa, hWa⟩ : ∃ Wa, Wa = W2.alloc (.cells #[.int .i64 a] 3) := ⟨_, rfl⟩
    have hza : Wa.heap.size = W2.heap.size + 1 := by rw [hWa]; simp
    have hz3 : W3.heap.size = W2.heap.size + 3 := by rw [hW3]; simp
    have hb3 : Below W2.heap.size W2 W3 := by rw [hW3]; exact below_three _ _ _ _
    have hx3 : CBox W3 (W2.heap.size + 1) v1 v2 v3 := by rw [hW3, ← hWa, ← hza]; exact (CBox.new Wa _ _ _).below ((Below.refl _ _).alloc (Nat.le_refl _) _)
    have hs3 : W3.cell? ⟨W2.heap.size + 1 + 1, 0, none⟩ = some (.func (.func 39) #[] #[.pointer (some ⟨W2.heap.size + 1, 0, none⟩)]) := by rw [hW3, ← hWa, ← hza, cell_of_row _ _ _ _ _ _ (heap_alloc2_new Wa _ _)]; rfl
    have P3 := P2.out.below hb3
    have he3 : TurnSt w W3 w.heap.size W2.heap.size v1 v2 v3 a 0 0 := ⟨P3.bel, P3.box, P3.part, P3.window, by rw [hW3]; exact ((Boxed.new W2 _ _).alloc _).alloc _⟩
    have hK : ∀ k, (k < w.heap.size ∨ k = W2.heap.size + 1) → k < W3.heap.size := by intro k h; omega
    have hseq := laidW_seq (W2.heap.size + 1 + 1) 39 #[.pointer (some ⟨W2.heap.size + 1, 0, none⟩)] (enters Try.func39 rfl rfl) (winL C) (winL_small hm) (fun k => k < w.heap.size ∨ k = W2.heap.size + 1) W3
      (windows_seq (W2.heap.size + 1) v1 v2 v3 C w W3 H0.out he3.bel hx3 _ (fun k h => Or.inl h)) hs3 hK
    clear hs3 hx3 hb3 P3
    gi_wp2_with (first
      | (refine ⟨trivial, ?_⟩; gi_at_call 27; refine (callsIn_wide.2 (mkWindows_ok _ _ _ _)).mono ?_; rintro e w' ⟨rfl, rfl⟩)
      | (refine ⟨trivial, ?_⟩; gi_at_call 26; refine (callsIn_wide.2 (mkLaidW_ok _ _ _)).mono ?_; rintro e w' ⟨rfl, rfl⟩))
    rw [← hW3]
    clear hW3 hza hWa c0 c1 c2 P2
    clear Wa
    refine range_seq (gf := 38) (lb := #[.pointer (some ⟨W2.heap.size + 1 + 1, 0, none⟩)]) rfl (enters Try.func38 rfl rfl) hseq (Below.refl _ _) (by intro _; rfl) hK
      (fun pre V => turnHit a pre = none ∧ TurnSt w V w.heap.size W2.heap.size v1 v2 v3 a 0 0)
      (fun c pre V => (c = .exit 0 ∧ ∃ x, turnHit a pre = some x) ∧ TurnSt w V w.heap.size W2.heap.size v1 v2 v3 a (turnR C.2.1 (turnHit a pre)).1 (turnR C.2.1 (turnHit a pre)).2)
      ((hangs_pure _ _).and (TurnSt.hangs (by omega) (by omega) (by omega) (fun _ => (0, 0))))
      (fun c => (hangs_pure _ _).and (TurnSt.hangs (by omega) (by omega) (by omega) (fun pre => turnR C.2.1 (turnHit a pre))))
      ⟨rfl, he3⟩
      (fun x a' V => ∃ Br, W2.heap.size < Br ∧ V.heap[Br]? = some (.cells #[.int .i64 x.2.1, .int .i64 x.2.2] 62 (0, 0)) ∧ a' = { tmps := #[.agg #[v1, v2, v3], .int .u64 t, .pointer (some ⟨w.heap.size, 0, none⟩), undef, .pointer (some ⟨w.heap.size + 1, 0, none⟩), .pointer (some ⟨w.heap.size + 1 + 1, 0, none⟩), .int .i64 0, .int .i64 m, .pointer (some ⟨W2.heap.size, 0, none⟩), .int .i64 x.1, .pointer (some ⟨Br, 0, none⟩), .tuple #[.int .i64 m, .int .i64 0], .agg #[v1, v2, v3], .tuple #[.int .i64 m, .int .i64 0], .int .i64 m, .int .i64 0, .int .i64 0, .bool false, undef, .int .u64 t, .int .i64 m, .int .u64 m, .int .u64 a, .int .i64 a, .agg #[v1, v2, v3], .func (.func 39) #[] #[.pointer (some ⟨W2.heap.size + 1, 0, none⟩)], .func (.func 38) #[] #[.pointer (some ⟨W2.heap.size + 1 + 1, 0, none⟩)], .int .i64 x.1, .agg #[.int .i64 x.2.1, .int .i64 x.2.2], undef, undef, undef, undef, undef, undef, undef, undef, undef, undef, undef, undef, undef, undef, undef, undef], defers := [] })
      (fun x a' _ V V' row hs hg hr => by
        obtain ⟨Br, z, h2, h3⟩ := hs
        exact ⟨Br, z, (hg.block Br (lt_of_block h2) (fun e => by obtain ⟨_, o, ho, hc⟩ := hr Br e.symm; rw [h2] at ho; cases ho; cases hc)).trans h2, h3⟩)
      ?assign ?body ?done ?stop
    case assign =>
      rintro l' pre x V D ⟨hn, hr⟩ hzv hD
      dsimp only [encWR]
      gi_wp2
      exact hD _ _ (Keep.alloc _ _ _ _) ⟨hn, hr.alloc _⟩ ⟨V.heap.size, by omega, heap_alloc_new V _, rfl⟩
    case body =>
      rintro l' pre x a' V ⟨hn, hr⟩ hzv hpre ⟨Br, z, hbr, rfl⟩
      obtain ⟨t1, t2, t3, t4⟩ := laid_bound (winL_small hm) hpre
      have r0 : V.cell? ⟨Br, 0, none⟩ = some (.int .i64 x.2.1) := by rw [cell_of_row _ _ _ _ _ _ hbr]; rfl
      have r1 : V.cell? ⟨Br, 1, none⟩ = some (.int .i64 x.2.2) := by rw [cell_of_row _ _ _ _ _ _ hbr]; rfl
      have ga := hr.at_.cell
      by_cases hat : a < x.2.1 + x.2.2
      · obtain ⟨i, hi, hxi⟩ := laid_window hpre
        have hS : RowsAt 2 w v2 C.2.1 := H0.out.ws
        obtain ⟨a2, n2, k2, rfl⟩ := hS.isSlice
        obtain ⟨hn2, bb, o, y1, y2, rfl, hbl, hrow, g0, g1'⟩ := hS.two hr.bel i (by obtain ⟨_, _, e, _⟩ := hS; have := (Value.slice.inj e).2.1; omega)
        have e1 := hr.box.c1
        have f1 := hr.part.frozen
        have f2 := hr.window.frozen
        have g1 := hr.part.cell
        have g2 := hr.window.cell
        have hit := turnHit_hit hn hat
        have hR : turnR C.2.1 (turnHit a (pre ++ [x])) = (y1, (i : Int)) := by rw [hit]; unfold turnR; simp only [hxi]; rw [show ((i : Int)).toNat = i from rfl, hrow]; rfl
        have R4 := hr.set (Nat.le_refl _) (by omega) y1 (i : Int)
        have nK : ∀ k, w.heap.size + 1 ≤ k → k ≤ w.heap.size + 1 + 1 → ¬ (k < w.heap.size ∨ k = W2.heap.size + 1) := by intro k _ _; omega
        have E : Hid (Keep (fun k => k < w.heap.size ∨ k = W2.heap.size + 1) W3.heap.size V ((V.setCell ⟨w.heap.size + 1, 0, none⟩ (.int .i64 y1)).setCell ⟨w.heap.size + 1 + 1, 0, none⟩ (.int .i64 (i : Int))) ∧ ((∃ x', turnHit a (pre ++ [x]) = some x') ∧ TurnSt w ((V.setCell ⟨w.heap.size + 1, 0, none⟩ (.int .i64 y1)).setCell ⟨w.heap.size + 1 + 1, 0, none⟩ (.int .i64 (i : Int))) w.heap.size W2.heap.size _ _ _ a (turnR C.2.1 (turnHit a (pre ++ [x]))).1 (turnR C.2.1 (turnHit a (pre ++ [x]))).2)) := Lib.hid (by
          rw [hR]
          exact ⟨(Keep.setCell _ _ _ _ (nK _ (by omega) (by omega)) (by omega)).trans (Keep.setCell _ _ _ _ (nK _ (by omega) (by omega)) (by omega)), ⟨_, hit⟩, R4⟩)
        obtain ⟨x1, x2, x3⟩ := x
        simp only at hxi r0 r1 t1 t2 t3 t4 hat
        subst hxi
        have hil : i < n2 := by omega
        clear hit hR R4 nK hn hr hS hrow hn2 hbr
        gi_wp2
        exact ⟨E.out.1, ⟨rfl, E.out.2.1⟩, E.out.2.2⟩
      · have E := Lib.hid (turnHit_miss hn hat)
        have H3 := Lib.hid hr
        clear hn hr hbr
        gi_wp2
        exact ⟨Keep.refl _ _ _, E.out, H3.out⟩
    case done =>
      rintro D V hD ⟨hn, hr⟩ hKD
      have hA : turnA C t = (0, 0, 0) := HTA.out _ hn
      have hmx : Try.prog.follows .mixedOrders = true := by kernel_rfl
      have f1 := hr.part.frozen
      have f2 := hr.window.frozen
      have g1 := hr.part.cell
      have g2 := hr.window.cell
      have E : Hid (∀ (a0 : Act), a0.tmps[4]? = some (.pointer (some ⟨w.heap.size + 1, 0, none⟩)) → a0.tmps[5]? = some (.pointer (some ⟨w.heap.size + 1 + 1, 0, none⟩)) → a0.tmps[6]? = some (.int .i64 0) → a0.defers = [{ target := .collected D, args := #[] }] → bodyPostM Fence.wide 12 Try.prog Try.f16 (fun e w' => e = ans3 (turnA C t) ∧ Below w.heap.size w w') .ret a0 (((V.setCell ⟨w.heap.size + 1, 0, none⟩ (.int .i64 0)).setCell ⟨w.heap.size + 1 + 1, 0, none⟩ (.int .i64 0)).drew)) := Lib.hid (by
        intro a0 h4 h5 h6 hd
        have R4 := hr.set (Nat.le_refl _) (by omega) 0 0
        have KD : (((V.setCell ⟨w.heap.size + 1, 0, none⟩ (.int .i64 0)).setCell ⟨w.heap.size + 1 + 1, 0, none⟩ (.int .i64 0)).drew).heap[D]? = some (.deferred (some [])) :=
          (Below.heap_setCell _ _ _ _ (by simp only; omega)).trans ((Below.heap_setCell _ _ _ _ (by simp only; omega)).trans hKD)
        have R5 : TurnSt w (((V.setCell ⟨w.heap.size + 1, 0, none⟩ (.int .i64 0)).setCell ⟨w.heap.size + 1 + 1, 0, none⟩ (.int .i64 0)).drew) w.heap.size W2.heap.size v1 v2 v3 a 0 0 := ⟨R4.bel.drew, R4.box, R4.part, R4.window, R4.at_⟩
        generalize ((V.setCell ⟨w.heap.size + 1, 0, none⟩ (.int .i64 0)).setCell ⟨w.heap.size + 1 + 1, 0, none⟩ (.int .i64 0)).drew = V3 at *
        have R6 := TurnSt.hangs (B := D) (by omega) (by omega) (by omega) (fun (_ : Unit) => (0, 0)) () V3 _ R5 (below_put D V3 D (.deferred none) (Nat.le_refl _))
        obtain ⟨tm, df⟩ := a0
        simp only at h4 h5 h6 hd
        subst hd
        refine ⟨by simp, .inl ⟨_, _, rfl, run_takeDeferred KD, ?_⟩⟩
        have q1 := R6.part.cell
        have q2 := R6.window.cell
        generalize V3.putObj D (.deferred none) = V4 at *
        refine ⟨.tuple #[.int .i64 0, .int .i64 0, .int .i64 0], ?_, by rw [hA]; rfl, R6.bel⟩
        simp [results, Try.results16, go_sem, q1, q2, h4, h5, h6])
      clear hr hKD
      gi_wp2
      gi_region_o
      all_goals gi_wp2
      all_goals exact E.out _ rfl rfl rfl rfl
    case stop =>
      rintro D c pre V hD hpre ⟨⟨rfl, x, hx⟩, hr⟩ hKD
      have hA : turnA C t = ((turnR C.2.1 (turnHit a pre)).1, (turnR C.2.1 (turnHit a pre)).2, 0) := HTA.out _ (by rw [hx]; exact turnHit_pre hx hpre)
      obtain ⟨p0, hp0⟩ : ∃ p0, p0 = (turnR C.2.1 (turnHit a pre)).1 := ⟨_, rfl⟩
      obtain ⟨q0, hq0⟩ : ∃ q0, q0 = (turnR C.2.1 (turnHit a pre)).2 := ⟨_, rfl⟩
      rw [← hp0, ← hq0] at hA hr
      clear hp0 hq0
      have hmx : Try.prog.follows .mixedOrders = true := by kernel_rfl
      have f1 := hr.part.frozen
      have f2 := hr.window.frozen
      have g1 := hr.part.cell
      have g2 := hr.window.cell
      have E : Hid (∀ (a0 : Act), a0.tmps[4]? = some (.pointer (some ⟨w.heap.size + 1, 0, none⟩)) → a0.tmps[5]? = some (.pointer (some ⟨w.heap.size + 1 + 1, 0, none⟩)) → a0.tmps[6]? = some (.int .i64 0) → a0.defers = [{ target := .collected D, args := #[] }] → bodyPostM Fence.wide 12 Try.prog Try.f16 (fun e w' => e = ans3 (turnA C t) ∧ Below w.heap.size w w') .ret a0 (((V.setCell ⟨w.heap.size + 1, 0, none⟩ (.int .i64 p0)).setCell ⟨w.heap.size + 1 + 1, 0, none⟩ (.int .i64 q0)).drew)) := Lib.hid (by
        intro a0 h4 h5 h6 hd
        have R4 := hr.set (Nat.le_refl _) (by omega) p0 q0
        have KD : (((V.setCell ⟨w.heap.size + 1, 0, none⟩ (.int .i64 p0)).setCell ⟨w.heap.size + 1 + 1, 0, none⟩ (.int .i64 q0)).drew).heap[D]? = some (.deferred (some [])) :=
          (Below.heap_setCell _ _ _ _ (by simp only; omega)).trans ((Below.heap_setCell _ _ _ _ (by simp only; omega)).trans hKD)
        have R5 : TurnSt w (((V.setCell ⟨w.heap.size + 1, 0, none⟩ (.int .i64 p0)).setCell ⟨w.heap.size + 1 + 1, 0, none⟩ (.int .i64 q0)).drew) w.heap.size W2.heap.size v1 v2 v3 a p0 q0 := ⟨R4.bel.drew, R4.box, R4.part, R4.window, R4.at_⟩
        generalize ((V.setCell ⟨w.heap.size + 1, 0, none⟩ (.int .i64 p0)).setCell ⟨w.heap.size + 1 + 1, 0, none⟩ (.int .i64 q0)).drew = V3 at *
        have R6 := TurnSt.hangs (B := D) (by omega) (by omega) (by omega) (fun (_ : Unit) => (p0, q0)) () V3 _ R5 (below_put D V3 D (.deferred none) (Nat.le_refl _))
        obtain ⟨tm, df⟩ := a0
        simp only at h4 h5 h6 hd
        subst hd
        refine ⟨by simp, .inl ⟨_, _, rfl, run_takeDeferred KD, ?_⟩⟩
        have q1 := R6.part.cell
        have q2 := R6.window.cell
        generalize V3.putObj D (.deferred none) = V4 at *
        refine ⟨.tuple #[.int .i64 p0, .int .i64 q0, .int .i64 0], ?_, by rw [hA]; rfl, R6.bel⟩
        simp [results, Try.results16, go_sem, q1, q2, h4, h5, h6])
      clear hr hKD
      gi_wp2
      gi_region_o
      all_goals gi_wp2
      all_goals exact E.out _ rfl rfl rfl rfl
  · have f1 := P2.out.part.frozen
    have f2 := P2.out.window.frozen
    have g1 := P2.out.part.cell
    have g2 := P2.out.window.cell
    have hA : turnA C t = (0, 0, chk C) := by unfold turnA; rw [if_neg hk]
    have hj : majorA C = 0 := by unfold majorA; rw [if_neg hk]
    rw [hj]
    have HA := Lib.hid hA
    clear hA hj
    gi_wp2
    have b1 : Boxed ((W2.setCell ⟨w.heap.size + 1, 0, none⟩ (.int .i64 0)).setCell ⟨w.heap.size + 1 + 1, 0, none⟩ (.int .i64 0)) (w.heap.size + 1) 3 (.int .i64 0) := (P2.out.part.set _).other (by omega) _
    have b2 : Boxed ((W2.setCell ⟨w.heap.size + 1, 0, none⟩ (.int .i64 0)).setCell ⟨w.heap.size + 1 + 1, 0, none⟩ (.int .i64 0)) (w.heap.size + 1 + 1) 3 (.int .i64 0) := (P2.out.window.other (by omega) _).set _
    have b3 := (P2.out.bel.setCell (p := ⟨w.heap.size + 1, 0, none⟩) (by simp) (.int .i64 0)).setCell (p := ⟨w.heap.size + 1 + 1, 0, none⟩) (by simp only; omega) (.int .i64 0)
    generalize (W2.setCell ⟨w.heap.size + 1, 0, none⟩ (.int .i64 0)).setCell ⟨w.heap.size + 1 + 1, 0, none⟩ (.int .i64 0) = W3 at *
    have q1 := b1.cell
    have q2 := b2.cell
    refine ⟨.tuple #[.int .i64 0, .int .i64 0, .int .i64 (chk C)], ?_, by rw [HA.out]; rfl, b3⟩
    simp [results, Try.results16, go_sem, q1, q2]
end Go.Proofs.Ytepfljfaclakeaa
