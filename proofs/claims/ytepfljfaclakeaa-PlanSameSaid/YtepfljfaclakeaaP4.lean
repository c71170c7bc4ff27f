/- The contract of package plan's iterator over ranges, one behind the other, at its two types: what it ranges over has the contract of an iterator. Condition: the sums are small. Written by gen/gen_p4.py. -/
import Derived.Test.YtepfljfaclakeaaP3
namespace Go.Proofs.Ytepfljfaclakeaa
open Go.RowKit Go.Shelf
attribute [local go_sem] Oper.semAt_some
set_option maxRecDepth 100000

/-- The ranges, one behind the other. -/
def laidL {κ : Type} (s : Int) : List (κ × Int) → List (κ × (Int × Int))
  | [] => []
  | x :: t => (x.1, (s, x.2)) :: laidL (s + x.2) t
def sumL {κ : Type} (L : List (κ × Int)) : Int := (L.map Prod.snd).sum
theorem sumL_snoc {κ : Type} (L : List (κ × Int)) (x : κ × Int) : sumL (L ++ [x]) = sumL L + x.2 := by simp [sumL]
theorem laidL_append {κ : Type} : ∀ (s : Int) (L M : List (κ × Int)), laidL s (L ++ M) = laidL s L ++ laidL (s + sumL L) M
  | s, [], M => by simp [laidL, sumL]
  | s, x :: L, M => by
    rw [List.cons_append, laidL, laidL, laidL_append, List.cons_append]
    congr 3
    simp [sumL, Int.add_assoc]
theorem laidL_snoc {κ : Type} (s : Int) (L : List (κ × Int)) (x : κ × Int) : laidL s (L ++ [x]) = laidL s L ++ [(x.1, (s + sumL L, x.2))] := by rw [laidL_append]; rfl
theorem laidL_pre {κ : Type} (s : Int) {L M : List (κ × Int)} (h : L <+: M) : laidL s L <+: laidL s M := by
  obtain ⟨t, rfl⟩ := h
  rw [laidL_append]
  exact List.prefix_append _ _
/-- Sums that fit, of all beginnings. -/
def Small {κ : Type} (L : List (κ × Int)) : Prop := ∀ pre, pre <+: L → 0 ≤ sumL pre ∧ sumL pre ≤ 1000000
def encWR (x : Int × (Int × Int)) : Array Value := #[.int .i64 x.1, .agg #[.int .i64 x.2.1, .int .i64 x.2.2]]
def encOR (x : (Int × Int) × (Int × Int)) : Array Value := #[.agg #[.int .i64 x.1.1, .int .i64 x.1.2], .agg #[.int .i64 x.2.1, .int .i64 x.2.2]]
theorem round_in {m m' : Nat} {P : Program} {l l' : Nat} {f : FuncId} {tmps : Array Value} {assign body : Code} {w : World} {R : Ending → World → Prop} (h : RoundIn Fence.wide m P l f tmps assign body w R) :
    RoundIn (Fence.wide.inRound l') m' P l f tmps assign body w R := ⟨trivial, fun c cs _ => h.2 c cs (room_wide _)⟩

set_option maxHeartbeats 4000000 in
theorem laidW_seq (bs gs : Nat) (lb : Array Value) (hent : ∀ (args : Array Value) (W : World), (callFunc gs args).run Try.prog W = .ok (.enter gs args) W) (L : List WinE) (hL : Small L) (K : Nat → Prop) (w : World) (hs : Seq Try.prog gs lb encW L K w) (hbs : w.cell? ⟨bs, 0, none⟩ = some (.func (.func gs) #[] lb)) (hK : ∀ k, K k → k < w.heap.size) :
    Seq Try.prog 38 #[.pointer (some ⟨bs, 0, none⟩)] encWR (laidL 0 L) K w := by
  intro l J Jx W hW hJ hJx hY h0
  have hcs := (hW.cell (p := ⟨bs, 0, none⟩) (block_lt_of_cell hbs)).trans hbs
  have hbl : bs < W.heap.size := block_lt_of_cell hcs
  obtain ⟨W0, hW0⟩ : ∃ W0, W0 = (W.alloc (.cells #[.func (.yield l) #[] #[]] 71)).alloc (.cells #[.int .i64 0] 3) := ⟨_, rfl⟩
  have hB0 : Below W.heap.size W W0 := by rw [hW0]; exact below_two W _ _
  have hz : W0.heap.size = W.heap.size + 2 := by rw [hW0]; simp
  have bY : Boxed W0 W.heap.size 71 (.func (.yield l) #[] #[]) := by rw [hW0]; exact (Boxed.new W _ _).alloc _
  have bF : Boxed W0 (W.heap.size + 1) 3 (.int .i64 0) := by rw [hW0]; exact heap_alloc2_new W _ _
  refine (callsIn_wide (n := 9)).1 ?_
  refine callsIn_of_wp_marks Try.func38 rfl trivial ?_ rfl
  simp only [Try.ntmps38, List.size_toArray, List.length_cons, List.length_nil, Nat.reduceAdd, Nat.reduceSub, Array.replicate_succ, Array.replicate_zero, List.push_toArray, List.append_toArray, List.nil_append, List.cons_append]
  gi_wp2
  rw [← hW0]
  clear hW0
  refine range_seq (gf := gs) (lb := lb) rfl hent hs (hW.trans (hB0.mono hW.size)) (by intro _; rfl) (fun k h => by have := hK k h; have := hW.size; omega)
    (fun pre V => J (laidL 0 pre) V ∧ (Boxed V W.heap.size 71 (.func (.yield l) #[] #[]) ∧ Boxed V (W.heap.size + 1) 3 (.int .i64 (sumL pre))))
    (fun c pre V => c = .ret ∧ Jx (laidL 0 pre) V)
    (Hangs.and (fun s V V' h hb => hJ _ _ _ h (hb.mono (by omega))) (Hangs.and (hangs_block (by omega) _) (hangs_block (by omega) _)))
    (fun c => Hangs.and (hangs_pure _ _) (fun s V V' h hb => hJx _ _ _ h (hb.mono (by omega))))
    ⟨hJ _ _ _ h0 hB0, bY, bF⟩
    (fun x a' _ => a' = { tmps := #[.func (.yield l) #[] #[], .pointer (some ⟨bs, 0, none⟩), .pointer (some ⟨W.heap.size, 0, none⟩), .pointer (some ⟨W.heap.size + 1, 0, none⟩), .int .i64 x.1, .int .i64 x.2, .func (.func gs) #[] lb, .int .i64 x.1, .int .i64 x.2, undef, undef, undef, undef, undef, undef, undef, undef, undef, undef], defers := [] })
    (fun _ _ _ _ _ _ hs _ _ => hs)
    ?assign ?body ?done ?stop
  case assign =>
    rintro l' pre x V C ⟨hj, hy, hf⟩ hzv hC
    dsimp only [encW]
    gi_wp2
    exact hC _ _ (Keep.refl _ _ _) ⟨hj, hy, hf⟩ rfl
  case body =>
    rintro l' pre x a' V ⟨hj, hy, hf⟩ hzv hpre rfl
    have hpre' : laidL 0 pre ++ [(x.1, (sumL pre, x.2))] <+: laidL 0 L := by
      have := laidL_snoc 0 pre x
      rw [Int.zero_add] at this
      rw [← this]
      exact laidL_pre 0 hpre
    have hsn : laidL 0 (pre ++ [x]) = laidL 0 pre ++ [(x.1, (sumL pre, x.2))] := by rw [laidL_snoc, Int.zero_add]
    obtain ⟨fn, tmps, assign, body, hy2, hR⟩ := hY (laidL 0 pre) (x.1, (sumL pre, x.2)) V 6 hj (by omega) hpre'
    dsimp only [encWR] at hy2
    obtain ⟨n0, n1⟩ := hL pre ((List.prefix_append pre [x]).trans hpre)
    obtain ⟨n2, n3⟩ := hL (pre ++ [x]) hpre
    rw [sumL_snoc] at n2 n3
    have cy := hy.cell
    have cf := hf.cell
    have HR := Lib.hid hR
    have HSN := Lib.hid hsn
    have HY := Lib.hid hy
    have HF := Lib.hid hf
    clear hpre' hsn hR hy hf
    gi_wp2
    refine (round_in HR.out).mono ?_
    rintro e V3 ⟨hk, ⟨rfl, hJ3⟩ | ⟨rfl, hJ3⟩⟩
    · have hy3 : Boxed V3 W.heap.size 71 (.func (.yield l) #[] #[]) := (hk.same _ (by omega) (Or.inr (Nat.le_refl _))).trans HY.out
      have hf3 : Boxed V3 (W.heap.size + 1) 3 (.int .i64 (sumL pre)) := (hk.same _ (by omega) (Or.inr (by omega))).trans HF.out
      have cf3 := hf3.cell
      have ff3 := hf3.frozen
      have HY3 := Lib.hid hy3
      have HF3 := Lib.hid hf3
      have HK := Lib.hid hk
      have nK : ¬ K (W.heap.size + 1) := fun h => by have := hK _ h; have := hW.size; omega
      clear hy3 hf3 hk cy cf
      gi_wp2
      refine ⟨(HK.out.weak fun k _ h => h.imp id (by omega)).trans (Keep.setCell _ _ _ _ nK (by omega)), ?_, HY3.out.other (by omega) _, ?_⟩
      · rw [HSN.out]; exact hJ _ _ _ hJ3 ((Below.refl _ _).setCell (p := ⟨W.heap.size + 1, 0, none⟩) (by simp) _)
      · rw [sumL_snoc]; exact HF3.out.set _
    · gi_wp2
      exact ⟨hk.weak fun k _ h => h.imp id (by omega), rfl, by rw [HSN.out]; exact hJ3⟩
  case done =>
    rintro D V hD ⟨hj, -, -⟩ hKD
    gi_wp2
    refine ⟨by simp, .inl ⟨_, _, rfl, run_takeDeferred hKD, ?_⟩⟩
    exact ⟨_, results_none rfl _ _ _, ⟨_, rfl⟩, Or.inl (hJ _ _ _ hj (below_put _ _ _ _ (by omega)))⟩
  case stop =>
    rintro D c pre V hD hpre ⟨rfl, hj⟩ hKD
    gi_wp2
    refine ⟨by simp, .inl ⟨_, _, rfl, run_takeDeferred hKD, ?_⟩⟩
    exact ⟨_, results_none rfl _ _ _, ⟨_, rfl⟩, Or.inr ⟨_, laidL_pre 0 hpre, hJx _ _ _ hj (below_put _ _ _ _ (by omega))⟩⟩
set_option maxHeartbeats 4000000 in
theorem laidO_seq (bs gs : Nat) (lb : Array Value) (hent : ∀ (args : Array Value) (W : World), (callFunc gs args).run Try.prog W = .ok (.enter gs args) W) (L : List OwnE) (hL : Small L) (K : Nat → Prop) (w : World) (hs : Seq Try.prog gs lb encO L K w) (hbs : w.cell? ⟨bs, 0, none⟩ = some (.func (.func gs) #[] lb)) (hK : ∀ k, K k → k < w.heap.size) :
    Seq Try.prog 54 #[.pointer (some ⟨bs, 0, none⟩)] encOR (laidL 0 L) K w := by
  intro l J Jx W hW hJ hJx hY h0
  have hcs := (hW.cell (p := ⟨bs, 0, none⟩) (block_lt_of_cell hbs)).trans hbs
  have hbl : bs < W.heap.size := block_lt_of_cell hcs
  obtain ⟨W0, hW0⟩ : ∃ W0, W0 = (W.alloc (.cells #[.func (.yield l) #[] #[]] 83)).alloc (.cells #[.int .i64 0] 3) := ⟨_, rfl⟩
  have hB0 : Below W.heap.size W W0 := by rw [hW0]; exact below_two W _ _
  have hz : W0.heap.size = W.heap.size + 2 := by rw [hW0]; simp
  have bY : Boxed W0 W.heap.size 83 (.func (.yield l) #[] #[]) := by rw [hW0]; exact (Boxed.new W _ _).alloc _
  have bF : Boxed W0 (W.heap.size + 1) 3 (.int .i64 0) := by rw [hW0]; exact heap_alloc2_new W _ _
  refine (callsIn_wide (n := 9)).1 ?_
  refine callsIn_of_wp_marks Try.func54 rfl trivial ?_ rfl
  simp only [Try.ntmps54, List.size_toArray, List.length_cons, List.length_nil, Nat.reduceAdd, Nat.reduceSub, Array.replicate_succ, Array.replicate_zero, List.push_toArray, List.append_toArray, List.nil_append, List.cons_append]
  gi_wp2
  rw [← hW0]
  clear hW0
  refine range_seq (gf := gs) (lb := lb) rfl hent hs (hW.trans (hB0.mono hW.size)) (by intro _; rfl) (fun k h => by have := hK k h; have := hW.size; omega)
    (fun pre V => J (laidL 0 pre) V ∧ (Boxed V W.heap.size 83 (.func (.yield l) #[] #[]) ∧ Boxed V (W.heap.size + 1) 3 (.int .i64 (sumL pre))))
    (fun c pre V => c = .ret ∧ Jx (laidL 0 pre) V)
    (Hangs.and (fun s V V' h hb => hJ _ _ _ h (hb.mono (by omega))) (Hangs.and (hangs_block (by omega) _) (hangs_block (by omega) _)))
    (fun c => Hangs.and (hangs_pure _ _) (fun s V V' h hb => hJx _ _ _ h (hb.mono (by omega))))
    ⟨hJ _ _ _ h0 hB0, bY, bF⟩
    (fun x a' V => ∃ Bx, V.heap[Bx]? = some (.cells #[.int .i64 x.1.1, .int .i64 x.1.2] 53 (0, 0)) ∧ a' = { tmps := #[.func (.yield l) #[] #[], .pointer (some ⟨bs, 0, none⟩), .pointer (some ⟨W.heap.size, 0, none⟩), .pointer (some ⟨W.heap.size + 1, 0, none⟩), .pointer (some ⟨Bx, 0, none⟩), .int .i64 x.2, .func (.func gs) #[] lb, .agg #[.int .i64 x.1.1, .int .i64 x.1.2], .int .i64 x.2, undef, undef, undef, undef, undef, undef, undef, undef, undef, undef], defers := [] })
    (fun x a' _ V V' row hs hg hr => by obtain ⟨Bx, h1, h2⟩ := hs; exact ⟨Bx, (hg.block Bx (lt_of_block h1) (fun e => by obtain ⟨_, o, ho, hc⟩ := hr Bx e.symm; rw [h1] at ho; cases ho; cases hc)).trans h1, h2⟩)
    ?assign ?body ?done ?stop
  case assign =>
    rintro l' pre x V C ⟨hj, hy, hf⟩ hzv hC
    dsimp only [encO]
    gi_wp2
    exact hC _ _ (Keep.alloc _ _ _ _) ⟨hJ _ _ _ hj ((Below.refl _ _).alloc (by omega) _), hy.alloc _, hf.alloc _⟩ ⟨V.heap.size, heap_alloc_new V _, rfl⟩
  case body =>
    rintro l' pre x a' V ⟨hj, hy, hf⟩ hzv hpre ⟨Bx, hBx, rfl⟩
    have hpre' : laidL 0 pre ++ [(x.1, (sumL pre, x.2))] <+: laidL 0 L := by
      have := laidL_snoc 0 pre x
      rw [Int.zero_add] at this
      rw [← this]
      exact laidL_pre 0 hpre
    have hsn : laidL 0 (pre ++ [x]) = laidL 0 pre ++ [(x.1, (sumL pre, x.2))] := by rw [laidL_snoc, Int.zero_add]
    obtain ⟨fn, tmps, assign, body, hy2, hR⟩ := hY (laidL 0 pre) (x.1, (sumL pre, x.2)) V 6 hj (by omega) hpre'
    dsimp only [encOR] at hy2
    obtain ⟨n0, n1⟩ := hL pre ((List.prefix_append pre [x]).trans hpre)
    obtain ⟨n2, n3⟩ := hL (pre ++ [x]) hpre
    rw [sumL_snoc] at n2 n3
    have cy := hy.cell
    have cf := hf.cell
    have HR := Lib.hid hR
    have HSN := Lib.hid hsn
    have HY := Lib.hid hy
    have HF := Lib.hid hf
    clear hpre' hsn hR hy hf
    have b0 : V.cell? ⟨Bx, 0, none⟩ = some (.int .i64 x.1.1) := by rw [cell_of_row _ _ _ _ _ _ hBx]; rfl
    have b1 : V.cell? ⟨Bx, 1, none⟩ = some (.int .i64 x.1.2) := by rw [cell_of_row _ _ _ _ _ _ hBx]; rfl
    clear hBx
    gi_wp2
    refine (round_in HR.out).mono ?_
    rintro e V3 ⟨hk, ⟨rfl, hJ3⟩ | ⟨rfl, hJ3⟩⟩
    · have hy3 : Boxed V3 W.heap.size 83 (.func (.yield l) #[] #[]) := (hk.same _ (by omega) (Or.inr (Nat.le_refl _))).trans HY.out
      have hf3 : Boxed V3 (W.heap.size + 1) 3 (.int .i64 (sumL pre)) := (hk.same _ (by omega) (Or.inr (by omega))).trans HF.out
      have cf3 := hf3.cell
      have ff3 := hf3.frozen
      have HY3 := Lib.hid hy3
      have HF3 := Lib.hid hf3
      have HK := Lib.hid hk
      have nK : ¬ K (W.heap.size + 1) := fun h => by have := hK _ h; have := hW.size; omega
      clear hy3 hf3 hk cy cf
      gi_wp2
      refine ⟨(HK.out.weak fun k _ h => h.imp id (by omega)).trans (Keep.setCell _ _ _ _ nK (by omega)), ?_, HY3.out.other (by omega) _, ?_⟩
      · rw [HSN.out]; exact hJ _ _ _ hJ3 ((Below.refl _ _).setCell (p := ⟨W.heap.size + 1, 0, none⟩) (by simp) _)
      · rw [sumL_snoc]; exact HF3.out.set _
    · gi_wp2
      exact ⟨hk.weak fun k _ h => h.imp id (by omega), rfl, by rw [HSN.out]; exact hJ3⟩
  case done =>
    rintro D V hD ⟨hj, -, -⟩ hKD
    gi_wp2
    refine ⟨by simp, .inl ⟨_, _, rfl, run_takeDeferred hKD, ?_⟩⟩
    exact ⟨_, results_none rfl _ _ _, ⟨_, rfl⟩, Or.inl (hJ _ _ _ hj (below_put _ _ _ _ (by omega)))⟩
  case stop =>
    rintro D c pre V hD hpre ⟨rfl, hj⟩ hKD
    gi_wp2
    refine ⟨by simp, .inl ⟨_, _, rfl, run_takeDeferred hKD, ?_⟩⟩
    exact ⟨_, results_none rfl _ _ _, ⟨_, rfl⟩, Or.inr ⟨_, laidL_pre 0 hpre, hJx _ _ _ hj (below_put _ _ _ _ (by omega))⟩⟩
end Go.Proofs.Ytepfljfaclakeaa
