/- The contract of package plan's find. Conditions: the configuration's lists lie in memory. -/
import Derived.Test.YtepfljfaclakeaaP4
namespace Go.Proofs.Ytepfljfaclakeaa
open Go.RowKit Go.Shelf
attribute [local go_sem] Oper.semAt_some
set_option maxRecDepth 100000

theorem small_of {κ : Type} (L : List (κ × Int)) (h : ∀ x ∈ L, 0 ≤ x.2 ∧ x.2 ≤ 300) (hl : L.length ≤ 1000) : Small L := by
  intro pre hpre
  have hs : ∀ (M : List (κ × Int)), (∀ x ∈ M, 0 ≤ x.2 ∧ x.2 ≤ 300) → 0 ≤ sumL M ∧ sumL M ≤ 300 * (M.length : Int) := by
    intro M
    induction M with
    | nil => intro _; simp [sumL]
    | cons x M ih =>
      intro hM
      have h1 := ih fun y hy => hM y (by simp [hy])
      have h2 := hM x (by simp)
      have h3 : sumL (x :: M) = x.2 + sumL M := by simp [sumL]
      rw [h3, List.length_cons]
      push_cast
      omega
  have h1 := hs pre fun x hx => h x (hpre.subset hx)
  have h2 := hpre.length_le
  omega
theorem mem_winL {C : Cf} {x : WinE} (h : x ∈ winL C) : ∃ i, i < C.2.1.length ∧ x = winAt C.2.1 i := by
  simp only [winL, winN, List.mem_map, List.mem_range] at h
  obtain ⟨i, hi, rfl⟩ := h
  exact ⟨i, hi, rfl⟩
theorem mem_ownL {C : Cf} {x : OwnE} (h : x ∈ ownL C) : (∃ i, i < C.1.length ∧ (x = ownAt C.1 i ∨ x = trapAt C.1 i)) ∨ ∃ i, i < C.2.2.length ∧ x = chanAt C.2.2 i := by
  simp only [ownL, partN, chanN, List.mem_append, List.mem_map, List.mem_range, List.mem_flatMap, List.mem_cons, List.not_mem_nil, or_false] at h
  rcases h with ⟨i, hi, hx⟩ | ⟨i, hi, rfl⟩
  · exact Or.inl ⟨i, hi, hx⟩
  · exact Or.inr ⟨i, hi, rfl⟩
theorem partN_length (S : List Row) (n : Nat) : (partN S n).length = 2 * n := by
  induction n with
  | zero => rfl
  | succ n ih => rw [partN_succ, List.length_append, ih]; simp; omega
theorem ownL_length (C : Cf) : (ownL C).length = 2 * C.1.length + C.2.2.length := by
  simp [ownL, partN_length, chanN]
theorem below_three (w : World) (o1 o2 o3 : Obj) : Below w.heap.size w (((w.alloc o1).alloc o2).alloc o3) := (below_two w o1 o2).alloc (by simp; omega) _
theorem ownL_small {C : Cf} (hm : mayB C = true) : Small (ownL C) := by
  obtain ⟨⟨p1, p2⟩, c1, c2⟩ := mayB_parts hm
  refine small_of _ (fun x hx => ?_) (by rw [ownL_length]; omega)
  rcases mem_ownL hx with ⟨i, hi, rfl | rfl⟩ | ⟨i, hi, rfl⟩
  · have := partF_le _ (p2 _ (getD_mem hi)); simp only [ownAt]; omega
  · have := partF_le _ (p2 _ (getD_mem hi)); simp only [trapAt]; omega
  · have := chanF_le _ _ (c2 _ (getD_mem hi)); simp only [chanAt]; omega
abbrev LaidE := (Int × Int) × (Int × Int)
/-- The first range of a key. -/
def hitL (k : Int × Int) (L : List LaidE) : Option LaidE := L.find? fun x => decide (x.1 = k)
def findR (k : Int × Int) (L : List LaidE) : Int × Int × Int := match hitL k L with | some x => (x.2.1, x.2.2, 0) | none => (0, 0, 2)
/-- What find answers. -/
def findA (C : Cf) (k : Int × Int) : Int × Int × Int := if chk C = 0 then findR k (laidL 0 (ownL C)) else (0, 0, chk C)
theorem hitL_miss {k : Int × Int} {L : List LaidE} {x : LaidE} (h : hitL k L = none) (hx : x.1 ≠ k) : hitL k (L ++ [x]) = none := by
  unfold hitL at h ⊢
  rw [List.find?_append, h]
  simp [hx]
theorem hitL_hit {k : Int × Int} {L : List LaidE} {x : LaidE} (h : hitL k L = none) (hx : x.1 = k) : hitL k (L ++ [x]) = some x := by
  unfold hitL at h ⊢
  rw [List.find?_append, h]
  simp [hx]
theorem hitL_pre {k : Int × Int} {L M : List LaidE} {x : LaidE} (h : hitL k L = some x) (hp : L <+: M) : hitL k M = some x := by
  obtain ⟨t, rfl⟩ := hp
  unfold hitL at h ⊢
  rw [List.find?_append, h]; rfl

/-- The results' variables. -/
structure Res3 (w V : World) (b : Nat) (x y z : Int) : Prop where
  bel : Below w.heap.size w V
  from_ : Boxed V (b + 1 + 1) 3 (.int .i64 x)
  many : Boxed V (b + 1 + 1 + 1) 3 (.int .i64 y)
  err : Boxed V (b + 1 + 1 + 1 + 1) 29 (.int .i64 z)
theorem Res3.hangs {β : Type} {w : World} {b B : Nat} (hw : w.heap.size ≤ B) (hb : b + 5 ≤ B) (f : β → Int × Int × Int) : Hangs B (fun s V => Res3 w V b (f s).1 (f s).2.1 (f s).2.2) :=
  fun _ _ _ h hb' => ⟨h.bel.trans (hb'.mono hw), (hb'.block _ (by omega)).trans h.from_, (hb'.block _ (by omega)).trans h.many, (hb'.block _ (by omega)).trans h.err⟩
theorem Res3.alloc {w V : World} {b : Nat} {x y z : Int} (h : Res3 w V b x y z) (o : Obj) : Res3 w (V.alloc o) b x y z :=
  ⟨h.bel.alloc h.bel.size _, h.from_.alloc _, h.many.alloc _, h.err.alloc _⟩
theorem Res3.set {w V : World} {b : Nat} {x y z : Int} (h : Res3 w V b x y z) (hb : w.heap.size ≤ b) (x' y' z' : Int) :
    Res3 w (((V.setCell ⟨b + 1 + 1, 0, none⟩ (.int .i64 x')).setCell ⟨b + 1 + 1 + 1, 0, none⟩ (.int .i64 y')).setCell ⟨b + 1 + 1 + 1 + 1, 0, none⟩ (.int .i64 z')) b x' y' z' :=
  ⟨((h.bel.setCell (p := ⟨b + 1 + 1, 0, none⟩) (by simp only; omega) _).setCell (p := ⟨b + 1 + 1 + 1, 0, none⟩) (by simp only; omega) _).setCell (p := ⟨b + 1 + 1 + 1 + 1, 0, none⟩) (by simp only; omega) _,
   ((h.from_.set _).other (by omega) _).other (by omega) _, ((h.many.other (by omega) _).set _).other (by omega) _, ((h.err.other (by omega) _).other (by omega) _).set _⟩
def OwnBox (V : World) (b : Nat) (k : Int × Int) : Prop := V.heap[b]? = some (.cells #[.int .i64 k.1, .int .i64 k.2] 53 (0, 0))
theorem OwnBox.c0 {V : World} {b : Nat} {k : Int × Int} (h : OwnBox V b k) : V.cell? ⟨b, 0, none⟩ = some (.int .i64 k.1) := by rw [cell_of_row _ _ _ _ _ _ h]; rfl
theorem OwnBox.c1 {V : World} {b : Nat} {k : Int × Int} (h : OwnBox V b k) : V.cell? ⟨b, 1, none⟩ = some (.int .i64 k.2) := by rw [cell_of_row _ _ _ _ _ _ h]; rfl
set_option maxHeartbeats 4000000 in
theorem find_ok (v1 v2 v3 : Value) (C : Cf) (k1 k2 : Int) (w : World) (h : CfAt w v1 v2 v3 C) :
    Calls Try.prog 24 #[.agg #[v1, v2, v3], .agg #[.int .i64 k1, .int .i64 k2]] w fun e w' => e = .returned (.tuple #[.int .i64 (findA C (k1, k2)).1, .int .i64 (findA C (k1, k2)).2.1, .int .i64 (findA C (k1, k2)).2.2]) ∧ Below w.heap.size w w' := by
  obtain ⟨W1, hW1⟩ : ∃ W1, W1 = ((((w.alloc (.cells #[v1, v2, v3] 26)).alloc (.cells #[.int .i64 k1, .int .i64 k2] 53)).alloc (.cells #[.int .i64 0] 3)).alloc (.cells #[.int .i64 0] 3)).alloc (.cells #[.int .i64 0] 29) := ⟨_, rfl⟩
  obtain ⟨wa, hwa⟩ : ∃ wa, wa = (w.alloc (.cells #[v1, v2, v3] 26)).alloc (.cells #[.int .i64 k1, .int .i64 k2] 53) := ⟨_, rfl⟩
  have hza : wa.heap.size = w.heap.size + 2 := by rw [hwa]; simp
  have hba : Below w.heap.size w wa := by rw [hwa]; exact below_two w _ _
  have hW1' : W1 = ((wa.alloc (.cells #[.int .i64 0] 3)).alloc (.cells #[.int .i64 0] 3)).alloc (.cells #[.int .i64 0] 29) := by rw [hW1, hwa]
  have hz1 : W1.heap.size = w.heap.size + 5 := by rw [hW1]; simp
  have hx : CBox W1 w.heap.size v1 v2 v3 := by
    rw [hW1']; refine below_block (below_three wa _ _ _) ?_
    rw [hwa]; exact (CBox.new w _ _ _).below ((Below.refl _ _).alloc (Nat.le_refl _) _)
  have ho : OwnBox W1 (w.heap.size + 1) (k1, k2) := by
    rw [hW1']; refine below_block (below_three wa _ _ _) ?_
    rw [hwa]; exact heap_alloc2_new w _ _
  have hr : Res3 w W1 w.heap.size 0 0 0 := by
    refine ⟨?_, ?_, ?_, ?_⟩
    · rw [hW1']; exact hba.trans ((below_three wa _ _ _).mono hba.size)
    · rw [hW1', show w.heap.size + 1 + 1 = wa.heap.size from hza.symm]; exact ((Boxed.new wa _ _).alloc _).alloc _
    · rw [hW1', show w.heap.size + 1 + 1 = wa.heap.size from hza.symm]; exact Boxed.alloc (heap_alloc2_new wa _ _) _
    · rw [hW1', show w.heap.size + 1 + 1 = wa.heap.size from hza.symm]
      have := Boxed.new ((wa.alloc (.cells #[.int .i64 0] 3)).alloc (.cells #[.int .i64 0] 3)) 29 (.int .i64 0)
      simpa using this
  have HC := Lib.hid (h.below hr.bel)
  have H0 := Lib.hid h
  have X1 := Lib.hid hx
  have O1 := Lib.hid ho
  have R1 := Lib.hid hr
  have c0 := hx.c0
  have c1 := hx.c1
  have c2 := hx.c2
  clear hW1' hwa hba hza
  clear wa h hx ho hr
  refine (callsIn_wide (n := 12)).1 ?_
  refine callsIn_of_wp_marks Try.func24 rfl trivial ?_ rfl
  simp only [Try.ntmps24, List.size_toArray, List.length_cons, List.length_nil, Nat.reduceAdd, Nat.reduceSub, Array.replicate_succ, Array.replicate_zero, List.push_toArray, List.append_toArray, List.nil_append, List.cons_append]
  gi_wp2
  refine ⟨trivial, ?_⟩
  rw [← hW1]
  clear hW1
  refine (callsIn_wide.2 (check_ok v1 v2 v3 C W1 HC.out)).mono ?_
  rintro e W2 ⟨rfl, hb⟩
  have X2 := Lib.hid (X1.out.below hb)
  have O2 : Hid (OwnBox W2 (w.heap.size + 1) (k1, k2)) := Lib.hid (below_block hb O1.out)
  have R2 : Hid (Res3 w W2 w.heap.size 0 0 0) := Lib.hid ⟨R1.out.bel.trans (hb.mono R1.out.bel.size), below_block hb R1.out.from_, below_block hb R1.out.many, below_block hb R1.out.err⟩
  have hz2 : w.heap.size + 5 ≤ W2.heap.size := by rw [← hz1]; exact hb.size
  have C2 := Lib.hid (HC.out.below hb)
  clear hb hz1 X1 O1 R1 HC c0 c1 c2
  clear W1
  by_cases hk : chk C = 0
  · rw [hk]
    have c0 := X2.out.c0
    have c1 := X2.out.c1
    have c2 := X2.out.c2
    gi_wp2_with (first
      | (refine ⟨trivial, ?_⟩; gi_at_call 37; refine (callsIn_wide.2 (mkFrames_ok _ _ _ _)).mono ?_; rintro e w' ⟨rfl, rfl⟩)
      | (refine ⟨trivial, ?_⟩; gi_at_call 36; refine (callsIn_wide.2 (mkLaidO_ok _ _ _)).mono ?_; rintro e w' ⟨rfl, rfl⟩))
    obtain ⟨W3, hW3⟩ : ∃ W3, W3 = (W2.alloc (.cells #[v1, v2, v3] 26)).alloc (.cells #[.func (.func 55) #[] #[.pointer (some ⟨W2.heap.size, 0, none⟩)]] 69) := ⟨_, rfl⟩
    have hm := (chk_zero hk).1
    have hz3 : W3.heap.size = W2.heap.size + 2 := by rw [hW3]; simp
    have hb3 : Below W2.heap.size W2 W3 := by rw [hW3]; exact below_two _ _ _
    have hx3 : CBox W3 W2.heap.size v1 v2 v3 := by rw [hW3]; exact (CBox.new W2 _ _ _).below ((Below.refl _ _).alloc (Nat.le_refl _) _)
    have hs3 : W3.cell? ⟨W2.heap.size + 1, 0, none⟩ = some (.func (.func 55) #[] #[.pointer (some ⟨W2.heap.size, 0, none⟩)]) := by rw [hW3, cell_of_row _ _ _ _ _ _ (heap_alloc2_new W2 _ _)]; rfl
    have O3 : OwnBox W3 (w.heap.size + 1) (k1, k2) := below_block hb3 O2.out
    have R3 : Res3 w W3 w.heap.size 0 0 0 := ⟨R2.out.bel.trans (hb3.mono R2.out.bel.size), below_block hb3 R2.out.from_, below_block hb3 R2.out.many, below_block hb3 R2.out.err⟩
    have hK : ∀ k, (k < w.heap.size ∨ k = W2.heap.size) → k < W3.heap.size := by intro k h; omega
    have hseq := laidO_seq (W2.heap.size + 1) 55 #[.pointer (some ⟨W2.heap.size, 0, none⟩)] (enters Try.func55 rfl rfl) (ownL C) (ownL_small hm) (fun k => k < w.heap.size ∨ k = W2.heap.size) W3
      (frames_seq W2.heap.size v1 v2 v3 C hm w W3 H0.out R3.bel hx3 _ (fun k h => Or.inl h) (Or.inr rfl)) hs3 hK
    rw [← hW3]
    clear hW3 hs3 hx3 hb3 c0 c1 c2 X2 O2 R2 C2
    refine range_seq (gf := 54) (lb := #[.pointer (some ⟨W2.heap.size + 1, 0, none⟩)]) rfl (enters Try.func54 rfl rfl) hseq (Below.refl _ _) (by intro _; rfl) hK
      (fun pre V => hitL (k1, k2) pre = none ∧ (OwnBox V (w.heap.size + 1) (k1, k2) ∧ Res3 w V w.heap.size 0 0 0))
      (fun c pre V => (c = .ret ∧ ∃ x, hitL (k1, k2) pre = some x) ∧ Res3 w V w.heap.size (findR (k1, k2) pre).1 (findR (k1, k2) pre).2.1 (findR (k1, k2) pre).2.2)
      ((hangs_pure _ _).and ((hangs_block (by omega) _).and (Res3.hangs (by omega) (by omega) (fun _ => (0, 0, 0)))))
      (fun c => (hangs_pure _ _).and (Res3.hangs (by omega) (by omega) (fun pre => findR (k1, k2) pre)))
      ⟨rfl, O3, R3⟩
      (fun x a' V => ∃ Bx Br, w.heap.size + 5 ≤ Bx ∧ w.heap.size + 5 ≤ Br ∧ OwnBox V Bx x.1 ∧ V.heap[Br]? = some (.cells #[.int .i64 x.2.1, .int .i64 x.2.2] 62 (0, 0)) ∧ a' = { tmps := #[.agg #[v1, v2, v3], .agg #[.int .i64 k1, .int .i64 k2], .pointer (some ⟨w.heap.size, 0, none⟩), .pointer (some ⟨w.heap.size + 1, 0, none⟩), .pointer (some ⟨w.heap.size + 1 + 1, 0, none⟩), .pointer (some ⟨w.heap.size + 1 + 1 + 1, 0, none⟩), .pointer (some ⟨w.heap.size + 1 + 1 + 1 + 1, 0, none⟩), .int .i64 0, .pointer (some ⟨Bx, 0, none⟩), .pointer (some ⟨Br, 0, none⟩), .agg #[v1, v2, v3], .int .i64 0, .int .i64 0, .bool false, undef, .agg #[v1, v2, v3], .func (.func 55) #[] #[.pointer (some ⟨W2.heap.size, 0, none⟩)], .func (.func 54) #[] #[.pointer (some ⟨W2.heap.size + 1, 0, none⟩)], .agg #[.int .i64 x.1.1, .int .i64 x.1.2], .agg #[.int .i64 x.2.1, .int .i64 x.2.2], undef, undef, undef, undef, undef, undef, undef], defers := [] })
      (fun x a' _ V V' row hs hg hr => by
        obtain ⟨Bx, Br, z1, z2, h1, h2, h3⟩ := hs
        have h1' : V.heap[Bx]? = _ := h1
        exact ⟨Bx, Br, z1, z2, (hg.block Bx (lt_of_block h1) (fun e => by obtain ⟨_, o, ho, hc⟩ := hr Bx e.symm; rw [h1'] at ho; cases ho; cases hc)).trans h1,
          (hg.block Br (lt_of_block h2) (fun e => by obtain ⟨_, o, ho, hc⟩ := hr Br e.symm; rw [h2] at ho; cases ho; cases hc)).trans h2, h3⟩)
      ?assign ?body ?done ?stop
    case assign =>
      rintro l' pre x V D ⟨hn, ho, hr⟩ hzv hD
      dsimp only [encOR]
      gi_wp2
      exact hD _ _ (Keep.of_below (below_two _ _ _)) ⟨hn, below_block (below_two _ _ _) ho, (hr.alloc _).alloc _⟩ ⟨V.heap.size, V.heap.size + 1, by omega, by omega, below_block ((Below.refl _ _).alloc (Nat.le_refl _) _) (heap_alloc_new V _), heap_alloc2_new V _ _, rfl⟩
    case body =>
      rintro l' pre x a' V ⟨hn, ho, hr⟩ hzv hpre ⟨Bx, Br, z1, z2, hbx, hbr, rfl⟩
      have b0 := hbx.c0
      have b1 := hbx.c1
      have o0 := ho.c0
      have o1 := ho.c1
      have r0 : V.cell? ⟨Br, 0, none⟩ = some (.int .i64 x.2.1) := by rw [cell_of_row _ _ _ _ _ _ hbr]; rfl
      have r1 : V.cell? ⟨Br, 1, none⟩ = some (.int .i64 x.2.2) := by rw [cell_of_row _ _ _ _ _ _ hbr]; rfl
      have f1 := hr.from_.frozen
      have f2 := hr.many.frozen
      have f3 := hr.err.frozen
      have g1 := hr.from_.cell
      have g2 := hr.many.cell
      have g3 := hr.err.cell
      obtain ⟨⟨x1, x2⟩, ⟨x3, x4⟩⟩ := x
      simp only at hpre r0 r1 b0 b1
      by_cases hk1 : x1 = k1
      · subst hk1
        by_cases hk2 : x2 = k2
        · subst hk2
          have hmx : Try.prog.follows .mixedOrders = true := by kernel_rfl
          have hit := hitL_hit (x := ((x1, x2), (x3, x4))) hn rfl
          have hfr : findR (x1, x2) (pre ++ [((x1, x2), (x3, x4))]) = (x3, x4, 0) := by unfold findR; rw [hit]
          have R4 := hr.set (Nat.le_refl _) x3 x4 0
          have nK : ∀ k, w.heap.size + 1 + 1 ≤ k → k ≤ w.heap.size + 1 + 1 + 1 + 1 → ¬ (k < w.heap.size ∨ k = W2.heap.size) := by intro k _ _; omega
          have E : Hid (Keep (fun k => k < w.heap.size ∨ k = W2.heap.size) W3.heap.size V (((V.setCell ⟨w.heap.size + 1 + 1, 0, none⟩ (.int .i64 x3)).setCell ⟨w.heap.size + 1 + 1 + 1, 0, none⟩ (.int .i64 x4)).setCell ⟨w.heap.size + 1 + 1 + 1 + 1, 0, none⟩ (.int .i64 0)).drew ∧
              ((Code.ret = .ret ∧ ∃ x, hitL (x1, x2) (pre ++ [((x1, x2), (x3, x4))]) = some x) ∧ Res3 w (((V.setCell ⟨w.heap.size + 1 + 1, 0, none⟩ (.int .i64 x3)).setCell ⟨w.heap.size + 1 + 1 + 1, 0, none⟩ (.int .i64 x4)).setCell ⟨w.heap.size + 1 + 1 + 1 + 1, 0, none⟩ (.int .i64 0)).drew w.heap.size (findR (x1, x2) (pre ++ [((x1, x2), (x3, x4))])).1 (findR (x1, x2) (pre ++ [((x1, x2), (x3, x4))])).2.1 (findR (x1, x2) (pre ++ [((x1, x2), (x3, x4))])).2.2)) := Lib.hid (by
            rw [hfr]
            exact ⟨(((Keep.setCell _ _ _ _ (nK _ (by omega) (by omega)) (by omega)).trans (Keep.setCell _ _ _ _ (nK _ (by omega) (by omega)) (by omega))).trans (Keep.setCell _ _ _ _ (nK _ (by omega) (by omega)) (by omega))).trans (Keep.drew _ _ _), ⟨rfl, _, hit⟩, R4.bel.drew, R4.from_, R4.many, R4.err⟩)
          clear hit hfr R4 nK
          gi_wp2
          gi_region_o
          all_goals gi_wp2
          all_goals exact ⟨E.out.1, ⟨rfl, E.out.2.1.2⟩, E.out.2.2⟩
        · have hne : (x2 == k2) = false := by simpa using hk2
          have E := Lib.hid (hitL_miss (x := ((x1, x2), (x3, x4))) hn (fun e => hk2 (Prod.mk.inj e).2))
          have H3 := Lib.hid (And.intro ho hr)
          clear hn
          gi_wp2
          exact ⟨Keep.refl _ _ _, E.out, H3.out⟩
      · have hne : (x1 == k1) = false := by simpa using hk1
        have E := Lib.hid (hitL_miss (x := ((x1, x2), (x3, x4))) hn (fun e => hk1 (Prod.mk.inj e).1))
        have H3 := Lib.hid (And.intro ho hr)
        clear hn
        gi_wp2
        exact ⟨Keep.refl _ _ _, E.out, H3.out⟩
    case done =>
      rintro D V hD ⟨hn, ho, hr⟩ hKD
      have f1 := hr.from_.frozen
      have f2 := hr.many.frozen
      have f3 := hr.err.frozen
      have g1 := hr.from_.cell
      have g2 := hr.many.cell
      have g3 := hr.err.cell
      gi_wp2
      have R4 := hr.set (Nat.le_refl _) 0 0 2
      have KD : (((V.setCell ⟨w.heap.size + 1 + 1, 0, none⟩ (.int .i64 0)).setCell ⟨w.heap.size + 1 + 1 + 1, 0, none⟩ (.int .i64 0)).setCell ⟨w.heap.size + 1 + 1 + 1 + 1, 0, none⟩ (.int .i64 2)).heap[D]? = some (.deferred (some [])) :=
        (Below.heap_setCell _ _ _ _ (by simp only; omega)).trans ((Below.heap_setCell _ _ _ _ (by simp only; omega)).trans ((Below.heap_setCell _ _ _ _ (by simp only; omega)).trans hKD))
      generalize ((V.setCell ⟨w.heap.size + 1 + 1, 0, none⟩ (.int .i64 0)).setCell ⟨w.heap.size + 1 + 1 + 1, 0, none⟩ (.int .i64 0)).setCell ⟨w.heap.size + 1 + 1 + 1 + 1, 0, none⟩ (.int .i64 2) = V3 at *
      refine ⟨by simp, .inl ⟨_, _, rfl, run_takeDeferred KD, ?_⟩⟩
      have R5 := Res3.hangs (B := D) (by omega) (by omega) (fun (_ : Unit) => (0, 0, 2)) () V3 _ R4 (below_put D V3 D (.deferred none) (Nat.le_refl _))
      generalize V3.putObj D (.deferred none) = V4 at *
      have q1 := R5.from_.cell
      have q2 := R5.many.cell
      have q3 := R5.err.cell
      have hA : findA C (k1, k2) = (0, 0, 2) := by unfold findA findR; rw [if_pos hk, hn]
      refine ⟨.tuple #[.int .i64 0, .int .i64 0, .int .i64 2], ?_, by rw [hA], R5.bel⟩
      simp [results, Try.results24, go_sem, q1, q2, q3]
    case stop =>
      rintro D c pre V hD hpre ⟨⟨rfl, x, hx⟩, hr⟩ hKD
      gi_wp2
      refine ⟨by simp, .inl ⟨_, _, rfl, run_takeDeferred hKD, ?_⟩⟩
      have R5 := Res3.hangs (B := D) (by omega) (by omega) (fun (_ : Unit) => findR (k1, k2) pre) () V _ hr (below_put D V D (.deferred none) (Nat.le_refl _))
      generalize V.putObj D (.deferred none) = V4 at *
      have hA : findA C (k1, k2) = findR (k1, k2) pre := by unfold findA findR; rw [if_pos hk, hx, hitL_pre hx hpre]
      rw [← hA] at R5
      have q1 := R5.from_.cell
      have q2 := R5.many.cell
      have q3 := R5.err.cell
      refine ⟨.tuple #[.int .i64 (findA C (k1, k2)).1, .int .i64 (findA C (k1, k2)).2.1, .int .i64 (findA C (k1, k2)).2.2], ?_, rfl, R5.bel⟩
      simp [results, Try.results24, go_sem, q1, q2, q3]
  · have f1 := R2.out.from_.frozen
    have f2 := R2.out.many.frozen
    have f3 := R2.out.err.frozen
    have g1 := R2.out.from_.cell
    have g2 := R2.out.many.cell
    have g3 := R2.out.err.cell
    gi_wp2
    have R3 := R2.out.set (Nat.le_refl _) 0 0 (chk C)
    generalize ((W2.setCell ⟨w.heap.size + 1 + 1, 0, none⟩ (.int .i64 0)).setCell ⟨w.heap.size + 1 + 1 + 1, 0, none⟩ (.int .i64 0)).setCell ⟨w.heap.size + 1 + 1 + 1 + 1, 0, none⟩ (.int .i64 (chk C)) = W3 at *
    have q1 := R3.from_.cell
    have q2 := R3.many.cell
    have q3 := R3.err.cell
    have hA : findA C (k1, k2) = (0, 0, chk C) := by unfold findA; rw [if_neg hk]
    refine ⟨.tuple #[.int .i64 0, .int .i64 0, .int .i64 (chk C)], ?_, by rw [hA], R3.bel⟩
    simp [results, Try.results24, go_sem, q1, q2, q3]
end Go.Proofs.Ytepfljfaclakeaa
