/- The contract of the document's New, layer 20. Condition: the configuration may be. -/
import Derived.Test.YtnapodeiigkebaaH28
namespace Go.Proofs.Ytnapodeiigkebaa
open Go.RowKit Go.Maps
set_option maxRecDepth 100000

abbrev nilV : Value := .slice none 0 0
abbrev nils : Nat → Value := fun _ => nilV
abbrev noOut : Nat → Nat := fun _ => 0
theorem rrow_more (H : List Row) (lvs : Nat → Value) (out : Nat → Nat) (k : Nat) {a b : Int} {c d : Nat} (hT : H.getD k [] = [a, b, (c : Int), (d : Int)]) : rrow H lvs out ((k + 1) * 4) = rrow H lvs out (k * 4) ++ (refA c d (out k) (lvs k)).toList := by
  unfold rrow
  rw [show (k + 1) * 4 = k * 4 + 1 + 1 + 1 + 1 by omega]
  simp only [List.range_succ, List.map_append, List.map_cons, List.map_nil, List.append_assoc]
  rw [show k * 4 + 1 + 1 = k * 4 + 2 from rfl, show k * 4 + 2 + 1 = k * 4 + 3 from rfl, rcell_0, rcell_1, rcell_2, rcell_3, hT]
  rfl
/-- What the document's New is at. -/
structure RNewAt (w V : World) (v1 v2 v3 : Value) (H : List Row) (lv : Value) (k : Nat) : Prop where
  conf : CBox V w.heap.size v1 v2 v3
  res : V.heap[w.heap.size + 1]? = some (.cells #[.slice none 0 0, .slice none 0 0] 41 (0, 0))
  box : V.heap[w.heap.size + 1 + 1]? = some (.cells #[v3, lv] 41 (0, 0))
  own : V.ownsRow w.heap.size 83 4 lv k (rrow H nils noOut (k * 4))
  below : Below w.heap.size w V
theorem RNewAt.step {w V V' : World} {v1 v2 v3 lv : Value} {H : List Row} {k : Nat} (h : RNewAt w V v1 v2 v3 H lv k) (hb : Below V.heap.size V V') : RNewAt w V' v1 v2 v3 H lv k :=
  ⟨h.conf.below hb, below_block hb h.res, below_block hb h.box, own_step h.own hb, h.below.trans (hb.mono h.below.size)⟩
theorem RNewAt.more {w V V' : World} {v1 v2 v3 lv lv' : Value} {H : List Row} {k : Nat} (h : RNewAt w V v1 v2 v3 H lv k) (hg : V.grownBy V' lv.ownBlock) (ho : V'.ownsRow w.heap.size 83 4 lv' (k + 1) (rrow H nils noOut ((k + 1) * 4))) :
    RNewAt w (V'.setCell ⟨w.heap.size + 1 + 1, 1, none⟩ lv') v1 v2 v3 H lv' (k + 1) := by
  have keep : ∀ (b : Nat) (cs : Array Value) (t : TypeId), V.heap[b]? = some (.cells cs t (0, 0)) → t ≠ 83 → V'.heap[b]? = some (.cells cs t (0, 0)) := fun b cs t hb ht =>
    (hg.block b (lt_of_block hb) (fun e => by
      obtain ⟨cs', hcs⟩ := own_block h.own e.symm
      rw [hcs] at hb
      simp only [Option.some.injEq, Obj.cells.injEq] at hb
      exact ht hb.2.1.symm)).trans hb
  have c1 := keep _ _ _ h.conf (by decide)
  have c2 := keep _ _ _ h.res (by decide)
  have c3 := keep _ _ _ h.box (by decide)
  have hs := grownBy_setCell V' (w.heap.size + 1 + 1) 1 lv'
  have far : ∀ (b : Nat) (o : Obj), V'.heap[b]? = some o → b ≠ w.heap.size + 1 + 1 → (V'.setCell ⟨w.heap.size + 1 + 1, 1, none⟩ lv').heap[b]? = some o := fun b o hb hne => (hs.block b (lt_of_block hb) (fun e => hne (Option.some.inj e))).trans hb
  have lo : ∀ k, lv.ownBlock = some k → w.heap.size ≤ k := fun k e => by
    rcases h.own.2 with ⟨rfl, _⟩ | ⟨g, cap, cur, rfl, hb, _⟩
    · simp [Value.ownBlock] at e
    · simp [Value.ownBlock] at e
      omega
  refine ⟨far _ _ c1 (by omega), far _ _ c2 (by omega), heap_setCell_same _ _ 1 _ _ lv' c3, ownsRow_grown ho hs c3 (by simp [kindOf]), ?_⟩
  exact (Only.old (Only.old h.below (Only.grownR (B := fun j => lv.ownBlock = some j) hg (fun _ e => e)) h.below.size lo) (Only.grown (B := fun j => j = w.heap.size + 1 + 1) hs rfl) (Nat.le_trans h.below.size hg.size) (fun j e => by omega))
theorem RNewAt.boxTo {w V V' : World} {v1 v2 v3 lv : Value} {H : List Row} {k : Nat} (h : RNewAt w V v1 v2 v3 H lv k) (hg : V.grownBy V' lv.ownBlock) : V'.heap[w.heap.size + 1 + 1]? = some (.cells #[v3, lv] 41 (0, 0)) :=
  (hg.block _ (lt_of_block h.box) (fun e => by
    obtain ⟨cs, hcs⟩ := own_block h.own e.symm
    have := h.box
    rw [hcs] at this
    exact absurd (congrArg kindOf (Option.some.inj this)) (by simp [kindOf]))).trans h.box
theorem below_set4H {B : Nat} {a V : World} (h : Below B a V) {g : Nat} (hg : B ≤ g) (x y z t : Value) : Below B a ((((V.setCell ⟨g, 0, none⟩ x).setCell ⟨g, 1, none⟩ y).setCell ⟨g, 2, none⟩ z).setCell ⟨g, 3, none⟩ t) :=
  (((h.setCell (p := ⟨g, 0, none⟩) hg _).setCell (p := ⟨g, 1, none⟩) hg _).setCell (p := ⟨g, 2, none⟩) hg _).setCell (p := ⟨g, 3, none⟩) hg _
theorem heap_set4H {V : World} {g : Nat} {a b c d : Value} {ty : TypeId} (h : V.heap[g]? = some (.cells #[a, b, c, d] ty (0, 0))) (x y z t : Value) : ((((V.setCell ⟨g, 0, none⟩ x).setCell ⟨g, 1, none⟩ y).setCell ⟨g, 2, none⟩ z).setCell ⟨g, 3, none⟩ t).heap[g]? = some (.cells #[x, y, z, t] ty (0, 0)) := by
  have h1 := heap_setCell_same V g 0 _ _ x h
  have h2 := heap_setCell_same _ g 1 _ _ y h1
  have h3 := heap_setCell_same _ g 2 _ _ z h2
  exact heap_setCell_same _ g 3 _ _ t h3
theorem rchTy : RowTy 41 2 := ⟨⟨_, Try.underlying41, rfl⟩, by kernel_rfl⟩
theorem ringInfo20 : (Try.prog.info? 83).map (fun i => (i.zero, i.size, i.bytes)) = some (some (.agg #[.int .i64 0, .int .i64 0, .slice none 0 0, .int .i64 0]), 4, 48) := by kernel_rfl
theorem ref_at (w : World) (c d o : Nat) (lv : Value) : ∀ (j : Nat) (x : Value), (refA c d o lv).toList[j]? = some x → (w.alloc (.cells (refA c d o lv) 83)).cell? ((⟨w.heap.size, 0, none⟩ : Addr).add j) = some x := fun j x hx => by
  rw [Addr.add_mid, cell_of_row _ _ _ _ _ _ (heap_alloc_new w _), show 0 + j = j by omega, ← hx]; simp
set_option maxHeartbeats 4000000 in
theorem rnewH20_ok {W w : World} {v1 v2 v3 : Value} {C : Cf} (CF : CfAt W v1 v2 v3 C) (hk : chk C = 0) (hb : Below W.heap.size W w) : Calls Try.prog 14 #[.agg #[v1, v2, v3]] w fun e w' => ∃ lv, e = .returned (.agg #[v3, lv]) ∧ RChAt W w' C.2.2 v3 lv nils noOut 0 Q0 ∧ Below w.heap.size w w' := by
  obtain ⟨ii, hi1, hi2, hi3, hi4⟩ := info_parts ringInfo20
  obtain ⟨aa, cc, rfl, hl3, h4, hcells⟩ := CF.hs
  have hm := (chk_zero hk).1
  have CFS := Lib.hid CF.hs
  have few := (mayB_parts hm).2.1
  have CC := Lib.hid fun i hi => chanH_cells CF hk i hi
  have HB := Lib.hid hb
  obtain ⟨n, hn⟩ : ∃ n, n = C.2.2.length := ⟨_, rfl⟩
  have HN := Lib.hid hn
  rw [← hn] at hl3 few CC CFS ⊢
  obtain ⟨w3, hw3⟩ : ∃ w3, w3 = ((w.alloc (.cells #[v1, v2, .slice aa n cc] 26)).alloc (.cells #[.slice none 0 0, .slice none 0 0] 41)).alloc (.cells #[.slice aa n cc, .slice none 0 0] 41) := ⟨_, rfl⟩
  have R3 : Hid (RNewAt w w3 v1 v2 (.slice aa n cc) C.2.2 (.slice none 0 0) 0) := Lib.hid (by
    have b3 := below_step1 ((w.alloc (.cells #[v1, v2, .slice aa n cc] 26)).alloc (.cells #[.slice none 0 0, .slice none 0 0] 41)) (.cells #[.slice aa n cc, .slice none 0 0] 41)
    refine ⟨?_, ?_, ?_, ⟨rfl, Or.inl ⟨rfl, rfl⟩⟩, ?_⟩
    · rw [hw3]; exact below_block b3 (heap_alloc2_old _ _ _)
    · rw [hw3]; exact below_block b3 (heap_alloc2_new _ _ _)
    · rw [hw3]
      have := heap_alloc_new ((w.alloc (.cells #[v1, v2, .slice aa n cc] 26)).alloc (.cells #[.slice none 0 0, .slice none 0 0] 41)) (.cells #[.slice aa n cc, .slice none 0 0] 41)
      simpa using this
    · rw [hw3]; exact (below_two w _ _).trans (b3.mono (by simp; omega)))
  have HW := Lib.hid hw3
  clear hb hw3 hn hcells h4 CF hm
  go_enter Try.func14, Try.ntmps14
  go_wp2_with fail
  rw [← HW.out]
  clear HW
  go_loopw [4] (fun t wr => ∃ (k : Nat) (lv : Value), t = .int .i64 (k : Int) ∧ k ≤ n ∧ RNewAt w wr v1 v2 (.slice aa n cc) C.2.2 lv k) (fun t _ => (n - (intOf t).toNat))
  case atStart => exact ⟨0, _, rfl, Nat.zero_le _, R3.out⟩
  case round =>
    obtain ⟨k, lv, rfl, hk2, h⟩ := hrel
    have RK := Lib.hid h
    have x2 := RK.out.conf.c2
    clear h
    by_cases hlt : k < n
    · obtain ⟨cb, co, cc', a, b, c, d, he, hT, -, hc, hd, hr⟩ := CC.out k hlt
      obtain ⟨rfl, -, rfl⟩ := Value.slice.inj he
      obtain ⟨-, -, y2, y3⟩ := hr _ (HB.out.trans (RK.out.below.mono HB.out.size))
      have NR := Lib.hid fun V => rnewG_ok c d hc hd V
      unfold refA at NR
      have kn : decide (n ≤ k) = false := decide_eq_false (by omega)
      clear he
      go_wp2_with fail
      have ZA : Hid (Below wr.heap.size wr (wr.alloc (.cells #[.int .i64 0, .int .i64 0, .slice none 0 0, .int .i64 0] 83)).drew) := Lib.hid (below_step1 wr _).drew
      have ZB : Hid ((wr.alloc (.cells #[.int .i64 0, .int .i64 0, .slice none 0 0, .int .i64 0] 83)).drew.heap[wr.heap.size]? = some (.cells #[.int .i64 0, .int .i64 0, .slice none 0 0, .int .i64 0] 83 (0, 0))) := Lib.hid (heap_alloc_new wr _)
      have RA := Lib.hid (RK.out.step ZA.out)
      have FA : Hid (∀ V, RNewAt w V v1 v2 (.slice (some ⟨cb, co, none⟩) n cc) C.2.2 lv k → V.cell? ⟨w.heap.size, 2, none⟩ = some (.slice (some ⟨cb, co, none⟩) n cc) ∧ V.cell? ⟨cb, co + k * 4 + 2, none⟩ = some (.int .i64 (c : Int)) ∧ V.cell? ⟨cb, co + k * 4 + 3, none⟩ = some (.int .i64 (d : Int))) := Lib.hid fun V h => by
        obtain ⟨-, -, q2, q3⟩ := hr _ (HB.out.trans (h.below.mono HB.out.size))
        exact ⟨h.conf.c2, q2, q3⟩
      go_region_held3 (fun V => V.cell? ⟨w.heap.size, 2, none⟩ = some (.slice (some ⟨cb, co, none⟩) n cc) ∧ V.cell? ⟨cb, co + k * 4 + 2, none⟩ = some (.int .i64 (c : Int)) ∧ V.cell? ⟨cb, co + k * 4 + 3, none⟩ = some (.int .i64 (d : Int))) (first | exact ⟨x2, y2, y3⟩ | exact FA.out _ R5.out | exact FA.out _ (R5.out.step (below_step1 _ _)) | exact FA.out _ R6.out | exact FA.out _ RA.out)
        (first
          | (go_at_call 34; refine (NR.out _).mono ?_; rintro e w5 ⟨rfl, hb⟩; first | (have R5 := Lib.hid (RK.out.step ((Below.refl _ _).drew.trans hb)); clear hb) | (have R5 := Lib.hid (RA.out.step hb); have T5 := below_block hb ZB.out; have R6 := Lib.hid (RK.out.step (below_set4H (ZA.out.trans (hb.mono ZA.out.size)) (Nat.le_refl _) (.int .i64 (c : Int)) (.int .i64 (d : Int)) (.slice none 0 0) (.int .i64 0))); have T6 := Lib.hid (heap_set4H T5 (.int .i64 (c : Int)) (.int .i64 (d : Int)) (.slice none 0 0) (.int .i64 0)); obtain ⟨t0, t1, t2, t3, tf⟩ := box4 T5; have g0 := tf 0; have g1 := tf 1; have g2 := tf 2; have g3 := tf 3; clear hb)))
      · obtain ⟨w6, hw6⟩ : ∃ w6, w6 = w5.alloc (.cells #[.int .i64 (c : Int), .int .i64 (d : Int), .slice none 0 0, .int .i64 0] 83) := ⟨_, rfl⟩
        obtain ⟨tb, htb⟩ : ∃ tb, tb = w5.heap.size := ⟨_, rfl⟩
        have R6 := Lib.hid (show RNewAt w w6 v1 v2 (.slice (some ⟨cb, co, none⟩) n cc) C.2.2 lv k by rw [hw6]; exact R5.out.step (below_step1 w5 _))
        have T6 := Lib.hid (show w6.heap[tb]? = some (.cells #[.int .i64 (c : Int), .int .i64 (d : Int), .slice none 0 0, .int .i64 0] 83 (0, 0)) by rw [hw6, htb]; exact heap_alloc_new w5 _)
        rw [← hw6, ← htb]
        clear hw6 htb
        have HT := Lib.hid hT
        have OW := Lib.hid R6.out.own
        obtain ⟨la, lc, rfl⟩ := owns_slice R6.out.own
        obtain ⟨t0, t1, t2, t3, -⟩ := box4 T6.out
        have xc1 : w6.cell? ⟨w.heap.size + 1 + 1, 1, none⟩ = some (.slice la k lc) := by rw [cell_of_row _ _ _ _ _ _ R6.out.box]; rfl
        have B7 := Lib.hid (below_step1 w6 (.cells #[.int .i64 (c : Int), .int .i64 (d : Int), .slice none 0 0, .int .i64 0] 83))
        have R7 := Lib.hid (R6.out.step B7.out)
        clear x2 y2 y3 hT
        go_wp2_with (first
          | (at_builtin; refine wpList_append_own _ rfl (.tmp 34) (.tmp 36) 39 rfl w.heap.size 83 ii (.agg #[.int .i64 0, .int .i64 0, .slice none 0 0, .int .i64 0]) 4 48 Try.underlying39 hi1 hi2 hi3 hi4 rfl (by decide) _ k _ rfl R7.out.own ⟨w6.heap.size, 0, none⟩ 1 1 (refA c d 0 (.slice none 0 0)).toList rfl rfl (ref_at w6 c d 0 _) (by simp [refA, Value.oneCell']) (by unfold maxLen; omega) (by omega) R7.out.below.size ?_; intro v8 w8 ho hg _; have G8 := Lib.hid hg; have O8 := Lib.hid ho; have xx := R7.out.boxTo hg; have u1 : w8.cell? ⟨w.heap.size + 1 + 1, 1, none⟩ = some (.slice la k lc) := (cell_of_row _ _ _ _ _ _ xx).trans rfl; have f1 : w8.frozen? ⟨w.heap.size + 1 + 1, 1, none⟩ = false := frozen_of_row w8 _ 1 _ _ xx; obtain ⟨a8, k8, rfl⟩ := owns_slice ho; clear ho hg xx))
        go_roundw
        case rel => exact ⟨k + 1, _, by go_num, by omega, R7.out.more G8.out (by rw [rrow_more C.2.2 nils noOut k HT.out]; exact O8.out)⟩
        case measure => simp [intOf]; omega
      · obtain ⟨w6, hw6⟩ : ∃ w6, w6 = (((w5.setCell ⟨wr.heap.size, 0, none⟩ (.int .i64 (c : Int))).setCell ⟨wr.heap.size, 1, none⟩ (.int .i64 (d : Int))).setCell ⟨wr.heap.size, 2, none⟩ (.slice none 0 0)).setCell ⟨wr.heap.size, 3, none⟩ (.int .i64 0) := ⟨_, rfl⟩
        obtain ⟨tb, htb⟩ : ∃ tb, tb = wr.heap.size := ⟨_, rfl⟩
        have R6 := Lib.hid (show RNewAt w w6 v1 v2 (.slice (some ⟨cb, co, none⟩) n cc) C.2.2 lv k by rw [hw6]; exact R6.out)
        have T6 := Lib.hid (show w6.heap[tb]? = some (.cells #[.int .i64 (c : Int), .int .i64 (d : Int), .slice none 0 0, .int .i64 0] 83 (0, 0)) by rw [hw6, htb]; exact T6.out)
        rw [← hw6, ← htb]
        clear hw6 htb t0 t1 t2 t3 g0 g1 g2 g3 tf
        have HT := Lib.hid hT
        have OW := Lib.hid R6.out.own
        obtain ⟨la, lc, rfl⟩ := owns_slice R6.out.own
        obtain ⟨t0, t1, t2, t3, -⟩ := box4 T6.out
        have xc1 : w6.cell? ⟨w.heap.size + 1 + 1, 1, none⟩ = some (.slice la k lc) := by rw [cell_of_row _ _ _ _ _ _ R6.out.box]; rfl
        have B7 := Lib.hid (below_step1 w6 (.cells #[.int .i64 (c : Int), .int .i64 (d : Int), .slice none 0 0, .int .i64 0] 83))
        have R7 := Lib.hid (R6.out.step B7.out)
        clear x2 y2 y3 hT
        go_wp2_with (first
          | (at_builtin; refine wpList_append_own _ rfl (.tmp 34) (.tmp 36) 39 rfl w.heap.size 83 ii (.agg #[.int .i64 0, .int .i64 0, .slice none 0 0, .int .i64 0]) 4 48 Try.underlying39 hi1 hi2 hi3 hi4 rfl (by decide) _ k _ rfl R7.out.own ⟨w6.heap.size, 0, none⟩ 1 1 (refA c d 0 (.slice none 0 0)).toList rfl rfl (ref_at w6 c d 0 _) (by simp [refA, Value.oneCell']) (by unfold maxLen; omega) (by omega) R7.out.below.size ?_; intro v8 w8 ho hg _; have G8 := Lib.hid hg; have O8 := Lib.hid ho; have xx := R7.out.boxTo hg; have u1 : w8.cell? ⟨w.heap.size + 1 + 1, 1, none⟩ = some (.slice la k lc) := (cell_of_row _ _ _ _ _ _ xx).trans rfl; have f1 : w8.frozen? ⟨w.heap.size + 1 + 1, 1, none⟩ = false := frozen_of_row w8 _ 1 _ _ xx; obtain ⟨a8, k8, rfl⟩ := owns_slice ho; clear ho hg xx))
        go_roundw
        case rel => exact ⟨k + 1, _, by go_num, by omega, R7.out.more G8.out (by rw [rrow_more C.2.2 nils noOut k HT.out]; exact O8.out)⟩
        case measure => simp [intOf]; omega
    · obtain rfl : n = k := by omega
      obtain ⟨la, lc, rfl⟩ := owns_slice RK.out.own
      have xc0 : wr.cell? ⟨w.heap.size + 1 + 1, 0, none⟩ = some (.slice aa n cc) := (cell_of_row _ _ _ _ _ _ RK.out.box).trans rfl
      have xc1 : wr.cell? ⟨w.heap.size + 1 + 1, 1, none⟩ = some (.slice la n lc) := (cell_of_row _ _ _ _ _ _ RK.out.box).trans rfl
      have RS := Lib.hid RK.out.res
      have DONE : Hid (RChAt W (wr.setRow (w.heap.size + 1) #[.slice aa n cc, .slice la n lc]) C.2.2 (.slice aa n cc) (.slice la n lc) nils noOut 0 Q0 ∧ Below w.heap.size w (wr.setRow (w.heap.size + 1) #[.slice aa n cc, .slice la n lc])) := Lib.hid (by
        have bb := below_setRow RK.out.below (show w.heap.size ≤ w.heap.size + 1 by omega) #[.slice aa n cc, .slice la n lc]
        have gg := grownBy_setRow wr (w.heap.size + 1) #[.slice aa n cc, .slice la n lc]
        refine ⟨⟨HB.out.trans (bb.mono HB.out.size), CFS.out, ?_, fun i hi => LsAt.nil _, fun i hi => ?_, fun i => Nat.le_refl _, by rw [← HN.out]; exact few⟩, bb⟩
        · rw [← HN.out]
          exact own_base (ownsRow_grown RK.out.own gg RK.out.res (by simp [kindOf])) HB.out.size
        · obtain ⟨cb, co, cc', a, b, c, d, -, hT, -, hc, hd, -⟩ := CC.out i (by rw [HN.out]; exact hi)
          exact ⟨a, b, c, d, hT, hc, hd, Nat.zero_le _⟩)
      go_wp2_with (first
        | (refine wpR_load rchTy rfl (.tmp 3) rfl (w.heap.size + 1 + 1) rfl _ RK.out.box rfl ?_)
        | (refine wpR_store rchTy rfl (.tmp 2) (.tmp 39) rfl (w.heap.size + 1) #[.slice aa n cc, .slice la n lc] rfl rfl _ RS.out rfl rfl (by simp [Value.oneCell']) ?_))
      exact bodyPost_ret (v := .agg #[.slice aa n cc, .slice la n lc]) (resR rchTy Try.results14 _ _ (w.heap.size + 1) _ rfl (setRow_heap _ _ _ _ _ _ RS.out) rfl) rfl ⟨_, rfl, DONE.out⟩
end Go.Proofs.Ytnapodeiigkebaa
