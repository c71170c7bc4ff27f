/- The contract of the document's own New, layer 9, where there are 1 to 8 ranges. Condition: the slice of ranges lies in memory. -/
import Derived.Test.YtiohnhgoddfebaaDoorA22
namespace Go.Proofs.YtiohnhgoddfebaaDoor
open Go.RowKit
set_option maxRecDepth 100000

/-- What New keeps on its way: the answer's place, the memory's words. -/
structure NSt (w wr : World) (mb rb n : Nat) : Prop where
  zero : wr.heap[w.heap.size]? = some (.cells z3 37 (0, 0))
  mbox : wr.heap[mb]? = some (.cells #[.slice (some ⟨rb, 0, none⟩) (n * 32) (n * 32)] 34 (0, 0))
  words : wr.heap[rb]? = some (.cells (wordsV (List.replicate (n * 32) 0)) 62 (0, 0))
  ge : w.heap.size ≤ rb
  below : Below w.heap.size w wr
theorem NSt.step {w w1 w2 : World} {mb rb n : Nat} (h : NSt w w1 mb rb n) (hb : Below w1.heap.size w1 w2) : NSt w w2 mb rb n := ⟨below_block hb h.zero, below_block hb h.mbox, below_block hb h.words, h.ge, h.below.trans (hb.mono h.below.size)⟩
theorem NSt.mcell {w w1 : World} {mb rb n : Nat} (h : NSt w w1 mb rb n) : w1.cell? ⟨mb, 0, none⟩ = some (.slice (some ⟨rb, 0, none⟩) (n * 32) (n * 32)) := by rw [cell_of_row _ _ _ _ _ _ h.mbox]; rfl
/-- The answer's place is set. -/
theorem NSt.set {w w1 : World} {mb rb n : Nat} (h : NSt w w1 mb rb n) (cs : Array Value) : (w1.setRow w.heap.size cs).heap[w.heap.size]? = some (.cells cs 37 (0, 0)) ∧ Below w.heap.size w (w1.setRow w.heap.size cs) ∧ w1.grownBy (w1.setRow w.heap.size cs) (some w.heap.size) :=
  ⟨setRow_heap w1 _ _ _ _ _ h.zero, below_setRow h.below (Nat.le_refl _) _, grownBy_setRow _ _ _⟩
theorem NSt.set3 {w w1 : World} {mb rb n : Nat} (h : NSt w w1 mb rb n) (a b c : Value) :
    (((w1.setCell ⟨w.heap.size, 0, none⟩ a).setCell ⟨w.heap.size, 1, none⟩ b).setCell ⟨w.heap.size, 2, none⟩ c).drew.heap[w.heap.size]? = some (.cells #[a, b, c] 37 (0, 0)) ∧
    Below w.heap.size w (((w1.setCell ⟨w.heap.size, 0, none⟩ a).setCell ⟨w.heap.size, 1, none⟩ b).setCell ⟨w.heap.size, 2, none⟩ c).drew ∧
    w1.grownBy (((w1.setCell ⟨w.heap.size, 0, none⟩ a).setCell ⟨w.heap.size, 1, none⟩ b).setCell ⟨w.heap.size, 2, none⟩ c).drew (some w.heap.size) := by
  have h1 := heap_setCell_same w1 w.heap.size 0 _ _ a h.zero
  have h2 := heap_setCell_same _ w.heap.size 1 _ _ b h1
  have h3 := heap_setCell_same _ w.heap.size 2 _ _ c h2
  have g1 := grownBy_setCell w1 w.heap.size 0 a
  have g2 := grownBy_setCell (w1.setCell ⟨w.heap.size, 0, none⟩ a) w.heap.size 1 b
  have g3 := grownBy_setCell ((w1.setCell ⟨w.heap.size, 0, none⟩ a).setCell ⟨w.heap.size, 1, none⟩ b) w.heap.size 2 c
  exact ⟨h3, (((h.below.setCell (p := ⟨w.heap.size, 0, none⟩) (Nat.le_refl _) a).setCell (p := ⟨w.heap.size, 1, none⟩) (Nat.le_refl _) b).setCell (p := ⟨w.heap.size, 2, none⟩) (Nat.le_refl _) c).drew, grownBy_heap ((g1.trans g2).trans g3) rfl rfl rfl rfl⟩
def NRel1 (w : World) (mb rb n : Nat) (Q : List (Int × Int)) (q : Nat) (iv : Value) (wr : World) : Prop := ∃ k : Nat, iv = .int .i64 (k : Int) ∧ k ≤ q ∧ NSt w wr mb rb n ∧ AllIn n Q k
def NRel2 (w : World) (mb rb n : Nat) (Q : List (Int × Int)) (q : Nat) (iv : Value) (wr : World) : Prop := ∃ x : Nat, iv = .int .i64 (x : Int) ∧ x ≤ n ∧ NSt w wr mb rb n ∧ ∀ y : Nat, y < x → cntP (natQ Q) (y : Int) q ≤ 1
def NRel3 (w : World) (mb rb n : Nat) (Q : List (Int × Int)) (q x : Nat) (cv iv : Value) (wr : World) : Prop := ∃ i : Nat, iv = .int .i64 (i : Int) ∧ i ≤ q ∧ cv = .int .i64 (cntP (natQ Q) (x : Int) i : Int) ∧ NSt w wr mb rb n
theorem inB_ways (x y : Int) (n : Nat) : (isInB x y n = false ∧ (x < 0 ∨ (0 ≤ x ∧ y < 1) ∨ (0 ≤ x ∧ 1 ≤ y ∧ (n : Int) ≤ x) ∨ (0 ≤ x ∧ 1 ≤ y ∧ x < n ∧ (n : Int) - x < y))) ∨ (isInB x y n = true ∧ 0 ≤ x ∧ 1 ≤ y ∧ x < n ∧ y ≤ (n : Int) - x) := by
  cases h : isInB x y n with
  | true =>
    have := (isInB_iff _ _ _).1 h
    exact Or.inr ⟨rfl, by omega, by omega, by omega, by omega⟩
  | false =>
    refine Or.inl ⟨rfl, ?_⟩
    have : ¬ (0 ≤ x ∧ 1 ≤ y ∧ y ≤ n ∧ x ≤ n - y) := fun e => by rw [(isInB_iff _ _ _).2 e] at h; cases h
    omega
set_option maxHeartbeats 4000000 in
theorem rnew9_in (n : Nat) (Q : List (Int × Int)) (v : Value) (w : World) (hv : PairsAt w v Q) (hn1 : 1 ≤ n) (hn : n ≤ 1024) (h1 : 1 ≤ Q.length) (h8 : Q.length ≤ 8) : Calls Tryd.prog 13 #[.int .i64 (n : Int), v] w (RNew9 n Q v w) := by
  have hz := rpoolZero
  have HV := Lib.hid hv
  obtain ⟨a, c, rfl, _⟩ := hv
  obtain ⟨q, hq⟩ : ∃ q, q = Q.length := ⟨_, rfl⟩
  rw [← hq] at h1 h8 ⊢
  have HQ := Lib.hid hq
  have d1 : decide (q < 1) = false := decide_eq_false (by omega)
  have d2 : decide (8 < q) = false := decide_eq_false (by omega)
  clear hq
  go_enter Tryd.func13, Tryd.ntmps13
  go_wp2_with fail
  have z0 := heap_alloc_new w (.cells #[.slice none 0 0, .slice none 0 0, .slice none 0 0] 37)
  have b0 := (Below.refl w.heap.size w).alloc (Nat.le_refl _) (.cells #[.slice none 0 0, .slice none 0 0, .slice none 0 0] 37)
  have SZ0 : Hid ((w.alloc (.cells #[.slice none 0 0, .slice none 0 0, .slice none 0 0] 37)).heap.size = w.heap.size + 1) := Lib.hid (by simp)
  refine (rnewM_ok n _ hn1 hn).mono ?_
  rintro e w1 ⟨rb, rfl, hrb, hge, hb⟩
  have N0 : Hid (NSt w (w1.alloc (.cells #[.slice (some ⟨rb, 0, none⟩) (n * 32) (n * 32)] 34)) w1.heap.size rb n) := Lib.hid (by
    have hb2 := (Below.refl w1.heap.size w1).alloc (Nat.le_refl _) (.cells #[.slice (some ⟨rb, 0, none⟩) (n * 32) (n * 32)] 34)
    have hb3 := hb.trans (hb2.mono hb.size)
    exact ⟨below_block hb3 z0, heap_alloc_new w1 _, below_block hb2 hrb, by have := SZ0.out; omega, b0.trans (hb3.mono b0.size)⟩)
  clear z0 b0 hrb hge hb SZ0
  go_wp2_with fail
  generalize w1.heap.size = mb at *
  go_loopw [8] (fun iv wr => NRel1 w mb rb n Q q iv wr) (fun i _ => q - (intOf i).toNat)
  case atStart => exact ⟨0, rfl, Nat.zero_le _, N0.out, fun i hi => absurd hi (Nat.not_lt_zero _)⟩
  case round =>
    obtain ⟨k, rfl, hk, hN, hA⟩ := hrel
    have N := Lib.hid hN
    have AL := Lib.hid hA
    clear hN hA
    by_cases hlt : k < q
    · obtain ⟨b, o, c', x, y, hsl, hbw, hrow, e0, e1⟩ := pair_cells HV.out k (by rw [← HQ.out]; exact hlt)
      obtain ⟨rfl, rfl⟩ : a = some ⟨b, o, none⟩ ∧ c' = c := by rw [← HQ.out] at hsl; cases hsl; exact ⟨rfl, rfl⟩
      have x0 := (N.out.below.cell (p := ⟨b, o + k * 2, none⟩) hbw).trans e0
      have x1 := (N.out.below.cell (p := ⟨b, o + k * 2 + 1, none⟩) hbw).trans e1
      have ROW := Lib.hid hrow
      clear hsl e0 e1 hrow hbw
      rcases inB_ways x y n with ⟨hin, hway⟩ | ⟨hin, i1, i2, i3, i4⟩
      · have E : Hid (¬ OkQ n Q) := Lib.hid (fun e => by have := e.allIn k (by rw [← HQ.out]; exact hlt); rw [ROW.out] at this; rw [hin] at this; cases this)
        clear hin
        rcases hway with i1 | ⟨i1, i2⟩ | ⟨i1, i2, i3⟩ | ⟨i1, i2, i3, i4⟩
        · have g0 : decide (x < 0) = true := decide_eq_true (by omega)
          go_wp2_with fail
          go_quiet (fail)
          have N := Lib.hid (N.out.step (below_drewN (Below.refl _ _) nq))
          obtain ⟨s1, s2, _⟩ := N.out.set z3
          have S1 := Lib.hid s1
          have S2 := Lib.hid s2
          clear s1 s2
          go_wp2_with (refine wpList_store_row rfl 37 _ _ rfl w.heap.size z3 rfl rfl _ z3 N.out.zero rpoolSize rfl (by simp [z3, Value.oneCell']) ?_)
          refine bodyPost_ret (v := .tuple #[.agg z3, .int .i64 2]) ?_ rfl ?_
          · exact results_rpool Tryd.results13 _ _ w.heap.size z3 _ _ rfl rfl S1.out rfl
          · exact Or.inl ⟨E.out, rfl, S2.out⟩
        · have g0 : decide (x < 0) = false := decide_eq_false (by omega)
          have g1 : decide (y < 1) = true := decide_eq_true (by omega)
          go_wp2_with fail
          go_quiet (fail)
          have N := Lib.hid (N.out.step (below_drewN (Below.refl _ _) nq))
          obtain ⟨s1, s2, _⟩ := N.out.set z3
          have S1 := Lib.hid s1
          have S2 := Lib.hid s2
          clear s1 s2
          go_wp2_with (refine wpList_store_row rfl 37 _ _ rfl w.heap.size z3 rfl rfl _ z3 N.out.zero rpoolSize rfl (by simp [z3, Value.oneCell']) ?_)
          refine bodyPost_ret (v := .tuple #[.agg z3, .int .i64 2]) ?_ rfl ?_
          · exact results_rpool Tryd.results13 _ _ w.heap.size z3 _ _ rfl rfl S1.out rfl
          · exact Or.inl ⟨E.out, rfl, S2.out⟩
        · have g0 : decide (x < 0) = false := decide_eq_false (by omega)
          have g1 : decide (y < 1) = false := decide_eq_false (by omega)
          have g2 : decide ((n : Int) ≤ x) = true := decide_eq_true (by omega)
          go_wp2_with fail
          go_quiet (fail)
          have N := Lib.hid (N.out.step (below_drewN (Below.refl _ _) nq))
          obtain ⟨s1, s2, _⟩ := N.out.set z3
          have S1 := Lib.hid s1
          have S2 := Lib.hid s2
          clear s1 s2
          go_wp2_with (refine wpList_store_row rfl 37 _ _ rfl w.heap.size z3 rfl rfl _ z3 N.out.zero rpoolSize rfl (by simp [z3, Value.oneCell']) ?_)
          refine bodyPost_ret (v := .tuple #[.agg z3, .int .i64 2]) ?_ rfl ?_
          · exact results_rpool Tryd.results13 _ _ w.heap.size z3 _ _ rfl rfl S1.out rfl
          · exact Or.inl ⟨E.out, rfl, S2.out⟩
        · have g0 : decide (x < 0) = false := decide_eq_false (by omega)
          have g1 : decide (y < 1) = false := decide_eq_false (by omega)
          have g2 : decide ((n : Int) ≤ x) = false := decide_eq_false (by omega)
          have g3 : decide ((n : Int) - x < y) = true := decide_eq_true (by omega)
          go_wp2_with fail
          go_quiet (fail)
          have N := Lib.hid (N.out.step (below_drewN (Below.refl _ _) nq))
          obtain ⟨s1, s2, _⟩ := N.out.set z3
          have S1 := Lib.hid s1
          have S2 := Lib.hid s2
          clear s1 s2
          go_wp2_with (refine wpList_store_row rfl 37 _ _ rfl w.heap.size z3 rfl rfl _ z3 N.out.zero rpoolSize rfl (by simp [z3, Value.oneCell']) ?_)
          refine bodyPost_ret (v := .tuple #[.agg z3, .int .i64 2]) ?_ rfl ?_
          · exact results_rpool Tryd.results13 _ _ w.heap.size z3 _ _ rfl rfl S1.out rfl
          · exact Or.inl ⟨E.out, rfl, S2.out⟩
      · have g0 : decide (x < 0) = false := decide_eq_false (by omega)
        have g1 : decide (y < 1) = false := decide_eq_false (by omega)
        have g2 : decide ((n : Int) ≤ x) = false := decide_eq_false (by omega)
        have g3 : decide ((n : Int) - x < y) = false := decide_eq_false (by omega)
        have A1 : Hid (AllIn n Q (k + 1)) := Lib.hid (fun i hi => by
          by_cases e : i = k
          · subst e; rw [ROW.out]; exact hin
          · exact AL.out i (by omega))
        clear hin
        go_wp2_with fail
        go_quiet (fail)
        have N := Lib.hid (N.out.step (below_drewN (Below.refl _ _) nq))
        go_wp2
        go_roundw
        case rel => exact ⟨k + 1, by go_num, by omega, N.out, A1.out⟩
        case measure => simp [intOf]; omega
    · obtain rfl : k = q := by omega
      have AL := Lib.hid (show AllIn n Q Q.length by rw [← HQ.out]; exact AL.out)
      clear N0
      go_wp2_with fail
      go_loopw [9] (fun iv wr => NRel2 w mb rb n Q k iv wr) (fun i _ => n - (intOf i).toNat)
      case atStart => exact ⟨0, rfl, Nat.zero_le _, N.out, fun y hy => absurd hy (Nat.not_lt_zero _)⟩
      case round =>
        obtain ⟨x, rfl, hx, hN, hC⟩ := hrel
        have N := Lib.hid hN
        have CN := Lib.hid hC
        clear hN hC
        by_cases hlt2 : x < n
        · go_wp2_with fail
          go_loopw [10, 11] (fun cv iv wr => NRel3 w mb rb n Q k x cv iv wr) (fun _ i _ => k - (intOf i).toNat)
          case atStart => exact ⟨0, rfl, Nat.zero_le _, rfl, N.out⟩
          case round =>
            obtain ⟨i, rfl, hi, rfl, hN⟩ := hrel
            have N := Lib.hid hN
            clear hN
            have hcl := cntP_le (natQ Q) (x : Int) i
            by_cases hlt3 : i < k
            · obtain ⟨b, o, c', x', y', hsl, hbw, hrow, e0, e1⟩ := pair_cells HV.out i (by rw [← HQ.out]; exact hlt3)
              obtain ⟨rfl, rfl⟩ : a = some ⟨b, o, none⟩ ∧ c' = c := by rw [← HQ.out] at hsl; cases hsl; exact ⟨rfl, rfl⟩
              obtain ⟨f, m, hfm, hP, _, hfn⟩ := AL.out.at_ i (by rw [← HQ.out]; exact hlt3) (Nat.le_refl _)
              rw [hrow] at hfm
              obtain ⟨rfl, rfl⟩ : x' = (f : Int) ∧ y' = (m : Int) := by cases hfm; exact ⟨rfl, rfl⟩
              have x0 := (N.out.below.cell (p := ⟨b, o + i * 2, none⟩) hbw).trans e0
              have x1 := (N.out.below.cell (p := ⟨b, o + i * 2 + 1, none⟩) hbw).trans e1
              obtain ⟨z, hz⟩ : ∃ z, inP (f, m) (x : Int) = z := ⟨_, rfl⟩
              have Z := Lib.hid hz
              have h1024 : f + m ≤ 1024 := by omega
              cases z with
              | true =>
                have NX : Hid (cntP (natQ Q) (x : Int) (i + 1) = cntP (natQ Q) (x : Int) i + 1) := Lib.hid (by rw [cntP, hP, if_pos hz])
                clear hsl e0 e1 hrow hfm hz hP
                go_wp2_with (go_at_call 29; refine (rin9_is (p := (f, m)) Z.out h1024 _).mono ?_; rintro e w2 ⟨rfl, hb⟩; have N := Lib.hid (N.out.step hb); clear hb)
                go_roundw
                case rel => exact ⟨i + 1, by go_num, by omega, by rw [NX.out]; go_num, N.out⟩
                case measure => simp [intOf]; omega
              | false =>
                have NX : Hid (cntP (natQ Q) (x : Int) (i + 1) = cntP (natQ Q) (x : Int) i) := Lib.hid (by rw [cntP, hP, if_neg (by rw [hz]; exact Bool.false_ne_true)]; rfl)
                clear hsl e0 e1 hrow hfm hz hP
                go_wp2_with (go_at_call 29; refine (rin9_is (p := (f, m)) Z.out h1024 _).mono ?_; rintro e w2 ⟨rfl, hb⟩; have N := Lib.hid (N.out.step hb); clear hb)
                go_roundw
                case rel => exact ⟨i + 1, by go_num, by omega, by rw [NX.out], N.out⟩
                case measure => simp [intOf]; omega
            · obtain rfl : i = k := by omega
              by_cases h2 : cntP (natQ Q) (x : Int) i ≤ 1
              · have CN1 : Hid (∀ y : Nat, y < x + 1 → cntP (natQ Q) (y : Int) i ≤ 1) := Lib.hid (fun y hy => by
                  by_cases e : y = x
                  · subst e; exact h2
                  · exact CN.out y (by omega))
                generalize cntP (natQ Q) (x : Int) i = cc at *
                have g0 : decide (1 < (cc : Int)) = false := decide_eq_false (by omega)
                go_wp2_with fail
                go_roundw
                case rel => exact ⟨x + 1, by go_num, by omega, N.out, CN1.out⟩
                case measure => simp [intOf]; omega
              · have E : Hid (¬ OkQ n Q) := Lib.hid (fun e => by have := e.once (x : Int); rw [← HQ.out] at this; omega)
                generalize cntP (natQ Q) (x : Int) i = cc at *
                have g0 : decide (1 < (cc : Int)) = true := decide_eq_true (by omega)
                obtain ⟨s1, s2, _⟩ := N.out.set z3
                have S1 := Lib.hid s1
                have S2 := Lib.hid s2
                clear s1 s2
                go_wp2_with (refine wpList_store_row rfl 37 _ _ rfl w.heap.size z3 rfl rfl _ z3 N.out.zero rpoolSize rfl (by simp [z3, Value.oneCell']) ?_)
                refine bodyPost_ret (v := .tuple #[.agg z3, .int .i64 2]) ?_ rfl ?_
                · exact results_rpool Tryd.results13 _ _ w.heap.size z3 _ _ rfl rfl S1.out rfl
                · exact Or.inl ⟨E.out, rfl, S2.out⟩
        · obtain rfl : x = n := by omega
          have OK := Lib.hid (okq_of (n := x) (by rw [← HQ.out]; exact h1) (by rw [← HQ.out]; exact h8) AL.out (by rw [← HQ.out]; exact CN.out))
          have hmk := make_intsM x (by omega)
          have mc := N.out.mcell
          go_wp2_with fail
          have hmb : mb ≠ w.heap.size := fun e => by
            have e1 := N.out.zero
            rw [← e, N.out.mbox] at e1
            exact absurd (congrArg kindOf (Option.some.inj e1)) (by simp [kindOf])
          have hmb' := hmb.symm
          have ZA := Lib.hid (N.out.step ((Below.refl wr.heap.size wr).alloc (Nat.le_refl _) (.cells (refsV x R0) 3)))
          have y0 : (wr.alloc (.cells (refsV x R0) 3)).cell? ⟨w.heap.size, 0, none⟩ = some (.slice none 0 0) := by rw [cell_of_row _ _ _ _ _ _ ZA.out.zero]; rfl
          have z0 : (wr.alloc (.cells (refsV x R0) 3)).frozen? ⟨w.heap.size, 0, none⟩ = false := frozen_of_row _ _ _ _ _ ZA.out.zero
          have y1 : (wr.alloc (.cells (refsV x R0) 3)).cell? ⟨w.heap.size, 1, none⟩ = some (.slice none 0 0) := by rw [cell_of_row _ _ _ _ _ _ ZA.out.zero]; rfl
          have z1 : (wr.alloc (.cells (refsV x R0) 3)).frozen? ⟨w.heap.size, 1, none⟩ = false := frozen_of_row _ _ _ _ _ ZA.out.zero
          have y2 : (wr.alloc (.cells (refsV x R0) 3)).cell? ⟨w.heap.size, 2, none⟩ = some (.slice none 0 0) := by rw [cell_of_row _ _ _ _ _ _ ZA.out.zero]; rfl
          have z2 : (wr.alloc (.cells (refsV x R0) 3)).frozen? ⟨w.heap.size, 2, none⟩ = false := frozen_of_row _ _ _ _ _ ZA.out.zero
          go_region_held3 (fun w' => w'.cell? ⟨mb, 0, none⟩ = some (.slice (some ⟨rb, 0, none⟩) (x * 32) (x * 32))) (go_keep)
            (first
              | (fail))
          have hlt0 : w.heap.size < wr.heap.size := lt_of_block N.out.zero
          obtain ⟨s1, s2, s3⟩ := ZA.out.set3 (.slice a k c) (.slice (some ⟨rb, 0, none⟩) (x * 32) (x * 32)) (.slice (some ⟨wr.heap.size, 0, none⟩) x x)
          have s4 := (s3.block rb (lt_of_block ZA.out.words) (fun e => by
            have e1 := ZA.out.words
            rw [Option.some.inj e, ZA.out.zero] at e1
            exact absurd (congrArg kindOf (Option.some.inj e1)) (by simp [kindOf]))).trans ZA.out.words
          have s5 := (s3.block wr.heap.size (by simp) (fun e => by have := Option.some.inj e; omega)).trans (heap_alloc_new wr (.cells (refsV x R0) 3))
          have S1 := Lib.hid s1
          have S2 := Lib.hid s2
          have S4 := Lib.hid s4
          have S5 := Lib.hid s5
          have GE := Lib.hid N.out.ge
          clear s1 s2 s3 s4 s5 y0 y1 y2 z0 z1 z2 mc hmk
          go_wp2_with fail
          refine bodyPost_ret (v := .tuple #[.agg #[.slice a k c, .slice (some ⟨rb, 0, none⟩) (x * 32) (x * 32), .slice (some ⟨wr.heap.size, 0, none⟩) x x], .int .i64 0]) ?_ rfl ?_
          · exact results_rpool Tryd.results13 _ _ w.heap.size _ _ _ rfl rfl S1.out rfl
          · exact Or.inr ⟨OK.out, rb, wr.heap.size, rfl, S4.out, S5.out, GE.out, by omega, S2.out⟩
end Go.Proofs.YtiohnhgoddfebaaDoor
