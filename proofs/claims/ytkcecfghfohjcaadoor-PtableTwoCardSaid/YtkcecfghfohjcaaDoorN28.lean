/- The law PtableFull: its walk. Condition: the listed tables read as laid. -/
import Derived.Test.YtkcecfghfohjcaaDoorGP
namespace Go.Proofs.YtkcecfghfohjcaaDoor
open Go.RowKit Go.Maps
set_option maxRecDepth 100000

set_option maxHeartbeats 4000000 in
theorem full_far (pg ot : Int) (p x k : Bool) (g : Int) (W : World) (hL : LaidN W) (h : pg < 0 ∨ (0 ≤ pg ∧ 1024 ≤ pg) ∨ (0 ≤ pg ∧ pg < 1024 ∧ ot < 0) ∨ (0 ≤ pg ∧ pg < 1024 ∧ 0 ≤ ot ∧ 1024 ≤ ot) ∨ (0 ≤ pg ∧ pg < 1024 ∧ 0 ≤ ot ∧ ot < 1024 ∧ pg / 32 = ot / 32)) :
    Calls Tryd.prog 8 #[.int .i64 pg, .int .i64 ot, ent p x k g] W fun e w' => e = .returned (.bool true) ∧ Below W.heap.size W w' := by
  have HL := Lib.hid hL
  have B0 : Hid (Below W.heap.size W (W.alloc (.cells #[.bool p, .bool x, .bool k, .int .i64 g] 37))) := Lib.hid ((Below.refl _ _).alloc (Nat.le_refl _) _)
  clear hL
  rcases h with h1 | ⟨h1, h2⟩ | ⟨h1, h2, h3⟩ | ⟨h1, h2, h3, h4⟩ | ⟨h1, h2, h3, h4, h5⟩
  · have d1 : decide (pg < 0) = true := decide_eq_true h1
    go_enter Tryd.func8, Tryd.ntmps8
    go_wp2_with (go_at_call 9; refine (awake10 _ (HL.out.lq.below B0.out) (HL.out.lw.below B0.out)).mono ?_; rintro e w2 ⟨rfl, hb⟩; have B := Lib.hid (B0.out.trans (hb.mono B0.out.size)); clear hb)
    go_ret
    exact ⟨rfl, B.out⟩
  · have d1 : decide (pg < 0) = false := decide_eq_false (by omega)
    have d2 : decide ((1024 : Int) ≤ pg) = true := decide_eq_true h2
    go_enter Tryd.func8, Tryd.ntmps8
    go_wp2_with (go_at_call 9; refine (awake10 _ (HL.out.lq.below B0.out) (HL.out.lw.below B0.out)).mono ?_; rintro e w2 ⟨rfl, hb⟩; have B := Lib.hid (B0.out.trans (hb.mono B0.out.size)); clear hb)
    go_ret
    exact ⟨rfl, B.out⟩
  · have d1 : decide (pg < 0) = false := decide_eq_false (by omega)
    have d2 : decide ((1024 : Int) ≤ pg) = false := decide_eq_false (by omega)
    have d3 : decide (ot < 0) = true := decide_eq_true h3
    go_enter Tryd.func8, Tryd.ntmps8
    go_wp2_with (go_at_call 9; refine (awake10 _ (HL.out.lq.below B0.out) (HL.out.lw.below B0.out)).mono ?_; rintro e w2 ⟨rfl, hb⟩; have B := Lib.hid (B0.out.trans (hb.mono B0.out.size)); clear hb)
    go_ret
    exact ⟨rfl, B.out⟩
  · have d1 : decide (pg < 0) = false := decide_eq_false (by omega)
    have d2 : decide ((1024 : Int) ≤ pg) = false := decide_eq_false (by omega)
    have d3 : decide (ot < 0) = false := decide_eq_false (by omega)
    have d4 : decide ((1024 : Int) ≤ ot) = true := decide_eq_true h4
    go_enter Tryd.func8, Tryd.ntmps8
    go_wp2_with (go_at_call 9; refine (awake10 _ (HL.out.lq.below B0.out) (HL.out.lw.below B0.out)).mono ?_; rintro e w2 ⟨rfl, hb⟩; have B := Lib.hid (B0.out.trans (hb.mono B0.out.size)); clear hb)
    go_ret
    exact ⟨rfl, B.out⟩
  · have d1 : decide (pg < 0) = false := decide_eq_false (by omega)
    have d2 : decide ((1024 : Int) ≤ pg) = false := decide_eq_false (by omega)
    have d3 : decide (ot < 0) = false := decide_eq_false (by omega)
    have d4 : decide ((1024 : Int) ≤ ot) = false := decide_eq_false (by omega)
    have t1 : pg.tdiv 32 = pg / 32 := Int.tdiv_eq_ediv_of_nonneg h1
    have t2 : ot.tdiv 32 = pg / 32 := (Int.tdiv_eq_ediv_of_nonneg h3).trans h5.symm
    go_enter Tryd.func8, Tryd.ntmps8
    go_wp2_with (go_at_call 9; refine (awake10 _ (HL.out.lq.below B0.out) (HL.out.lw.below B0.out)).mono ?_; rintro e w2 ⟨rfl, hb⟩; have B := Lib.hid (B0.out.trans (hb.mono B0.out.size)); clear hb)
    go_ret
    exact ⟨rfl, B.out⟩
/-- The law's box, and its system. -/
structure FullSt (W V : World) (tb sb : Nat) (X : PIx) (n m c : Nat) (Wf : Nat → Option Sp) (bx : Nat) (p x k : Bool) (g : Int) : Prop where
  sys : Sys W V tb sb X n m c Wf
  box : V.heap[bx]? = some (entO (p, x, k, g))
theorem FullSt.gone {W V V' : World} {tb sb n m c c' bx : Nat} {X : PIx} {Wf Wf' : Nat → Option Sp} {p x k : Bool} {g : Int} (h : FullSt W V tb sb X n m c Wf bx p x k g) (hg : Gone W V V' tb sb X n m c' Wf') : FullSt W V' tb sb X n m c' Wf' bx p x k g :=
  ⟨hg.st, hg.only.kept h.box (h.sys.other (show V.heap[bx]? = some (.cells #[.bool p, .bool x, .bool k, .int .i64 g] 37 (0, 0)) from h.box) ⟨by decide, by decide, by decide, by decide, by decide⟩)⟩
theorem FullSt.step {W V V' : World} {tb sb n m c bx : Nat} {X : PIx} {Wf : Nat → Option Sp} {p x k : Bool} {g : Int} (h : FullSt W V tb sb X n m c Wf bx p x k g) (hb : Below V.heap.size V V') : FullSt W V' tb sb X n m c Wf bx p x k g :=
  ⟨h.sys.step hb, below_block hb h.box⟩
set_option maxHeartbeats 8000000 in
theorem full_in (a b : Nat) (p x k : Bool) (g : Int) (W : World) (hL : LaidN W) (ha : a < 1024) (hb : b < 1024) (hab : a / 32 ≠ b / 32) :
    Calls Tryd.prog 8 #[.int .i64 (a : Int), .int .i64 (b : Int), ent p x k g] W fun e w' => e = .returned (.bool true) ∧ Below W.heap.size W w' := by
  have HL := Lib.hid hL
  obtain ⟨w0, hw0⟩ : ∃ w0, w0 = W.alloc (.cells #[.bool p, .bool x, .bool k, .int .i64 g] 37) := ⟨_, rfl⟩
  have B0 : Hid (Below W.heap.size W w0) := Lib.hid (by rw [hw0]; exact (Below.refl _ _).alloc (Nat.le_refl _) _)
  have R0 : Hid (w0.heap[W.heap.size]? = some (entO (p, x, k, g))) := Lib.hid (by rw [hw0]; exact heap_alloc_new W _)
  have d1 : decide ((a : Int) < 0) = false := decide_eq_false (by omega)
  have d2 : decide ((1024 : Int) ≤ (a : Int)) = false := decide_eq_false (by omega)
  have d3 : decide ((b : Int) < 0) = false := decide_eq_false (by omega)
  have d4 : decide ((1024 : Int) ≤ (b : Int)) = false := decide_eq_false (by omega)
  have t1 : (a : Int).tdiv 32 = ((a / 32 : Nat) : Int) := (Int.tdiv_eq_ediv_of_nonneg (by omega)).trans (by omega)
  have t2 : (b : Int).tdiv 32 = ((b / 32 : Nat) : Int) := (Int.tdiv_eq_ediv_of_nonneg (by omega)).trans (by omega)
  have t3 : (((a / 32 : Nat) : Int) == ((b / 32 : Nat) : Int)) = false := by simp; omega
  have ia : Hid (I64 (a : Int)) := Lib.hid ⟨by omega, by omega⟩
  have ib : Hid (I64 (b : Int)) := Lib.hid ⟨by omega, by omega⟩
  clear hL
  go_enter Tryd.func8, Tryd.ntmps8
  go_wp2_with fail
  rw [← hw0]
  clear hw0
  refine (made_sys 3 w0 (by decide) (by decide) (HL.out.lq.below B0.out) (HL.out.lw.below B0.out)).mono ?_
  rintro e w1 ⟨tb, sb, X, rfl, hs⟩
  have S1 : Hid (FullSt w0 w1 tb sb X 5 3 3 (fun _ => none) W.heap.size p x k g) := Lib.hid ⟨hs, below_block hs.below R0.out⟩
  clear hs d1 d2 d3 d4 t1 t2 t3
  go_wp2_with fail
  refine S1.out.sys.open_.mono ?_
  rintro e w2 (⟨h0, -, -⟩ | ⟨r, hr3, -, -, rfl, hg⟩)
  · omega
  obtain ⟨W1, hW1⟩ : ∃ W1 : Nat → Option Sp, W1 = updW (fun _ => none) r (some fun _ => z0) := ⟨_, rfl⟩
  rw [← hW1] at hg
  have hs1 : spOf W1 (r : Int) = some zF := by rw [spOf_nat, hW1, updW_same]; rfl
  have S2 := Lib.hid (S1.out.gone hg)
  have ir : Hid (I64 (r : Int)) := Lib.hid ⟨by omega, by omega⟩
  clear hg S1
  obtain ⟨k0, k1, k2, k3⟩ := cells4 S2.out.box
  go_wp2_with fail
  refine (S2.out.sys.map (r : Int) (a : Int) p x k g ir.out ia.out).mono ?_
  rintro e w3 ⟨rfl, hg⟩
  have S3 := Lib.hid (S2.out.gone hg)
  clear hg k0 k1 k2 k3 S2
  cases hf : fitV 5 (p, x, k, g) with
  | false =>
    have E1 : Hid (∀ (Wf : Nat → Option Sp) (c : Nat) (q : Int), mapErr 5 Wf c (r : Int) q (p, x, k, g) = 2) := Lib.hid fun Wf c q => mapErr_arg (by rw [hf]; simp)
    have C1 : mapC 5 (3 - 1) W1 (r : Int) (a : Int) (p, x, k, g) = 2 := by unfold mapC; rw [E1.out, if_neg (by decide)]
    have D1 : mapW 5 (3 - 1) W1 (r : Int) (a : Int) (p, x, k, g) = W1 := by unfold mapW; rw [E1.out, if_neg (by decide)]
    rw [C1, D1] at S3
    rw [E1.out]
    go_wp2_with fail
    refine S3.out.sys.open_.mono ?_
    rintro e w4 (⟨h0, -, -⟩ | ⟨y, hy3, -, -, rfl, hg⟩)
    · omega
    have S4 := Lib.hid (S3.out.gone hg)
    clear hg C1 D1 S3
    obtain ⟨k0, k1, k2, k3⟩ := cells4 S4.out.box
    go_wp2_with fail
    refine (S4.out.sys.map (r : Int) (b : Int) p x k g ir.out ib.out).mono ?_
    rw [E1.out]
    rintro e w5 ⟨rfl, hg⟩
    have S5 := Lib.hid (S4.out.gone hg)
    have C2 : mapC 5 (2 - 1) (updW W1 y (some fun _ => z0)) (r : Int) (b : Int) (p, x, k, g) = 1 := by unfold mapC; rw [E1.out, if_neg (by decide)]
    rw [C2] at S5
    clear hg C2 k0 k1 k2 k3 S4
    go_wp2_with (first
      | (go_at_call 12; refine S5.out.sys.left.mono ?_; rintro e w6 ⟨rfl, hb⟩; have S6 := Lib.hid (S5.out.step hb); have B6 := Lib.hid (B0.out.trans (S6.out.sys.below.mono B0.out.size)); clear hb)
      | (go_at_call 9; refine (awake10 _ (HL.out.lq.below B6.out) (HL.out.lw.below B6.out)).mono ?_; rintro e w7 ⟨rfl, hb⟩; have B7 := Lib.hid (B6.out.trans (hb.mono B6.out.size)); clear hb))
    go_ret
    exact ⟨rfl, B7.out⟩
  | true =>
    have he : Hid (fitsE 5 (p, x, k, g)) := Lib.hid ((fitV_iff 5 _).1 hf)
    have E1 : mapErr 5 W1 (3 - 1) (r : Int) (a : Int) (p, x, k, g) = 0 := by rw [mapErr_in hs1 ha, hf, if_pos rfl, if_neg (by simp [zF, z0]), if_neg (by omega)]
    have C1 : mapC 5 (3 - 1) W1 (r : Int) (a : Int) (p, x, k, g) = 1 := by unfold mapC; rw [E1, if_pos rfl, needs_in hs1, zF_has]; rfl
    have D1 : mapW 5 (3 - 1) W1 (r : Int) (a : Int) (p, x, k, g) = updW W1 r (some (updF zF a (p, x, k, g))) := by unfold mapW; rw [E1, if_pos rfl, putW_in hs1]
    rw [C1, D1] at S3
    rw [E1]
    obtain ⟨F1, hF1⟩ : ∃ F1, F1 = updF zF a (p, x, k, g) := ⟨_, rfl⟩
    rw [← hF1] at S3
    have hF1h : hasB F1 (b / 32) = false := by rw [hF1, hasB_far _ _ _ _ (Ne.symm hab)]; exact zF_has _
    have hF1b : (F1 b).1 = false := by rw [hF1, updF_other _ _ _ _ (by rintro rfl; exact hab rfl)]; rfl
    have hall1 : (allF F1).length = 1 := by rw [hF1, allF_more ha rfl he.out.1, zF_all]; rfl
    have htab1 : tabF F1 = 2 := by rw [hF1, tabF_more ha (zF_has _) he.out.1, zF_tab]
    have htab2 : tabF (updF F1 b (p, x, k, g)) = 3 := by rw [tabF_more hb hF1h he.out.1, htab1]
    clear C1 D1
    go_wp2_with fail
    refine S3.out.sys.open_.mono ?_
    rintro e w4 (⟨h0, -, -⟩ | ⟨y, hy3, hyn, -, rfl, hg⟩)
    · omega
    have hyr : y ≠ r := by rintro rfl; rw [updW_same] at hyn; cases hyn
    obtain ⟨W3, hW3⟩ : ∃ W3 : Nat → Option Sp, W3 = updW (updW W1 r (some F1)) y (some fun _ => z0) := ⟨_, rfl⟩
    rw [← hW3] at hg
    have hs3 : spOf W3 (r : Int) = some F1 := by rw [spOf_nat, hW3, updW_other _ _ _ _ (Ne.symm hyr), updW_same]
    have hsy : spOf W3 (y : Int) = some zF := by rw [spOf_nat, hW3, updW_same]; rfl
    have iy : Hid (I64 (y : Int)) := Lib.hid ⟨by omega, by omega⟩
    have S4 := Lib.hid (S3.out.gone hg)
    clear hg S3
    obtain ⟨k0, k1, k2, k3⟩ := cells4 S4.out.box
    have E2 : mapErr 5 W3 (1 - 1) (r : Int) (b : Int) (p, x, k, g) = 3 := by rw [mapErr_in hs3 hb, hf, if_pos rfl, if_neg (by rw [hF1b]; decide), if_pos ⟨hF1h, rfl⟩]
    have C2 : mapC 5 (1 - 1) W3 (r : Int) (b : Int) (p, x, k, g) = 0 := by unfold mapC; rw [E2, if_neg (by decide)]
    have D2 : mapW 5 (1 - 1) W3 (r : Int) (b : Int) (p, x, k, g) = W3 := by unfold mapW; rw [E2, if_neg (by decide)]
    go_wp2_with fail
    refine (S4.out.sys.map (r : Int) (b : Int) p x k g ir.out ib.out).mono ?_
    rw [E2]
    rintro e w5 ⟨rfl, hg⟩
    have S5 := Lib.hid (S4.out.gone hg)
    rw [C2, D2] at S5
    clear hg C2 D2 E2 k0 k1 k2 k3 S4
    have hallw : Hid ((allW W3 (r : Int)).length = 1) := Lib.hid (by unfold allW; rw [hs3]; exact hall1)
    have htabw : Hid (tabW W3 (r : Int) = 2) := Lib.hid (by unfold tabW; rw [hs3]; exact htab1)
    have hcls : Hid (clsErr W3 (y : Int) = 0) := Lib.hid (by unfold clsErr; rw [hsy]; simp only; rw [zF_empty]; rfl)
    have C3 : Hid (clsC 0 W3 (y : Int) = 1) := Lib.hid (by unfold clsC; rw [hcls.out, if_pos rfl])
    have D3 : Hid (clsW W3 (y : Int) = updW W3 y none) := Lib.hid (by unfold clsW; rw [hcls.out, if_pos rfl]; rfl)
    go_wp2_with (first
      | (go_at_call 18; refine (S5.out.sys.all (r : Int) ir.out).mono ?_; rintro e w6 ⟨v, rfl, ho, hb⟩; rw [hallw.out] at ho; obtain ⟨a6, c6, rfl⟩ := owns_slice ho; have S6 := Lib.hid (S5.out.step hb); clear hb ho)
      | (go_at_call 19; refine (S6.out.sys.tables (r : Int) ir.out).mono ?_; rw [htabw.out]; rintro e w7 ⟨rfl, hb⟩; have S7 := Lib.hid (S6.out.step hb); clear hb)
      | (go_at_call 23; refine (S7.out.sys.close (y : Int) iy.out).mono ?_; rw [hcls.out, C3.out, D3.out]; rintro e w8 ⟨rfl, hg⟩; have S8 := Lib.hid (S7.out.gone hg); clear hg; obtain ⟨k0, k1, k2, k3⟩ := cells4 S8.out.box))
    obtain ⟨W4, hW4⟩ : ∃ W4 : Nat → Option Sp, W4 = updW W3 y none := ⟨_, rfl⟩
    rw [← hW4] at S8
    have hs4 : spOf W4 (r : Int) = some F1 := by have h3 := hs3; rw [spOf_nat] at h3; rw [spOf_nat, hW4, updW_other _ _ _ _ (Ne.symm hyr)]; exact h3
    have E4 : mapErr 5 W4 1 (r : Int) (b : Int) (p, x, k, g) = 0 := by rw [mapErr_in hs4 hb, hf, if_pos rfl, if_neg (by rw [hF1b]; decide), if_neg (by omega)]
    have C4 : mapC 5 1 W4 (r : Int) (b : Int) (p, x, k, g) = 0 := by unfold mapC; rw [E4, if_pos rfl, needs_in hs4, hF1h]; rfl
    have D4 : mapW 5 1 W4 (r : Int) (b : Int) (p, x, k, g) = updW W4 r (some (updF F1 b (p, x, k, g))) := by unfold mapW; rw [E4, if_pos rfl, putW_in hs4]
    refine (S8.out.sys.map (r : Int) (b : Int) p x k g ir.out ib.out).mono ?_
    rw [E4, C4, D4]
    rintro e w9 ⟨rfl, hg⟩
    have S9 := Lib.hid (S8.out.gone hg)
    have htab9 : Hid (tabW (updW W4 r (some (updF F1 b (p, x, k, g)))) (r : Int) = 3) := Lib.hid (by unfold tabW; rw [spOf_nat, updW_same]; exact htab2)
    clear hg k0 k1 k2 k3 E4 C4 D4
    go_wp2_with (first
      | (go_at_call 19; refine (S9.out.sys.tables (r : Int) ir.out).mono ?_; rw [htab9.out]; rintro e w10 ⟨rfl, hb⟩; have S10 := Lib.hid (S9.out.step hb); clear hb)
      | (go_at_call 12; refine S10.out.sys.left.mono ?_; rintro e w11 ⟨rfl, hb⟩; have S11 := Lib.hid (S10.out.step hb); have B11 := Lib.hid (B0.out.trans (S11.out.sys.below.mono B0.out.size)); clear hb)
      | (go_at_call 9; refine (awake10 _ (HL.out.lq.below B11.out) (HL.out.lw.below B11.out)).mono ?_; rintro e w12 ⟨rfl, hb⟩; have B12 := Lib.hid (B11.out.trans (hb.mono B11.out.size)); clear hb))
    go_ret
    exact ⟨rfl, B12.out⟩
theorem ptableFull_walk (pg ot : Int) (p x k : Bool) (g : Int) (W : World) (_ : I64 pg) (_ : I64 ot) (_ : I64 g) (hL : LaidN W) :
    Calls Tryd.prog 8 #[.int .i64 pg, .int .i64 ot, ent p x k g] W fun e w' => e = .returned (.bool true) ∧ Below W.heap.size W w' := by
  by_cases h : 0 ≤ pg ∧ pg < 1024 ∧ 0 ≤ ot ∧ ot < 1024 ∧ pg / 32 ≠ ot / 32
  · obtain ⟨h1, h2, h3, h4, h5⟩ := h
    obtain ⟨a, rfl⟩ := Int.eq_ofNat_of_zero_le h1
    obtain ⟨b, rfl⟩ := Int.eq_ofNat_of_zero_le h3
    exact full_in a b p x k g W hL (by omega) (by omega) (by omega)
  · exact full_far pg ot p x k g W hL (by omega)
end Go.Proofs.YtkcecfghfohjcaaDoor
