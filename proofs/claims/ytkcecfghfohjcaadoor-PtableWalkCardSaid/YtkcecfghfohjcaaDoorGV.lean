/- Texts of mine, joined: N28 N29 N30 N32. What each says and under which conditions stands at its head, below. -/
import Derived.Test.YtkcecfghfohjcaaDoorGP
import Derived.Test.YtkcecfghfohjcaaDoorGON
/- The law PtableFull: its walk. Condition: the listed tables read as laid. -/
namespace Go.Proofs.YtkcecfghfohjcaaDoor
open Go.RowKit Go.Maps
set_option maxRecDepth 100000

set_option maxHeartbeats 4000000 in
theorem full_far (pg ot : Int) (p x k : Bool) (g : Int) (W : World) (hL : LaidN W) (h : pg < 0 ∨ (0 ≤ pg ∧ 1024 ≤ pg) ∨ (0 ≤ pg ∧ pg < 1024 ∧ ot < 0) ∨ (0 ≤ pg ∧ pg < 1024 ∧ 0 ≤ ot ∧ 1024 ≤ ot) ∨ (0 ≤ pg ∧ pg < 1024 ∧ 0 ≤ ot ∧ ot < 1024 ∧ pg / 32 = ot / 32)) :
    Calls Tryd.prog 8 #[.int .i64 pg, .int .i64 ot, ent p x k g] W fun e w' => e = .returned (.bool true) ∧ Below W.heap.size W w' := by
  have HL := Lib.hid hL
  have B0 : Hid (Below W.heap.size W (W.alloc (.cells #[.bool p, .bool x, .bool k, .int .i64 g] 37))) := Lib.hid ((Below.refl _ _).alloc (Nat.le_refl _) _)
  clear hL
  rcases h with h1 | ⟨h1, h2⟩ | ⟨h1, h2, h3⟩ | ⟨h1, h2, h3, h4⟩ | ⟨h1, h2, h3, h4, h5⟩
  · have d1 : decide (pg < 0) = true := decide_eq_true h1
    go_enter Tryd.func8, Tryd.ntmps8
    go_wp2_with (go_at_call 9; refine (awake10 _ (HL.out.lq.below B0.out) (HL.out.lw.below B0.out)).mono ?_; rintro e w2 ⟨rfl, hb⟩; have B := Lib.hid (B0.out.trans (hb.mono B0.out.size)); clear hb)
    go_ret
    exact ⟨rfl, B.out⟩
  · have d1 : decide (pg < 0) = false := decide_eq_false (by omega)
    have d2 : decide ((1024 : Int) ≤ pg) = true := decide_eq_true h2
    go_enter Tryd.func8, Tryd.ntmps8
    go_wp2_with (go_at_call 9; refine (awake10 _ (HL.out.lq.below B0.out) (HL.out.lw.below B0.out)).mono ?_; rintro e w2 ⟨rfl, hb⟩; have B := Lib.hid (B0.out.trans (hb.mono B0.out.size)); clear hb)
    go_ret
    exact ⟨rfl, B.out⟩
  · have d1 : decide (pg < 0) = false := decide_eq_false (by omega)
    have d2 : decide ((1024 : Int) ≤ pg) = false := decide_eq_false (by omega)
    have d3 : decide (ot < 0) = true := decide_eq_true h3
    go_enter Tryd.func8, Tryd.ntmps8
    go_wp2_with (go_at_call 9; refine (awake10 _ (HL.out.lq.below B0.out) (HL.out.lw.below B0.out)).mono ?_; rintro e w2 ⟨rfl, hb⟩; have B := Lib.hid (B0.out.trans (hb.mono B0.out.size)); clear hb)
    go_ret
    exact ⟨rfl, B.out⟩
  · have d1 : decide (pg < 0) = false := decide_eq_false (by omega)
    have d2 : decide ((1024 : Int) ≤ pg) = false := decide_eq_false (by omega)
    have d3 : decide (ot < 0) = false := decide_eq_false (by omega)
    have d4 : decide ((1024 : Int) ≤ ot) = true := decide_eq_true h4
    go_enter Tryd.func8, Tryd.ntmps8
    go_wp2_with (go_at_call 9; refine (awake10 _ (HL.out.lq.below B0.out) (HL.out.lw.below B0.out)).mono ?_; rintro e w2 ⟨rfl, hb⟩; have B := Lib.hid (B0.out.trans (hb.mono B0.out.size)); clear hb)
    go_ret
    exact ⟨rfl, B.out⟩
  · have d1 : decide (pg < 0) = false := decide_eq_false (by omega)
    have d2 : decide ((1024 : Int) ≤ pg) = false := decide_eq_false (by omega)
    have d3 : decide (ot < 0) = false := decide_eq_false (by omega)
    have d4 : decide ((1024 : Int) ≤ ot) = false := decide_eq_false (by omega)
    have t1 : pg.tdiv 32 = pg / 32 := Int.tdiv_eq_ediv_of_nonneg h1
    have t2 : ot.tdiv 32 = pg / 32 := (Int.tdiv_eq_ediv_of_nonneg h3).trans h5.symm
    go_enter Tryd.func8, Tryd.ntmps8
    go_wp2_with (go_at_call 9; refine (awake10 _ (HL.out.lq.below B0.out) (HL.out.lw.below B0.out)).mono ?_; rintro e w2 ⟨rfl, hb⟩; have B := Lib.hid (B0.out.trans (hb.mono B0.out.size)); clear hb)
    go_ret
    exact ⟨rfl, B.out⟩
/-- The law's box, and its system. -/
structure FullSt (W V : World) (tb sb : Nat) (X : PIx) (n m c : Nat) (Wf : Nat → Option Sp) (bx : Nat) (p x k : Bool) (g : Int) : Prop where
  sys : Sys W V tb sb X n m c Wf
  box : V.heap[bx]? = some (entO (p, x, k, g))
theorem FullSt.gone {W V V' : World} {tb sb n m c c' bx : Nat} {X : PIx} {Wf Wf' : Nat → Option Sp} {p x k : Bool} {g : Int} (h : FullSt W V tb sb X n m c Wf bx p x k g) (hg : Gone W V V' tb sb X n m c' Wf') : FullSt W V' tb sb X n m c' Wf' bx p x k g :=
  ⟨hg.st, hg.only.kept h.box (h.sys.other (show V.heap[bx]? = some (.cells #[.bool p, .bool x, .bool k, .int .i64 g] 37 (0, 0)) from h.box) ⟨by decide, by decide, by decide, by decide, by decide⟩)⟩
theorem FullSt.step {W V V' : World} {tb sb n m c bx : Nat} {X : PIx} {Wf : Nat → Option Sp} {p x k : Bool} {g : Int} (h : FullSt W V tb sb X n m c Wf bx p x k g) (hb : Below V.heap.size V V') : FullSt W V' tb sb X n m c Wf bx p x k g :=
  ⟨h.sys.step hb, below_block hb h.box⟩
set_option maxHeartbeats 8000000 in
theorem full_in (a b : Nat) (p x k : Bool) (g : Int) (W : World) (hL : LaidN W) (ha : a < 1024) (hb : b < 1024) (hab : a / 32 ≠ b / 32) :
    Calls Tryd.prog 8 #[.int .i64 (a : Int), .int .i64 (b : Int), ent p x k g] W fun e w' => e = .returned (.bool true) ∧ Below W.heap.size W w' := by
  have HL := Lib.hid hL
  obtain ⟨w0, hw0⟩ : ∃ w0, w0 = W.alloc (.cells #[.bool p, .bool x, .bool k, .int .i64 g] 37) := ⟨_, rfl⟩
  have B0 : Hid (Below W.heap.size W w0) := Lib.hid (by rw [hw0]; exact (Below.refl _ _).alloc (Nat.le_refl _) _)
  have R0 : Hid (w0.heap[W.heap.size]? = some (entO (p, x, k, g))) := Lib.hid (by rw [hw0]; exact heap_alloc_new W _)
  have d1 : decide ((a : Int) < 0) = false := decide_eq_false (by omega)
  have d2 : decide ((1024 : Int) ≤ (a : Int)) = false := decide_eq_false (by omega)
  have d3 : decide ((b : Int) < 0) = false := decide_eq_false (by omega)
  have d4 : decide ((1024 : Int) ≤ (b : Int)) = false := decide_eq_false (by omega)
  have t1 : (a : Int).tdiv 32 = ((a / 32 : Nat) : Int) := (Int.tdiv_eq_ediv_of_nonneg (by omega)).trans (by omega)
  have t2 : (b : Int).tdiv 32 = ((b / 32 : Nat) : Int) := (Int.tdiv_eq_ediv_of_nonneg (by omega)).trans (by omega)
  have t3 : (((a / 32 : Nat) : Int) == ((b / 32 : Nat) : Int)) = false := by simp; omega
  have ia : Hid (I64 (a : Int)) := Lib.hid ⟨by omega, by omega⟩
  have ib : Hid (I64 (b : Int)) := Lib.hid ⟨by omega, by omega⟩
  clear hL
  go_enter Tryd.func8, Tryd.ntmps8
  go_wp2_with fail
  rw [← hw0]
  clear hw0
  refine (made_sys 3 w0 (by decide) (by decide) (HL.out.lq.below B0.out) (HL.out.lw.below B0.out)).mono ?_
  rintro e w1 ⟨tb, sb, X, rfl, hs⟩
  have S1 : Hid (FullSt w0 w1 tb sb X 5 3 3 (fun _ => none) W.heap.size p x k g) := Lib.hid ⟨hs, below_block hs.below R0.out⟩
  clear hs d1 d2 d3 d4 t1 t2 t3
  go_wp2_with fail
  refine S1.out.sys.open_.mono ?_
  rintro e w2 (⟨h0, -, -⟩ | ⟨r, hr3, -, -, rfl, hg⟩)
  · omega
  obtain ⟨W1, hW1⟩ : ∃ W1 : Nat → Option Sp, W1 = updW (fun _ => none) r (some fun _ => z0) := ⟨_, rfl⟩
  rw [← hW1] at hg
  have hs1 : spOf W1 (r : Int) = some zF := by rw [spOf_nat, hW1, updW_same]; rfl
  have S2 := Lib.hid (S1.out.gone hg)
  have ir : Hid (I64 (r : Int)) := Lib.hid ⟨by omega, by omega⟩
  clear hg S1
  obtain ⟨k0, k1, k2, k3⟩ := cells4 S2.out.box
  go_wp2_with fail
  refine (S2.out.sys.map (r : Int) (a : Int) p x k g ir.out ia.out).mono ?_
  rintro e w3 ⟨rfl, hg⟩
  have S3 := Lib.hid (S2.out.gone hg)
  clear hg k0 k1 k2 k3 S2
  cases hf : fitV 5 (p, x, k, g) with
  | false =>
    have E1 : Hid (∀ (Wf : Nat → Option Sp) (c : Nat) (q : Int), mapErr 5 Wf c (r : Int) q (p, x, k, g) = 2) := Lib.hid fun Wf c q => mapErr_arg (by rw [hf]; simp)
    have C1 : mapC 5 (3 - 1) W1 (r : Int) (a : Int) (p, x, k, g) = 2 := by unfold mapC; rw [E1.out, if_neg (by decide)]
    have D1 : mapW 5 (3 - 1) W1 (r : Int) (a : Int) (p, x, k, g) = W1 := by unfold mapW; rw [E1.out, if_neg (by decide)]
    rw [C1, D1] at S3
    rw [E1.out]
    go_wp2_with fail
    refine S3.out.sys.open_.mono ?_
    rintro e w4 (⟨h0, -, -⟩ | ⟨y, hy3, -, -, rfl, hg⟩)
    · omega
    have S4 := Lib.hid (S3.out.gone hg)
    clear hg C1 D1 S3
    obtain ⟨k0, k1, k2, k3⟩ := cells4 S4.out.box
    go_wp2_with fail
    refine (S4.out.sys.map (r : Int) (b : Int) p x k g ir.out ib.out).mono ?_
    rw [E1.out]
    rintro e w5 ⟨rfl, hg⟩
    have S5 := Lib.hid (S4.out.gone hg)
    have C2 : mapC 5 (2 - 1) (updW W1 y (some fun _ => z0)) (r : Int) (b : Int) (p, x, k, g) = 1 := by unfold mapC; rw [E1.out, if_neg (by decide)]
    rw [C2] at S5
    clear hg C2 k0 k1 k2 k3 S4
    go_wp2_with (first
      | (go_at_call 12; refine S5.out.sys.left.mono ?_; rintro e w6 ⟨rfl, hb⟩; have S6 := Lib.hid (S5.out.step hb); have B6 := Lib.hid (B0.out.trans (S6.out.sys.below.mono B0.out.size)); clear hb)
      | (go_at_call 9; refine (awake10 _ (HL.out.lq.below B6.out) (HL.out.lw.below B6.out)).mono ?_; rintro e w7 ⟨rfl, hb⟩; have B7 := Lib.hid (B6.out.trans (hb.mono B6.out.size)); clear hb))
    go_ret
    exact ⟨rfl, B7.out⟩
  | true =>
    have he : Hid (fitsE 5 (p, x, k, g)) := Lib.hid ((fitV_iff 5 _).1 hf)
    have E1 : mapErr 5 W1 (3 - 1) (r : Int) (a : Int) (p, x, k, g) = 0 := by rw [mapErr_in hs1 ha, hf, if_pos rfl, if_neg (by simp [zF, z0]), if_neg (by omega)]
    have C1 : mapC 5 (3 - 1) W1 (r : Int) (a : Int) (p, x, k, g) = 1 := by unfold mapC; rw [E1, if_pos rfl, needs_in hs1, zF_has]; rfl
    have D1 : mapW 5 (3 - 1) W1 (r : Int) (a : Int) (p, x, k, g) = updW W1 r (some (updF zF a (p, x, k, g))) := by unfold mapW; rw [E1, if_pos rfl, putW_in hs1]
    rw [C1, D1] at S3
    rw [E1]
    obtain ⟨F1, hF1⟩ : ∃ F1, F1 = updF zF a (p, x, k, g) := ⟨_, rfl⟩
    rw [← hF1] at S3
    have hF1h : hasB F1 (b / 32) = false := by rw [hF1, hasB_far _ _ _ _ (Ne.symm hab)]; exact zF_has _
    have hF1b : (F1 b).1 = false := by rw [hF1, updF_other _ _ _ _ (by rintro rfl; exact hab rfl)]; rfl
    have hall1 : (allF F1).length = 1 := by rw [hF1, allF_more ha rfl he.out.1, zF_all]; rfl
    have htab1 : tabF F1 = 2 := by rw [hF1, tabF_more ha (zF_has _) he.out.1, zF_tab]
    have htab2 : tabF (updF F1 b (p, x, k, g)) = 3 := by rw [tabF_more hb hF1h he.out.1, htab1]
    clear C1 D1
    go_wp2_with fail
    refine S3.out.sys.open_.mono ?_
    rintro e w4 (⟨h0, -, -⟩ | ⟨y, hy3, hyn, -, rfl, hg⟩)
    · omega
    have hyr : y ≠ r := by rintro rfl; rw [updW_same] at hyn; cases hyn
    obtain ⟨W3, hW3⟩ : ∃ W3 : Nat → Option Sp, W3 = updW (updW W1 r (some F1)) y (some fun _ => z0) := ⟨_, rfl⟩
    rw [← hW3] at hg
    have hs3 : spOf W3 (r : Int) = some F1 := by rw [spOf_nat, hW3, updW_other _ _ _ _ (Ne.symm hyr), updW_same]
    have hsy : spOf W3 (y : Int) = some zF := by rw [spOf_nat, hW3, updW_same]; rfl
    have iy : Hid (I64 (y : Int)) := Lib.hid ⟨by omega, by omega⟩
    have S4 := Lib.hid (S3.out.gone hg)
    clear hg S3
    obtain ⟨k0, k1, k2, k3⟩ := cells4 S4.out.box
    have E2 : mapErr 5 W3 (1 - 1) (r : Int) (b : Int) (p, x, k, g) = 3 := by rw [mapErr_in hs3 hb, hf, if_pos rfl, if_neg (by rw [hF1b]; decide), if_pos ⟨hF1h, rfl⟩]
    have C2 : mapC 5 (1 - 1) W3 (r : Int) (b : Int) (p, x, k, g) = 0 := by unfold mapC; rw [E2, if_neg (by decide)]
    have D2 : mapW 5 (1 - 1) W3 (r : Int) (b : Int) (p, x, k, g) = W3 := by unfold mapW; rw [E2, if_neg (by decide)]
    go_wp2_with fail
    refine (S4.out.sys.map (r : Int) (b : Int) p x k g ir.out ib.out).mono ?_
    rw [E2]
    rintro e w5 ⟨rfl, hg⟩
    have S5 := Lib.hid (S4.out.gone hg)
    rw [C2, D2] at S5
    clear hg C2 D2 E2 k0 k1 k2 k3 S4
    have hallw : Hid ((allW W3 (r : Int)).length = 1) := Lib.hid (by unfold allW; rw [hs3]; exact hall1)
    have htabw : Hid (tabW W3 (r : Int) = 2) := Lib.hid (by unfold tabW; rw [hs3]; exact htab1)
    have hcls : Hid (clsErr W3 (y : Int) = 0) := Lib.hid (by unfold clsErr; rw [hsy]; simp only; rw [zF_empty]; rfl)
    have C3 : Hid (clsC 0 W3 (y : Int) = 1) := Lib.hid (by unfold clsC; rw [hcls.out, if_pos rfl])
    have D3 : Hid (clsW W3 (y : Int) = updW W3 y none) := Lib.hid (by unfold clsW; rw [hcls.out, if_pos rfl]; rfl)
    go_wp2_with (first
      | (go_at_call 18; refine (S5.out.sys.all (r : Int) ir.out).mono ?_; rintro e w6 ⟨v, rfl, ho, hb⟩; rw [hallw.out] at ho; obtain ⟨a6, c6, rfl⟩ := owns_slice ho; have S6 := Lib.hid (S5.out.step hb); clear hb ho)
      | (go_at_call 19; refine (S6.out.sys.tables (r : Int) ir.out).mono ?_; rw [htabw.out]; rintro e w7 ⟨rfl, hb⟩; have S7 := Lib.hid (S6.out.step hb); clear hb)
      | (go_at_call 23; refine (S7.out.sys.close (y : Int) iy.out).mono ?_; rw [hcls.out, C3.out, D3.out]; rintro e w8 ⟨rfl, hg⟩; have S8 := Lib.hid (S7.out.gone hg); clear hg; obtain ⟨k0, k1, k2, k3⟩ := cells4 S8.out.box))
    obtain ⟨W4, hW4⟩ : ∃ W4 : Nat → Option Sp, W4 = updW W3 y none := ⟨_, rfl⟩
    rw [← hW4] at S8
    have hs4 : spOf W4 (r : Int) = some F1 := by have h3 := hs3; rw [spOf_nat] at h3; rw [spOf_nat, hW4, updW_other _ _ _ _ (Ne.symm hyr)]; exact h3
    have E4 : mapErr 5 W4 1 (r : Int) (b : Int) (p, x, k, g) = 0 := by rw [mapErr_in hs4 hb, hf, if_pos rfl, if_neg (by rw [hF1b]; decide), if_neg (by omega)]
    have C4 : mapC 5 1 W4 (r : Int) (b : Int) (p, x, k, g) = 0 := by unfold mapC; rw [E4, if_pos rfl, needs_in hs4, hF1h]; rfl
    have D4 : mapW 5 1 W4 (r : Int) (b : Int) (p, x, k, g) = updW W4 r (some (updF F1 b (p, x, k, g))) := by unfold mapW; rw [E4, if_pos rfl, putW_in hs4]
    refine (S8.out.sys.map (r : Int) (b : Int) p x k g ir.out ib.out).mono ?_
    rw [E4, C4, D4]
    rintro e w9 ⟨rfl, hg⟩
    have S9 := Lib.hid (S8.out.gone hg)
    have htab9 : Hid (tabW (updW W4 r (some (updF F1 b (p, x, k, g)))) (r : Int) = 3) := Lib.hid (by unfold tabW; rw [spOf_nat, updW_same]; exact htab2)
    clear hg k0 k1 k2 k3 E4 C4 D4
    go_wp2_with (first
      | (go_at_call 19; refine (S9.out.sys.tables (r : Int) ir.out).mono ?_; rw [htab9.out]; rintro e w10 ⟨rfl, hb⟩; have S10 := Lib.hid (S9.out.step hb); clear hb)
      | (go_at_call 12; refine S10.out.sys.left.mono ?_; rintro e w11 ⟨rfl, hb⟩; have S11 := Lib.hid (S10.out.step hb); have B11 := Lib.hid (B0.out.trans (S11.out.sys.below.mono B0.out.size)); clear hb)
      | (go_at_call 9; refine (awake10 _ (HL.out.lq.below B11.out) (HL.out.lw.below B11.out)).mono ?_; rintro e w12 ⟨rfl, hb⟩; have B12 := Lib.hid (B11.out.trans (hb.mono B11.out.size)); clear hb))
    go_ret
    exact ⟨rfl, B12.out⟩
theorem ptableFull_walk (pg ot : Int) (p x k : Bool) (g : Int) (W : World) (_ : I64 pg) (_ : I64 ot) (_ : I64 g) (hL : LaidN W) :
    Calls Tryd.prog 8 #[.int .i64 pg, .int .i64 ot, ent p x k g] W fun e w' => e = .returned (.bool true) ∧ Below W.heap.size W w' := by
  by_cases h : 0 ≤ pg ∧ pg < 1024 ∧ 0 ≤ ot ∧ ot < 1024 ∧ pg / 32 ≠ ot / 32
  · obtain ⟨h1, h2, h3, h4, h5⟩ := h
    obtain ⟨a, rfl⟩ := Int.eq_ofNat_of_zero_le h1
    obtain ⟨b, rfl⟩ := Int.eq_ofNat_of_zero_le h3
    exact full_in a b p x k g W hL (by omega) (by omega) (by omega)
  · exact full_far pg ot p x k g W hL (by omega)
end Go.Proofs.YtkcecfghfohjcaaDoor

/- A space with one entry at many pages; the contract of layer 10's other. Condition: the listed tables read as laid. -/
namespace Go.Proofs.YtkcecfghfohjcaaDoor
open Go.RowKit Go.Maps
set_option maxRecDepth 100000

/-- The space that has an entry at just these pages. -/
def dF (D : List Nat) (e : Ent) : Sp := fun p => if p ∈ D then e else z0
theorem dF_nil (e : Ent) : dF [] e = zF := by funext p; simp [dF, zF]
theorem dF_snoc (D : List Nat) (e : Ent) (p : Nat) : updF (dF D e) p e = dF (D ++ [p]) e := by
  funext q
  unfold updF dF
  by_cases h : q = p
  · subst h; simp
  · simp [h]
theorem dF_cons (D : List Nat) (e : Ent) (p : Nat) (hp : p ∉ D) : updF (dF (p :: D) e) p z0 = dF D e := by
  funext q
  unfold updF dF
  by_cases h : q = p
  · subst h; simp [hp]
  · simp [h]
theorem dF_last (D : List Nat) (e : Ent) (p : Nat) (hp : p ∉ D) : updF (dF (D ++ [p]) e) p z0 = dF D e := by
  funext q
  unfold updF dF
  by_cases h : q = p
  · subst h; simp [hp]
  · simp [h]
theorem dF_in {D : List Nat} {e : Ent} {p : Nat} (h : p ∈ D) : dF D e p = e := by simp [dF, h]
theorem dF_out {D : List Nat} {e : Ent} {p : Nat} (h : p ∉ D) : dF D e p = z0 := by simp [dF, h]
/-- A page more, a page less: tables, and what is left. -/
theorem tabF_needs {F : Sp} {p : Nat} {e : Ent} (hp : p < 1024) (he : e.1 = true) : tabF (updF F p e) = tabF F + (if hasB F (p / 32) = true then 0 else 1) := by
  cases hh : hasB F (p / 32) with
  | true => rw [tabF_stay (by rw [hh]; exact hasB_put F p e he)]; rfl
  | false => rw [tabF_more hp hh he]; rfl
theorem tabF_frees {F : Sp} {p : Nat} (hp : p < 1024) (hf : (F p).1 = true) : tabF F = tabF (updF F p z0) + (if hasB (updF F p z0) (p / 32) = true then 0 else 1) := by
  have hh := hasB_of hf
  cases hx : hasB (updF F p z0) (p / 32) with
  | true => rw [tabF_stay (by rw [hx, hh])]; rfl
  | false => rw [tabF_less hp hh hx]; rfl
theorem clsErr_none {W : Nat → Option Sp} {r : Int} (h : spOf W r = none) : clsErr W r = 4 := by unfold clsErr; rw [h]
set_option maxHeartbeats 1000000 in
theorem other_ok {W0 w : World} {tb sb n m c : Nat} {X : PIx} {W : Nat → Option Sp} (h : Sys W0 w tb sb X n m c W) (hc : 1 ≤ c) (hm : m ≤ 1000) : Calls Tryd.prog 28 #[.pointer (some ⟨tb, 0, none⟩)] w fun e w' => e = .returned (.bool true) ∧ Below W0.heap.size W0 w' := by
  have H := Lib.hid h
  clear h
  go_enter Tryd.func28, Tryd.ntmps28
  go_wp2_with fail
  refine H.out.open_.mono ?_
  rintro e w2 (⟨h0, -, -⟩ | ⟨y, hy, -, -, rfl, hg⟩)
  · omega
  obtain ⟨W1, hW1⟩ : ∃ W1 : Nat → Option Sp, W1 = updW W y (some fun _ => z0) := ⟨_, rfl⟩
  rw [← hW1] at hg
  have S2 := Lib.hid hg.st
  have iy : Hid (I64 (y : Int)) := Lib.hid ⟨by omega, by omega⟩
  have hs : spOf W1 (y : Int) = some zF := by rw [spOf_nat, hW1, updW_same]; rfl
  have hcls : Hid (clsErr W1 (y : Int) = 0) := Lib.hid (by unfold clsErr; rw [hs]; simp only; rw [zF_empty]; rfl)
  have D3 : Hid (clsW W1 (y : Int) = updW W1 y none) := Lib.hid (by unfold clsW; rw [hcls.out, if_pos rfl]; rfl)
  have hno : Hid (clsErr (updW W1 y none) (y : Int) = 4) := Lib.hid (clsErr_none (by rw [spOf_nat, updW_same]))
  have D4 : Hid (clsW (updW W1 y none) (y : Int) = updW W1 y none) := Lib.hid (by unfold clsW; rw [hno.out, if_neg (by decide)])
  have T4 : Hid (tabW (updW W1 y none) (y : Int) = 0) := Lib.hid (by unfold tabW; rw [spOf_nat, updW_same])
  clear hg hs hW1
  go_wp2_with fail
  refine (S2.out.close (y : Int) iy.out).mono ?_
  rw [hcls.out, D3.out]
  rintro e w3 ⟨rfl, hg⟩
  have S3 := Lib.hid hg.st
  clear hg
  go_wp2_with fail
  refine (S3.out.close (y : Int) iy.out).mono ?_
  rw [hno.out, D4.out]
  rintro e w4 ⟨rfl, hg⟩
  have S4 := Lib.hid hg.st
  clear hg
  go_wp2_with (go_at_call 19; refine (S4.out.tables (y : Int) iy.out).mono ?_; rw [T4.out]; rintro e w5 ⟨rfl, hb⟩; have S5 := Lib.hid (S4.out.step hb); clear hb)
  go_ret
  exact ⟨rfl, S5.out.below⟩
end Go.Proofs.YtkcecfghfohjcaaDoor

/- The law PtableBack: its walk. Condition: the listed tables read as laid. -/
namespace Go.Proofs.YtkcecfghfohjcaaDoor
open Go.RowKit Go.Maps
set_option maxRecDepth 100000

/-- The law's system, with the entry's box and the row of pages that are mapped. -/
structure BackSt (W0 W V : World) (tb sb : Nat) (X : PIx) (r : Nat) (bx base : Nat) (p x k : Bool) (g : Int) (v : Value) (D E : List Nat) : Prop where
  st : ∃ c, FullSt W0 V tb sb X 62 60 c (updW (fun _ => none) r (some (dF E (p, x, k, g)))) bx p x k g ∧ c + tabF (dF E (p, x, k, g)) = 60
  row : V.ownsRow base 3 1 v D.length (natsV D)
  size : base ≤ V.heap.size
  bel : Below W.heap.size W V
  nodup : D.Nodup
  low : ∀ q ∈ D, q < 1024
  fits : D = [] ∨ fitsE 62 (p, x, k, g)
theorem row_gone {W0 w w' : World} {tb sb n m c c' base k q : Nat} {X : PIx} {W W' : Nat → Option Sp} {e : TypeId} {v : Value} {xs : List Value} (h : Sys W0 w tb sb X n m c W) (hg : Gone W0 w w' tb sb X n m c' W') (ho : w.ownsRow base e k v q xs) (ht : e ≠ 162 ∧ e ≠ 129 ∧ e ≠ 121 ∧ e ≠ 117 ∧ e ≠ 89) : w'.ownsRow base e k v q xs :=
  ownsRow_only ho hg.only fun g hg' => by obtain ⟨cs, hcs⟩ := own_block ho hg'; exact h.other hcs ht
theorem row_apart {W0 w w' : World} {tb sb n m c base k q : Nat} {X : PIx} {W : Nat → Option Sp} {e : TypeId} {v : Value} {xs : List Value} {bx : Nat} {p x kk : Bool} {g : Int} (h : FullSt W0 w tb sb X n m c W bx p x kk g) (ho : w.ownsRow base e k v q xs) (hg : w.grownBy w' v.ownBlock) (hW : W0.heap.size ≤ base) (he : e ≠ 37) (hm : e ≠ 55) (ht : e ≠ 162 ∧ e ≠ 129 ∧ e ≠ 121 ∧ e ≠ 117 ∧ e ≠ 89) : FullSt W0 w' tb sb X n m c W bx p x kk g := by
  obtain ⟨L, R, S, O, k1, k2, k3⟩ := h.sys.ex
  have hap := k1.own.st.rowApart ho ht
  have ho' : Only w w' (fun k => v.ownBlock = some k) := Only.grownTo hg (fun _ e => e)
  refine ⟨⟨⟨L, R, S, O, ⟨⟨k1.own.st.kept ho' (fun j hj e => hap j e hj), ho'.old k1.own.below k1.own.below.size (fun j e => Nat.le_trans hW (own_ge ho e)), k1.own.new, k1.own.laid⟩, k1.lw, k1.wd, ho'.kept k1.box (fun e => own_kind ho e k1.box hm rfl), k1.spc.same (ho'.block _ k1.spc.lt (fun e => ?_)), k1.nt, k1.ns, k1.ne, k1.low⟩, k2, k3⟩, h.sys.hn, h.sys.hP⟩, ho'.kept h.box (fun e => own_kind ho e (show w.heap[bx]? = some (.cells #[.bool p, .bool x, .bool kk, .int .i64 g] 37 (0, 0)) from h.box) he rfl)⟩
  obtain ⟨es, ck, hmp⟩ := k1.spc.isMap
  obtain ⟨cs, hcs⟩ := own_block ho e
  rw [hmp] at hcs; cases hcs
theorem BackSt.step {W0 W V V' : World} {tb sb r bx base : Nat} {X : PIx} {p x k : Bool} {g : Int} {v : Value} {D E : List Nat} (h : BackSt W0 W V tb sb X r bx base p x k g v D E) (hb : Below V.heap.size V V') : BackSt W0 W V' tb sb X r bx base p x k g v D E := by
  obtain ⟨c, h1, h2⟩ := h.st
  exact ⟨⟨c, h1.step hb, h2⟩, own_step h.row hb, Nat.le_trans h.size hb.size, h.bel.trans (hb.mono h.bel.size), h.nodup, h.low, h.fits⟩
/-- A page is mapped: what the law's state is then. -/
theorem BackSt.mapped {W0 W V V' : World} {tb sb r bx base c : Nat} {X : PIx} {p x k : Bool} {g pg : Int} {v : Value} {D : List Nat} (h : BackSt W0 W V tb sb X r bx base p x k g v D D) (h1 : FullSt W0 V tb sb X 62 60 c (updW (fun _ => none) r (some (dF D (p, x, k, g)))) bx p x k g) (h2 : c + tabF (dF D (p, x, k, g)) = 60) (hW : Below W.heap.size W W0)
    (hg : Gone W0 V V' tb sb X 62 60 (mapC 62 c (updW (fun _ => none) r (some (dF D (p, x, k, g)))) (r : Int) pg (p, x, k, g)) (mapW 62 c (updW (fun _ => none) r (some (dF D (p, x, k, g)))) (r : Int) pg (p, x, k, g))) :
    (mapErr 62 (updW (fun _ => none) r (some (dF D (p, x, k, g)))) c (r : Int) pg (p, x, k, g) ≠ 0 → BackSt W0 W V' tb sb X r bx base p x k g v D D) ∧
    (mapErr 62 (updW (fun _ => none) r (some (dF D (p, x, k, g)))) c (r : Int) pg (p, x, k, g) = 0 → ∃ q : Nat, pg = (q : Int) ∧ q < 1024 ∧ q ∉ D ∧ fitsE 62 (p, x, k, g) ∧ ∃ c', FullSt W0 V' tb sb X 62 60 c' (updW (fun _ => none) r (some (dF (D ++ [q]) (p, x, k, g)))) bx p x k g ∧ c' + tabF (dF (D ++ [q]) (p, x, k, g)) = 60) := by
  have hbel : Below W.heap.size W V' := hW.trans (hg.st.below.mono hW.size)
  have hrow := row_gone h1.sys hg h.row ⟨by decide, by decide, by decide, by decide, by decide⟩
  have hsz := Nat.le_trans h.size hg.only.size
  have hS := h1.gone hg
  have hsp : spOf (updW (fun _ => none) r (some (dF D (p, x, k, g)))) (r : Int) = some (dF D (p, x, k, g)) := by rw [spOf_nat, updW_same]
  constructor
  · intro hne
    unfold mapC mapW at hS
    rw [if_neg hne, if_neg hne] at hS
    exact ⟨⟨c, hS, h2⟩, hrow, hsz, hbel, h.nodup, h.low, h.fits⟩
  · intro h0
    have h0' := h0
    by_cases hin : (0 ≤ pg ∧ pg < 1024) ∧ fitV 62 (p, x, k, g) = true
    · obtain ⟨⟨i0, i1⟩, hf⟩ := hin
      obtain ⟨q, rfl⟩ := Int.eq_ofNat_of_zero_le i0
      have hq : q < 1024 := by omega
      have he := (fitV_iff 62 _).1 hf
      rw [mapErr_in hsp hq, hf, if_pos rfl] at h0
      have hqD : q ∉ D := fun hm => by rw [dF_in hm, if_pos he.1] at h0; cases h0
      have hne3 : ¬ (hasB (dF D (p, x, k, g)) (q / 32) = false ∧ c = 0) := fun hh => by
        rw [dF_out hqD, if_neg (by simp [z0]), if_pos hh] at h0; cases h0
      unfold mapC mapW at hS
      rw [if_pos h0', if_pos h0', putW_in hsp, needs_in hsp, dF_snoc] at hS
      refine ⟨q, rfl, hq, hqD, he, c - (if hasB (dF D (p, x, k, g)) (q / 32) = true then 0 else 1), ?_, ?_⟩
      · have e2 : updW (updW (fun _ => none) r (some (dF D (p, x, k, g)))) r (some (dF (D ++ [q]) (p, x, k, g))) = updW (fun _ => none) r (some (dF (D ++ [q]) (p, x, k, g))) := by
          funext y; by_cases hy : y = r <;> simp [updW, hy]
        rw [e2] at hS
        exact hS
      · have ht := tabF_needs (F := dF D (p, x, k, g)) (p := q) (e := (p, x, k, g)) hq he.1
        rw [dF_snoc] at ht
        cases hh : hasB (dF D (p, x, k, g)) (q / 32) with
        | true => rw [hh] at ht; simp only [if_true] at ht ⊢; omega
        | false =>
          have hc : c ≠ 0 := fun hc => hne3 ⟨hh, hc⟩
          rw [hh] at ht; simp only [Bool.false_eq_true, if_false] at ht ⊢; omega
    · rw [mapErr_arg hin] at h0; cases h0
end Go.Proofs.YtkcecfghfohjcaaDoor

/- Rows of mappings; the document's Same, of equal ones; spaces that calls on others leave. No condition. -/
namespace Go.Proofs.YtkcecfghfohjcaaDoor
open Go.RowKit Go.Maps
set_option maxRecDepth 100000

/-- A slice of mappings. -/
def MapsAt (w : World) (v : Value) (l : List MapE) : Prop := ∃ a c, v = .slice a l.length c ∧ (l = [] ∨ ∃ b, a = some ⟨b, 0, none⟩ ∧ b < w.heap.size ∧ ∀ i, i < l.length →
  w.cell? ⟨b, i * 5, none⟩ = some (.int .i64 (l.getD i default).1) ∧ w.cell? ⟨b, i * 5 + 1, none⟩ = some (.bool (l.getD i default).2.1) ∧ w.cell? ⟨b, i * 5 + 2, none⟩ = some (.bool (l.getD i default).2.2.1) ∧ w.cell? ⟨b, i * 5 + 3, none⟩ = some (.bool (l.getD i default).2.2.2.1) ∧ w.cell? ⟨b, i * 5 + 4, none⟩ = some (.int .i64 (l.getD i default).2.2.2.2))
theorem mapsV_get : ∀ (l : List MapE) (i : Nat), i < l.length → (mapsV l)[i * 5]? = some (.int .i64 (l.getD i default).1) ∧ (mapsV l)[i * 5 + 1]? = some (.bool (l.getD i default).2.1) ∧ (mapsV l)[i * 5 + 2]? = some (.bool (l.getD i default).2.2.1) ∧ (mapsV l)[i * 5 + 3]? = some (.bool (l.getD i default).2.2.2.1) ∧ (mapsV l)[i * 5 + 4]? = some (.int .i64 (l.getD i default).2.2.2.2)
  | [], i, h => by simp at h
  | t :: r, 0, _ => ⟨rfl, rfl, rfl, rfl, rfl⟩
  | t :: r, i + 1, h => by
    have e : mapsV (t :: r) = [.int .i64 t.1, .bool t.2.1, .bool t.2.2.1, .bool t.2.2.2.1, .int .i64 t.2.2.2.2] ++ mapsV r := rfl
    have h1 := mapsV_get r i (by simpa using h)
    have g : ∀ j, (mapsV (t :: r))[(i + 1) * 5 + j]? = (mapsV r)[i * 5 + j]? := fun j => by
      rw [e, List.getElem?_append_right (by simp; omega)]
      congr 1
      simp; omega
    refine ⟨(g 0).trans ?_, (g 1).trans ?_, (g 2).trans ?_, (g 3).trans ?_, (g 4).trans ?_⟩
    · simpa using h1.1
    · simpa using h1.2.1
    · simpa using h1.2.2.1
    · simpa using h1.2.2.2.1
    · simpa using h1.2.2.2.2
theorem MapsAt.of_row {w : World} {base : Nat} {v : Value} {l : List MapE} (h : w.ownsRow base 75 5 v l.length (mapsV l)) : MapsAt w v l := by
  have h' := h
  rcases h.2 with ⟨rfl, h0⟩ | ⟨g, cap, cur, rfl, hb, hgg, _⟩
  · exact ⟨none, 0, by rw [h0], Or.inl (List.eq_nil_of_length_eq_zero h0)⟩
  · refine ⟨_, _, rfl, Or.inr ⟨g, rfl, lt_of_block hgg, fun i hi => ?_⟩⟩
    obtain ⟨a0, a1, a2, a3, a4⟩ := mapsV_get l i hi
    have b0 := h'.cells (g := g) rfl _ _ a0
    have b1 := h'.cells (g := g) rfl _ _ a1
    have b2 := h'.cells (g := g) rfl _ _ a2
    have b3 := h'.cells (g := g) rfl _ _ a3
    have b4 := h'.cells (g := g) rfl _ _ a4
    rw [Addr.add_mid, Nat.zero_add] at b0 b1 b2 b3 b4
    exact ⟨b0, b1, b2, b3, b4⟩
theorem MapsAt.below {w w' : World} {v : Value} {l : List MapE} (h : MapsAt w v l) (hb : Below w.heap.size w w') : MapsAt w' v l := by
  obtain ⟨a, c, rfl, h⟩ := h
  refine ⟨a, c, rfl, h.imp id fun ⟨b, e, hlt, hc⟩ => ⟨b, e, Nat.lt_of_lt_of_le hlt hb.size, fun i hi => ?_⟩⟩
  obtain ⟨c0, c1, c2, c3, c4⟩ := hc i hi
  have k : ∀ q, w'.cell? ⟨b, q, none⟩ = w.cell? ⟨b, q, none⟩ := fun q => hb.cell (p := ⟨b, q, none⟩) hlt
  exact ⟨(k _).trans c0, (k _).trans c1, (k _).trans c2, (k _).trans c3, (k _).trans c4⟩
def SameMRel (w : World) (n : Nat) (i : Value) (wr : World) : Prop := ∃ j : Nat, i = .int .i64 (j : Int) ∧ j ≤ n ∧ Below w.heap.size w wr
set_option maxHeartbeats 2000000 in
theorem same_yes (l : List MapE) (u v : Value) (w : World) (hl : l.length ≤ 1024) (hu : MapsAt w u l) (hv : MapsAt w v l) : Calls Tryd.prog 17 #[u, v] w fun e w' => e = .returned (.bool true) ∧ Below w.heap.size w w' := by
  obtain ⟨a, c, rfl, hU⟩ := hu
  obtain ⟨a', c', rfl, hV⟩ := hv
  obtain ⟨n, hn⟩ : ∃ n, n = l.length := ⟨_, rfl⟩
  rw [← hn] at hl ⊢
  have HN := Lib.hid hn
  have HU := Lib.hid hU
  have HV := Lib.hid hV
  clear hn hU hV
  go_enter Tryd.func17, Tryd.ntmps17
  go_wp2_with fail
  go_loopw [5] (fun i wr => SameMRel w n i wr) (fun i _ => (n - (intOf i).toNat))
  case atStart => exact ⟨0, rfl, Nat.zero_le _, Below.refl _ _⟩
  case round =>
    obtain ⟨j, rfl, hj, hB⟩ := hrel
    have BB := Lib.hid hB
    clear hB
    by_cases hlt : j < n
    · have hjl : j < l.length := by rw [← HN.out]; exact hlt
      obtain ⟨b, rfl, hbl, hc⟩ := HU.out.resolve_left (by rintro rfl; simp at hjl)
      obtain ⟨b', rfl, hbl', hc'⟩ := HV.out.resolve_left (by rintro rfl; simp at hjl)
      have hcj := hc j hjl
      have hcj' := hc' j hjl
      obtain ⟨⟨pg, ep, ex, ek, eg⟩, hy⟩ : ∃ y, y = l.getD j default := ⟨_, rfl⟩
      rw [← hy] at hcj hcj'
      simp only at hcj hcj'
      have CB : Hid (∀ w', Below w.heap.size w w' → (w'.cell? ⟨b, j * 5, none⟩ = some (.int .i64 pg) ∧ w'.cell? ⟨b, j * 5 + 1, none⟩ = some (.bool ep) ∧ w'.cell? ⟨b, j * 5 + 2, none⟩ = some (.bool ex) ∧ w'.cell? ⟨b, j * 5 + 3, none⟩ = some (.bool ek) ∧ w'.cell? ⟨b, j * 5 + 4, none⟩ = some (.int .i64 eg)) ∧ (w'.cell? ⟨b', j * 5, none⟩ = some (.int .i64 pg) ∧ w'.cell? ⟨b', j * 5 + 1, none⟩ = some (.bool ep) ∧ w'.cell? ⟨b', j * 5 + 2, none⟩ = some (.bool ex) ∧ w'.cell? ⟨b', j * 5 + 3, none⟩ = some (.bool ek) ∧ w'.cell? ⟨b', j * 5 + 4, none⟩ = some (.int .i64 eg))) := Lib.hid fun w' hb => by
        have k : ∀ q, w'.cell? ⟨b, q, none⟩ = w.cell? ⟨b, q, none⟩ := fun q => hb.cell (p := ⟨b, q, none⟩) hbl
        have k' : ∀ q, w'.cell? ⟨b', q, none⟩ = w.cell? ⟨b', q, none⟩ := fun q => hb.cell (p := ⟨b', q, none⟩) hbl'
        exact ⟨⟨(k _).trans hcj.1, (k _).trans hcj.2.1, (k _).trans hcj.2.2.1, (k _).trans hcj.2.2.2.1, (k _).trans hcj.2.2.2.2⟩, (k' _).trans hcj'.1, (k' _).trans hcj'.2.1, (k' _).trans hcj'.2.2.1, (k' _).trans hcj'.2.2.2.1, (k' _).trans hcj'.2.2.2.2⟩
      obtain ⟨⟨q0, q1, q2, q3, q4⟩, r0, r1, r2, r3, r4⟩ := CB.out wr BB.out
      clear hc hc' hcj hcj' hy
      go_wp2_with fail
      go_region_held3 (fun w' => (w'.cell? ⟨b, j * 5, none⟩ = some (.int .i64 pg) ∧ w'.cell? ⟨b, j * 5 + 1, none⟩ = some (.bool ep) ∧ w'.cell? ⟨b, j * 5 + 2, none⟩ = some (.bool ex) ∧ w'.cell? ⟨b, j * 5 + 3, none⟩ = some (.bool ek) ∧ w'.cell? ⟨b, j * 5 + 4, none⟩ = some (.int .i64 eg)) ∧ (w'.cell? ⟨b', j * 5, none⟩ = some (.int .i64 pg) ∧ w'.cell? ⟨b', j * 5 + 1, none⟩ = some (.bool ep) ∧ w'.cell? ⟨b', j * 5 + 2, none⟩ = some (.bool ex) ∧ w'.cell? ⟨b', j * 5 + 3, none⟩ = some (.bool ek) ∧ w'.cell? ⟨b', j * 5 + 4, none⟩ = some (.int .i64 eg))) (first | exact CB.out _ BB.out.drew | go_keep)
        (fail)
      all_goals
        go_wp2_with fail
        go_roundw
        case rel => exact ⟨j + 1, by go_num, by omega, BB.out.drew⟩
        case measure => simp [intOf]; omega
    · obtain rfl : j = n := by omega
      go_wp2
      go_ret
      exact ⟨rfl, BB.out⟩
/-- What calls on a space leave of others. -/
theorem putW_far {W : Nat → Option Sp} {r pg : Int} {e : Ent} {o : Nat} (h : (o : Int) ≠ r) (h0 : 0 ≤ r) : putW W r pg e o = W o := by
  unfold putW
  exact updW_other _ _ _ _ (by omega)
theorem putW_some {W : Nat → Option Sp} {pg : Int} {e : Ent} {r : Nat} (h : (W r).isSome = true) : (putW W (r : Int) pg e r).isSome = true := by
  unfold putW
  rw [Int.toNat_natCast, updW_same, spOf_nat]
  obtain ⟨F, hF⟩ := Option.isSome_iff_exists.1 h
  rw [hF]; rfl
structure TwoW (W W' : Nat → Option Sp) (r o : Nat) : Prop where
  far : W' o = W o
  near : (W r).isSome = true → (W' r).isSome = true
theorem TwoW.put {W : Nat → Option Sp} {r o : Nat} {pg : Int} {e : Ent} (h : o ≠ r) : TwoW W (putW W (r : Int) pg e) r o := ⟨putW_far (by omega) (by omega), putW_some⟩
theorem TwoW.refl (W : Nat → Option Sp) (r o : Nat) : TwoW W W r o := ⟨rfl, id⟩
theorem TwoW.map {n c : Nat} {W : Nat → Option Sp} {r o : Nat} {pg : Int} {e : Ent} (h : o ≠ r) : TwoW W (mapW n c W (r : Int) pg e) r o := by unfold mapW; split; exact .put h; exact .refl _ _ _
theorem TwoW.set {n : Nat} {W : Nat → Option Sp} {r o : Nat} {pg : Int} {e : Ent} (h : o ≠ r) : TwoW W (setW n W (r : Int) pg e) r o := by unfold setW; split; exact .put h; exact .refl _ _ _
theorem TwoW.unmap {W : Nat → Option Sp} {r o : Nat} {pg : Int} (h : o ≠ r) : TwoW W (unmW W (r : Int) pg) r o := by unfold unmW; split; exact .put h; exact .refl _ _ _
theorem allW_far {W W' : Nat → Option Sp} {o : Nat} (h : W' o = W o) : allW W' (o : Int) = allW W (o : Int) := by unfold allW; rw [spOf_nat, spOf_nat, h]
/-- One entry that is set changes no other. -/
def oneF (p : Nat) (e : Ent) (y : MapE) : MapE := if y.1 = (p : Int) then (y.1, e) else y
theorem segN_set (F : Sp) (p : Nat) (e : Ent) (hf : (F p).1 = true) (he : e.1 = true) (a : Nat) : ∀ k, segN (updF F p e) a k = (segN F a k).map (oneF p e)
  | 0 => rfl
  | k + 1 => by
    rw [segN, segN, segN_set F p e hf he a k, List.map_append]
    by_cases h : a + k = p
    · rw [h, updF_same, if_pos he, if_pos hf]; simp [oneF]
    · rw [updF_other _ _ _ _ h]
      split
      · have : ¬ ((a + k : Nat) : Int) = (p : Int) := by omega
        simp only [List.map_cons, List.map_nil, oneF, this, if_false]
      · rfl
theorem allF_set {F : Sp} {p : Nat} {e : Ent} (hf : (F p).1 = true) (he : e.1 = true) : allF (updF F p e) = (allF F).map (oneF p e) := segN_set F p e hf he 0 1024
theorem segN_length (F : Sp) (a : Nat) : ∀ k, (segN F a k).length ≤ k
  | 0 => Nat.le_refl _
  | k + 1 => by
    have := segN_length F a k
    rw [segN, List.length_append]
    split <;> simp <;> omega
theorem allW_length (W : Nat → Option Sp) (r : Int) : (allW W r).length ≤ 1024 := by
  unfold allW
  split
  · simp
  · exact segN_length _ _ _
end Go.Proofs.YtkcecfghfohjcaaDoor
