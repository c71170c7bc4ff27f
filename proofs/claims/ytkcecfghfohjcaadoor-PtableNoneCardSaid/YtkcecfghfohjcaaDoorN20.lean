/- The law PtableNone: its walk. Condition: the listed tables read as laid. -/
import Derived.Test.YtkcecfghfohjcaaDoorGN
import Derived.Test.YtkcecfghfohjcaaDoorGNL
namespace Go.Proofs.YtkcecfghfohjcaaDoor
open Go.RowKit Go.Maps
set_option maxRecDepth 100000

structure None10St (w V : World) (p x c : Bool) (g : Int) : Prop where
  bel : Below w.heap.size w V
  box : V.heap[w.heap.size]? = some (entO (p, x, c, g))
  mgr : V.heap[w.heap.size + 1]? = some (.cells #[.pointer none, .pointer none, .int .i64 0, .map none] 55 (0, 0))
theorem None10St.step {w V V' : World} {p x c : Bool} {g : Int} (h : None10St w V p x c g) (hb : Below V.heap.size V V') : None10St w V' p x c g :=
  ⟨h.bel.trans (hb.mono h.bel.size), below_block hb h.box, below_block hb h.mgr⟩
theorem None10St.no {w V : World} {p x c : Bool} {g : Int} (h : None10St w V p x c g) : NoMg V (some ⟨w.heap.size + 1, 0, none⟩) := Or.inr ⟨_, rfl, h.mgr⟩
def None10Rel (w : World) (p x c : Bool) (g : Int) (t i : Value) (wr : World) : Prop := ∃ j : Nat, i = .int .i64 (j : Int) ∧ j ≤ 2 ∧ (j ≤ 1 → t = .pointer none) ∧ None10St w wr p x c g
set_option maxHeartbeats 8000000 in
theorem ptableNone_walk (n pg : Int) (p x c : Bool) (g : Int) (W : World) (_ : I64 n) (_ : I64 pg) (_ : I64 g) (hL : LaidN W) :
    Calls Tryd.prog 4 #[.int .i64 n, .int .i64 pg, ent p x c g] W fun e w' => e = .returned (.bool true) ∧ Below W.heap.size W w' := by
  have HL := Lib.hid hL
  obtain ⟨w0, hw0⟩ : ∃ w0, w0 = (W.alloc (.cells #[.bool p, .bool x, .bool c, .int .i64 g] 37)).alloc (.cells #[.pointer none, .pointer none, .int .i64 0, .map none] 55) := ⟨_, rfl⟩
  have S0 : Hid (None10St W w0 p x c g) := Lib.hid (by rw [hw0]; exact ⟨below_two _ _ _, heap_alloc2_old _ _ _, heap_alloc2_new _ _ _⟩)
  clear hL
  go_enter Tryd.func4, Tryd.ntmps4
  go_wp2_with fail
  rw [← hw0]
  clear hw0
  go_loopw [7, 9] (fun t i wr => None10Rel W p x c g t i wr) (fun _ i _ => (2 - (intOf i).toNat))
  case atStart => exact ⟨0, rfl, by omega, fun _ => rfl, S0.out⟩
  case round =>
    obtain ⟨j, rfl, hj, ht, hS⟩ := hrel
    have N0 := Lib.hid hS
    clear hS
    rcases (show j = 0 ∨ j = 1 ∨ j = 2 by omega) with rfl | rfl | rfl
    · obtain rfl := ht (by omega)
      go_wp2_with (first
      | (go_at_call 21; refine (open_nomg _ none (Or.inl rfl)).mono ?_; rintro e w1 ⟨rfl, hb⟩; have N1 := Lib.hid (N0.out.step hb); clear hb)
      | (go_at_call 22; refine (unmap_nomg _ none (Or.inl rfl) n pg).mono ?_; rintro e w2 ⟨rfl, hb⟩; have N2 := Lib.hid ((N1.out.step hb).step ((Below.refl w2.heap.size w2).alloc (Nat.le_refl _) (.cells #[.bool false, .bool false, .bool false, .int .i64 0] 37))); have D2 := Lib.hid (heap_alloc_new w2 (.cells #[.bool false, .bool false, .bool false, .int .i64 0] 37)); clear hb)
      | (go_at_call 15; refine (query_nomg _ none (Or.inl rfl) n pg).mono ?_; rintro e w3 ⟨rfl, hb⟩; have N3 := Lib.hid ((N2.out.step hb).step ((Below.refl w3.heap.size w3).alloc (Nat.le_refl _) (.cells #[.bool false, .bool false, .bool false, .int .i64 0] 37))); have D3 := Lib.hid (below_block ((Below.refl w3.heap.size w3).alloc (Nat.le_refl _) (.cells #[.bool false, .bool false, .bool false, .int .i64 0] 37)) (below_block hb D2.out)); have E3 := Lib.hid (heap_alloc_new w3 (.cells #[.bool false, .bool false, .bool false, .int .i64 0] 37)); obtain ⟨d0, d1, d2, d3⟩ := cells4 (e := (false, false, false, 0)) D3.out; obtain ⟨e0, e1, e2, e3⟩ := cells4 (e := (false, false, false, 0)) E3.out; clear hb)
      | (go_at_call 23; refine (close_nomg _ none (Or.inl rfl) n).mono ?_; rintro e w4 ⟨rfl, hb⟩; have N4 := Lib.hid (N3.out.step hb); clear d0 d1 d2 d3 e0 e1 e2 e3; obtain ⟨x0, x1, x2, x3⟩ := cells4 (e := (p, x, c, g)) N4.out.box; clear hb)
      | (go_at_call 24; refine (map_nomg _ none (Or.inl rfl) n pg p x c g).mono ?_; rintro e w5 ⟨rfl, hb⟩; have N5 := Lib.hid (N4.out.step hb); clear x0 x1 x2 x3; obtain ⟨x0, x1, x2, x3⟩ := cells4 (e := (p, x, c, g)) N5.out.box; clear hb)
      | (go_at_call 25; refine (set_nomg _ none (Or.inl rfl) n pg p x c g).mono ?_; rintro e w6 ⟨rfl, hb⟩; have N6 := Lib.hid (N5.out.step hb); clear x0 x1 x2 x3; clear hb)
      | (go_at_call 18; refine (allm_nomg _ none (Or.inl rfl) n).mono ?_; rintro e w7 ⟨rfl, hb⟩; have N7 := Lib.hid (N6.out.step hb); clear hb)
      | (go_at_call 19; refine (tables_nomg _ none (Or.inl rfl) n).mono ?_; rintro e w8 ⟨rfl, hb⟩; have N8 := Lib.hid (N7.out.step hb); clear hb))
      go_roundw
      case rel => exact ⟨1, rfl, by omega, fun _ => rfl, N8.out⟩
      case measure => simp [intOf]
    · obtain rfl := ht (by omega)
      go_wp2_with (first
      | (go_at_call 21; refine (open_nomg _ (some ⟨W.heap.size + 1, 0, none⟩) (N0.out.no)).mono ?_; rintro e w1 ⟨rfl, hb⟩; have N1 := Lib.hid (N0.out.step hb); clear hb)
      | (go_at_call 22; refine (unmap_nomg _ (some ⟨W.heap.size + 1, 0, none⟩) (N1.out.no) n pg).mono ?_; rintro e w2 ⟨rfl, hb⟩; have N2 := Lib.hid ((N1.out.step hb).step ((Below.refl w2.heap.size w2).alloc (Nat.le_refl _) (.cells #[.bool false, .bool false, .bool false, .int .i64 0] 37))); have D2 := Lib.hid (heap_alloc_new w2 (.cells #[.bool false, .bool false, .bool false, .int .i64 0] 37)); clear hb)
      | (go_at_call 15; refine (query_nomg _ (some ⟨W.heap.size + 1, 0, none⟩) (N2.out.no) n pg).mono ?_; rintro e w3 ⟨rfl, hb⟩; have N3 := Lib.hid ((N2.out.step hb).step ((Below.refl w3.heap.size w3).alloc (Nat.le_refl _) (.cells #[.bool false, .bool false, .bool false, .int .i64 0] 37))); have D3 := Lib.hid (below_block ((Below.refl w3.heap.size w3).alloc (Nat.le_refl _) (.cells #[.bool false, .bool false, .bool false, .int .i64 0] 37)) (below_block hb D2.out)); have E3 := Lib.hid (heap_alloc_new w3 (.cells #[.bool false, .bool false, .bool false, .int .i64 0] 37)); obtain ⟨d0, d1, d2, d3⟩ := cells4 (e := (false, false, false, 0)) D3.out; obtain ⟨e0, e1, e2, e3⟩ := cells4 (e := (false, false, false, 0)) E3.out; clear hb)
      | (go_at_call 23; refine (close_nomg _ (some ⟨W.heap.size + 1, 0, none⟩) (N3.out.no) n).mono ?_; rintro e w4 ⟨rfl, hb⟩; have N4 := Lib.hid (N3.out.step hb); clear d0 d1 d2 d3 e0 e1 e2 e3; obtain ⟨x0, x1, x2, x3⟩ := cells4 (e := (p, x, c, g)) N4.out.box; clear hb)
      | (go_at_call 24; refine (map_nomg _ (some ⟨W.heap.size + 1, 0, none⟩) (N4.out.no) n pg p x c g).mono ?_; rintro e w5 ⟨rfl, hb⟩; have N5 := Lib.hid (N4.out.step hb); clear x0 x1 x2 x3; obtain ⟨x0, x1, x2, x3⟩ := cells4 (e := (p, x, c, g)) N5.out.box; clear hb)
      | (go_at_call 25; refine (set_nomg _ (some ⟨W.heap.size + 1, 0, none⟩) (N5.out.no) n pg p x c g).mono ?_; rintro e w6 ⟨rfl, hb⟩; have N6 := Lib.hid (N5.out.step hb); clear x0 x1 x2 x3; clear hb)
      | (go_at_call 18; refine (allm_nomg _ (some ⟨W.heap.size + 1, 0, none⟩) (N6.out.no) n).mono ?_; rintro e w7 ⟨rfl, hb⟩; have N7 := Lib.hid (N6.out.step hb); clear hb)
      | (go_at_call 19; refine (tables_nomg _ (some ⟨W.heap.size + 1, 0, none⟩) (N7.out.no) n).mono ?_; rintro e w8 ⟨rfl, hb⟩; have N8 := Lib.hid (N7.out.step hb); clear hb))
      go_roundw
      case rel => exact ⟨2, rfl, by omega, fun h => absurd h (by omega), N8.out⟩
      case measure => simp [intOf]
    · clear ht
      have L0 := Lib.hid (HL.out.lw.below N0.out.bel)
      have Q0 := Lib.hid (HL.out.lq.below N0.out.bel)
      go_wp2_with fail
      refine (made_any 2 wr (by decide) (by decide) Q0.out L0.out).mono ?_
      rintro e w1 ⟨tb, sb, X, rfl, hg, hN, hP⟩
      have G1 := Lib.hid hg
      have HP2 : Hid (partB X.P 2 = false) := Lib.hid (by rw [hP]; rfl)
      have HPm : Hid (partB X.P (-1) = false) := Lib.hid (by rw [hP]; rfl)
      clear hg hN hP
      go_wp2_with fail
      refine (newmg_nomem X _ _ 0 _ G1.out.own.st).mono ?_
      rintro e w2 ⟨rfl, hb⟩
      have G2 := Lib.hid (G1.out.step hb)
      clear hb
      go_wp2_with fail
      refine (newmg_nopool X.mp X.fb X.n _ 0 _ G2.out.own.st.mem).mono ?_
      rintro e w3 ⟨rfl, hb⟩
      have G3 := Lib.hid (G2.out.step hb)
      clear hb
      go_wp2_with fail
      refine (newmg_part X _ _ 2 _ G3.out.own.st HP2.out).mono ?_
      rintro e w4 ⟨rfl, hb⟩
      have G4 := Lib.hid (G3.out.step hb)
      clear hb
      go_wp2_with fail
      refine (newmg_part X _ _ (-1) _ G4.out.own.st HPm.out).mono ?_
      rintro e w5 ⟨rfl, hb⟩
      have G5 := Lib.hid (G4.out.step hb)
      clear hb
      have B5 := Lib.hid (N0.out.bel.trans (G5.out.own.below.mono N0.out.bel.size))
      go_wp2_with (go_at_call 9; refine (awake10 _ (HL.out.lq.below B5.out) (HL.out.lw.below B5.out)).mono ?_; rintro e w6 ⟨rfl, hb⟩; have B6 := Lib.hid (B5.out.trans (hb.mono B5.out.size)); clear hb)
      go_ret
      exact ⟨rfl, B6.out⟩
end Go.Proofs.YtkcecfghfohjcaaDoor
