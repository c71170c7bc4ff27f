/- The walk of the law SpaceNone. Condition: the listed tables lie as laid. -/
import Derived.Test.YtfpcoomkbmfchaaGreatDoorHW
import Derived.Test.YtfpcoomkbmfchaaGreatDoorS42
namespace Go.Proofs.YtfpcoomkbmfchaaGreatDoor
open Go.RowKit Go.Maps
set_option maxRecDepth 100000

/-- An operation's box. -/
abbrev opO (o : Array Value) : Obj := .cells o 27 (0, 0)
structure None16 (w V : World) (o : Array Value) : Prop where
  bel : Below w.heap.size w V
  box : V.heap[w.heap.size]? = some (opO o)
  spc : V.heap[w.heap.size + 1]? = some (.cells #[.pointer none, .pointer none, .int .i64 0, .pointer none, .pointer none, .map none] 35 (0, 0))
theorem None16.step {w V V' : World} {o : Array Value} (h : None16 w V o) (hb : Below V.heap.size V V') : None16 w V' o := ⟨h.bel.trans (hb.mono h.bel.size), below_block hb h.box, below_block hb h.spc⟩
theorem None16.no {w V : World} {o : Array Value} (h : None16 w V o) : NoSpc V (some ⟨w.heap.size + 1, 0, none⟩) := Or.inr ⟨_, rfl, by rw [cell_of_row _ _ _ _ _ _ h.spc]; rfl⟩
section
variable {k i t n x y va u : Int} {d : Bool}
abbrev opA (k i t n x y : Int) (d : Bool) (va u : Int) : Array Value := #[.int .i64 k, .int .i64 i, .int .i64 t, .int .i64 n, .int .i64 x, .int .i64 y, .bool d, .int .u32 va, .int .u32 u]
theorem None16.cells {w V : World} (h : None16 w V (opA k i t n x y d va u)) : V.cell? ⟨w.heap.size, 1, none⟩ = some (.int .i64 i) ∧ V.cell? ⟨w.heap.size, 2, none⟩ = some (.int .i64 t) ∧ V.cell? ⟨w.heap.size, 4, none⟩ = some (.int .i64 x) ∧ V.cell? ⟨w.heap.size, 5, none⟩ = some (.int .i64 y) ∧ V.cell? ⟨w.heap.size, 6, none⟩ = some (.bool d) ∧ V.cell? ⟨w.heap.size, 7, none⟩ = some (.int .u32 va) ∧ V.cell? ⟨w.heap.size, 8, none⟩ = some (.int .u32 u) := by
  refine ⟨?_, ?_, ?_, ?_, ?_, ?_, ?_⟩ <;> (rw [cell_of_row _ _ _ _ _ _ h.box]; rfl)
end
def None16Rel (w : World) (o : Array Value) (s i : Value) (wr : World) : Prop := ∃ j : Nat, i = .int .i64 (j : Int) ∧ j ≤ 2 ∧ (j ≤ 1 → s = .pointer none) ∧ None16 w wr o
set_option maxHeartbeats 16000000 in
theorem spaceNone_walk (k i t n x y : Int) (d : Bool) (va u : Int) (W : World) (hL : LaidN W) : Calls Tryz.prog 3 #[.agg (opA k i t n x y d va u)] W fun e w' => e = .returned (.bool true) ∧ Below W.heap.size W w' := by
  have AW := Lib.hid hL.awake
  have HL := Lib.hid hL
  obtain ⟨w0, hw0⟩ : ∃ w0, w0 = (W.alloc (.cells (opA k i t n x y d va u) 27)).alloc (.cells #[.pointer none, .pointer none, .int .i64 0, .pointer none, .pointer none, .map none] 35) := ⟨_, rfl⟩
  have S0 : Hid (None16 W w0 (opA k i t n x y d va u)) := Lib.hid (by rw [hw0]; exact ⟨below_two _ _ _, heap_alloc2_old _ _ _, heap_alloc2_new _ _ _⟩)
  clear hL
  go_enter Tryz.func3, Tryz.ntmps3
  go_wp2_with fail
  rw [← hw0]
  clear hw0
  go_loopw [3, 5] (fun s j wr => None16Rel W (opA k i t n x y d va u) s j wr) (fun _ j _ => (2 - (intOf j).toNat))
  case atStart => exact ⟨0, rfl, by omega, fun _ => rfl, S0.out⟩
  case round =>
    obtain ⟨j, rfl, hj, ht, hS⟩ := hrel
    have N0 := Lib.hid hS
    by_cases hlt : j < 2
    · obtain ⟨c1, c2, c4, c5, c6, c7, c8⟩ := hS.cells
      clear hS
      obtain rfl := ht (by omega)
      rcases (show j = 0 ∨ j = 1 by omega) with rfl | rfl
      all_goals
        go_wp2_with (first
          | (go_at_call 12; refine (loadNo _ i va _ (by first | exact Or.inl rfl | exact N0.out.no)).mono ?_; rintro e w1 ⟨rfl, hb⟩; have N1 := Lib.hid (N0.out.step hb); obtain ⟨c1, c2, c4, c5, c6, c7, c8⟩ := N1.out.cells; clear hb)
          | (go_at_call 13; refine (openNo _ i _ (by first | exact Or.inl rfl | exact N1.out.no)).mono ?_; rintro e w2 ⟨rfl, hb⟩; have N2 := Lib.hid (N1.out.step hb); obtain ⟨c1, c2, c4, c5, c6, c7, c8⟩ := N2.out.cells; clear hb)
          | (go_at_call 14; refine (closeNo _ i _ (by first | exact Or.inl rfl | exact N2.out.no)).mono ?_; rintro e w3 ⟨rfl, hb⟩; have N3 := Lib.hid (N2.out.step hb); obtain ⟨c1, c2, c4, c5, c6, c7, c8⟩ := N3.out.cells; clear hb)
          | (go_at_call 15; refine (forkNo _ i t _ (by first | exact Or.inl rfl | exact N3.out.no)).mono ?_; rintro e w4 ⟨rfl, hb⟩; have N4 := Lib.hid (N3.out.step hb); obtain ⟨c1, c2, c4, c5, c6, c7, c8⟩ := N4.out.cells; clear hb)
          | (go_at_call 16; refine (growNo _ i x y d _ (by first | exact Or.inl rfl | exact N4.out.no)).mono ?_; rintro e w5 ⟨rfl, hb⟩; have N5 := Lib.hid (N4.out.step hb); obtain ⟨c1, c2, c4, c5, c6, c7, c8⟩ := N5.out.cells; clear hb)
          | (go_at_call 17; refine (shrinkNo _ i 0 1 _ (by first | exact Or.inl rfl | exact N5.out.no)).mono ?_; rintro e w6 ⟨rfl, hb⟩; have N6 := Lib.hid (N5.out.step hb); obtain ⟨c1, c2, c4, c5, c6, c7, c8⟩ := N6.out.cells; clear hb)
          | (go_at_call 18; refine (protectNo _ i 0 1 true _ (by first | exact Or.inl rfl | exact N6.out.no)).mono ?_; rintro e w7 ⟨rfl, hb⟩; have N7 := Lib.hid (N6.out.step hb); obtain ⟨c1, c2, c4, c5, c6, c7, c8⟩ := N7.out.cells; clear hb)
          | (go_at_call 19; refine (storeNo _ i va u _ (by first | exact Or.inl rfl | exact N7.out.no)).mono ?_; rintro e w8 ⟨rfl, hb⟩; have N8 := Lib.hid (N7.out.step hb); obtain ⟨c1, c2, c4, c5, c6, c7, c8⟩ := N8.out.cells; clear hb)
          | (go_at_call 20; refine (reachNo _ i va 1 true _ (by first | exact Or.inl rfl | exact N8.out.no)).mono ?_; rintro e w9 ⟨rfl, hb⟩; have N9 := Lib.hid (N8.out.step hb); obtain ⟨c1, c2, c4, c5, c6, c7, c8⟩ := N9.out.cells; clear hb)
          | (go_at_call 21; refine (areasNo _ i _ (by first | exact Or.inl rfl | exact N9.out.no)).mono ?_; rintro e w10 ⟨rfl, hb⟩; have N10 := Lib.hid (N9.out.step hb); obtain ⟨c1, c2, c4, c5, c6, c7, c8⟩ := N10.out.cells; clear hb)
          | (go_at_call 22; refine (mappedNo _ i _ (by first | exact Or.inl rfl | exact N10.out.no)).mono ?_; rintro e w11 ⟨rfl, hb⟩; have N11 := Lib.hid (N10.out.step hb); obtain ⟨c1, c2, c4, c5, c6, c7, c8⟩ := N11.out.cells; clear hb))
        go_roundw
        case rel => first | exact ⟨1, by go_num, by decide, (fun _ => rfl), N11.out⟩ | exact ⟨2, by go_num, by decide, (fun h => absurd h (by decide)), N11.out⟩
        case measure => simp [intOf]
    · obtain rfl : j = 2 := by omega
      have hB0 := hS.bel
      have BW := Lib.hid hB0
      have HT := Lib.hid (HL.out.lq.below hB0)
      have HWW := Lib.hid (HL.out.lw.below hB0)
      clear hS hB0
      go_wp2_with fail
      refine (show Calls Tryz.prog 23 #[.int .i64 4] wr _ from new_ok 4 wr (by omega) (by omega)).mono ?_
      rintro e w1 hp
      obtain ⟨mp, fb, rfl, ho⟩ := OwnMem.new hp
      have M1 := Lib.hid ho
      clear hp ho
      go_wp2_with fail
      have M2 := Lib.hid (M1.out.step ((Below.refl _ _).alloc (Nat.le_refl _) (.cells #[.int .i64 0, .int .i64 4] 55)))
      refine (newpool_any mp fb 4 _ [(0, 4)] _ _ M2.out.st (pairs_one (heap_alloc_new w1 _))).mono ?_
      rintro e w2 hp
      obtain ⟨X, rfl, ho, hmp, _, hn, hP, _⟩ := OwnPool.new_ M2.out HT.out hp (okq_one 4 (by omega))
      have O := Lib.hid ho
      have HP : Hid (X.P = partsS 0 4 []) := Lib.hid (by rw [hP]; rfl)
      have HN := Lib.hid hn
      have HM := Lib.hid hmp
      clear hp ho hP hn hmp
      go_wp2_with fail
      refine (new11_ok 4 w2 (by decide)).mono ?_
      rintro e w3 ⟨⟨bb, bm, Pb, rfl, hB, _, _⟩, hb3⟩
      have B3 := Lib.hid hB
      have O3 := Lib.hid (O.out.step hb3)
      clear hB hb3
      go_wp2_with fail
      refine (new11_ok 5 w3 (by decide)).mono ?_
      rintro e w4 ⟨⟨bb5, bm5, Pb5, rfl, hB, _, _⟩, hb4⟩
      have C4 := Lib.hid hB
      have B4 := Lib.hid (B3.out.step hb4)
      have O4 := Lib.hid (O3.out.step hb4)
      clear hB hb4
      go_wp2_with fail
      refine (newS_bad B4.out (er := 1) (m := none) (p := some ⟨X.pb, 0, none⟩) (k := 0) (fun V hb => newmg_nomem X _ _ 0 V (O4.out.step hb).st) (by decide)).mono ?_
      rintro e w5 ⟨rfl, hb⟩
      have B5 := Lib.hid (B4.out.step hb)
      have C5 := Lib.hid (C4.out.step hb)
      have O5 := Lib.hid (O4.out.step hb)
      clear hb
      go_wp2_with fail
      refine (newS_bad B5.out (er := 1) (m := some ⟨mp, 0, none⟩) (p := none) (k := 0) (fun V hb => by have := newmg_nopool X.mp X.fb X.n _ 0 V (O5.out.step hb).st.mem; rwa [HM.out] at this) (by decide)).mono ?_
      rintro e w6 ⟨rfl, hb⟩
      have B6 := Lib.hid (B5.out.step hb)
      have C6 := Lib.hid (C5.out.step hb)
      have O6 := Lib.hid (O5.out.step hb)
      clear hb
      go_wp2_with fail
      refine (newS_nobud w6 (some ⟨mp, 0, none⟩) (some ⟨X.pb, 0, none⟩) 0).mono ?_
      rintro e w7 ⟨rfl, hb⟩
      have B7 := Lib.hid (B6.out.step hb)
      have C7 := Lib.hid (C6.out.step hb)
      have O7 := Lib.hid (O6.out.step hb)
      clear hb
      go_wp2_with fail
      refine (newS_bad B7.out (er := 2) (m := some ⟨mp, 0, none⟩) (p := some ⟨X.pb, 0, none⟩) (k := 1) (fun V hb => by have := newmg_part X _ _ 1 V (O7.out.step hb).st (by rw [HP.out]; decide); rwa [HM.out] at this) (by decide)).mono ?_
      rintro e w8 ⟨rfl, hb⟩
      have C8 := Lib.hid (C7.out.step hb)
      have O8 := Lib.hid (O7.out.step hb)
      clear hb
      go_wp2_with fail
      have NF := Lib.hid (newS_few (n := 4) (lo := 0) (hi := 4) (q := 5) O8.out HWW.out (by omega) (by omega) HN.out HP.out (by omega) C8.out)
      rw [HM.out] at NF
      refine NF.out.mono ?_
      rintro e w9 ⟨rfl, hb⟩
      have O9 := Lib.hid (BW.out.trans ((O8.out.step hb).below.mono BW.out.size))
      clear hb
      go_wp2_with fail
      refine (AW.out _ O9.out).mono ?_
      rintro e w10 ⟨rfl, hb⟩
      have B10 := Lib.hid (O9.out.trans (hb.mono O9.out.size))
      clear hb
      go_wp2_with fail
      go_ret
      exact ⟨rfl, B10.out⟩
end Go.Proofs.YtfpcoomkbmfchaaGreatDoor
