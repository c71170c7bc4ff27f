/- Texts of mine, joined: OG S50 OH OI. What each says and under which conditions stands at its head, below. -/
import Derived.Test.YtfpcoomkbmfchaaGreatDoorGLF
import Derived.Deep.Slices
import Derived.Lib.SmallJoins
import Derived.Test.YtfpcoomkbmfchaaGreatDoorHW
import Derived.Test.YtfpcoomkbmfchaaGreatDoorS42
/- Arguments of layer 16's laws, opened: a slice of words. No condition. -/
namespace Go.Proofs.YtfpcoomkbmfchaaGreatDoor
open Go.ChangeShapes Go.WideShapes Go.ChangeAt Go.RowKit Go.Deep Go.Joins
set_option maxRecDepth 100000

theorem cellsWord16 : Tryz.prog.cellsOf 25 = 1 := by kernel_rfl
/-- A slice of words, as an argument. -/
def ArgWs (w : World) (v : Value) (L : List Int) : Prop := ∃ a c, v = .slice a L.length c ∧ (∀ x ∈ L, 0 ≤ x ∧ x ≤ 4294967295) ∧ (L = [] ∨ ∃ b o, a = some ⟨b, o, none⟩ ∧ b < w.heap.size ∧ ∀ i, i < L.length → w.cell? ⟨b, o + i, none⟩ = some (.int .u32 (L.getD i 0)))
section
variable {H : Type} {enc : TypeId × Value → H} {W : World} {base : Nat}
theorem ws16_open {v : Value} {d : DataW H} {p : List MemPlace} (hv : Value.okWide Tryz.prog W .any base 63 v)
    (h : DataW.Trod enc Tryz.prog W 0 (fun _ => true) true 63 v d p) (hlt : ∀ x ∈ p, x.block < W.heap.size) : ∃ L : List Int, ArgWs W v L := by
  obtain ⟨a0, len, cap, rfl⟩ := okWide_slice Tryz.underlying63 hv
  obtain ⟨fuel, hf⟩ := h
  rcases open_slice Tryz.underlying63 hf with ⟨hcs, _⟩ | ⟨a, len', cap', m, n, D, Pl, hcs, _, hl, _, hmm, hx, hi⟩
  · simp [Value.cells] at hcs
    obtain ⟨rfl, rfl, rfl⟩ := hcs
    exact ⟨[], none, 0, rfl, by simp, Or.inl rfl⟩
  · simp [Value.cells] at hcs
    obtain ⟨rfl, rfl, rfl⟩ := hcs
    have hm : m = cap := by simpa using hmm
    have each : ∀ i, i < len → ∃ q : Int, W.cell? (a.add i) = some (.int .u32 q) ∧ (0 ≤ q ∧ q ≤ 4294967295) := by
      intro i hil
      obtain ⟨cs', h1, h2⟩ := hi i (by omega)
      rw [cellsWord16, Nat.mul_one] at h1
      obtain ⟨_, hlen, hcell⟩ := World.cells?_some h1
      match cs', hlen with
      | [v0], _ =>
        have e0 := hcell 0 (by omega)
        rw [add_add] at e0
        obtain ⟨n0, f0, _, w0⟩ := DataW.trod_int Tryz.underlying25 h2
        simp at f0
        subst f0
        exact ⟨n0, by simpa using e0, bounds_u32 w0⟩
    obtain ⟨q, hq⟩ := choose_lt each
    have hS : ((List.range len).map q).length = len := by simp
    refine ⟨(List.range len).map q, some a, cap, by rw [hS], ?_, ?_⟩
    · intro x hx
      obtain ⟨i, hi, rfl⟩ := List.mem_map.1 hx
      exact (hq i (List.mem_range.1 hi)).2
    by_cases h0 : len = 0
    · subst h0; exact Or.inl rfl
    · obtain ⟨b, off, spot⟩ := a
      have hspot : spot = none := by simpa [Addr.add] using World.cell?_spot ((hq 0 (by omega)).1)
      subst hspot
      simp only [Prod.mk.injEq] at hx
      refine Or.inr ⟨b, off, rfl, hlt (.cell b off) (by rw [hx.2]; exact List.mem_append_left _ (MemPlace.mem_row.2 ⟨0, by rw [cellsWord16]; omega, by simp⟩)), fun i hil => ?_⟩
      rw [hS] at hil
      have e : ((List.range len).map q).getD i 0 = q i := by simp [List.getD_eq_getElem?_getD, hil]
      rw [e]
      have := (hq i hil).1
      simp only [add_plain] at this
      exact this
end
end Go.Proofs.YtfpcoomkbmfchaaGreatDoor

/- The walk of the law SpaceNone. Condition: the listed tables lie as laid. -/
namespace Go.Proofs.YtfpcoomkbmfchaaGreatDoor
open Go.RowKit Go.Maps
set_option maxRecDepth 100000

/-- An operation's box. -/
abbrev opO (o : Array Value) : Obj := .cells o 27 (0, 0)
structure None16 (w V : World) (o : Array Value) : Prop where
  bel : Below w.heap.size w V
  box : V.heap[w.heap.size]? = some (opO o)
  spc : V.heap[w.heap.size + 1]? = some (.cells #[.pointer none, .pointer none, .int .i64 0, .pointer none, .pointer none, .map none] 35 (0, 0))
theorem None16.step {w V V' : World} {o : Array Value} (h : None16 w V o) (hb : Below V.heap.size V V') : None16 w V' o := ⟨h.bel.trans (hb.mono h.bel.size), below_block hb h.box, below_block hb h.spc⟩
theorem None16.no {w V : World} {o : Array Value} (h : None16 w V o) : NoSpc V (some ⟨w.heap.size + 1, 0, none⟩) := Or.inr ⟨_, rfl, by rw [cell_of_row _ _ _ _ _ _ h.spc]; rfl⟩
section
variable {k i t n x y va u : Int} {d : Bool}
abbrev opA (k i t n x y : Int) (d : Bool) (va u : Int) : Array Value := #[.int .i64 k, .int .i64 i, .int .i64 t, .int .i64 n, .int .i64 x, .int .i64 y, .bool d, .int .u32 va, .int .u32 u]
theorem None16.cells {w V : World} (h : None16 w V (opA k i t n x y d va u)) : V.cell? ⟨w.heap.size, 1, none⟩ = some (.int .i64 i) ∧ V.cell? ⟨w.heap.size, 2, none⟩ = some (.int .i64 t) ∧ V.cell? ⟨w.heap.size, 4, none⟩ = some (.int .i64 x) ∧ V.cell? ⟨w.heap.size, 5, none⟩ = some (.int .i64 y) ∧ V.cell? ⟨w.heap.size, 6, none⟩ = some (.bool d) ∧ V.cell? ⟨w.heap.size, 7, none⟩ = some (.int .u32 va) ∧ V.cell? ⟨w.heap.size, 8, none⟩ = some (.int .u32 u) := by
  refine ⟨?_, ?_, ?_, ?_, ?_, ?_, ?_⟩ <;> (rw [cell_of_row _ _ _ _ _ _ h.box]; rfl)
end
def None16Rel (w : World) (o : Array Value) (s i : Value) (wr : World) : Prop := ∃ j : Nat, i = .int .i64 (j : Int) ∧ j ≤ 2 ∧ (j ≤ 1 → s = .pointer none) ∧ None16 w wr o
set_option maxHeartbeats 16000000 in
theorem spaceNone_walk (k i t n x y : Int) (d : Bool) (va u : Int) (W : World) (hL : LaidN W) : Calls Tryz.prog 3 #[.agg (opA k i t n x y d va u)] W fun e w' => e = .returned (.bool true) ∧ Below W.heap.size W w' := by
  have AW := Lib.hid hL.awake
  have HL := Lib.hid hL
  obtain ⟨w0, hw0⟩ : ∃ w0, w0 = (W.alloc (.cells (opA k i t n x y d va u) 27)).alloc (.cells #[.pointer none, .pointer none, .int .i64 0, .pointer none, .pointer none, .map none] 35) := ⟨_, rfl⟩
  have S0 : Hid (None16 W w0 (opA k i t n x y d va u)) := Lib.hid (by rw [hw0]; exact ⟨below_two _ _ _, heap_alloc2_old _ _ _, heap_alloc2_new _ _ _⟩)
  clear hL
  go_enter Tryz.func3, Tryz.ntmps3
  go_wp2_with fail
  rw [← hw0]
  clear hw0
  go_loopw [3, 5] (fun s j wr => None16Rel W (opA k i t n x y d va u) s j wr) (fun _ j _ => (2 - (intOf j).toNat))
  case atStart => exact ⟨0, rfl, by omega, fun _ => rfl, S0.out⟩
  case round =>
    obtain ⟨j, rfl, hj, ht, hS⟩ := hrel
    have N0 := Lib.hid hS
    by_cases hlt : j < 2
    · obtain ⟨c1, c2, c4, c5, c6, c7, c8⟩ := hS.cells
      clear hS
      obtain rfl := ht (by omega)
      rcases (show j = 0 ∨ j = 1 by omega) with rfl | rfl
      all_goals
        go_wp2_with (first
          | (go_at_call 12; refine (loadNo _ i va _ (by first | exact Or.inl rfl | exact N0.out.no)).mono ?_; rintro e w1 ⟨rfl, hb⟩; have N1 := Lib.hid (N0.out.step hb); obtain ⟨c1, c2, c4, c5, c6, c7, c8⟩ := N1.out.cells; clear hb)
          | (go_at_call 13; refine (openNo _ i _ (by first | exact Or.inl rfl | exact N1.out.no)).mono ?_; rintro e w2 ⟨rfl, hb⟩; have N2 := Lib.hid (N1.out.step hb); obtain ⟨c1, c2, c4, c5, c6, c7, c8⟩ := N2.out.cells; clear hb)
          | (go_at_call 14; refine (closeNo _ i _ (by first | exact Or.inl rfl | exact N2.out.no)).mono ?_; rintro e w3 ⟨rfl, hb⟩; have N3 := Lib.hid (N2.out.step hb); obtain ⟨c1, c2, c4, c5, c6, c7, c8⟩ := N3.out.cells; clear hb)
          | (go_at_call 15; refine (forkNo _ i t _ (by first | exact Or.inl rfl | exact N3.out.no)).mono ?_; rintro e w4 ⟨rfl, hb⟩; have N4 := Lib.hid (N3.out.step hb); obtain ⟨c1, c2, c4, c5, c6, c7, c8⟩ := N4.out.cells; clear hb)
          | (go_at_call 16; refine (growNo _ i x y d _ (by first | exact Or.inl rfl | exact N4.out.no)).mono ?_; rintro e w5 ⟨rfl, hb⟩; have N5 := Lib.hid (N4.out.step hb); obtain ⟨c1, c2, c4, c5, c6, c7, c8⟩ := N5.out.cells; clear hb)
          | (go_at_call 17; refine (shrinkNo _ i 0 1 _ (by first | exact Or.inl rfl | exact N5.out.no)).mono ?_; rintro e w6 ⟨rfl, hb⟩; have N6 := Lib.hid (N5.out.step hb); obtain ⟨c1, c2, c4, c5, c6, c7, c8⟩ := N6.out.cells; clear hb)
          | (go_at_call 18; refine (protectNo _ i 0 1 true _ (by first | exact Or.inl rfl | exact N6.out.no)).mono ?_; rintro e w7 ⟨rfl, hb⟩; have N7 := Lib.hid (N6.out.step hb); obtain ⟨c1, c2, c4, c5, c6, c7, c8⟩ := N7.out.cells; clear hb)
          | (go_at_call 19; refine (storeNo _ i va u _ (by first | exact Or.inl rfl | exact N7.out.no)).mono ?_; rintro e w8 ⟨rfl, hb⟩; have N8 := Lib.hid (N7.out.step hb); obtain ⟨c1, c2, c4, c5, c6, c7, c8⟩ := N8.out.cells; clear hb)
          | (go_at_call 20; refine (reachNo _ i va 1 true _ (by first | exact Or.inl rfl | exact N8.out.no)).mono ?_; rintro e w9 ⟨rfl, hb⟩; have N9 := Lib.hid (N8.out.step hb); obtain ⟨c1, c2, c4, c5, c6, c7, c8⟩ := N9.out.cells; clear hb)
          | (go_at_call 21; refine (areasNo _ i _ (by first | exact Or.inl rfl | exact N9.out.no)).mono ?_; rintro e w10 ⟨rfl, hb⟩; have N10 := Lib.hid (N9.out.step hb); obtain ⟨c1, c2, c4, c5, c6, c7, c8⟩ := N10.out.cells; clear hb)
          | (go_at_call 22; refine (mappedNo _ i _ (by first | exact Or.inl rfl | exact N10.out.no)).mono ?_; rintro e w11 ⟨rfl, hb⟩; have N11 := Lib.hid (N10.out.step hb); obtain ⟨c1, c2, c4, c5, c6, c7, c8⟩ := N11.out.cells; clear hb))
        go_roundw
        case rel => first | exact ⟨1, by go_num, by decide, (fun _ => rfl), N11.out⟩ | exact ⟨2, by go_num, by decide, (fun h => absurd h (by decide)), N11.out⟩
        case measure => simp [intOf]
    · obtain rfl : j = 2 := by omega
      have hB0 := hS.bel
      have BW := Lib.hid hB0
      have HT := Lib.hid (HL.out.lq.below hB0)
      have HWW := Lib.hid (HL.out.lw.below hB0)
      clear hS hB0
      go_wp2_with fail
      refine (show Calls Tryz.prog 23 #[.int .i64 4] wr _ from new_ok 4 wr (by omega) (by omega)).mono ?_
      rintro e w1 hp
      obtain ⟨mp, fb, rfl, ho⟩ := OwnMem.new hp
      have M1 := Lib.hid ho
      clear hp ho
      go_wp2_with fail
      have M2 := Lib.hid (M1.out.step ((Below.refl _ _).alloc (Nat.le_refl _) (.cells #[.int .i64 0, .int .i64 4] 55)))
      refine (newpool_any mp fb 4 _ [(0, 4)] _ _ M2.out.st (pairs_one (heap_alloc_new w1 _))).mono ?_
      rintro e w2 hp
      obtain ⟨X, rfl, ho, hmp, _, hn, hP, _⟩ := OwnPool.new_ M2.out HT.out hp (okq_one 4 (by omega))
      have O := Lib.hid ho
      have HP : Hid (X.P = partsS 0 4 []) := Lib.hid (by rw [hP]; rfl)
      have HN := Lib.hid hn
      have HM := Lib.hid hmp
      clear hp ho hP hn hmp
      go_wp2_with fail
      refine (new11_ok 4 w2 (by decide)).mono ?_
      rintro e w3 ⟨⟨bb, bm, Pb, rfl, hB, _, _⟩, hb3⟩
      have B3 := Lib.hid hB
      have O3 := Lib.hid (O.out.step hb3)
      clear hB hb3
      go_wp2_with fail
      refine (new11_ok 5 w3 (by decide)).mono ?_
      rintro e w4 ⟨⟨bb5, bm5, Pb5, rfl, hB, _, _⟩, hb4⟩
      have C4 := Lib.hid hB
      have B4 := Lib.hid (B3.out.step hb4)
      have O4 := Lib.hid (O3.out.step hb4)
      clear hB hb4
      go_wp2_with fail
      refine (newS_bad B4.out (er := 1) (m := none) (p := some ⟨X.pb, 0, none⟩) (k := 0) (fun V hb => newmg_nomem X _ _ 0 V (O4.out.step hb).st) (by decide)).mono ?_
      rintro e w5 ⟨rfl, hb⟩
      have B5 := Lib.hid (B4.out.step hb)
      have C5 := Lib.hid (C4.out.step hb)
      have O5 := Lib.hid (O4.out.step hb)
      clear hb
      go_wp2_with fail
      refine (newS_bad B5.out (er := 1) (m := some ⟨mp, 0, none⟩) (p := none) (k := 0) (fun V hb => by have := newmg_nopool X.mp X.fb X.n _ 0 V (O5.out.step hb).st.mem; rwa [HM.out] at this) (by decide)).mono ?_
      rintro e w6 ⟨rfl, hb⟩
      have B6 := Lib.hid (B5.out.step hb)
      have C6 := Lib.hid (C5.out.step hb)
      have O6 := Lib.hid (O5.out.step hb)
      clear hb
      go_wp2_with fail
      refine (newS_nobud w6 (some ⟨mp, 0, none⟩) (some ⟨X.pb, 0, none⟩) 0).mono ?_
      rintro e w7 ⟨rfl, hb⟩
      have B7 := Lib.hid (B6.out.step hb)
      have C7 := Lib.hid (C6.out.step hb)
      have O7 := Lib.hid (O6.out.step hb)
      clear hb
      go_wp2_with fail
      refine (newS_bad B7.out (er := 2) (m := some ⟨mp, 0, none⟩) (p := some ⟨X.pb, 0, none⟩) (k := 1) (fun V hb => by have := newmg_part X _ _ 1 V (O7.out.step hb).st (by rw [HP.out]; decide); rwa [HM.out] at this) (by decide)).mono ?_
      rintro e w8 ⟨rfl, hb⟩
      have C8 := Lib.hid (C7.out.step hb)
      have O8 := Lib.hid (O7.out.step hb)
      clear hb
      go_wp2_with fail
      have NF := Lib.hid (newS_few (n := 4) (lo := 0) (hi := 4) (q := 5) O8.out HWW.out (by omega) (by omega) HN.out HP.out (by omega) C8.out)
      rw [HM.out] at NF
      refine NF.out.mono ?_
      rintro e w9 ⟨rfl, hb⟩
      have O9 := Lib.hid (BW.out.trans ((O8.out.step hb).below.mono BW.out.size))
      clear hb
      go_wp2_with fail
      refine (AW.out _ O9.out).mono ?_
      rintro e w10 ⟨rfl, hb⟩
      have B10 := Lib.hid (O9.out.trans (hb.mono O9.out.size))
      clear hb
      go_wp2_with fail
      go_ret
      exact ⟨rfl, B10.out⟩
end Go.Proofs.YtfpcoomkbmfchaaGreatDoor

/- Arguments of layer 16's laws, opened: an operation. No condition. -/
namespace Go.Proofs.YtfpcoomkbmfchaaGreatDoor
open Go.ChangeShapes Go.WideShapes Go.ChangeAt Go.RowKit Go.Deep Go.Joins
set_option maxRecDepth 100000

theorem cellsOp16 : Tryz.prog.cellsOf 27 = 9 := by kernel_rfl
theorem cellsAr16 : Tryz.prog.cellsOf 23 = 3 := by kernel_rfl
theorem cellsW16 : Tryz.prog.cellsOf 25 = 1 := by kernel_rfl
theorem cellsI16 : Tryz.prog.cellsOf 3 = 1 := by kernel_rfl
theorem cellsB16 : Tryz.prog.cellsOf 4 = 1 := by kernel_rfl
/-- The numbers of an operation, as wide as their types. -/
structure WideOp (k i t n x y va u : Int) : Prop where
  wk : I64 k
  wi : I64 i
  wt : I64 t
  wn : I64 n
  wx : I64 x
  wy : I64 y
  wv : 0 ≤ va ∧ va ≤ 4294967295
  wu : 0 ≤ u ∧ u ≤ 4294967295
section
variable {H : Type} {enc : TypeId × Value → H} {W : World} {base : Nat} {sp : Nat → Bool} {held : Bool}
theorem op16_cells {fuel : Nat} {cs : List Value} {x : DataW H × List MemPlace} (h : DataW.trod enc Tryz.prog W base sp held fuel 27 cs = some x) : ∃ (k i t n x y : Int) (d : Bool) (va u : Int), cs = [.int .i64 k, .int .i64 i, .int .i64 t, .int .i64 n, .int .i64 x, .int .i64 y, .bool d, .int .u32 va, .int .u32 u] ∧ WideOp k i t n x y va u := by
  obtain ⟨xs, k, _, _, hlen, hxl, hg⟩ := DataW.trod_struct Tryz.underlying27 h
  rw [cellsOp16] at hlen
  match xs, hxl, cs, hlen with
  | [y0, y1, y2, y3, y4, y5, y6], _, [v0, v1, v2, v3, v4, v5, v6, v7, v8], _ =>
    have g0 := hg 0 _ rfl
    have g1 := hg 1 _ rfl
    have g2 := hg 2 _ rfl
    have g3 := hg 3 _ rfl
    have g4 := hg 4 _ rfl
    have g5 := hg 5 _ rfl
    have g6 := hg 6 _ rfl
    simp [cellsAr16, cellsW16, cellsI16] at g0 g1 g2 g3 g4 g5 g6
    obtain ⟨n0, f0, _, w0⟩ := DataW.trod_int Tryz.underlying3 g0
    obtain ⟨n1, f1, _, w1⟩ := DataW.trod_int Tryz.underlying3 g1
    obtain ⟨n2, f2, _, w2⟩ := DataW.trod_int Tryz.underlying3 g2
    obtain ⟨n3, f3, _, w3⟩ := DataW.trod_int Tryz.underlying3 g3
    obtain ⟨zs, m, _, _, _, hzl, hi⟩ := DataW.trod_struct Tryz.underlying23 g4
    match zs, hzl with
    | [z0, z1, z2], _ =>
      have i0 := hi 0 _ rfl
      have i1 := hi 1 _ rfl
      have i2 := hi 2 _ rfl
      simp [cellsI16, cellsB16] at i0 i1 i2
      obtain ⟨n4, f4, _, w4⟩ := DataW.trod_int Tryz.underlying3 i0
      obtain ⟨n5, f5, _, w5⟩ := DataW.trod_int Tryz.underlying3 i1
      obtain ⟨b6, f6, _⟩ := DataW.trod_bool Tryz.underlying4 i2
      obtain ⟨n7, f7, _, w7⟩ := DataW.trod_int Tryz.underlying25 g5
      obtain ⟨n8, f8, _, w8⟩ := DataW.trod_int Tryz.underlying25 g6
      simp at f0 f1 f2 f3 f4 f5 f6 f7 f8
      subst f0 f1 f2 f3 f4 f5 f6 f7 f8
      exact ⟨n0, n1, n2, n3, n4, n5, b6, n7, n8, rfl, ⟨bounds_i64 w0, bounds_i64 w1, bounds_i64 w2, bounds_i64 w3, bounds_i64 w4, bounds_i64 w5, bounds_u32 w7, bounds_u32 w8⟩⟩
end
section
variable {H : Type} {enc : TypeId × Value → H} {W : World} {base : Nat}
theorem op16_open {v : Value} {d : DataW H} {p : List MemPlace} (hv : Value.okWide Tryz.prog W .any base 27 v)
    (h : DataW.Trod enc Tryz.prog W 0 (fun _ => true) true 27 v d p) : ∃ (k i t n x y : Int) (b : Bool) (va u : Int), v = .agg (opA k i t n x y b va u) ∧ WideOp k i t n x y va u := by
  obtain ⟨cs, rfl, hsz⟩ := okWide_struct Tryz.underlying27 hv
  obtain ⟨fuel, hf⟩ := h
  obtain ⟨k, i, t, n, x, y, b, va, u, he, hw⟩ := op16_cells hf
  refine ⟨k, i, t, n, x, y, b, va, u, ?_, hw⟩
  have : cs = opA k i t n x y b va u := by
    apply Array.ext'
    simpa [Value.cells] using he
  rw [this]
theorem spaceNone_walkO (k i t n x y : Int) (d : Bool) (va u : Int) (W : World) (_ : WideOp k i t n x y va u) (hL : LaidN W) : Calls Tryz.prog 3 #[.agg (opA k i t n x y d va u)] W fun e w' => e = .returned (.bool true) ∧ Below W.heap.size W w' := spaceNone_walk k i t n x y d va u W hL
end
end Go.Proofs.YtfpcoomkbmfchaaGreatDoor

/- Arguments of layer 16's laws, opened: a slice of operations. No condition. -/
namespace Go.Proofs.YtfpcoomkbmfchaaGreatDoor
open Go.ChangeShapes Go.WideShapes Go.ChangeAt Go.RowKit Go.Deep Go.Joins
set_option maxRecDepth 100000

/-- An operation. -/
structure Op16 where
  k : Int
  i : Int
  t : Int
  n : Int
  x : Int
  y : Int
  d : Bool
  va : Int
  u : Int
instance : Inhabited Op16 := ⟨⟨0, 0, 0, 0, 0, 0, false, 0, 0⟩⟩
def Op16.Wide (o : Op16) : Prop := WideOp o.k o.i o.t o.n o.x o.y o.va o.u
/-- An operation's cells. -/
structure OpCells (w : World) (b o : Nat) (q : Op16) : Prop where
  c0 : w.cell? ⟨b, o, none⟩ = some (.int .i64 q.k)
  c1 : w.cell? ⟨b, o + 1, none⟩ = some (.int .i64 q.i)
  c2 : w.cell? ⟨b, o + 2, none⟩ = some (.int .i64 q.t)
  c3 : w.cell? ⟨b, o + 3, none⟩ = some (.int .i64 q.n)
  c4 : w.cell? ⟨b, o + 4, none⟩ = some (.int .i64 q.x)
  c5 : w.cell? ⟨b, o + 5, none⟩ = some (.int .i64 q.y)
  c6 : w.cell? ⟨b, o + 6, none⟩ = some (.bool q.d)
  c7 : w.cell? ⟨b, o + 7, none⟩ = some (.int .u32 q.va)
  c8 : w.cell? ⟨b, o + 8, none⟩ = some (.int .u32 q.u)
theorem OpCells.below {w w' : World} {b o : Nat} {q : Op16} (h : OpCells w b o q) (hb : Below w.heap.size w w') (hlt : b < w.heap.size) : OpCells w' b o q := by
  have k : ∀ j, w'.cell? ⟨b, j, none⟩ = w.cell? ⟨b, j, none⟩ := fun j => hb.cell (p := ⟨b, j, none⟩) hlt
  exact ⟨(k _).trans h.c0, (k _).trans h.c1, (k _).trans h.c2, (k _).trans h.c3, (k _).trans h.c4, (k _).trans h.c5, (k _).trans h.c6, (k _).trans h.c7, (k _).trans h.c8⟩
/-- A slice of operations, as an argument. -/
def ArgOps16 (w : World) (v : Value) (S : List Op16) : Prop := ∃ a c, v = .slice a S.length c ∧ (∀ x ∈ S, x.Wide) ∧ (S = [] ∨ ∃ b o, a = some ⟨b, o, none⟩ ∧ b < w.heap.size ∧ ∀ i, i < S.length → OpCells w b (o + i * 9) (S.getD i default))
section
variable {H : Type} {enc : TypeId × Value → H} {W : World} {base : Nat}
theorem ops16_open {v : Value} {d : DataW H} {p : List MemPlace} (hv : Value.okWide Tryz.prog W .any base 64 v)
    (h : DataW.Trod enc Tryz.prog W 0 (fun _ => true) true 64 v d p) (hlt : ∀ x ∈ p, x.block < W.heap.size) : ∃ S : List Op16, ArgOps16 W v S := by
  obtain ⟨a0, len, cap, rfl⟩ := okWide_slice Tryz.underlying64 hv
  obtain ⟨fuel, hf⟩ := h
  rcases open_slice Tryz.underlying64 hf with ⟨hcs, _⟩ | ⟨a, len', cap', m, n, D, Pl, hcs, _, hl, _, hmm, hx, hi⟩
  · simp [Value.cells] at hcs
    obtain ⟨rfl, rfl, rfl⟩ := hcs
    exact ⟨[], none, 0, rfl, by simp, Or.inl rfl⟩
  · simp [Value.cells] at hcs
    obtain ⟨rfl, rfl, rfl⟩ := hcs
    have hm : m = cap := by simpa using hmm
    have each : ∀ i, i < len → ∃ q : Op16, q.Wide ∧ W.cell? (a.add (i * 9)) = some (.int .i64 q.k) ∧ W.cell? (a.add (i * 9 + 1)) = some (.int .i64 q.i) ∧ W.cell? (a.add (i * 9 + 2)) = some (.int .i64 q.t) ∧ W.cell? (a.add (i * 9 + 3)) = some (.int .i64 q.n) ∧ W.cell? (a.add (i * 9 + 4)) = some (.int .i64 q.x) ∧ W.cell? (a.add (i * 9 + 5)) = some (.int .i64 q.y) ∧ W.cell? (a.add (i * 9 + 6)) = some (.bool q.d) ∧ W.cell? (a.add (i * 9 + 7)) = some (.int .u32 q.va) ∧ W.cell? (a.add (i * 9 + 8)) = some (.int .u32 q.u) := by
      intro i hil
      obtain ⟨cs', h1, h2⟩ := hi i (by omega)
      rw [cellsOp16] at h1
      obtain ⟨_, hlen, hcell⟩ := World.cells?_some h1
      obtain ⟨k, i', t, n, x, y, b, va, u, rfl, hw⟩ := op16_cells h2
      have e0 := hcell 0 (by omega)
      have e1 := hcell 1 (by omega)
      have e2 := hcell 2 (by omega)
      have e3 := hcell 3 (by omega)
      have e4 := hcell 4 (by omega)
      have e5 := hcell 5 (by omega)
      have e6 := hcell 6 (by omega)
      have e7 := hcell 7 (by omega)
      have e8 := hcell 8 (by omega)
      rw [add_add] at e0 e1 e2 e3 e4 e5 e6 e7 e8
      exact ⟨⟨k, i', t, n, x, y, b, va, u⟩, hw, by simpa using e0, by simpa using e1, by simpa using e2, by simpa using e3, by simpa using e4, by simpa using e5, by simpa using e6, by simpa using e7, by simpa using e8⟩
    obtain ⟨q, hq⟩ := choose_lt each
    have hS : ((List.range len).map q).length = len := by simp
    refine ⟨(List.range len).map q, some a, cap, by rw [hS], fun x hx => ?_, ?_⟩
    · simp only [List.mem_map, List.mem_range] at hx
      obtain ⟨i, hi', rfl⟩ := hx
      exact (hq i hi').1
    by_cases h0 : len = 0
    · subst h0; exact Or.inl rfl
    · obtain ⟨b, off, spot⟩ := a
      have hspot : spot = none := by simpa [Addr.add] using World.cell?_spot (hq 0 (by omega)).2.1
      subst hspot
      simp only [Prod.mk.injEq] at hx
      refine Or.inr ⟨b, off, rfl, hlt (.cell b off) (by rw [hx.2]; exact List.mem_append_left _ (MemPlace.mem_row.2 ⟨0, by rw [cellsOp16]; omega, by simp⟩)), fun i hil => ?_⟩
      rw [hS] at hil
      have e : ((List.range len).map q).getD i default = q i := by simp [List.getD_eq_getElem?_getD, hil]
      rw [e]
      obtain ⟨_, k0, k1, k2, k3, k4, k5, k6, k7, k8⟩ := hq i hil
      simp only [add_plain] at k0 k1 k2 k3 k4 k5 k6 k7 k8
      exact ⟨k0, by simpa [Nat.add_assoc] using k1, by simpa [Nat.add_assoc] using k2, by simpa [Nat.add_assoc] using k3, by simpa [Nat.add_assoc] using k4, by simpa [Nat.add_assoc] using k5, by simpa [Nat.add_assoc] using k6, by simpa [Nat.add_assoc] using k7, by simpa [Nat.add_assoc] using k8⟩
end
end Go.Proofs.YtfpcoomkbmfchaaGreatDoor
