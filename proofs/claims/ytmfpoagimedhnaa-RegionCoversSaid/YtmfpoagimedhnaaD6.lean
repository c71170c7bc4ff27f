/- The contract of package region's form, over what its closure says of each page. Condition: the closure's own contract. -/
import Derived.Test.YtmfpoagimedhnaaD5
namespace Go.Proofs.Ytmfpoagimedhnaa
open Go.RowKit Go.Maps
set_option maxRecDepth 100000

theorem areaInfo : (Try.prog.info? 32).map (fun i => (i.zero, i.size, i.bytes)) = some (some (.agg #[.int .i64 0, .int .i64 0, .bool false]), 3, 24) := by kernel_rfl
theorem areaZero (w : World) : (zeroValue 32).run Try.prog w = .ok (.agg #[.int .i64 0, .int .i64 0, .bool false]) w := by kernel_rfl
theorem below_grown {base : Nat} {w a w' : World} {r : Option Nat} (hB : Below base w a) (hg : a.grownBy w' r) (hb : base ≤ w.heap.size) (hr : ∀ g, r = some g → base ≤ g) : Below base w w' :=
  ⟨hg.os.trans hB.os, hg.tape.trans hB.tape, hg.output.trans hB.output, Nat.le_trans hB.size hg.size, fun k hk => (hg.block k (by have := hB.size; omega) (fun e => by have := hr k e.symm; omega)).trans (hB.block k hk)⟩
theorem own_base_le {w : World} {base k n : Nat} {e : TypeId} {v : Value} {xs : List Value} (h : w.ownsRow base e k v n xs) : ∀ g, v.ownBlock = some g → base ≤ g := fun g hg => (h.lt g hg).1
theorem arsV_snoc (L : List Ar) (x : Ar) : arsV (L ++ [x]) = arsV L ++ [.int .i64 x.1, .int .i64 x.2.1, .bool x.2.2] := by simp [arsV]
theorem arsV_len (L : List Ar) : (arsV L).length = L.length * 3 := by
  induction L with
  | nil => rfl
  | cons x r ih => simp only [arsV, List.flatMap_cons, List.length_append, List.length_cons, List.length_nil] at ih ⊢; omega
theorem arsV_more (L : List Ar) (x : Ar) (m : Int) : (arsV (L ++ [x])).set (L.length * 3 + 1) (.int .i64 m) = arsV (L ++ [(x.1, m, x.2.2)]) := by
  rw [arsV_snoc, arsV_snoc, ← arsV_len, List.set_append_right _ _ (by omega)]
  simp
theorem three_at (w : World) (a b c : Value) (t : TypeId) : ∀ j u, [a, b, c][j]? = some u → (w.alloc (.cells #[a, b, c] t)).cell? ((⟨w.heap.size, 0, none⟩ : Addr).add j) = some u := fun j u hu => by
  rw [Addr.add_mid, Nat.zero_add, cell_of_row _ _ _ _ _ _ (heap_alloc_new w _)]
  simpa using hu
theorem last_at (L : List Ar) (x : Ar) : (L ++ [x]).getD L.length default = x := by simp [List.getD_eq_getElem?_getD]
theorem UpD.wide {L : List Ar} (h : UpD L) : ∀ x ∈ L, WideD x := fun x hx => (h.fit x hx).wide
theorem PartD.row {f : Int → Option Bool} {k : Int} {L : List Ar} (h : PartD f k L) {w : World} {base : Nat} {v : Value} (ho : w.ownsRow base 32 3 v L.length (arsV L)) : ArAt w v L := ArAt.of_row ho (by have := h.up.len; omega) h.up.wide
/-- What an append leaves. -/
theorem own_more {w' : World} {base : Nat} {v : Value} {L : List Ar} {x : Ar} (ho : w'.ownsRow base 32 3 v (L.length + 1) (arsV L ++ [.int .i64 x.1, .int .i64 x.2.1, .bool x.2.2])) : w'.ownsRow base 32 3 v (L ++ [x]).length (arsV (L ++ [x])) := by
  rw [arsV_snoc, List.length_append]; exact ho
theorem nil_or_last (L : List Ar) : L = [] ∨ ∃ K y, L = K ++ [y] := by
  rcases List.eq_nil_or_concat L with h | ⟨K, y, h⟩
  · exact Or.inl h
  · exact Or.inr ⟨K, y, by rw [h, List.concat_eq_append]⟩
/-- Where a form stands. -/
structure FormD (f : Int → Option Bool) (w wr : World) (j : Nat) (L : List Ar) (v : Value) : Prop where
  row : wr.ownsRow w.heap.size 32 3 v L.length (arsV L)
  part : PartD f (j : Int) L
  below : Below w.heap.size w wr
set_option maxHeartbeats 8000000 in
theorem form_ok (u : Int → Bool) (f : Int → Option Bool) (ka ki kl : Nat) (w : World) (hf0 : ∀ p, p < 0 → f p = none) (hf1 : ∀ p, 1024 ≤ p → f p = none) (hu : ∀ p b, f p = some b → u p = b)
    (hs : ∀ (V : World) (p : Int), 0 ≤ p → p < 1024 → Below w.heap.size w V → Calls Try.prog 39 #[.int .i64 p, .pointer (some ⟨ka, 0, none⟩), .pointer (some ⟨ki, 0, none⟩), .pointer (some ⟨kl, 0, none⟩)] V fun e w' => e = .returned (.tuple #[.bool (u p), .bool (f p).isSome]) ∧ Below V.heap.size V w') :
    Calls Try.prog 38 #[.func (.func 39) #[] #[.pointer (some ⟨ka, 0, none⟩), .pointer (some ⟨ki, 0, none⟩), .pointer (some ⟨kl, 0, none⟩)]] w fun e w' => ∃ v er M, e = .returned (.tuple #[v, .int .i64 er]) ∧ AnsD f er M ∧ ArAt w' v M ∧ Below w.heap.size w w' := by
  obtain ⟨ii, hi, hi0, hi1, hi2⟩ := info_parts areaInfo
  have HS := Lib.hid hs
  have HU := Lib.hid hu
  have F0 := Lib.hid hf0
  have F1 := Lib.hid hf1
  clear hs hu hf0 hf1
  go_enter Try.func38, Try.ntmps38
  go_wp2_with fail
  go_loopw [4, 10] (fun v i wr => ∃ (j : Nat) (L : List Ar), i = .int .i64 (j : Int) ∧ j ≤ 1024 ∧ FormD f w wr j L v) (fun _ i _ => (1024 - (intOf i).toNat))
  case atStart => exact ⟨0, [], rfl, Nat.zero_le _, World.ownsRow_nil _ _ _ _, PartD.zero F0.out, Below.refl _ _⟩
  case round =>
    obtain ⟨j, L, rfl, hj, hF⟩ := hrel
    have FO := Lib.hid hF
    clear hF
    obtain ⟨a1, c1, rfl⟩ := owns_slice FO.out.row
    by_cases hlt : j < 1024
    · have SAY := Lib.hid (HS.out wr (j : Int) (by omega) (by omega) FO.out.below)
      cases hp : f (j : Int) with
      | none =>
        have PA : Hid (PartD f ((j + 1 : Nat) : Int) L) := Lib.hid (FO.out.part.skip hp)
        rw [hp] at SAY
        simp only [Option.isSome] at SAY
        clear hp
        go_wp2_with fail
        refine SAY.out.mono ?_
        rintro e w1 ⟨rfl, hb1⟩
        have FN : Hid (FormD f w w1 (j + 1) L (.slice a1 L.length c1)) := Lib.hid ⟨own_step FO.out.row hb1, PA.out, FO.out.below.trans (hb1.mono FO.out.below.size)⟩
        clear hb1
        go_wp2
        go_roundw
        case rel => exact ⟨j + 1, L, by go_num, by omega, FN.out⟩
        case measure => simp [intOf]; omega
      | some b =>
        have HP := Lib.hid hp
        rw [hp, HU.out _ _ hp] at SAY
        simp only [Option.isSome] at SAY
        clear hp
        have hL := FO.out.part.up.len
        rcases nil_or_last L with rfl | ⟨K, y, rfl⟩
        · have PA : Hid (PartD f ((j + 1 : Nat) : Int) ([] ++ [((j : Int), 1, b)])) := Lib.hid (FO.out.part.new ⟨by omega, by omega⟩ HP.out (fun y hy => by simp at hy))
          have O0 := Lib.hid FO.out.row
          simp only [List.length_nil] at O0 ⊢
          go_wp2_with fail
          refine SAY.out.mono ?_
          rintro e w1 ⟨rfl, hb1⟩
          have G3 : Hid (∀ nq, ((w1.alloc (.cells #[.int .i64 (j : Int), .int .i64 1, .bool b] 32)).drewN nq).heap[w1.heap.size]? = some (.cells #[.int .i64 (j : Int), .int .i64 1, .bool b] 32 (0, 0)) ∧ ((w1.alloc (.cells #[.int .i64 (j : Int), .int .i64 1, .bool b] 32)).drewN nq).ownsRow w.heap.size 32 3 (.slice a1 0 c1) 0 (arsV []) ∧ Below w.heap.size w ((w1.alloc (.cells #[.int .i64 (j : Int), .int .i64 1, .bool b] 32)).drewN nq)) := Lib.hid fun nq => by
            have hb2 := (hb1.alloc hb1.size (.cells #[.int .i64 (j : Int), .int .i64 1, .bool b] 32))
            exact ⟨heap_alloc_new w1 _, own_step O0.out (below_drewN hb2 nq), FO.out.below.trans ((below_drewN hb2 nq).mono FO.out.below.size)⟩
          clear hb1
          go_wp2_with fail
          go_quiet (fail)
          have g3 := G3.out nq
          clear G3
          generalize (w1.alloc (.cells #[.int .i64 (j : Int), .int .i64 1, .bool b] 32)).drewN nq = w3 at g3 ⊢
          obtain ⟨r3, o3, b3⟩ := g3
          have R3 := Lib.hid r3
          have O3 := Lib.hid o3
          have B3 := Lib.hid b3
          clear r3 o3 b3
          obtain ⟨d0, d1, d2⟩ := cells3 R3.out
          have A4 : Hid (Below w3.heap.size w3 (w3.alloc (.cells #[.int .i64 (j : Int), .int .i64 1, .bool b] 32))) := Lib.hid ((Below.refl _ _).alloc (Nat.le_refl _) _)
          have O4 := Lib.hid (O3.out.alloc (.cells #[.int .i64 (j : Int), .int .i64 1, .bool b] 32))
          have Z4 : Hid (w.heap.size ≤ (w3.alloc (.cells #[.int .i64 (j : Int), .int .i64 1, .bool b] 32)).heap.size) := Lib.hid (Nat.le_trans B3.out.size A4.out.size)
          go_wp2_with (at_builtin; refine wpList_append_own _ rfl (.tmp 37) (.tmp 39) 22 rfl w.heap.size 32 ii (.agg #[.int .i64 0, .int .i64 0, .bool false]) 3 24 Try.underlying22 hi hi0 hi1 hi2 rfl (by decide) _ 0 _ rfl O4.out ⟨w3.heap.size, 0, none⟩ 1 1 [.int .i64 (j : Int), .int .i64 1, .bool b] rfl rfl (three_at _ _ _ _ _) (by simp [Value.oneCell']) (by unfold maxLen; omega) (by omega) Z4.out ?_; intro v5 w5 ho hg _; have F5 : Hid (FormD f w w5 (j + 1) ([] ++ [((j : Int), 1, b)]) v5) := Lib.hid ⟨own_more (L := []) (x := ((j : Int), 1, b)) (by exact ho), PA.out, below_grown (B3.out.trans (A4.out.mono B3.out.size)) hg (Nat.le_refl _) (fun g hg => own_base_le O4.out g hg)⟩; clear ho hg)
          go_wp2
          go_roundw
          case rel => exact ⟨j + 1, [] ++ [((j : Int), 1, b)], by go_num, by omega, F5.out⟩
          case measure => simp [intOf]; omega
        · obtain ⟨x, y, d⟩ := y
          have hfy := FO.out.part.up.fit (x, y, d) (by simp)
          obtain ⟨g, hg⟩ : ∃ g, a1 = some ⟨g, 0, none⟩ := by
            rcases FO.out.row.2 with ⟨h0, hl0⟩ | ⟨g, cap, cur, h0, _⟩
            · simp at hl0
            · injection h0 with h0
              exact ⟨g, h0⟩
          subst hg
          obtain ⟨q, hq⟩ : ∃ q, q = K.length := ⟨_, rfl⟩
          obtain ⟨m, hm⟩ : ∃ m, m = q + 1 := ⟨_, rfl⟩
          have hmL : (K ++ [(x, y, d)]).length = m := by simp; omega
          have ROW := Lib.hid FO.out.row
          have AT := Lib.hid (FO.out.part.row FO.out.row)
          rw [hmL] at ROW AT hL ⊢
          have HFY := Lib.hid hfy
          have HQ := Lib.hid hq
          have HML := Lib.hid hmL
          have hqm : q < m := by omega
          have hm0 : ((m : Int) == 0) = false := by simp; omega
          have wr1 : IntKind.i64.wrap ((m : Int) - 1) = (q : Int) := (IntWalk.i64_in _ (by omega)).trans (by omega)
          have HM := Lib.hid hm
          clear hfy hq hmL hm
          go_wp2_with fail
          refine SAY.out.mono ?_
          rintro e w1 ⟨rfl, hb1⟩
          have B2 := Lib.hid ((FO.out.below.trans (hb1.mono FO.out.below.size)).alloc (Nat.le_trans FO.out.below.size hb1.size) (.cells #[.int .i64 (j : Int), .int .i64 1, .bool b] 32))
          have T2 := Lib.hid (hb1.alloc hb1.size (.cells #[.int .i64 (j : Int), .int .i64 1, .bool b] 32))
          have BX : Hid (∀ V, Below (w1.alloc (.cells #[.int .i64 (j : Int), .int .i64 1, .bool b] 32)).heap.size (w1.alloc (.cells #[.int .i64 (j : Int), .int .i64 1, .bool b] 32)) V → (V.cell? ⟨w1.heap.size, 0, none⟩ = some (.int .i64 (j : Int)) ∧ V.cell? ⟨w1.heap.size, 1, none⟩ = some (.int .i64 1) ∧ V.cell? ⟨w1.heap.size, 2, none⟩ = some (.bool b)) ∧ V.cell? ⟨g, q * 3, none⟩ = some (.int .i64 x) ∧ V.cell? ⟨g, q * 3 + 1, none⟩ = some (.int .i64 y) ∧ V.cell? ⟨g, q * 3 + 2, none⟩ = some (.bool d)) := Lib.hid fun V hb => by
            have hv : ArAt V (.slice (some ⟨g, 0, none⟩) m c1) (K ++ [(x, y, d)]) := AT.out.below (T2.out.trans (hb.mono T2.out.size))
            obtain ⟨g', o', he, -, -, e0, e1, e2⟩ := hv.at_ (i := q) (x := (x, y, d)) (by rw [HML.out]; exact hqm) (by rw [HQ.out]; exact last_at K _)
            simp only [Option.some.injEq, Addr.mk.injEq, and_true] at he
            obtain ⟨rfl, rfl⟩ := he
            rw [Nat.zero_add] at e0 e1 e2
            exact ⟨cells3 (below_block hb (heap_alloc_new w1 _)), e0, e1, e2⟩
          have R1 := Lib.hid (Below.refl (w1.alloc (.cells #[.int .i64 (j : Int), .int .i64 1, .bool b] 32)).heap.size (w1.alloc (.cells #[.int .i64 (j : Int), .int .i64 1, .bool b] 32)))
          clear hb1
          by_cases hgf : FolD (x, y, d) ((j : Int), 1, b)
          · have PA : Hid (PartD f ((j + 1 : Nat) : Int) ((K ++ [(x, y, d)]) ++ [((j : Int), 1, b)])) := Lib.hid (FO.out.part.new ⟨by omega, by omega⟩ HP.out (fun z hz => by rw [List.getLast?_concat] at hz; rw [← Option.some.inj hz]; exact hgf))
            have hd : decide (FolD (x, y, d) ((j : Int), 1, b)) = true := decide_eq_true hgf
            have MF : Hid (∀ V, Calls Try.prog 29 #[.agg #[.int .i64 x, .int .i64 y, .bool d], .agg #[.int .i64 (j : Int), .int .i64 1, .bool b]] V fun e w' => e = .returned (.bool true) ∧ Below V.heap.size V w') := Lib.hid fun V => by rw [← hd]; exact follow_ok x y d (j : Int) 1 b HFY.out ⟨by omega, by omega⟩ V
            clear hd hgf
            go_wp2_with fail
            go_region_held3 (fun V => (V.cell? ⟨w1.heap.size, 0, none⟩ = some (.int .i64 (j : Int)) ∧ V.cell? ⟨w1.heap.size, 1, none⟩ = some (.int .i64 1) ∧ V.cell? ⟨w1.heap.size, 2, none⟩ = some (.bool b)) ∧ V.cell? ⟨g, q * 3, none⟩ = some (.int .i64 x) ∧ V.cell? ⟨g, q * 3 + 1, none⟩ = some (.int .i64 y) ∧ V.cell? ⟨g, q * 3 + 2, none⟩ = some (.bool d)) (first | with_reducible exact BX.out _ R1.out.drew | with_reducible exact BX.out _ R2.out)
              (first
                | (go_at_call 29; refine (MF.out _).mono ?_; rintro e w3 ⟨rfl, hb2⟩; have R2 := Lib.hid (R1.out.drew.trans (hb2.mono (by exact R1.out.drew.size))); clear hb2))
            have R3 : Hid (w3.heap[w1.heap.size]? = some (.cells #[.int .i64 (j : Int), .int .i64 1, .bool b] 32 (0, 0))) := Lib.hid (below_block R2.out (heap_alloc_new w1 _))
            have O3 := Lib.hid (own_step ROW.out (T2.out.trans (R2.out.mono T2.out.size)))
            have B3 := Lib.hid (B2.out.trans (R2.out.mono B2.out.size))
            clear hm0
            obtain ⟨d0, d1, d2⟩ := cells3 R3.out
            have A4 : Hid (Below w3.heap.size w3 (w3.alloc (.cells #[.int .i64 (j : Int), .int .i64 1, .bool b] 32))) := Lib.hid ((Below.refl _ _).alloc (Nat.le_refl _) _)
            have O4 := Lib.hid (O3.out.alloc (.cells #[.int .i64 (j : Int), .int .i64 1, .bool b] 32))
            have Z4 : Hid (w.heap.size ≤ (w3.alloc (.cells #[.int .i64 (j : Int), .int .i64 1, .bool b] 32)).heap.size) := Lib.hid (Nat.le_trans B3.out.size A4.out.size)
            go_wp2_with (at_builtin; refine wpList_append_own _ rfl (.tmp 37) (.tmp 39) 22 rfl w.heap.size 32 ii (.agg #[.int .i64 0, .int .i64 0, .bool false]) 3 24 Try.underlying22 hi hi0 hi1 hi2 rfl (by decide) _ m _ rfl O4.out ⟨w3.heap.size, 0, none⟩ 1 1 [.int .i64 (j : Int), .int .i64 1, .bool b] rfl rfl (three_at _ _ _ _ _) (by simp [Value.oneCell']) (by unfold maxLen; omega) (by omega) Z4.out ?_; intro v5 w5 ho hg _; have F5 : Hid (FormD f w w5 (j + 1) ((K ++ [(x, y, d)]) ++ [((j : Int), 1, b)]) v5) := Lib.hid ⟨own_more (L := (K ++ [(x, y, d)])) (x := ((j : Int), 1, b)) (by rw [HML.out]; exact ho), PA.out, below_grown (B3.out.trans (A4.out.mono B3.out.size)) hg (Nat.le_refl _) (fun g hg => own_base_le O4.out g hg)⟩; clear ho hg)
            go_wp2
            go_roundw
            case rel => exact ⟨j + 1, (K ++ [(x, y, d)]) ++ [((j : Int), 1, b)], by go_num, by omega, F5.out⟩
            case measure => simp [intOf]; omega
          · have PA : Hid (PartD f ((j + 1 : Nat) : Int) (K ++ [(x, y + 1, d)])) := Lib.hid (FO.out.part.more ⟨by omega, by omega⟩ HP.out hgf)
            have hd : decide (FolD (x, y, d) ((j : Int), 1, b)) = false := decide_eq_false hgf
            have MF : Hid (∀ V, Calls Try.prog 29 #[.agg #[.int .i64 x, .int .i64 y, .bool d], .agg #[.int .i64 (j : Int), .int .i64 1, .bool b]] V fun e w' => e = .returned (.bool false) ∧ Below V.heap.size V w') := Lib.hid fun V => by rw [← hd]; exact follow_ok x y d (j : Int) 1 b HFY.out ⟨by omega, by omega⟩ V
            clear hd hgf
            go_wp2_with fail
            go_region_held3 (fun V => (V.cell? ⟨w1.heap.size, 0, none⟩ = some (.int .i64 (j : Int)) ∧ V.cell? ⟨w1.heap.size, 1, none⟩ = some (.int .i64 1) ∧ V.cell? ⟨w1.heap.size, 2, none⟩ = some (.bool b)) ∧ V.cell? ⟨g, q * 3, none⟩ = some (.int .i64 x) ∧ V.cell? ⟨g, q * 3 + 1, none⟩ = some (.int .i64 y) ∧ V.cell? ⟨g, q * 3 + 2, none⟩ = some (.bool d)) (first | with_reducible exact BX.out _ R1.out.drew | with_reducible exact BX.out _ R2.out)
              (first
                | (go_at_call 29; refine (MF.out _).mono ?_; rintro e w3 ⟨rfl, hb2⟩; have R2 := Lib.hid (R1.out.drew.trans (hb2.mono (by exact R1.out.drew.size))); clear hb2))
            have R3 : Hid (w3.heap[w1.heap.size]? = some (.cells #[.int .i64 (j : Int), .int .i64 1, .bool b] 32 (0, 0))) := Lib.hid (below_block R2.out (heap_alloc_new w1 _))
            have O3 := Lib.hid (own_step ROW.out (T2.out.trans (R2.out.mono T2.out.size)))
            have B3 := Lib.hid (B2.out.trans (R2.out.mono B2.out.size))
            clear hm0
            obtain ⟨-, -, e1, -⟩ := BX.out _ R2.out
            have hy := HFY.out
            obtain ⟨y1, y2, y3⟩ := hy
            have fz : w3.frozen? ⟨g, q * 3 + 1, none⟩ = false := by
              obtain ⟨cs, hcs⟩ := own_block O3.out (g := g) rfl
              exact frozen_of_row _ _ _ _ _ hcs
            have F5 : Hid (FormD f w (w3.setCell ⟨g, q * 3 + 1, none⟩ (.int .i64 (y + 1))) (j + 1) (K ++ [(x, y + 1, d)]) (.slice (some ⟨g, 0, none⟩) m c1)) := Lib.hid ⟨by
              have h5 := own_set (j := q * 3 + 1) O3.out (.int .i64 (y + 1))
              rw [HQ.out, arsV_more K (x, y, d)] at h5
              have hl : (K ++ [(x, y + 1, d)]).length = m := by rw [← HML.out]; simp
              rw [hl, HQ.out]
              exact h5, PA.out, below_grown B3.out (grownBy_setCell _ _ _ _) (Nat.le_refl _) (fun g' hg' => by
              have := own_base_le O3.out g rfl
              rw [← Option.some.inj hg']; exact this)⟩
            go_wp2_with fail
            go_roundw
            case rel => exact ⟨j + 1, K ++ [(x, y + 1, d)], by go_num, by omega, F5.out⟩
            case measure => simp [intOf]; omega
    · obtain rfl : j = 1024 := by omega
      have AN : Hid (∃ er M, (L.length ≤ 8 ∧ er = 0 ∧ M = L ∨ 8 < L.length ∧ er = 3 ∧ M = []) ∧ AnsD f er M) := Lib.hid (by
        obtain ⟨h1, h2⟩ := FO.out.part.ends F1.out
        by_cases h8 : L.length ≤ 8
        · exact ⟨0, L, Or.inl ⟨h8, rfl, rfl⟩, AnsD.few h1 h2 h8⟩
        · exact ⟨3, [], Or.inr ⟨by omega, rfl, rfl⟩, AnsD.many h1 h2 (by omega)⟩)
      have AT := Lib.hid (FO.out.part.row FO.out.row)
      have hL := FO.out.part.up.len
      have BB := Lib.hid FO.out.below
      obtain ⟨n, hn⟩ : ∃ n, n = L.length := ⟨_, rfl⟩
      rw [← hn] at AT hL AN ⊢
      clear hlt hn
      obtain ⟨er, M, ⟨h8, rfl, rfl⟩ | ⟨h8, rfl, rfl⟩, ha⟩ := AN.out
      · have AS := Lib.hid ha
        clear ha AN
        go_wp2
        go_ret2
        exact ⟨_, _, _, rfl, AS.out, AT.out, BB.out⟩
      · have AS := Lib.hid ha
        clear ha AN
        go_wp2
        go_ret2
        exact ⟨_, _, _, rfl, AS.out, ArAt.nil _, BB.out⟩
end Go.Proofs.Ytmfpoagimedhnaa
