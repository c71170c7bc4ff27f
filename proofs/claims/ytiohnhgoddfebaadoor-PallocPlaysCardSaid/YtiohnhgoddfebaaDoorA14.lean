/- The walk of PallocTwo. Conditions: the library's table reads as its initialiser lays it; the slice lies as it says. -/
import Derived.Test.YtiohnhgoddfebaaDoorA13
namespace Go.Proofs.YtiohnhgoddfebaaDoor
open Go.RowKit
set_option maxRecDepth 100000

theorem OwnPool.make {W w w' : World} {mp fb n : Nat} {L : List Int} {Q : List (Int × Int)} {e : Ending} (hm : OwnMem W w mp fb n L) (hT : LaidQ W) (h : NewPool mp fb n L Q w e w') (hq : OkQ n Q) :
    ∃ X : PIx, e = .returned (.tuple #[.pointer (some ⟨X.pb, 0, none⟩), .int .i64 0]) ∧ OwnPool W w' X L R0 ∧ X.P = natQ Q ∧ (∀ k, X.all k → (k = mp ∨ k = fb ∨ w.heap.size ≤ k) ∧ k < w'.heap.size) ∧ Below w.heap.size w w' := by
  have h' := h
  rcases h with ⟨hno, _⟩ | ⟨_, X, he, hp, h1, h2, h3, h4, h5, hb⟩
  · exact absurd hq hno
  · obtain ⟨X', he', ho, _, _, _, hP, hk⟩ := OwnPool.new_ hm hT h' hq
    exact ⟨X', he', ho, hP, fun k e => ⟨hk k e, ho.st.lt k e⟩, hb⟩
theorem pools_apart {X Y : PIx} {mp fb mp' fb' a b c d f : Nat} (h1 : ∀ k, X.all k → (k = mp ∨ k = fb ∨ c ≤ k) ∧ k < d) (h2 : ∀ k, Y.all k → (k = mp' ∨ k = fb' ∨ f ≤ k)) (m1 : mp < a) (m2 : fb < a) (n1 : a ≤ mp') (n2 : a ≤ fb') (n3 : mp' < b) (n4 : fb' < b) (bc : b ≤ c) (df : d ≤ f) : ∀ k, X.all k → Y.all k → False := fun k hx hy => by
  obtain ⟨x1, x2⟩ := h1 k hx
  have y1 := h2 k hy
  omega
theorem two_far (n : Int) (q c : Nat) (a : Option Addr) (W : World) (h : n < 1 ∨ (1 ≤ n ∧ 30 < n) ∨ (1 ≤ n ∧ n ≤ 30 ∧ 100 < q)) (hT : LaidQ W) : Calls Tryd.prog 9 #[.int .i64 n, .slice a q c] W fun e w' => e = .returned (.bool true) ∧ Below W.heap.size W w' := by
  have HT := Lib.hid hT
  clear hT
  rcases h with h | ⟨h1, h⟩ | ⟨h1, h2, h⟩
  · have d1 : decide (n < 1) = true := decide_eq_true h
    go_enter Tryd.func9, Tryd.ntmps9
    go_wp2_with (go_at_call 10; refine (awake9 _ HT.out).mono ?_; rintro e w2 ⟨rfl, hb⟩; have B := Lib.hid hb; clear hb)
    go_ret
    exact ⟨rfl, B.out⟩
  · have d1 : decide (n < 1) = false := decide_eq_false (by omega)
    have d2 : decide (30 < n) = true := decide_eq_true h
    go_enter Tryd.func9, Tryd.ntmps9
    go_wp2_with (go_at_call 10; refine (awake9 _ HT.out).mono ?_; rintro e w2 ⟨rfl, hb⟩; have B := Lib.hid hb; clear hb)
    go_ret
    exact ⟨rfl, B.out⟩
  · have d1 : decide (n < 1) = false := decide_eq_false (by omega)
    have d2 : decide (30 < n) = false := decide_eq_false (by omega)
    have d3 : decide (100 < q) = true := decide_eq_true h
    go_enter Tryd.func9, Tryd.ntmps9
    go_wp2_with (go_at_call 10; refine (awake9 _ HT.out).mono ?_; rintro e w2 ⟨rfl, hb⟩; have B := Lib.hid hb; clear hb)
    go_ret
    exact ⟨rfl, B.out⟩
theorem intInfo9 : (Tryd.prog.info? 3).map (fun i => (i.zero, i.size, i.bytes)) = some (some (.int .i64 0), 1, 8) := by kernel_rfl
theorem one_at9 (w : World) (x : Int) (t : TypeId) : ∀ (j : Nat) (u : Value), ([.int .i64 x] : List Value)[j]? = some u → (w.alloc (.cells #[.int .i64 x] t)).cell? ((⟨w.heap.size, 0, none⟩ : Addr).add j) = some u := fun j u hu => by
  rw [Addr.add_mid, cell_of_row _ _ _ _ _ _ (heap_alloc_new w _)]
  rw [show 0 + j = j by omega, ← hu]; simp
def TwoRel1 (W : World) (X Y : PIx) (n : Nat) (K : List Int) (S : List (Int × Int)) (q base : Nat) (lv iv : Value) (wr : World) : Prop := ∃ (k : Nat) (L : List Int), iv = .int .i64 (k : Int) ∧ k ≤ q ∧ Pools W wr X Y L (runA (Pn n) S k) K R0 ∧ wr.ownsRow base 3 1 lv k (seenV (Pn n) S k)
def TwoRel2 (W : World) (X Y : PIx) (n : Nat) (L : List Int) (S : List (Int × Int)) (q base : Nat) (lv : Value) (iv : Value) (wr : World) : Prop := ∃ (k : Nat) (K : List Int), iv = .int .i64 (k : Int) ∧ k ≤ q ∧ Pools W wr X Y L (runA (Pn n) S q) K (runA (Pn n) S k) ∧ wr.ownsRow base 3 1 lv q (seenV (Pn n) S q)
set_option maxHeartbeats 2000000 in
theorem two_in (n : Nat) (S : List (Int × Int)) (v : Value) (W : World) (h1 : 1 ≤ n) (h30 : n ≤ 30) (hS : ArgPairs W v S) (hl : S.length ≤ 100) (hT : LaidQ W) : Calls Tryd.prog 9 #[.int .i64 (n : Int), v] W fun e w' => e = .returned (.bool true) ∧ Below W.heap.size W w' := by
  obtain ⟨ii, hi, hbi⟩ := Option.map_eq_some_iff.1 intInfo9
  simp only [Prod.mk.injEq] at hbi
  obtain ⟨hi0, hi1, hi2⟩ := hbi
  have HT := Lib.hid hT
  have HS := Lib.hid hS.1
  have HB := Lib.hid hS.2
  obtain ⟨⟨a, c, rfl, _⟩, _⟩ := hS
  obtain ⟨q, hq⟩ : ∃ q, q = S.length := ⟨_, rfl⟩
  rw [← hq] at hl ⊢
  have HQ := Lib.hid hq
  have d1 : decide ((n : Int) < 1) = false := decide_eq_false (by omega)
  have d2 : decide (30 < (n : Int)) = false := decide_eq_false (by omega)
  have d3 : decide (100 < q) = false := decide_eq_false (by omega)
  clear hT hq
  go_enter Tryd.func9, Tryd.ntmps9
  go_wp2_with fail
  refine (new_ok n W h1 (by omega)).mono ?_
  rintro e w1 hp
  obtain ⟨mp, fb, rfl, ho⟩ := OwnMem.new hp
  have M1 := Lib.hid ho
  clear hp ho
  go_wp2_with fail
  refine (new_ok n w1 h1 (by omega)).mono ?_
  rintro e w2 hp
  obtain ⟨mp', fb', rfl, ho⟩ := OwnMem.new hp
  have M2 := Lib.hid ho
  clear hp ho
  go_wp2_with fail
  have b3 := (Below.refl w2.heap.size w2).alloc (Nat.le_refl _) (.cells #[.int .i64 0, .int .i64 (n : Int)] 59)
  have M3 := Lib.hid ((M1.out.step (M2.out.below.mono (Nat.le_refl _))).step b3)
  have N3 := Lib.hid (M2.out.step b3)
  refine (newpool_any mp fb n _ [(0, (n : Int))] _ _ M3.out.st (pairs_one (heap_alloc_new w2 _))).mono ?_
  rintro e w4 hp
  obtain ⟨X, rfl, ho, hP, hX, hb4⟩ := OwnPool.make M3.out HT.out hp (okq_one n h1)
  have O4 := Lib.hid ho
  have HP := Lib.hid (show X.P = Pn n from hP.trans (natQ_one n))
  have XK := Lib.hid hX
  have N4 := Lib.hid (N3.out.step hb4)
  have Z3 : Hid (w2.heap.size ≤ (w2.alloc (.cells #[.int .i64 0, .int .i64 (n : Int)] 59)).heap.size) := Lib.hid b3.size
  clear hp ho hP hX hb4 b3
  go_wp2_with fail
  have b5 := (Below.refl w4.heap.size w4).alloc (Nat.le_refl _) (.cells #[.int .i64 0, .int .i64 (n : Int)] 59)
  have N5 := Lib.hid ((N4.out.step b5).wider M1.out.below)
  have O5 := Lib.hid (O4.out.step b5)
  refine (newpool_any mp' fb' n _ [(0, (n : Int))] _ _ N5.out.st (pairs_one (heap_alloc_new w4 _))).mono ?_
  rintro e w6 hp
  obtain ⟨Y, rfl, ho, hP, hY, hb6⟩ := OwnPool.make N5.out HT.out hp (okq_one n h1)
  have HPY := Lib.hid (show Y.P = Pn n from hP.trans (natQ_one n))
  have D0 : Hid (Pools W w6 X Y (List.replicate (n * 32) 0) R0 (List.replicate (n * 32) 0) R0) := Lib.hid ⟨O5.out.step hb6, ho, pools_apart XK.out (fun k e => (hY k e).1) (lt_of_block M1.out.st.box) (lt_of_block M1.out.st.row) M2.out.lm M2.out.lf (lt_of_block M2.out.st.box) (lt_of_block M2.out.st.row) Z3.out b5.size⟩
  clear hp ho hP hY hb6 b5
  clear M1 M2 M3 N3 N4 N5 O4 O5 XK Z3
  go_wp2_with fail
  go_loopw [13, 14] (fun lv iv wr => TwoRel1 W X Y n (List.replicate (n * 32) 0) S q W.heap.size lv iv wr) (fun _ i _ => q - (intOf i).toNat)
  case atStart => exact ⟨0, _, rfl, Nat.zero_le _, D0.out, World.ownsRow_nil _ _ _ _⟩
  case round =>
    obtain ⟨k, L, rfl, hk, hD, hR⟩ := hrel
    have D := Lib.hid hD
    have RR := Lib.hid hR
    clear hD hR
    by_cases hlt : k < q
    · obtain ⟨b, o, c', d, x, hsl, hbw, hrow, e0, e1⟩ := pair_cells HS.out k (by rw [← HQ.out]; exact hlt)
      obtain ⟨rfl, rfl⟩ : a = some ⟨b, o, none⟩ ∧ c' = c := by rw [← HQ.out] at hsl; cases hsl; exact ⟨rfl, rfl⟩
      have c0 := (D.out.one.below.cell (p := ⟨b, o + k * 2, none⟩) hbw).trans e0
      have c1 := (D.out.one.below.cell (p := ⟨b, o + k * 2 + 1, none⟩) hbw).trans e1
      have hx : I64 x := by
        have := (HB.out (S.getD k default) (by rw [List.getD_eq_getElem?_getD, List.getElem?_eq_getElem (by rw [← HQ.out]; exact hlt)]; exact List.getElem_mem _)).2
        rw [hrow] at this; exact this
      have ROW := Lib.hid hrow
      have C := answer_any X L _ d x wr D.out.one.st D.out.one.table hx
      have hrng := ansA_range D.out.one.st.fit (d, x)
      rw [HP.out] at C hrng
      obtain ⟨z, hz⟩ : ∃ z, ansA (Pn n) (runA (Pn n) S k) (d, x) = z := ⟨_, rfl⟩
      rw [hz] at C hrng
      have CC := Lib.hid C
      have Z := Lib.hid hz
      clear hsl e0 e1 hrow C hz
      go_wp2_with fail
      refine CC.out.mono ?_
      rintro e w7 ⟨rfl, L', hm⟩
      have D7 := Lib.hid (D.out.move1 hm)
      have R7 := Lib.hid (row_moves RR.out D.out.one.st hm (by decide))
      have A7 := Lib.hid ((Below.refl w7.heap.size w7).alloc (Nat.le_refl _) (.cells #[.int .i64 z] 3))
      have R8 := Lib.hid (R7.out.alloc (.cells #[.int .i64 z] 3))
      have D8 := Lib.hid (D7.out.step A7.out)
      have BZ : Hid (W.heap.size ≤ (w7.alloc (.cells #[.int .i64 z] 3)).heap.size) := Lib.hid D8.out.one.below.size
      clear hm
      go_wp2_with (at_builtin; refine wpList_append_own _ rfl (.tmp 74) (.tmp 81) 35 rfl W.heap.size 3 ii (.int .i64 0) 1 8 Tryd.underlying35 hi hi0 hi1 hi2 rfl (by decide) _ k _ rfl R8.out ⟨w7.heap.size, 0, none⟩ 1 1 [.int .i64 z] rfl rfl (one_at9 w7 _ _) (by simp [Value.oneCell']) (by unfold maxLen; omega) (by omega) BZ.out ?_; intro v3 w8 ho hg _)
      have R9 : Hid (w8.ownsRow W.heap.size 3 1 v3 (k + 1) (seenV (Pn n) S (k + 1))) := Lib.hid (by rw [seenV_snoc, ROW.out, Z.out]; exact ho)
      have D9 := Lib.hid (D8.out.append R8.out hg (Nat.le_refl _) (by decide))
      clear ho hg
      go_wp2
      go_roundw
      case rel => exact ⟨k + 1, L', by go_num, by omega, by rw [runA_next _ _ _ (by rw [← HQ.out]; exact hlt), ROW.out]; exact D9.out, R9.out⟩
      case measure => simp [intOf]; omega
    · obtain rfl : k = q := by omega
      have LEFT : Hid (leftA Y.P R0 0 = n) := Lib.hid (by
        rw [HPY.out, leftA, show partB (Pn n) 0 = true from rfl, if_pos rfl, show (Pn n).getD (0 : Int).toNat (0, 0) = (0, n) from rfl, freeL_all _ _ (fun _ _ _ => rfl), span_length])
      go_wp2_with fail
      refine (left_is LEFT.out D.out.two.st).mono ?_
      rintro e w7 ⟨rfl, hb⟩
      have D7 := Lib.hid (D.out.step hb)
      have R7 := Lib.hid (ownsRow_only (B := fun _ => False) RR.out (Only.below hb) (fun _ _ => id))
      clear hb D RR
      go_wp2_with fail
      go_loopw [15] (fun iv wr => TwoRel2 W X Y n L S k W.heap.size u13 iv wr) (fun i _ => k - (intOf i).toNat)
      case atStart => exact ⟨0, _, rfl, Nat.zero_le _, D7.out, R7.out⟩
      case round =>
        obtain ⟨j, K, rfl, hj, hD, hR⟩ := hrel
        have D := Lib.hid hD
        have RR := Lib.hid hR
        clear hD hR D7 R7
        by_cases hlt2 : j < k
        · obtain ⟨b, o, c', d, x, hsl, hbw, hrow, e0, e1⟩ := pair_cells HS.out j (by rw [← HQ.out]; exact hlt2)
          obtain ⟨rfl, rfl⟩ : a = some ⟨b, o, none⟩ ∧ c' = c := by rw [← HQ.out] at hsl; cases hsl; exact ⟨rfl, rfl⟩
          obtain ⟨g, cap, hv, _, _⟩ := RR.out.form (by omega)
          subst hv
          have OLD : Hid (∀ w', Below W.heap.size W w' → w'.cell? ⟨b, o + j * 2, none⟩ = some (.int .i64 d) ∧ w'.cell? ⟨b, o + j * 2 + 1, none⟩ = some (.int .i64 x)) := Lib.hid (fun w' hb => ⟨(hb.cell (p := ⟨b, o + j * 2, none⟩) hbw).trans e0, (hb.cell (p := ⟨b, o + j * 2 + 1, none⟩) hbw).trans e1⟩)
          have hx : I64 x := by
            have := (HB.out (S.getD j default) (by rw [List.getD_eq_getElem?_getD, List.getElem?_eq_getElem (by rw [← HQ.out]; exact hlt2)]; exact List.getElem_mem _)).2
            rw [hrow] at this; exact this
          have ROW := Lib.hid hrow
          obtain ⟨z, hz⟩ : ∃ z, ansA (Pn n) (runA (Pn n) S j) (d, x) = z := ⟨_, rfl⟩
          have SEEN : Hid (∀ w' : World, w'.ownsRow W.heap.size 3 1 (.slice (some ⟨g, 0, none⟩) k cap) k (seenV (Pn n) S k) → w'.cell? ⟨g, j, none⟩ = some (.int .i64 z)) := Lib.hid (fun w' h => by
            have h' := h.cells (g := g) rfl j _ (seenV_get _ _ _ _ hlt2)
            rw [Addr.add_mid, Nat.zero_add, hrow, hz] at h'
            exact h')
          have D := Lib.hid (D.out.step (Below.refl _ _).drew)
          have RR := Lib.hid (show (wr.drew).ownsRow W.heap.size 3 1 (.slice (some ⟨g, 0, none⟩) k cap) k (seenV (Pn n) S k) from ownsRow_only (B := fun _ => False) RR.out (Only.below (Below.refl _ _).drew) (fun _ _ => id))
          obtain ⟨x0, x1⟩ := OLD.out _ D.out.one.below
          have x2 := SEEN.out _ RR.out
          have C := answer_any Y K _ d x wr.drew D.out.two.st D.out.two.table hx
          rw [HPY.out, hz] at C
          have CC := Lib.hid C
          clear hsl e0 e1 hrow C hz
          go_wp2_with fail
          go_region_held3 (fun w' => w'.cell? ⟨b, o + j * 2, none⟩ = some (.int .i64 d) ∧ w'.cell? ⟨b, o + j * 2 + 1, none⟩ = some (.int .i64 x) ∧ w'.cell? ⟨g, j, none⟩ = some (.int .i64 z)) (go_keep)
            (first
              | (go_at_call 25; refine CC.out.mono ?_; rintro e w8 ⟨rfl, K', hm⟩
                 have RR := Lib.hid (row_moves RR.out D.out.two.st hm (by decide))
                 have D := Lib.hid (D.out.move2 hm)
                 obtain ⟨x0, x1⟩ := OLD.out _ D.out.one.below
                 have x2 := SEEN.out _ RR.out
                 clear hm))
          go_wp2
          go_roundw
          case rel => exact ⟨j + 1, _, by go_num, by omega, by rw [runA_next _ _ _ (by rw [← HQ.out]; exact hlt2), ROW.out]; exact D.out, RR.out⟩
          case measure => simp [intOf]; omega
        · obtain rfl : j = k := by omega
          obtain ⟨l, hl2⟩ : ∃ l, leftA (Pn n) (runA (Pn n) S j) 0 = l := ⟨_, rfl⟩
          have L1 : Hid (leftA X.P (runA (Pn n) S j) 0 = l) := Lib.hid (by rw [HP.out]; exact hl2)
          have L2 : Hid (leftA Y.P (runA (Pn n) S j) 0 = l) := Lib.hid (by rw [HPY.out]; exact hl2)
          clear hl2
          go_wp2_with fail
          refine (left_is L1.out D.out.one.st).mono ?_
          rintro e w8 ⟨rfl, hb⟩
          have D := Lib.hid (D.out.step hb)
          clear hb
          go_wp2_with fail
          refine (left_is L2.out D.out.two.st).mono ?_
          rintro e w9 ⟨rfl, hb⟩
          have D := Lib.hid (D.out.step hb)
          clear hb
          go_wp2_with fail
          refine (awake9 _ D.out.one.table).mono ?_
          rintro e w10 ⟨rfl, hb⟩
          have D := Lib.hid (D.out.step hb)
          clear hb
          go_wp2
          go_ret
          exact ⟨rfl, D.out.one.below⟩
theorem pallocTwo_walk (n : Int) (v : Value) (S : List (Int × Int)) (W : World) (_hn : I64 n) (hS : ArgPairs W v S) (hT : LaidQ W) : Calls Tryd.prog 9 #[.int .i64 n, v] W fun e w' => e = .returned (.bool true) ∧ Below W.heap.size W w' := by
  by_cases h : n < 1 ∨ (1 ≤ n ∧ 30 < n) ∨ (1 ≤ n ∧ n ≤ 30 ∧ 100 < S.length)
  · obtain ⟨⟨a, c, rfl, _⟩, _⟩ := hS
    exact two_far n _ c a W h hT
  · obtain ⟨n, rfl⟩ := Int.eq_ofNat_of_zero_le (show 0 ≤ n by omega)
    exact two_in n S v W (by omega) (by omega) hS (by omega) hT
end Go.Proofs.YtiohnhgoddfebaaDoor
