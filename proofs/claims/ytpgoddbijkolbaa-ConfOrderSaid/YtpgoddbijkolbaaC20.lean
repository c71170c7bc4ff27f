/- The contract of the document's own Get, layer 6. Condition: the bytes are 2000 at most. Written by gen/gen_c20.py. -/
import Derived.Test.YtpgoddbijkolbaaC19
namespace Go.Proofs.Ytpgoddbijkolbaa
open Go.RowKit
set_option maxRecDepth 100000

theorem RRdL.fine {w : World} {r : Nat} {S : List UInt8} {s : RdS} (h : RRdL w r S s) : w.cell? ⟨r, 2, none⟩ = some (.bool s.isSome) := by
  obtain ⟨a, f, h, rfl⟩ := h
  rw [h.c2]
  cases f <;> rfl
theorem RRdL.at_ {w : World} {r : Nat} {S rr : List UInt8} (h : RRdL w r S (some rr)) : ∃ a : Nat, w.cell? ⟨r, 1, none⟩ = some (.int .i64 (a : Int)) ∧ a ≤ S.length ∧ rr = S.drop a := by
  obtain ⟨a, f, h, e⟩ := h
  refine ⟨a, h.c1, h.le, ?_⟩
  cases f with
  | false => simp [stateOf] at e
  | true => exact Option.some.inj e
theorem own_isSlice {w : World} {base k n : Nat} {e : TypeId} {v : Value} {xs : List Value} (h : w.ownsRow base e k v n xs) : ∃ a m c, v = .slice a m c := by
  rcases h.2 with ⟨rfl, _⟩ | ⟨g, cap, cur, rfl, _⟩
  · exact ⟨_, _, _, rfl⟩
  · exact ⟨_, _, _, rfl⟩
theorem numO_one (st : RdS) : ∃ n st', numO st 1 = (n, st') ∧ numS st 1 = (n, st') ∧ n < 256 :=
  ⟨(numO st 1).1, (numO st 1).2, rfl, numS_numO st 1 (by decide) (by decide), by have := numO_lt st 1; omega⟩
theorem numO_two (st : RdS) : ∃ n st', numO st 2 = (n, st') ∧ numS st 2 = (n, st') ∧ n < 65536 :=
  ⟨(numO st 2).1, (numO st 2).2, rfl, numS_numO st 2 (by decide) (by decide), by have := numO_lt st 2; omega⟩
theorem row_two (st s1 s2 : RdS) (k1 a1 a2 : Nat) (h1 : numO st k1 = (a1, s1)) (h2 : numO s1 1 = (a2, s2)) : st.bind (rowP [k1, 1]) = s2.map fun r => ([(a1 : Int), (a2 : Int)], r) := by
  have := numO_row1 [1] k1 st _ s2 (by rw [h1]; exact numO_row1 [] 1 s1 _ s2 (by rw [h2]; exact rowP_nil s2))
  rw [h1, h2] at this
  exact this
theorem row_four (st s1 s2 s3 s4 : RdS) (a1 a2 a3 a4 : Nat) (h1 : numO st 1 = (a1, s1)) (h2 : numO s1 1 = (a2, s2)) (h3 : numO s2 1 = (a3, s3)) (h4 : numO s3 1 = (a4, s4)) : st.bind (rowP cw) = s4.map fun r => ([(a1 : Int), (a2 : Int), (a3 : Int), (a4 : Int)], r) := by
  have := numO_row1 [1, 1, 1] 1 st _ s4 (by rw [h1]; exact numO_row1 [1, 1] 1 s1 _ s4 (by rw [h2]; exact numO_row1 [1] 1 s2 _ s4 (by rw [h3]; exact numO_row1 [] 1 s3 _ s4 (by rw [h4]; exact rowP_nil s4))))
  rw [h1, h2, h3, h4] at this
  exact this
def GRel1 (w : World) (c r : Nat) (l : List UInt8) (st1 : RdS) (n : Nat) (i : Value) (wr : World) : Prop :=
  ∃ (j : Nat) (S : List Row) (st : RdS) (v : Value), i = .int .i64 (j : Int) ∧ j ≤ n ∧ S.length = j ∧ (∀ T ∈ S, T.length = 2) ∧ GSt w wr c r l st v (.slice none 0 0) (.slice none 0 0) S [] [] ∧ Rows6 pw st1 j S st
def GRel2 (w : World) (c r : Nat) (l : List UInt8) (v1 : Value) (P : List Row) (st1 : RdS) (n : Nat) (i : Value) (wr : World) : Prop :=
  ∃ (j : Nat) (S : List Row) (st : RdS) (v : Value), i = .int .i64 (j : Int) ∧ j ≤ n ∧ S.length = j ∧ (∀ T ∈ S, T.length = 2) ∧ GSt w wr c r l st v1 v (.slice none 0 0) P S [] ∧ Rows6 ww st1 j S st
def GRel3 (w : World) (c r : Nat) (l : List UInt8) (v1 v2 : Value) (P W : List Row) (st1 : RdS) (n : Nat) (i : Value) (wr : World) : Prop :=
  ∃ (j : Nat) (S : List Row) (st : RdS) (v : Value), i = .int .i64 (j : Int) ∧ j ≤ n ∧ S.length = j ∧ (∀ T ∈ S, T.length = 4) ∧ GSt w wr c r l st v1 v2 v P W S ∧ Rows6 cw st1 j S st
theorem mem_snoc {S : List Row} {T : Row} {k : Nat} (h : ∀ U ∈ S, U.length = k) (hT : T.length = k) : ∀ U ∈ S ++ [T], U.length = k := fun U hU => by
  rcases List.mem_append.1 hU with hU | hU
  · exact h U hU
  · simp at hU; subst hU; exact hT
set_option maxHeartbeats 16000000 in
theorem rget_conf (l : List UInt8) (hl : l.length ≤ 2000) (w : World) : Calls Try.prog 20 #[strV l] w (GotConf w l) := by
  obtain ⟨ie1, hi1, hbi1⟩ := Option.map_eq_some_iff.1 info_part
  obtain ⟨ie2, hi2, hbi2⟩ := Option.map_eq_some_iff.1 info_win
  obtain ⟨ie3, hi3, hbi3⟩ := Option.map_eq_some_iff.1 info_chan
  simp only [Prod.mk.injEq] at hbi1 hbi2 hbi3
  obtain ⟨hi10, hi11, hi12⟩ := hbi1
  obtain ⟨hi20, hi21, hi22⟩ := hbi2
  obtain ⟨hi30, hi31, hi32⟩ := hbi3
  obtain ⟨w1, hw1⟩ : ∃ w1, w1 = ((w.alloc (.cells #[.slice none 0 0, .slice none 0 0, .slice none 0 0] 26)).alloc (.cells #[.slice none 0 0, .slice none 0 0, .slice none 0 0] 26)).alloc (.cells #[strV l, .int .i64 0, .bool true] 57) := ⟨_, rfl⟩
  obtain ⟨wa, hwa⟩ : ∃ wa, wa = (w.alloc (.cells #[.slice none 0 0, .slice none 0 0, .slice none 0 0] 26)).alloc (.cells #[.slice none 0 0, .slice none 0 0, .slice none 0 0] 26) := ⟨_, rfl⟩
  have hsa : wa.heap.size = w.heap.size + 1 + 1 := by rw [hwa]; simp
  have hba : Below w.heap.size w wa := by rw [hwa]; exact below_two w _ _
  have hA1 : Below wa.heap.size wa w1 := by rw [hw1, ← hwa]; exact (Below.refl _ _).alloc (Nat.le_refl _) _
  have hR1 : RRdL w1 (w.heap.size + 1 + 1) l (some l) := ⟨0, true, ⟨by rw [hw1, ← hwa, ← hsa]; exact heap_alloc_new wa _, Nat.zero_le _, hl⟩, rfl⟩
  have hC1 : CBox w1 (w.heap.size + 1) (.slice none 0 0) (.slice none 0 0) (.slice none 0 0) := below_block hA1 (by rw [hwa]; exact heap_alloc2_new w _ _)
  have hX1 : CBox w1 w.heap.size (.slice none 0 0) (.slice none 0 0) (.slice none 0 0) := below_block hA1 (by rw [hwa]; exact below_block ((Below.refl _ _).alloc (Nat.le_refl _) _) (heap_alloc_new w _))
  have G1 : Hid (GSt w w1 (w.heap.size + 1) (w.heap.size + 1 + 1) l (some l) (.slice none 0 0) (.slice none 0 0) (.slice none 0 0) [] [] []) := Lib.hid ⟨hR1, hC1, World.ownsRow_nil _ _ _ _, World.ownsRow_nil _ _ _ _, World.ownsRow_nil _ _ _ _, hX1, hba.trans (hA1.mono hba.size)⟩
  have LE : Hid (w.heap.size ≤ w.heap.size + 1 + 1) := Lib.hid (by omega)
  have LC : Hid (w.heap.size < w.heap.size + 1) := Lib.hid (by omega)
  have HL := Lib.hid hl
  have hs : (ByteArray.mk l.toArray).size = l.length := by simp [ByteArray.size]
  clear hwa hsa hba hA1 hR1 hC1 hX1
  go_enter Try.func20, Try.ntmps20
  go_wp2_with fail
  rw [← hw1]
  clear hw1
  refine (rtextL_ok _ l (some l) magic (textP magic l).isSome (textP magic l) (by rw [textS_textP]; cases textP magic l <;> rfl) w1 G1.out.rd).mono ?_
  rintro e w2 ⟨rfl, hd, hg⟩
  obtain ⟨st0, hst0⟩ : ∃ st, textP magic l = st := ⟨_, rfl⟩
  rw [hst0] at hd ⊢
  have ST0 := Lib.hid hst0
  have G0 := Lib.hid (G1.out.num LE.out hg hd)
  clear hd hg hst0
  go_wp2_with fail
  obtain ⟨n0, c0, hn0, hm0, hl0⟩ := numO_one st0
  refine (rnumL_ok _ l st0 1 n0 c0 hm0 _ G0.out.rd).mono ?_
  rintro e w3 ⟨rfl, hd, hg⟩
  have C0 := Lib.hid (G0.out.num LE.out hg hd)
  have HN0 := Lib.hid hn0
  clear hd hg hn0 hm0
  go_wp2_with fail
  go_loopw [7] (fun i wr => GRel1 w (w.heap.size + 1) (w.heap.size + 1 + 1) l c0 n0 i wr) (fun i _ => (n0 - (intOf i).toNat))
  case atStart => exact ⟨0, [], c0, .slice none 0 0, rfl, Nat.zero_le _, rfl, by simp, C0.out, Rows6.zero _ _⟩
  case round =>
    obtain ⟨j, P, st1, v1, rfl, hj, hS, hT, hG, hrows⟩ := hrel
    have GP := Lib.hid hG
    have RO := Lib.hid hrows
    have T0 := Lib.hid hT
    have Z0 := Lib.hid hS
    have fi := hG.rd.fine
    clear hG hrows hT hS
    have hcase : (j < n0 ∧ ∃ rr, st1 = some rr) ∨ (j = n0 ∨ (j < n0 ∧ st1 = none)) := by
      rcases Nat.lt_or_ge j n0 with hlt | hge
      · cases st1 with
        | none => exact Or.inr (Or.inr ⟨hlt, rfl⟩)
        | some rr => exact Or.inl ⟨hlt, rr, rfl⟩
      · exact Or.inr (Or.inl (by omega))
    rcases hcase with ⟨hlt', rr, rfl⟩ | hend
    · rw [show (some rr : RdS).isSome = true from rfl] at fi
      go_wp2_with fail
      obtain ⟨a1, s1, k1, m1, b1⟩ := numO_two (some rr)
      have N1 := Lib.hid k1
      refine (rnumL_ok _ l (some rr) 2 a1 s1 m1 _ GP.out.rd).mono ?_
      rintro e u1 ⟨rfl, hd, hg⟩
      have D1 := Lib.hid (GP.out.num LE.out hg hd)
      clear hd hg k1 m1 fi
      go_wp2_with fail
      obtain ⟨a2, s2, k2, m2, b2⟩ := numO_one (s1)
      have N2 := Lib.hid k2
      refine (rnumL_ok _ l (s1) 1 a2 s2 m2 _ D1.out.rd).mono ?_
      rintro e u2 ⟨rfl, hd, hg⟩
      have D2 := Lib.hid (D1.out.num LE.out hg hd)
      clear hd hg k2 m2
      have ROW := Lib.hid (RO.out.next (row_two (some rr) s1 s2 2 a1 a2 N1.out N2.out))
      have A3 : Hid (Below u2.heap.size u2 (u2.alloc (.cells #[.int .i64 (a1 : Int), .int .i64 (a2 : Int)] 41))) := Lib.hid ((Below.refl _ _).alloc (Nat.le_refl _) _)
      have GA := Lib.hid (D2.out.step A3.out)
      have OA := Lib.hid GA.out.o1
      have ZA : Hid (w.heap.size ≤ (u2.alloc (.cells #[.int .i64 (a1 : Int), .int .i64 (a2 : Int)] 41)).heap.size) := Lib.hid GA.out.below.size
      have TT : Hid (∀ U ∈ P ++ [[(a1 : Int), (a2 : Int)]], U.length = 2) := Lib.hid (mem_snoc T0.out rfl)
      have x0 := D2.out.box.c0
      have bS : P.length ≤ 256 := by have := Z0.out; omega
      go_wp2_with (at_builtin; refine wpList_append_own _ rfl (.tmp 36) (.tmp 42) 22 rfl w.heap.size 41 ie1 (.agg #[.int .i64 0, .int .i64 0]) 2 16 Try.underlying22 hi1 hi10 hi11 hi12 rfl (by decide) _ P.length _ rfl OA.out ⟨u2.heap.size, 0, none⟩ 1 1 [.int .i64 (a1 : Int), .int .i64 (a2 : Int)] rfl rfl (new_part u2 a1 a2) (by simp [Value.oneCell']) (by unfold maxLen; omega) (by omega) ZA.out ?_; intro v4 w4 ho hg _; obtain ⟨ao, nn, cc, rfl⟩ := own_isSlice ho; obtain ⟨hX, hG⟩ := GA.out.app1 (T := [(a1 : Int), (a2 : Int)]) LC.out rfl (by rw [flatV_snoc, List.length_append]; exact ho) hg; have GB := Lib.hid hG; have y0 := hX.c0; have f0 : w4.frozen? ⟨w.heap.size + 1, 0, none⟩ = false := frozen_of_row w4 _ 0 _ _ hX; clear ho hg hX hG)
      go_roundw
      case rel => exact ⟨j + 1, P ++ [[(a1 : Int), (a2 : Int)]], s2, _, by go_num, by omega, by have := Z0.out; simp; omega, TT.out, GB.out, ROW.out⟩
      case measure => simp [intOf]; omega
    · have PH0 : Hid (Phase pw st0 P st1) := Lib.hid (by
        refine Rows6.phase ?_
        rw [HN0.out]
        rcases hend with rfl | ⟨hlt', rfl⟩
        · exact RO.out
        · exact RO.out.stop (Nat.le_of_lt hlt'))
      have L0 : Hid (P.length ≤ 1000) := Lib.hid (by have := Z0.out; omega)
      have hend2 : j = n0 ∨ (j < n0 ∧ wr.cell? ⟨w.heap.size + 1 + 1, 2, none⟩ = some (.bool false)) := hend.imp id (fun h => ⟨h.1, by rw [fi, h.2]; rfl⟩)
      clear RO Z0 C0 HN0 fi hend
      rcases hend2 with rfl | ⟨hlt', fi⟩
      all_goals
        go_wp2_with fail
        obtain ⟨n1, c1, hn1, hm1, hl1⟩ := numO_one st1
        refine (rnumL_ok _ l st1 1 n1 c1 hm1 _ GP.out.rd).mono ?_
        rintro e w4 ⟨rfl, hd, hg⟩
        have C1 := Lib.hid (GP.out.num LE.out hg hd)
        have HN1 := Lib.hid hn1
        clear hd hg hn1 hm1
        go_wp2_with fail
        go_loopw [10] (fun i wr => GRel2 w (w.heap.size + 1) (w.heap.size + 1 + 1) l v1 P c1 n1 i wr) (fun i _ => (n1 - (intOf i).toNat))
        case atStart => exact ⟨0, [], c1, .slice none 0 0, rfl, Nat.zero_le _, rfl, by simp, C1.out, Rows6.zero _ _⟩
        case round =>
          obtain ⟨j, W, st2, v2, rfl, hj, hS, hT, hG, hrows⟩ := hrel
          have GW := Lib.hid hG
          have RO := Lib.hid hrows
          have T1 := Lib.hid hT
          have Z1 := Lib.hid hS
          have fi := hG.rd.fine
          clear hG hrows hT hS
          have hcase : (j < n1 ∧ ∃ rr, st2 = some rr) ∨ (j = n1 ∨ (j < n1 ∧ st2 = none)) := by
            rcases Nat.lt_or_ge j n1 with hlt | hge
            · cases st2 with
              | none => exact Or.inr (Or.inr ⟨hlt, rfl⟩)
              | some rr => exact Or.inl ⟨hlt, rr, rfl⟩
            · exact Or.inr (Or.inl (by omega))
          rcases hcase with ⟨hlt', rr, rfl⟩ | hend
          · rw [show (some rr : RdS).isSome = true from rfl] at fi
            go_wp2_with fail
            obtain ⟨a1, s1, k1, m1, b1⟩ := numO_one (some rr)
            have N1 := Lib.hid k1
            refine (rnumL_ok _ l (some rr) 1 a1 s1 m1 _ GW.out.rd).mono ?_
            rintro e u1 ⟨rfl, hd, hg⟩
            have D1 := Lib.hid (GW.out.num LE.out hg hd)
            clear hd hg k1 m1 fi
            go_wp2_with fail
            obtain ⟨a2, s2, k2, m2, b2⟩ := numO_one (s1)
            have N2 := Lib.hid k2
            refine (rnumL_ok _ l (s1) 1 a2 s2 m2 _ D1.out.rd).mono ?_
            rintro e u2 ⟨rfl, hd, hg⟩
            have D2 := Lib.hid (D1.out.num LE.out hg hd)
            clear hd hg k2 m2
            have ROW := Lib.hid (RO.out.next (row_two (some rr) s1 s2 1 a1 a2 N1.out N2.out))
            have A3 : Hid (Below u2.heap.size u2 (u2.alloc (.cells #[.int .i64 (a1 : Int), .int .i64 (a2 : Int)] 44))) := Lib.hid ((Below.refl _ _).alloc (Nat.le_refl _) _)
            have GA := Lib.hid (D2.out.step A3.out)
            have OA := Lib.hid GA.out.o2
            have ZA : Hid (w.heap.size ≤ (u2.alloc (.cells #[.int .i64 (a1 : Int), .int .i64 (a2 : Int)] 44)).heap.size) := Lib.hid GA.out.below.size
            have TT : Hid (∀ U ∈ W ++ [[(a1 : Int), (a2 : Int)]], U.length = 2) := Lib.hid (mem_snoc T1.out rfl)
            have x0 := D2.out.box.c1
            have bS : W.length ≤ 256 := by have := Z1.out; omega
            go_wp2_with (at_builtin; refine wpList_append_own _ rfl (.tmp 59) (.tmp 65) 23 rfl w.heap.size 44 ie2 (.agg #[.int .i64 0, .int .i64 0]) 2 16 Try.underlying23 hi2 hi20 hi21 hi22 rfl (by decide) _ W.length _ rfl OA.out ⟨u2.heap.size, 0, none⟩ 1 1 [.int .i64 (a1 : Int), .int .i64 (a2 : Int)] rfl rfl (new_win u2 a1 a2) (by simp [Value.oneCell']) (by unfold maxLen; omega) (by omega) ZA.out ?_; intro v4 w4 ho hg _; obtain ⟨ao, nn, cc, rfl⟩ := own_isSlice ho; obtain ⟨hX, hG⟩ := GA.out.app2 (T := [(a1 : Int), (a2 : Int)]) LC.out rfl (by rw [flatV_snoc, List.length_append]; exact ho) hg; have GB := Lib.hid hG; have y0 := hX.c1; have f0 : w4.frozen? ⟨w.heap.size + 1, 1, none⟩ = false := frozen_of_row w4 _ 1 _ _ hX; clear ho hg hX hG)
            go_roundw
            case rel => exact ⟨j + 1, W ++ [[(a1 : Int), (a2 : Int)]], s2, _, by go_num, by omega, by have := Z1.out; simp; omega, TT.out, GB.out, ROW.out⟩
            case measure => simp [intOf]; omega
          · have PH1 : Hid (Phase ww st1 W st2) := Lib.hid (by
              refine Rows6.phase ?_
              rw [HN1.out]
              rcases hend with rfl | ⟨hlt', rfl⟩
              · exact RO.out
              · exact RO.out.stop (Nat.le_of_lt hlt'))
            have L1 : Hid (W.length ≤ 1000) := Lib.hid (by have := Z1.out; omega)
            have hend2 : j = n1 ∨ (j < n1 ∧ wr.cell? ⟨w.heap.size + 1 + 1, 2, none⟩ = some (.bool false)) := hend.imp id (fun h => ⟨h.1, by rw [fi, h.2]; rfl⟩)
            clear RO Z1 C1 HN1 fi hend
            rcases hend2 with rfl | ⟨hlt', fi⟩
            all_goals
              go_wp2_with fail
              obtain ⟨n2, c2, hn2, hm2, hl2⟩ := numO_one st2
              refine (rnumL_ok _ l st2 1 n2 c2 hm2 _ GW.out.rd).mono ?_
              rintro e w5 ⟨rfl, hd, hg⟩
              have C2 := Lib.hid (GW.out.num LE.out hg hd)
              have HN2 := Lib.hid hn2
              clear hd hg hn2 hm2
              go_wp2_with fail
              go_loopw [13] (fun i wr => GRel3 w (w.heap.size + 1) (w.heap.size + 1 + 1) l v1 v2 P W c2 n2 i wr) (fun i _ => (n2 - (intOf i).toNat))
              case atStart => exact ⟨0, [], c2, .slice none 0 0, rfl, Nat.zero_le _, rfl, by simp, C2.out, Rows6.zero _ _⟩
              case round =>
                obtain ⟨j, H, st3, v3, rfl, hj, hS, hT, hG, hrows⟩ := hrel
                have GH := Lib.hid hG
                have RO := Lib.hid hrows
                have T2 := Lib.hid hT
                have Z2 := Lib.hid hS
                have fi := hG.rd.fine
                clear hG hrows hT hS
                have hcase : (j < n2 ∧ ∃ rr, st3 = some rr) ∨ (j = n2 ∨ (j < n2 ∧ st3 = none)) := by
                  rcases Nat.lt_or_ge j n2 with hlt | hge
                  · cases st3 with
                    | none => exact Or.inr (Or.inr ⟨hlt, rfl⟩)
                    | some rr => exact Or.inl ⟨hlt, rr, rfl⟩
                  · exact Or.inr (Or.inl (by omega))
                rcases hcase with ⟨hlt', rr, rfl⟩ | hend
                · rw [show (some rr : RdS).isSome = true from rfl] at fi
                  go_wp2_with fail
                  obtain ⟨a1, s1, k1, m1, b1⟩ := numO_one (some rr)
                  have N1 := Lib.hid k1
                  refine (rnumL_ok _ l (some rr) 1 a1 s1 m1 _ GH.out.rd).mono ?_
                  rintro e u1 ⟨rfl, hd, hg⟩
                  have D1 := Lib.hid (GH.out.num LE.out hg hd)
                  clear hd hg k1 m1 fi
                  go_wp2_with fail
                  obtain ⟨a2, s2, k2, m2, b2⟩ := numO_one (s1)
                  have N2 := Lib.hid k2
                  refine (rnumL_ok _ l (s1) 1 a2 s2 m2 _ D1.out.rd).mono ?_
                  rintro e u2 ⟨rfl, hd, hg⟩
                  have D2 := Lib.hid (D1.out.num LE.out hg hd)
                  clear hd hg k2 m2
                  go_wp2_with fail
                  obtain ⟨a3, s3, k3, m3, b3⟩ := numO_one (s2)
                  have N3 := Lib.hid k3
                  refine (rnumL_ok _ l (s2) 1 a3 s3 m3 _ D2.out.rd).mono ?_
                  rintro e u3 ⟨rfl, hd, hg⟩
                  have D3 := Lib.hid (D2.out.num LE.out hg hd)
                  clear hd hg k3 m3
                  go_wp2_with fail
                  obtain ⟨a4, s4, k4, m4, b4⟩ := numO_one (s3)
                  have N4 := Lib.hid k4
                  refine (rnumL_ok _ l (s3) 1 a4 s4 m4 _ D3.out.rd).mono ?_
                  rintro e u4 ⟨rfl, hd, hg⟩
                  have D4 := Lib.hid (D3.out.num LE.out hg hd)
                  clear hd hg k4 m4
                  have ROW := Lib.hid (RO.out.next (row_four (some rr) s1 s2 s3 s4 a1 a2 a3 a4 N1.out N2.out N3.out N4.out))
                  have A3 : Hid (Below u4.heap.size u4 (u4.alloc (.cells #[.int .i64 (a1 : Int), .int .i64 (a2 : Int), .int .i64 (a3 : Int), .int .i64 (a4 : Int)] 46))) := Lib.hid ((Below.refl _ _).alloc (Nat.le_refl _) _)
                  have GA := Lib.hid (D4.out.step A3.out)
                  have OA := Lib.hid GA.out.o3
                  have ZA : Hid (w.heap.size ≤ (u4.alloc (.cells #[.int .i64 (a1 : Int), .int .i64 (a2 : Int), .int .i64 (a3 : Int), .int .i64 (a4 : Int)] 46)).heap.size) := Lib.hid GA.out.below.size
                  have TT : Hid (∀ U ∈ H ++ [[(a1 : Int), (a2 : Int), (a3 : Int), (a4 : Int)]], U.length = 4) := Lib.hid (mem_snoc T2.out rfl)
                  have x0 := D4.out.box.c2
                  have bS : H.length ≤ 256 := by have := Z2.out; omega
                  go_wp2_with (at_builtin; refine wpList_append_own _ rfl (.tmp 84) (.tmp 94) 24 rfl w.heap.size 46 ie3 (.agg #[.int .i64 0, .int .i64 0, .int .i64 0, .int .i64 0]) 4 32 Try.underlying24 hi3 hi30 hi31 hi32 rfl (by decide) _ H.length _ rfl OA.out ⟨u4.heap.size, 0, none⟩ 1 1 [.int .i64 (a1 : Int), .int .i64 (a2 : Int), .int .i64 (a3 : Int), .int .i64 (a4 : Int)] rfl rfl (new_chan u4 a1 a2 a3 a4) (by simp [Value.oneCell']) (by unfold maxLen; omega) (by omega) ZA.out ?_; intro v4 w4 ho hg _; obtain ⟨ao, nn, cc, rfl⟩ := own_isSlice ho; obtain ⟨hX, hG⟩ := GA.out.app3 (T := [(a1 : Int), (a2 : Int), (a3 : Int), (a4 : Int)]) LC.out rfl (by rw [flatV_snoc, List.length_append]; exact ho) hg; have GB := Lib.hid hG; have y0 := hX.c2; have f0 : w4.frozen? ⟨w.heap.size + 1, 2, none⟩ = false := frozen_of_row w4 _ 2 _ _ hX; clear ho hg hX hG)
                  go_roundw
                  case rel => exact ⟨j + 1, H ++ [[(a1 : Int), (a2 : Int), (a3 : Int), (a4 : Int)]], s4, _, by go_num, by omega, by have := Z2.out; simp; omega, TT.out, GB.out, ROW.out⟩
                  case measure => simp [intOf]; omega
                · have PH2 : Hid (Phase cw st2 H st3) := Lib.hid (by
                    refine Rows6.phase ?_
                    rw [HN2.out]
                    rcases hend with rfl | ⟨hlt', rfl⟩
                    · exact RO.out
                    · exact RO.out.stop (Nat.le_of_lt hlt'))
                  have L2 : Hid (H.length ≤ 1000) := Lib.hid (by have := Z2.out; omega)
                  have hend2 : j = n2 ∨ (j < n2 ∧ wr.cell? ⟨w.heap.size + 1 + 1, 2, none⟩ = some (.bool false)) := hend.imp id (fun h => ⟨h.1, by rw [fi, h.2]; rfl⟩)
                  clear RO Z2 C2 HN2 fi hend
                  rcases hend2 with rfl | ⟨hlt', fi⟩
                  all_goals
                    have PA := Lib.hid (parse_phases (by rw [ST0.out]; exact PH0.out) PH1.out PH2.out)
                    have CF := Lib.hid (show CfAt wr v1 v2 v3 (P, W, H) from ⟨own_rows GH.out.o1 T0.out L0.out, own_rows GH.out.o2 T1.out L1.out, own_rows GH.out.o3 T2.out L2.out⟩)
                    obtain ⟨ax, nx, cx, rfl⟩ := own_isSlice GH.out.o1
                    obtain ⟨ay, ny, cy, rfl⟩ := own_isSlice GH.out.o2
                    obtain ⟨az, nz, cz, rfl⟩ := own_isSlice GH.out.o3
                    have g0 := GH.out.box.c0
                    have g1 := GH.out.box.c1
                    have g2 := GH.out.box.c2
                    have r0 := GH.out.res.c0
                    have r1 := GH.out.res.c1
                    have r2 := GH.out.res.c2
                    have z0 : wr.frozen? ⟨w.heap.size, 0, none⟩ = false := frozen_of_row wr _ 0 _ _ GH.out.res
                    have z1 : wr.frozen? ⟨w.heap.size, 1, none⟩ = false := frozen_of_row wr _ 1 _ _ GH.out.res
                    have z2 : wr.frozen? ⟨w.heap.size, 2, none⟩ = false := frozen_of_row wr _ 2 _ _ GH.out.res
                    have fin := GH.out.rd.fine
                    obtain ⟨hXr, hGr⟩ := GH.out.res.put (.slice none 0 0) (.slice none 0 0) (.slice none 0 0)
                    have XR := Lib.hid hXr
                    have BR := Lib.hid (GH.out.below.trans (below_of_grownBy hGr GH.out.below.size (Nat.le_refl _)))
                    clear hXr hGr
                    cases st3 with
                    | none =>
                      rw [show (none : RdS).isSome = false from rfl] at fin
                      have eP : parse l = none := PA.out
                      have eE : getE l = 6 := by unfold getE; rw [eP]
                      have eC : getC l = ([], [], []) := by unfold getC; rw [eP]
                      have EE := Lib.hid eE
                      have EC := Lib.hid eC
                      clear eP eE eC
                      go_wp2
                      have q0 := XR.out.c0
                      have q1 := XR.out.c1
                      have q2 := XR.out.c2
                      refine ⟨rfl, .tuple #[.agg #[.slice none 0 0, .slice none 0 0, .slice none 0 0], .int .i64 6], ?_, .slice none 0 0, .slice none 0 0, .slice none 0 0, by rw [EE.out], by rw [EC.out]; exact CfAt.nil _, BR.out⟩
                      simp [results, Try.results20, go_sem, q0, q1, q2]
                    | some rr =>
                      rw [show (some rr : RdS).isSome = true from rfl] at fin
                      try (exact absurd (fin.symm.trans fi) (by simp))
                      all_goals
                        obtain ⟨a, fa, ha, hrr⟩ := GH.out.rd.at_
                        by_cases hz : rr = []
                        · have hal : a = l.length := by
                            have := congrArg List.length hrr
                            rw [hz, List.length_drop] at this
                            simp at this; omega
                          subst hal
                          have eP : parse l = some (P, W, H) := by rw [PA.out]; simp [hz]
                          have eE : getE l = chk (P, W, H) := by unfold getE; rw [eP]
                          have EP := Lib.hid eP
                          have EE := Lib.hid eE
                          clear eP eE hrr hz
                          go_wp2_with fail
                          refine (rcheck_ok _ _ _ (P, W, H) wr CF.out).mono ?_
                          rintro e w9 ⟨rfl, hb⟩
                          have K9 := Lib.hid (GH.out.below.trans (hb.mono GH.out.below.size))
                          have X9 := Lib.hid (GH.out.res.below hb)
                          have Y9 := Lib.hid (GH.out.box.below hb)
                          have C9 := Lib.hid (CF.out.below hb)
                          have r0 := X9.out.c0
                          have r1 := X9.out.c1
                          have r2 := X9.out.c2
                          have z0 : w9.frozen? ⟨w.heap.size, 0, none⟩ = false := frozen_of_row w9 _ 0 _ _ X9.out
                          have z1 : w9.frozen? ⟨w.heap.size, 1, none⟩ = false := frozen_of_row w9 _ 1 _ _ X9.out
                          have z2 : w9.frozen? ⟨w.heap.size, 2, none⟩ = false := frozen_of_row w9 _ 2 _ _ X9.out
                          clear hb g0 g1 g2
                          by_cases hk : chk (P, W, H) = 0
                          · rw [hk]
                            have eC : getC l = (P, W, H) := by unfold getC; rw [EP.out]; simp [hk]
                            have EC := Lib.hid eC
                            have EK := Lib.hid hk
                            have g0 := Y9.out.c0
                            have g1 := Y9.out.c1
                            have g2 := Y9.out.c2
                            obtain ⟨hX, hG⟩ := X9.out.put (.slice ax nx cx) (.slice ay ny cy) (.slice az nz cz)
                            have XX := Lib.hid hX
                            have GG := Lib.hid hG
                            clear hX hG hk eC
                            go_wp2
                            have q0 := XX.out.c0
                            have q1 := XX.out.c1
                            have q2 := XX.out.c2
                            refine ⟨rfl, .tuple #[.agg #[.slice ax nx cx, .slice ay ny cy, .slice az nz cz], .int .i64 0], ?_, .slice ax nx cx, .slice ay ny cy, .slice az nz cz, by rw [EE.out, EK.out], by rw [EC.out]; exact C9.out.box (CfAt.nil _) X9.out GG.out, K9.out.trans (below_of_grownBy GG.out K9.out.size (Nat.le_refl _))⟩
                            simp [results, Try.results20, go_sem, q0, q1, q2]
                          · have eC : getC l = ([], [], []) := by unfold getC; rw [EP.out]; simp [hk]
                            have EC := Lib.hid eC
                            obtain ⟨x, hx⟩ : ∃ x, x = chk (P, W, H) := ⟨_, rfl⟩
                            rw [← hx] at hk EE ⊢
                            have hkb : (x != 0) = true := by simpa using hk
                            obtain ⟨hX, hG⟩ := X9.out.put (.slice none 0 0) (.slice none 0 0) (.slice none 0 0)
                            have XX := Lib.hid hX
                            have GG := Lib.hid hG
                            clear hX hG eC hx
                            go_wp2
                            have q0 := XX.out.c0
                            have q1 := XX.out.c1
                            have q2 := XX.out.c2
                            refine ⟨rfl, .tuple #[.agg #[.slice none 0 0, .slice none 0 0, .slice none 0 0], .int .i64 x], ?_, .slice none 0 0, .slice none 0 0, .slice none 0 0, by rw [EE.out], by rw [EC.out]; exact CfAt.nil _, K9.out.trans (below_of_grownBy GG.out K9.out.size (Nat.le_refl _))⟩
                            simp [results, Try.results20, go_sem, q0, q1, q2]
                        · have hne : ¬ (a : Int) = (l.length : Int) := by
                            intro e
                            have e2 : a = l.length := by omega
                            rw [e2, List.drop_length] at hrr
                            exact hz hrr
                          have eP : parse l = none := by rw [PA.out]; simp [hz]
                          have eE : getE l = 6 := by unfold getE; rw [eP]
                          have eC : getC l = ([], [], []) := by unfold getC; rw [eP]
                          have EE := Lib.hid eE
                          have EC := Lib.hid eC
                          clear eP eE eC hrr hz
                          go_wp2
                          have q0 := XR.out.c0
                          have q1 := XR.out.c1
                          have q2 := XR.out.c2
                          refine ⟨rfl, .tuple #[.agg #[.slice none 0 0, .slice none 0 0, .slice none 0 0], .int .i64 6], ?_, .slice none 0 0, .slice none 0 0, .slice none 0 0, by rw [EE.out], by rw [EC.out]; exact CfAt.nil _, BR.out⟩
                          simp [results, Try.results20, go_sem, q0, q1, q2]
end Go.Proofs.Ytpgoddbijkolbaa
