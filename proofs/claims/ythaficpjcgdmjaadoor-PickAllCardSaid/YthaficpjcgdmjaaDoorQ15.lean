/- The walk of PickAll. Conditions: the library's table reads as its initialiser lays it; the slice lies as it says. -/
import Derived.Test.YthaficpjcgdmjaaDoorQ13
import Derived.Test.YthaficpjcgdmjaaDoorQ14
namespace Go.Proofs.YthaficpjcgdmjaaDoor
open Go.RowKit
set_option maxRecDepth 100000

/-- Numbers that are dropped, one behind the other. -/
def dels (L : List Nat) (P : List Int) : List Nat := P.foldl dropL L
theorem dels_take (L : List Nat) (P : List Int) (k : Nat) (h : k < P.length) : dels L (P.take (k + 1)) = dropL (dels L (P.take k)) (P.getD k 0) := by
  rw [List.take_succ_eq_append_getElem h, dels, List.foldl_append, List.getD_eq_getElem?_getD, List.getElem?_eq_getElem h]
  rfl
theorem drop_at (M : List Nat) (k : Nat) (h : k < M.length) : M.drop k = M.getD k 0 :: M.drop (k + 1) := by
  rw [List.drop_eq_getElem_cons h, List.getD_eq_getElem?_getD, List.getElem?_eq_getElem h]
  rfl
theorem take_at (M : List Nat) (k : Nat) (h : k < M.length) : M.take (k + 1) = M.take k ++ [M.getD k 0] := by
  rw [List.take_succ_eq_append_getElem h, List.getD_eq_getElem?_getD, List.getElem?_eq_getElem h]
  rfl
theorem put_head {b x : Nat} {r : List Nat} {w : World} (h : SetAt w b r) (hg : Good (x :: r)) : Calls Tryd.prog 13 #[.pointer (some ⟨b, 0, none⟩), .int .i64 (x : Int)] w fun e w' => e = .returned (.int .i64 0) ∧ Turn w w' b (x :: r) := by
  have h1 : numB (x : Int) = true := (numB_iff _).2 (by have := hg.top x (by simp); omega)
  have h2 : x ∉ r := fun hm => by have := hg.head x hm; omega
  have h3 : ins r x = x :: r := by
    cases r with
    | nil => rfl
    | cons y s => rw [ins, if_pos (hg.head y (by simp))]
  exact put_is (by simp [putE, h1, h2]) (by simp [putL, h1, h2, h3]) h
theorem Good.drop {L : List Nat} (h : Good L) (k : Nat) : Good (L.drop k) := ⟨h.up.sublist (List.drop_sublist k L), fun n hn => h.top n (List.mem_of_mem_drop hn)⟩

theorem own_far {w w' : World} {base base2 k n n2 : Nat} {e : TypeId} {v t : Value} {xs ys : List Value} (h : w.ownsRow base e k v n xs) (hv : ∀ g, v.ownBlock = some g → g < base2) (ht : w.ownsRow base2 e k t n2 ys) (hg : w.grownBy w' t.ownBlock) : w'.ownsRow base e k v n xs := by
  refine h.kept hg ?_
  cases hb : v.ownBlock with
  | none => exact Or.inl rfl
  | some g =>
    refine Or.inr fun e => ?_
    have h1 := hv g hb
    have h2 := (ht.lt g e.symm).1
    omega
theorem set_far {w w' : World} {base2 k n2 b : Nat} {e : TypeId} {t : Value} {ys : List Value} {L : List Nat} (h : SetAt w b L) (hb : b < base2) (ht : w.ownsRow base2 e k t n2 ys) (hg : w.grownBy w' t.ownBlock) : SetAt w' b L :=
  h.kept hg (fun e => by have := (ht.lt b e.symm).1; omega)

theorem own_at {w : World} {base n n' c : Nat} {e : TypeId} {a : Option Addr} {M : List Nat} (h : w.ownsRow base e 1 (.slice a n c) n' (natsV M)) (k : Nat) (hk : k < M.length) : ∃ b o, a = some ⟨b, o, none⟩ ∧ w.cell? ⟨b, o + k, none⟩ = some (.int .i64 ((M.getD k 0 : Nat) : Int)) := by
  have h' := h
  rcases h.2 with ⟨_, h0⟩ | ⟨g, cap, cur, h1, _⟩
  · have := h.1; rw [natsV_length, h0] at this; omega
  · cases h1
    refine ⟨g, 0, rfl, ?_⟩
    have := h'.cells (g := g) rfl k _ (natsV_get M k hk)
    rwa [Addr.add_mid] at this
theorem all_long (f m : Int) (q c : Nat) (a : Option Addr) (W : World) (hf : -9223372036854775808 ≤ f ∧ f ≤ 9223372036854775807) (hm : -9223372036854775808 ≤ m ∧ m ≤ 9223372036854775807) (hq : newB f m = false ∨ 200 < q) (hT : LaidQ W) : Calls Tryd.prog 5 #[.int .i64 f, .int .i64 m, .slice a q c] W fun e w' => e = .returned (.bool true) ∧ Below W.heap.size W w' := by
  have HT := Lib.hid hT
  clear hT
  cases h : newB f m with
  | false =>
    have C := Lib.hid (new_bad f m W hf hm h)
    clear h hf hm hq
    go_enter Tryd.func5, Tryd.ntmps5
    go_wp2_with (first
      | (go_at_call 9; refine C.out.mono ?_; rintro e w' ⟨rfl, rfl⟩)
      | (go_at_call 8; refine (awake8 _ HT.out).mono ?_; rintro e w2 ⟨rfl, hb⟩; have B := Lib.hid hb; clear hb))
    go_ret
    exact ⟨rfl, B.out⟩
  | true =>
    have hq : 200 < q := by
      rcases hq with hq | hq
      · rw [h] at hq; cases hq
      · exact hq
    obtain ⟨f, m, rfl, rfl, h1, h2⟩ := newB_yes h
    have C := Lib.hid (new_set f m W h1 h2)
    clear h hf hm
    go_enter Tryd.func5, Tryd.ntmps5
    go_wp2_with (first
      | (go_at_call 9; refine C.out.mono ?_; rintro e w1 hp; obtain ⟨b, rfl, ho⟩ := OwnSet.new HT.out hp; have O1 := Lib.hid ho; clear hp ho)
      | (go_at_call 8; refine (awake8 _ O1.out.table).mono ?_; rintro e w2 ⟨rfl, hb⟩; have O2 := Lib.hid (O1.out.step hb); clear hb))
    go_ret
    exact ⟨rfl, O2.out.below⟩

def All1 (W : World) (p q : Nat) (L : List Nat) (P : List Int) (i : Value) (wr : World) : Prop := ∃ k : Nat, i = .int .i64 (k : Int) ∧ k ≤ q ∧ OwnSet W wr p (dels L (P.take k))
/-- What is kept from the second loop on: the set, all of its numbers as they were told, and those that were taken. -/
structure Tooks (W w : World) (p base base2 : Nat) (M K T : List Nat) (va vt : Value) : Prop where
  set : OwnSet W w p K
  all : w.ownsRow base 3 1 va M.length (natsV M)
  took : w.ownsRow base2 3 1 vt T.length (natsV T)
  lt1 : p < base
  lt2 : base ≤ base2
  far : ∀ g, va.ownBlock = some g → g < base2
  size : base2 ≤ w.heap.size
theorem Tooks.step {W w w' : World} {p base base2 : Nat} {M K T : List Nat} {va vt : Value} (h : Tooks W w p base base2 M K T va vt) (hb : Below w.heap.size w w') : Tooks W w' p base base2 M K T va vt :=
  ⟨h.set.step hb, own_step h.all hb, own_step h.took hb, h.lt1, h.lt2, h.far, Nat.le_trans h.size hb.size⟩
theorem Tooks.turn {W w w' : World} {p base base2 : Nat} {M K K' T : List Nat} {va vt : Value} (h : Tooks W w p base base2 M K T va vt) (ht : Turn w w' p K') : Tooks W w' p base base2 M K' T va vt :=
  ⟨h.set.turn ht, own_turn h.all ht h.lt1, own_turn h.took ht (Nat.lt_of_lt_of_le h.lt1 h.lt2), h.lt1, h.lt2, h.far, Nat.le_trans h.size ht.grown.size⟩
theorem Tooks.grow {W w w' : World} {p base base2 : Nat} {M K T T' : List Nat} {va vt vt' : Value} (h : Tooks W w p base base2 M K T va vt) (hg : w.grownBy w' vt.ownBlock) (ho : w'.ownsRow base2 3 1 vt' T'.length (natsV T')) : Tooks W w' p base base2 M K T' va vt' :=
  ⟨⟨set_far h.set.st (Nat.lt_of_lt_of_le h.lt1 h.lt2) h.took hg, h.set.below.grown hg h.set.below.size (fun k hk => by have := (h.took.lt k hk).1; have := h.lt1; have := h.lt2; have := h.set.le; omega), h.set.le, h.set.laid⟩, own_far h.all h.far h.took hg, ho, h.lt1, h.lt2, h.far, Nat.le_trans h.size hg.size⟩
set_option maxHeartbeats 8000000 in
theorem all_in (f m : Nat) (P : List Int) (a : Option Addr) (c : Nat) (W : World) (hf : f < 1024) (hm : f + m ≤ 1024) (hl : P.length ≤ 200) (hT : LaidQ W) (hc : P = [] ∨ ∃ b o, a = some ⟨b, o, none⟩ ∧ b < W.heap.size ∧ ∀ i, i < P.length → W.cell? ⟨b, o + i, none⟩ = some (.int .i64 (P.getD i 0))) :
    Calls Tryd.prog 5 #[.int .i64 f, .int .i64 m, .slice a P.length c] W fun e w' => e = .returned (.bool true) ∧ Below W.heap.size W w' := by
  obtain ⟨ii, hi, hi0, hi1, hi2⟩ := info_parts intInfoQ
  have HC := Lib.hid hc
  have HT := Lib.hid hT
  obtain ⟨q, hq⟩ : ∃ q, q = P.length := ⟨_, rfl⟩
  rw [← hq] at hl ⊢
  have HQ := Lib.hid hq
  have hd : decide (200 < q) = false := decide_eq_false (by omega)
  have C := Lib.hid (new_set f m W hf hm)
  generalize span f m = L at C
  clear hc hT hq hf hm
  go_enter Tryd.func5, Tryd.ntmps5
  go_wp2_with fail
  refine C.out.mono ?_
  rintro e w1 hp
  obtain ⟨p, rfl, ho⟩ := OwnSet.new HT.out hp
  have O1 := Lib.hid ho
  clear hp ho
  go_wp2_with fail
  go_loopw [9] (fun i wr => All1 W p q L P i wr) (fun i _ => q - (intOf i).toNat)
  case atStart => exact ⟨0, rfl, Nat.zero_le _, O1.out⟩
  case round =>
    obtain ⟨k, rfl, hk, hp⟩ := hrel
    have O := Lib.hid hp
    clear hp
    by_cases hlt : k < q
    · obtain ⟨b, o, rfl, hbW, hcell⟩ := HC.out.resolve_left (by intro e; have := HQ.out; rw [e] at this; simp at this; omega)
      have c1 := (O.out.below.cell (p := ⟨b, o + k, none⟩) hbW).trans (hcell k (by have := HQ.out; omega))
      have A1 := dels_take L P k (by have := HQ.out; omega)
      generalize P.getD k 0 = x at c1 A1
      have A1 := Lib.hid A1
      clear hcell
      go_wp2_with fail
      refine (drop_any p _ x _ O.out.st).mono ?_
      rintro e w3 ⟨rfl, ht⟩
      have O3 := Lib.hid (O.out.turn ht)
      clear ht c1
      go_wp2
      go_roundw
      case rel => exact ⟨k + 1, by go_num, by omega, by rw [A1.out]; exact O3.out⟩
      case measure => simp [intOf]; omega
    · obtain rfl : k = q := by omega
      generalize dels L (P.take k) = M at O
      clear HC
      go_wp2_with fail
      refine (all_ok p M _ O.out.st O.out.table).mono ?_
      rintro e w3 ⟨v, rfl, ho, hb⟩
      have hn1024 : M.length ≤ 1024 := O.out.st.good.length
      have GM := Lib.hid O.out.st.good
      have TS : Hid (Tooks W w3 p wr.heap.size w3.heap.size M (M.drop 0) (M.take 0) v (.slice none 0 0)) := Lib.hid ⟨O.out.step hb, ho, World.ownsRow_nil _ _ _ _, O.out.st.lt, hb.size, fun g hg => (ho.lt g hg).2, Nat.le_refl _⟩
      have R3 := Lib.hid (own_irow ho)
      obtain ⟨a3, c3, rfl, _⟩ := R3.out.open_
      obtain ⟨n, hn⟩ : ∃ n, n = M.length := ⟨_, rfl⟩
      rw [← hn] at hn1024 R3 TS ⊢
      have HN := Lib.hid hn
      obtain ⟨base, hbase⟩ : ∃ base, base = wr.heap.size := ⟨_, rfl⟩
      obtain ⟨base2, hbase2⟩ : ∃ base2, base2 = w3.heap.size := ⟨_, rfl⟩
      rw [← hbase, ← hbase2] at TS
      clear hb ho hn hbase hbase2 O R3 hlt
      go_wp2_with fail
      go_loopw [11, 12] (fun t i wr' => ∃ k : Nat, i = .int .i64 (k : Int) ∧ k ≤ n + 1 ∧ Tooks W wr' p base base2 M (M.drop k) (M.take k) (.slice a3 n c3) t) (fun _ i _ => n + 1 - (intOf i).toNat)
      case atStart => exact ⟨0, rfl, Nat.zero_le _, TS.out⟩
      case round =>
        obtain ⟨j, rfl, hj, ht⟩ := hrel
        have T := Lib.hid ht
        clear ht
        by_cases hlt : j < n
        · have DA := drop_at M j (by have := HN.out; omega)
          have TA := Lib.hid (take_at M j (by have := HN.out; omega))
          obtain ⟨x, hx⟩ : ∃ x, x = M.getD j 0 := ⟨_, rfl⟩
          rw [← hx] at DA TA
          have htl : (M.take j).length ≤ 1024 := by rw [List.length_take]; omega
          have TK := take_is (show takeA (M.drop j) = ((x : Int), 0, M.drop (j + 1)) by rw [DA]; rfl) T.out.set.st T.out.set.table
          have TK := Lib.hid TK
          clear DA hx
          go_wp2_with fail
          refine TK.out.mono ?_
          rintro e w4 ⟨rfl, ht⟩
          have T4 := Lib.hid (T.out.turn ht)
          have T5 := Lib.hid (T4.out.step ((Below.refl _ _).alloc (Nat.le_refl _) (.cells #[.int .i64 (x : Int)] 3)))
          clear ht
          go_wp2_with (at_builtin; refine wpList_append_own _ rfl (.tmp 64) (.tmp 66) 28 rfl base2 3 ii (.int .i64 0) 1 8 Tryd.underlying28 hi hi0 hi1 hi2 rfl (by decide) _ (M.take j).length _ rfl T5.out.took ⟨w4.heap.size, 0, none⟩ 1 1 [.int .i64 (x : Int)] rfl rfl (one_atQ w4 _ _) (by simp [Value.oneCell']) (by unfold maxLen; omega) (by omega) T5.out.size ?_; intro v6 w6 ho hg _)
          have T6 : Hid (Tooks W w6 p base base2 M (M.drop (j + 1)) (M.take (j + 1)) (.slice a3 n c3) v6) := Lib.hid (T5.out.grow hg (by rw [TA.out, natsV_snoc, List.length_append]; exact ho))
          clear ho hg
          go_wp2
          go_roundw
          case rel => exact ⟨j + 1, by go_num, by omega, T6.out⟩
          case measure => simp [intOf]; omega
        · by_cases hje : j = n
          · subst hje
            have DA : M.drop j = [] := List.drop_eq_nil_of_le (by have := HN.out; omega)
            have DA1 : M.drop (j + 1) = [] := List.drop_eq_nil_of_le (by have := HN.out; omega)
            have TA1 : M.take (j + 1) = M := List.take_of_length_le (by have := HN.out; omega)
            have TA : M.take j = M := List.take_of_length_le (by have := HN.out; omega)
            have TK := Lib.hid (take_is (show takeA (M.drop j) = (0, 4, M.drop (j + 1)) by rw [DA, DA1]; rfl) T.out.set.st T.out.set.table)
            rw [TA] at T
            have TA1 := Lib.hid TA1
            clear DA DA1 TA
            go_wp2_with fail
            refine TK.out.mono ?_
            rintro e w4 ⟨rfl, ht⟩
            have T4 := Lib.hid (T.out.turn ht)
            clear ht
            go_wp2
            go_roundw
            case rel => exact ⟨j + 1, by go_num, by omega, by rw [TA1.out]; exact T4.out⟩
            case measure => simp [intOf]
          · obtain rfl : j = n + 1 := by omega
            have T0 := T.out
            rw [List.take_of_length_le (show M.length ≤ n + 1 by have := HN.out; omega), List.drop_eq_nil_of_le (show M.length ≤ n + 1 by have := HN.out; omega)] at T0
            have T := Lib.hid T0
            have RT := Lib.hid (own_irow T0.took)
            obtain ⟨a4, c4, rfl⟩ : ∃ a4 c4, u11 = .slice a4 n c4 := by
              obtain ⟨a4, c4, e, _⟩ := RT.out.open_
              exact ⟨a4, c4, by rw [e, ← HN.out]⟩
            clear T0 hlt hje hj
            go_wp2_with fail
            refine (rsame_ok M _ _ _ RT.out (own_irow T.out.all) (by have := HN.out; omega)).mono ?_
            rintro e w4 ⟨rfl, hb⟩
            have T4 := Lib.hid (T.out.step hb)
            clear hb RT
            go_wp2_with fail
            refine (len_is (show ([] : List Nat).length = 0 from rfl) T4.out.set.st).mono ?_
            rintro e w5 ⟨rfl, rfl⟩
            have T5 : Hid (Tooks W w4 p base base2 M (M.drop (n - 0)) M (.slice a3 n c3) (.slice a4 n c4)) := Lib.hid (by rw [List.drop_eq_nil_of_le (show M.length ≤ n - 0 by have := HN.out; omega)]; exact T4.out)
            clear T4
            go_wp2_with fail
            go_loopw [15] (fun i wr' => ∃ k : Nat, i = .int .i64 (k : Int) ∧ k ≤ n ∧ Tooks W wr' p base base2 M (M.drop (n - k)) M (.slice a3 n c3) (.slice a4 n c4)) (fun i _ => n - (intOf i).toNat)
            case atStart => exact ⟨0, rfl, Nat.zero_le _, T5.out⟩
            case round =>
              obtain ⟨k2, rfl, hk2, ht⟩ := hrel
              have T6 := Lib.hid ht
              clear ht
              by_cases hlt : k2 < n
              · obtain ⟨j, hj, hj2, hj3⟩ : ∃ j : Nat, (n : Int) - 1 - (k2 : Int) = (j : Int) ∧ j < n ∧ j + 1 = n - k2 := ⟨n - 1 - k2, by omega, by omega, by omega⟩
                have wj : IntKind.i64.wrap (j : Int) = (j : Int) := by rw [IntKind.wrap_i64]; omega
                have DA := drop_at M j (by have := HN.out; omega)
                obtain ⟨g, o, rfl, hcell⟩ := own_at T6.out.took j (by have := HN.out; omega)
                have e2 : n - (k2 + 1) = j := by omega
                have G := Lib.hid (GM.out.drop j)
                rw [DA] at G
                have PH := Lib.hid (put_head (b := p) (x := M.getD j 0) (r := M.drop (j + 1)) (by have := T6.out.set.st; rwa [← hj3] at this) G.out)
                rw [← DA] at PH
                have E2 := Lib.hid e2
                clear DA e2 hj3 G
                generalize M.getD j 0 = x at hcell PH
                go_wp2_with fail
                refine PH.out.mono ?_
                rintro e w7 ⟨rfl, ht⟩
                have T7 := Lib.hid (T6.out.turn ht)
                clear ht
                go_wp2
                go_roundw
                case rel => exact ⟨k2 + 1, by go_num, by omega, by rw [E2.out]; exact T7.out⟩
                case measure => simp [intOf]; omega
              · obtain rfl : k2 = n := by omega
                have T7 := T6.out
                rw [Nat.sub_self, List.drop_zero] at T7
                have T7 := Lib.hid T7
                clear T6 hlt
                go_wp2_with fail
                refine (all_ok p M _ T7.out.set.st T7.out.set.table).mono ?_
                rintro e w8 ⟨v8, rfl, ho, hb⟩
                have R8 := Lib.hid (own_irow ho)
                have T8 := Lib.hid (T7.out.step hb)
                clear ho hb
                go_wp2_with fail
                refine (rsame_ok M _ _ _ R8.out (own_irow T8.out.all) (by have := HN.out; omega)).mono ?_
                rintro e w9 ⟨rfl, hb⟩
                have T9 := Lib.hid (T8.out.step hb)
                clear hb
                go_wp2_with fail
                refine (awake8 _ T9.out.set.table).mono ?_
                rintro e w10 ⟨rfl, hb⟩
                have T10 := Lib.hid (T9.out.step hb)
                clear hb
                go_wp2
                go_ret
                exact ⟨rfl, T10.out.set.below⟩
theorem pickAll_walk (f m : Int) (v : Value) (P : List Int) (W : World) (hf : -9223372036854775808 ≤ f ∧ f ≤ 9223372036854775807) (hm : -9223372036854775808 ≤ m ∧ m ≤ 9223372036854775807) (h : ArgInts W v P) (hT : LaidQ W) : Calls Tryd.prog 5 #[.int .i64 f, .int .i64 m, v] W fun e w' => e = .returned (.bool true) ∧ Below W.heap.size W w' := by
  obtain ⟨a, c, rfl, _, hc⟩ := h
  by_cases hq : newB f m = false ∨ 200 < P.length
  · exact all_long f m P.length c a W hf hm hq hT
  · simp only [not_or, Bool.not_eq_false] at hq
    obtain ⟨f, m, rfl, rfl, h1, h2⟩ := newB_yes hq.1
    exact all_in f m P a c W h1 h2 (by omega) hT hc
end Go.Proofs.YthaficpjcgdmjaaDoor
