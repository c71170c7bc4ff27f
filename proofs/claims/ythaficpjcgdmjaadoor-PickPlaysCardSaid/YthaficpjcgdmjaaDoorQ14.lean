/- The walk of PickOrder. Conditions: the library's table reads as its initialiser lays it; the slice lies as it says. -/
import Derived.Test.YthaficpjcgdmjaaDoorOQ
import Derived.BigQuiet
namespace Go.Proofs.YthaficpjcgdmjaaDoor
open Go.RowKit
set_option maxRecDepth 100000

theorem good_ext : ∀ (L K : List Nat), L.Pairwise (· < ·) → K.Pairwise (· < ·) → (∀ n, n ∈ L ↔ n ∈ K) → L = K
  | [], [], _, _, _ => rfl
  | [], k :: s, _, _, h => absurd ((h k).2 (by simp)) (by simp)
  | n :: r, [], _, _, h => absurd ((h n).1 (by simp)) (by simp)
  | n :: r, k :: s, hL, hK, h => by
    obtain ⟨l1, l2⟩ := List.pairwise_cons.1 hL
    obtain ⟨k1, k2⟩ := List.pairwise_cons.1 hK
    have e : n = k := by
      rcases List.mem_cons.1 ((h n).1 (by simp)) with e | e
      · exact e
      · rcases List.mem_cons.1 ((h k).2 (by simp)) with e' | e'
        · exact e'.symm
        · have := k1 n e; have := l1 k e'; omega
    subst e
    rw [good_ext r s l2 k2 fun m => ?_]
    constructor
    · intro hm
      rcases List.mem_cons.1 ((h m).1 (by simp [hm])) with e | e
      · have := l1 m hm; omega
      · exact e
    · intro hm
      rcases List.mem_cons.1 ((h m).2 (by simp [hm])) with e | e
      · have := k1 m hm; omega
      · exact e
theorem mem_putL (L : List Nat) (x : Int) (m : Nat) : m ∈ putL L x ↔ m ∈ L ∨ (numB x = true ∧ x.toNat = m) := by
  unfold putL
  cases hx : numB x with
  | false => simp
  | true =>
    rw [if_pos rfl]
    split
    · rename_i h
      constructor
      · exact Or.inl
      · rintro (h1 | ⟨_, h1⟩)
        · exact h1
        · rw [← h1]; exact h
    · rw [mem_ins]
      constructor
      · rintro (h1 | h1)
        · exact Or.inr ⟨rfl, h1.symm⟩
        · exact Or.inl h1
      · rintro (h1 | ⟨_, h1⟩)
        · exact Or.inr h1
        · exact Or.inl h1.symm
/-- Numbers that are put, one behind the other. -/
def adds (L : List Nat) (P : List Int) : List Nat := P.foldl putL L
theorem mem_adds : ∀ (P : List Int) (L : List Nat) (m : Nat), m ∈ adds L P ↔ m ∈ L ∨ ∃ x ∈ P, numB x = true ∧ x.toNat = m
  | [], L, m => by simp [adds]
  | x :: P, L, m => by
    have := mem_adds P (putL L x) m
    rw [adds, List.foldl_cons, ← adds, this, mem_putL]
    simp only [List.mem_cons, exists_eq_or_imp]
    exact or_assoc
theorem adds_take (P : List Int) (k : Nat) (h : k < P.length) : adds [] (P.take (k + 1)) = putL (adds [] (P.take k)) (P.getD k 0) := by
  rw [List.take_succ_eq_append_getElem h, adds, List.foldl_append, List.getD_eq_getElem?_getD, List.getElem?_eq_getElem h]
  rfl

/-- Two sets of a law's own. -/
structure Pair (W w : World) (a b : Nat) (L K : List Nat) : Prop where
  one : OwnSet W w a L
  two : OwnSet W w b K
  ne : a ≠ b
theorem Pair.step {W w w' : World} {a b : Nat} {L K : List Nat} (h : Pair W w a b L K) (k : Below w.heap.size w w') : Pair W w' a b L K := ⟨h.one.step k, h.two.step k, h.ne⟩
theorem Pair.turn1 {W w w' : World} {a b : Nat} {L L' K : List Nat} (h : Pair W w a b L K) (k : Turn w w' a L') : Pair W w' a b L' K :=
  ⟨h.one.turn k, ⟨h.two.st.kept k.grown (fun e => h.ne (Option.some.inj e).symm), (h.one.turn k).below, h.two.le, h.two.laid⟩, h.ne⟩
theorem Pair.turn2 {W w w' : World} {a b : Nat} {L K K' : List Nat} (h : Pair W w a b L K) (k : Turn w w' b K') : Pair W w' a b L K' :=
  ⟨⟨h.one.st.kept k.grown (fun e => h.ne (Option.some.inj e)), (h.two.turn k).below, h.one.le, h.one.laid⟩, h.two.turn k, h.ne⟩
theorem own_turn {w w' : World} {base k n b : Nat} {e : TypeId} {v : Value} {xs : List Value} {L : List Nat} (h : w.ownsRow base e k v n xs) (ht : Turn w w' b L) (hb : b < base) : w'.ownsRow base e k v n xs :=
  h.kept ht.grown (Or.inr fun e => by have := (h.lt b e).1; omega)

theorem own_first {w : World} {base n g o c : Nat} {e : TypeId} {x : Nat} {r : List Nat} (h : w.ownsRow base e 1 (.slice (some ⟨g, o, none⟩) n c) n (natsV (x :: r))) : w.cell? ⟨g, o, none⟩ = some (.int .i64 (x : Int)) := by
  have h' := h
  rcases h.2 with ⟨h1, _⟩ | ⟨g', cap, cur, h1, _⟩
  · cases h1
  · cases h1
    have := h'.cells (g := g) rfl 0 _ (natsV_get (x :: r) 0 (by simp))
    rwa [Addr.add_mid] at this
theorem order_long (m c : Nat) (a : Option Addr) (W : World) (hm : 100 < m) (hT : LaidQ W) : Calls Tryd.prog 6 #[.slice a m c] W fun e w' => e = .returned (.bool true) ∧ Below W.heap.size W w' := by
  have HT := Lib.hid hT
  clear hT
  go_enter Tryd.func6, Tryd.ntmps6
  go_wp2_with (go_at_call 8; refine (awake8 _ HT.out).mono ?_; rintro e w2 ⟨rfl, hb⟩; have B := Lib.hid hb; clear hb)
  go_ret
  exact ⟨rfl, B.out⟩

def Order1 (W : World) (pa pb m : Nat) (L : List Int) (i : Value) (wr : World) : Prop := ∃ k : Nat, i = .int .i64 (k : Int) ∧ k ≤ m ∧ Pair W wr pa pb (adds [] (L.take k)) (adds [] (L.reverse.take k))
theorem reverse_get (L : List Int) (k : Nat) (h : k < L.length) : L.reverse.getD k 0 = L.getD (L.length - 1 - k) 0 := by
  simp [List.getD_eq_getElem?_getD, List.getElem?_reverse h]
theorem up_get {L : List Nat} (h : L.Pairwise (· < ·)) (k : Nat) (h1 : 1 ≤ k) (h2 : k < L.length) : L.getD (k - 1) 0 < L.getD k 0 := by
  have := List.pairwise_iff_getElem.1 h (k - 1) k (by omega) h2 (by omega)
  rw [List.getD_eq_getElem?_getD, List.getD_eq_getElem?_getD, List.getElem?_eq_getElem h2, List.getElem?_eq_getElem (show k - 1 < L.length by omega)]
  exact this

set_option maxHeartbeats 8000000 in
theorem order_in (L : List Int) (a : Option Addr) (c : Nat) (W : World) (hl : L.length ≤ 100) (hT : LaidQ W) (hc : L = [] ∨ ∃ b o, a = some ⟨b, o, none⟩ ∧ b < W.heap.size ∧ ∀ i, i < L.length → W.cell? ⟨b, o + i, none⟩ = some (.int .i64 (L.getD i 0))) :
    Calls Tryd.prog 6 #[.slice a L.length c] W fun e w' => e = .returned (.bool true) ∧ Below W.heap.size W w' := by
  have HC := Lib.hid hc
  have HT := Lib.hid hT
  obtain ⟨m, hm⟩ : ∃ m, m = L.length := ⟨_, rfl⟩
  rw [← hm] at hl ⊢
  have HM := Lib.hid hm
  have hd : decide (100 < m) = false := decide_eq_false (by omega)
  have N0 : Hid (∀ w, Calls Tryd.prog 9 #[.int .i64 0, .int .i64 0] w (NewSet w [])) := Lib.hid (fun w => new_set 0 0 w (by decide) (by decide))
  clear hc hT hm
  go_enter Tryd.func6, Tryd.ntmps6
  go_wp2_with fail
  refine (N0.out _).mono ?_
  rintro e w1 hp
  obtain ⟨pa, rfl, ho⟩ := OwnSet.new HT.out hp
  have O1 := Lib.hid ho
  clear hp ho
  go_wp2_with fail
  refine (N0.out _).mono ?_
  rintro e w2 ⟨pb, rfl, h1, h2, h3⟩
  have P2 : Hid (Pair W w2 pa pb [] []) := Lib.hid ⟨O1.out.step h3, ⟨h1, O1.out.below.trans (h3.mono O1.out.below.size), Nat.le_trans O1.out.below.size h2, HT.out⟩, by have := O1.out.st.lt; omega⟩
  clear h1 h2 h3
  go_wp2_with fail
  go_loopw [7] (fun i wr => Order1 W pa pb m L i wr) (fun i _ => m - (intOf i).toNat)
  case atStart => exact ⟨0, rfl, Nat.zero_le _, P2.out⟩
  case round =>
    obtain ⟨k, rfl, hk, hp⟩ := hrel
    have P := Lib.hid hp
    clear hp
    by_cases hlt : k < m
    · obtain ⟨b, o, rfl, hbW, hcell⟩ := HC.out.resolve_left (by intro e; have := HM.out; rw [e] at this; simp at this; omega)
      have c1 := (P.out.one.below.cell (p := ⟨b, o + k, none⟩) hbW).trans (hcell k (by have := HM.out; omega))
      obtain ⟨j, hj, hj2, hj3⟩ : ∃ j : Nat, (m : Int) - 1 - (k : Int) = (j : Int) ∧ j < m ∧ j = m - 1 - k := ⟨m - 1 - k, by omega, by omega, rfl⟩
      have wj : IntKind.i64.wrap (j : Int) = (j : Int) := by rw [IntKind.wrap_i64]; omega
      have c2 := hcell j (by have := HM.out; omega)
      have A1 := adds_take L k (by have := HM.out; omega)
      have A2 := adds_take L.reverse k (by rw [List.length_reverse]; have := HM.out; omega)
      rw [reverse_get L k (by have := HM.out; omega), ← HM.out, ← hj3] at A2
      generalize L.getD k 0 = x at c1 A1
      generalize L.getD j 0 = y at c2 A2
      have A1 := Lib.hid A1
      have A2 := Lib.hid A2
      have C2 := Lib.hid c2
      clear hcell c2 hj3
      go_wp2_with fail
      refine (put_any pa _ x _ P.out.one.st).mono ?_
      rintro e w3 ⟨rfl, ht⟩
      have P3 := Lib.hid (P.out.turn1 ht)
      have c2 := (P3.out.one.below.cell (p := ⟨b, o + j, none⟩) hbW).trans C2.out
      clear ht c1
      go_wp2_with fail
      refine (put_any pb _ y _ P3.out.two.st).mono ?_
      rintro e w4 ⟨rfl, ht⟩
      have P4 := Lib.hid (P3.out.turn2 ht)
      clear ht c2
      go_wp2
      go_roundw
      case rel => exact ⟨k + 1, by go_num, by omega, by rw [A1.out, A2.out]; exact P4.out⟩
      case measure => simp [intOf]; omega
    · obtain rfl : k = m := by omega
      have hP := P.out
      have e1 : L.take k = L := by rw [HM.out, List.take_length]
      have e2 : L.reverse.take k = L.reverse := by rw [HM.out, ← List.length_reverse, List.take_length]
      rw [e1, e2] at hP
      have e3 := good_ext _ _ hP.two.st.good.up hP.one.st.good.up (fun n => by simp [mem_adds])
      rw [e3] at hP
      generalize adds [] L = M at hP
      have P := Lib.hid hP
      clear hP hlt HC e1 e2 e3
      go_wp2_with fail
      refine (all_ok pa M _ P.out.one.st P.out.one.table).mono ?_
      rintro e w3 ⟨v, rfl, ho, hb⟩
      have P3 := Lib.hid (P.out.step hb)
      have la : pa < wr.heap.size := P.out.one.st.lt
      have hup := Lib.hid P.out.one.st.good.up
      have hn1024 : M.length ≤ 1024 := P.out.one.st.good.length
      have R3 := Lib.hid (own_irow ho)
      obtain ⟨a3, c3, rfl, hcells⟩ := R3.out.open_
      obtain ⟨n, hn⟩ : ∃ n, n = M.length := ⟨_, rfl⟩
      rw [← hn] at hcells hn1024 ho R3 ⊢
      have HN := Lib.hid hn
      have OV := Lib.hid ho
      have HC := Lib.hid hcells
      obtain ⟨base, hbase⟩ : ∃ base, base = wr.heap.size := ⟨_, rfl⟩
      rw [← hbase] at OV la
      clear hb ho hcells hn hbase P
      go_wp2_with fail
      go_loopw [9] (fun i wr' => ∃ k : Nat, i = .int .i64 (k : Int) ∧ 1 ≤ k ∧ (k ≤ n ∨ k = 1) ∧ Below w3.heap.size w3 wr') (fun i _ => n + 1 - (intOf i).toNat)
      case atStart => exact ⟨1, rfl, Nat.le_refl _, Or.inr rfl, Below.refl _ _⟩
      case round =>
        obtain ⟨q, rfl, hq1, hq2, hb⟩ := hrel
        have B := Lib.hid hb
        by_cases hlt : q < n
        · obtain ⟨g, o, rfl, hg, hcell⟩ := HC.out q (by have := HN.out; omega)
          have x2 := (hb.cell (p := ⟨g, o + q, none⟩) hg).trans (hcell q (by have := HN.out; omega))
          obtain ⟨j, hj, hj2, hj3⟩ : ∃ j : Nat, (q : Int) - 1 = (j : Int) ∧ j < n ∧ j = q - 1 := ⟨q - 1, by omega, by omega, rfl⟩
          have x1 := (hb.cell (p := ⟨g, o + j, none⟩) hg).trans (hcell j (by have := HN.out; omega))
          have hxy := up_get hup.out q hq1 (by have := HN.out; omega)
          rw [← hj3] at hxy
          have d1 : decide (((M.getD q 0 : Nat) : Int) ≤ ((M.getD j 0 : Nat) : Int)) = false := decide_eq_false (by omega)
          generalize ((M.getD q 0 : Nat) : Int) = y at x2 d1
          generalize ((M.getD j 0 : Nat) : Int) = x at x1 d1
          clear hcell hb hj3 hxy
          go_wp2_with fail
          go_quiet (fail)
          go_wp2
          go_roundw
          case rel => exact ⟨q + 1, by go_num, by omega, Or.inl hlt, below_drewN B.out _⟩
          case measure => simp [intOf]; omega
        · have P4 := Lib.hid (P3.out.step hb)
          have R4 := Lib.hid (R3.out.below hb)
          have OV4 := Lib.hid (own_step OV.out hb)
          clear hb
          go_wp2_with fail
          refine (all_ok pb M _ P4.out.two.st P4.out.two.table).mono ?_
          rintro e w5 ⟨v2, rfl, ho, hb⟩
          have R5 := Lib.hid (own_irow ho)
          have P5 := Lib.hid (P4.out.step hb)
          have R5' := Lib.hid (R4.out.below hb)
          have OV5 := Lib.hid (own_step OV4.out hb)
          clear ho hb
          go_wp2_with fail
          refine (rsame_ok M _ _ _ R5'.out R5.out (by have := HN.out; omega)).mono ?_
          rintro e w6 ⟨rfl, hb⟩
          have P6 := Lib.hid (P5.out.step hb)
          have OV6 := Lib.hid (own_step OV5.out hb)
          clear hb
          go_wp2_with fail
          refine (len_is HN.out.symm P6.out.one.st).mono ?_
          rintro e w7 ⟨rfl, rfl⟩
          cases M with
          | nil =>
            obtain rfl : n = 0 := HN.out
            go_wp2_with fail
            refine (take_is (show takeA [] = (0, 4, []) from rfl) P6.out.one.st P6.out.one.table).mono ?_
            rintro e w8 ⟨rfl, ht⟩
            have P7 := Lib.hid (P6.out.turn1 ht)
            clear ht
            go_wp2_with fail
            refine (awake8 _ P7.out.one.table).mono ?_
            rintro e w9 ⟨rfl, hb⟩
            have P8 := Lib.hid (P7.out.step hb)
            clear hb
            go_wp2
            go_ret
            exact ⟨rfl, P8.out.one.below⟩
          | cons x r =>
            have hn0 : 0 < n := by have := HN.out; simp at this; omega
            have hgood := P6.out.one.st.good
            have hx := hgood.top x (by simp)
            have N1 := Lib.hid (show hasB' r (x : Int) = false by
              have : x ∉ r := fun hm => by have := hgood.head x hm; omega
              simp [hasB', this])
            have N2 := Lib.hid (show hasB' (x :: r) (x : Int) = true by
              have : numB (x : Int) = true := (numB_iff _).2 (by omega)
              simp [hasB', this])
            clear hgood
            go_wp2_with fail
            refine (take_is (show takeA (x :: r) = ((x : Int), 0, r) from rfl) P6.out.one.st P6.out.one.table).mono ?_
            rintro e w8 ⟨rfl, ht⟩
            have P7 := Lib.hid (P6.out.turn1 ht)
            have OV7 := Lib.hid (own_turn OV6.out ht la)
            obtain ⟨g, o, rfl, hg, hcell⟩ := HC.out 0 hn0
            have hc0 : w8.cell? ⟨g, o, none⟩ = some (.int .i64 (x : Int)) := own_first OV7.out
            clear ht hcell
            generalize (x : Int) = z at *
            go_wp2_with fail
            refine (has_is N1.out P7.out.one.st).mono ?_
            rintro e w9 ⟨rfl, hb⟩
            have P8 := Lib.hid (P7.out.step hb)
            clear hb
            go_wp2_with fail
            refine (has_is N2.out P8.out.two.st).mono ?_
            rintro e w10 ⟨rfl, hb⟩
            have P9 := Lib.hid (P8.out.step hb)
            clear hb
            go_wp2_with fail
            refine (awake8 _ P9.out.one.table).mono ?_
            rintro e w11 ⟨rfl, hb⟩
            have P10 := Lib.hid (P9.out.step hb)
            clear hb
            go_wp2
            go_ret
            exact ⟨rfl, P10.out.one.below⟩
theorem pickOrder_walk (v : Value) (L : List Int) (W : World) (h : ArgInts W v L) (hT : LaidQ W) : Calls Tryd.prog 6 #[v] W fun e w' => e = .returned (.bool true) ∧ Below W.heap.size W w' := by
  obtain ⟨a, c, rfl, _, hc⟩ := h
  by_cases hl : 100 < L.length
  · exact order_long L.length c a W hl hT
  · exact order_in L a c W (by omega) hT hc
end Go.Proofs.YthaficpjcgdmjaaDoor
