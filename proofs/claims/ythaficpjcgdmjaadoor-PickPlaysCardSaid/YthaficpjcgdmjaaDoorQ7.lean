/- The contracts of package pick's Take, All. Conditions: the library's table reads as its initialiser lays it; the set lies as New laid it, or there is none, or nobody made it. -/
import Derived.Test.YthaficpjcgdmjaaDoorQ6
namespace Go.Proofs.YthaficpjcgdmjaaDoor
open Go.RowKit
set_option maxRecDepth 100000

/-- What Take answers, and what is left. -/
def takeA : List Nat → Int × Int × List Nat
  | [] => (0, 4, [])
  | n :: r => (n, 0, r)
theorem Turn.ahead {w w1 w' : World} {b : Nat} {L : List Nat} (hb : Below w.heap.size w w1) (h : Turn w1 w' b L) : Turn w w' b L := ⟨h.st, grownBy_trans (grownBy_of_below hb _) h.grown⟩
theorem drop_head (b n : Nat) (r : List Nat) (w : World) (h : SetAt w b (n :: r)) : Calls Tryd.prog 15 #[.pointer (some ⟨b, 0, none⟩), .int .i64 (n : Int)] w fun e w' => e = .returned (.int .i64 0) ∧ Turn w w' b r := by
  have := drop_any b (n :: r) n w h
  have hn := h.good.top n (by simp)
  have h1 : numB (n : Int) = true := (numB_iff _).2 (by omega)
  rwa [show dropE (n :: r) (n : Int) = 0 by simp [dropE, h1], show dropL (n :: r) (n : Int) = r by simp [dropL, h1, del_head h.good]] at this
set_option maxHeartbeats 1000000 in
theorem take_ok (b : Nat) (L : List Nat) (w : World) (h : SetAt w b L) (hT : LaidQ w) : Calls Tryd.prog 11 #[.pointer (some ⟨b, 0, none⟩)] w fun e w' => e = .returned (.tuple #[.int .i64 (takeA L).1, .int .i64 (takeA L).2.1]) ∧ Turn w w' b (takeA L).2.2 := by
  have H := Lib.hid h
  have HT := Lib.hid hT
  clear h hT
  have hlt := HT.out.lt
  cases L with
  | nil =>
    go_enter Tryd.func11, Tryd.ntmps11
    go_wp2_with (first
      | (go_at_call 22; refine (isThere_some b true _ H.out.made).mono ?_; rintro e w' ⟨rfl, rfl⟩)
      | (go_at_call 23; refine (rising_ok b [] _ H.out).mono ?_; rintro e w1 ⟨ba, bw, rfl, hI, hB, h1, h2⟩; have I := Lib.hid hI; have B := Lib.hid hB; clear hI hB)
      | (go_at_call 27; refine (next_ok ba bw 0 [] _ I.out (HT.out.below B.out) (by omega) (by omega)).mono ?_; rintro e w2 ⟨rfl, _, ht⟩; have B2 := Lib.hid (B.out.trans (ht.below B.out.size h1 h2)); clear ht; simp only [nextA]))
    go_ret2
    exact ⟨rfl, Turn.stay H.out B2.out⟩
  | cons n r =>
    go_enter Tryd.func11, Tryd.ntmps11
    go_wp2_with (first
      | (go_at_call 22; refine (isThere_some b true _ H.out.made).mono ?_; rintro e w' ⟨rfl, rfl⟩)
      | (go_at_call 23; refine (rising_ok b (n :: r) _ H.out).mono ?_; rintro e w1 ⟨ba, bw, rfl, hI, hB, h1, h2⟩; have I := Lib.hid hI; have B := Lib.hid hB; clear hI hB)
      | (go_at_call 27; refine (next_ok ba bw 0 (n :: r) _ I.out (HT.out.below B.out) (by omega) (by omega)).mono ?_; rintro e w2 ⟨rfl, _, ht⟩; have B2 := Lib.hid (B.out.trans (ht.below B.out.size h1 h2)); clear ht; simp only [nextA])
      | (go_at_call 15; refine (drop_head b n r _ (H.out.below B2.out)).mono ?_; rintro e w3 ⟨rfl, ht⟩; have T := Lib.hid (Turn.ahead B2.out ht); clear ht))
    go_ret2
    exact ⟨rfl, T.out⟩
theorem take_no (p : Option Addr) (w : World) (h : NoSet w p) : Calls Tryd.prog 11 #[.pointer p] w fun e w' => e = .returned (.tuple #[.int .i64 0, .int .i64 1]) ∧ w = w' := by
  have H := Lib.hid h
  clear h
  go_enter Tryd.func11, Tryd.ntmps11
  go_wp2_with (go_at_call 22; refine (isThere_no p _ H.out).mono ?_; rintro e w' ⟨rfl, rfl⟩)
  go_ret2
  exact ⟨rfl, rfl⟩

/-- Numbers, as cells. -/
def natsV (L : List Nat) : List Value := L.map fun (n : Nat) => .int .i64 (n : Int)
theorem natsV_length (L : List Nat) : (natsV L).length = L.length := by simp [natsV]
theorem natsV_snoc (L : List Nat) (n : Nat) : natsV (L ++ [n]) = natsV L ++ [.int .i64 (n : Int)] := by simp [natsV]
theorem intInfoQ : (Tryd.prog.info? 3).map (fun i => (i.zero, i.size, i.bytes)) = some (some (.int .i64 0), 1, 8) := by kernel_rfl
theorem one_atQ (w : World) (u : Value) (t : TypeId) : ∀ (j : Nat) (x : Value), [u][j]? = some x → (w.alloc (.cells #[u] t)).cell? ((⟨w.heap.size, 0, none⟩ : Addr).add j) = some x := fun j x hx => by
  rw [Addr.add_mid, cell_of_row _ _ _ _ _ _ (heap_alloc_new w _)]
  match j, hx with
  | 0, hx => exact hx
  | j + 1, hx => simp at hx
theorem own_two {w w' : World} {base p q k n : Nat} {e : TypeId} {v : Value} {xs : List Value} (h : w.ownsRow base e k v n xs) (ht : Two w w' p q) (hp : p < base) (hq : q < base) : w'.ownsRow base e k v n xs := by
  refine ⟨h.1, ?_⟩
  rcases h.2 with hn | ⟨g, cap, cur, rfl, hb, hg, rest⟩
  · exact .inl hn
  · exact .inr ⟨g, cap, cur, rfl, hb, (ht.block g (lt_of_block hg) (by omega) (by omega)).trans hg, rest⟩
theorem own_base {w : World} {base base' k n : Nat} {e : TypeId} {v : Value} {xs : List Value} (h : w.ownsRow base e k v n xs) (hb : base' ≤ base) : w.ownsRow base' e k v n xs := by
  refine ⟨h.1, ?_⟩
  rcases h.2 with hn | ⟨g, cap, cur, rfl, hb', rest⟩
  · exact .inl hn
  · exact .inr ⟨g, cap, cur, rfl, Nat.le_trans hb hb', rest⟩
theorem own_step {w w' : World} {base k n : Nat} {e : TypeId} {v : Value} {xs : List Value} (h : w.ownsRow base e k v n xs) (hb : Below w.heap.size w w') : w'.ownsRow base e k v n xs :=
  h.kept (grownBy_of_below hb none) (by cases hv : v.ownBlock <;> simp)
def lenV : Value → Nat | .slice _ n _ => n | _ => 0
theorem own_len {w : World} {base k n : Nat} {e : TypeId} {v : Value} {xs : List Value} (h : w.ownsRow base e k v n xs) : lenV v = n := by
  rcases h.2 with ⟨rfl, rfl⟩ | ⟨g, cap, cur, rfl, _⟩ <;> rfl
def AllRel (w : World) (base ba bw : Nat) (L : List Nat) (l n ok : Value) (wr : World) : Prop :=
  ∃ done left a, L = done ++ left ∧ wr.ownsRow base 3 1 l done.length (natsV done) ∧ n = .int .i64 (nextA left).1 ∧ ok = .bool (nextA left).2.1 ∧ Iter wr ba bw a (nextA left).2.2 ∧ Below w.heap.size w wr ∧ base ≤ wr.heap.size
def AllPost (w : World) (L : List Nat) (e : Ending) (w' : World) : Prop := ∃ v, e = .returned v ∧ w'.ownsRow w.heap.size 3 1 v L.length (natsV L) ∧ Below w.heap.size w w'
set_option maxHeartbeats 2000000 in
theorem all_ok (b : Nat) (L : List Nat) (w : World) (h : SetAt w b L) (hT : LaidQ w) : Calls Tryd.prog 20 #[.pointer (some ⟨b, 0, none⟩)] w (AllPost w L) := by
  obtain ⟨ii, hi, hi0, hi1, hi2⟩ := info_parts intInfoQ
  have H := Lib.hid h
  have HT := Lib.hid hT
  have hlt := HT.out.lt
  have hL := h.good.length
  clear h hT
  go_enter Tryd.func20, Tryd.ntmps20
  go_wp2_with fail
  refine (rising_ok b L _ H.out).mono ?_
  rintro e w1 ⟨ba, bw, rfl, hI, hB, h1, h2⟩
  have I := Lib.hid hI
  have B := Lib.hid hB
  have l1 := lt_of_block hI.at_
  have l2 := lt_of_block hI.row
  obtain ⟨base, hbase⟩ : ∃ base, base = w1.heap.size := ⟨_, rfl⟩
  rw [← hbase] at l1 l2
  have HB := Lib.hid hbase
  have hbw : w.heap.size ≤ base := by rw [hbase]; exact hB.size
  clear hI hB hbase
  go_wp2_with fail
  refine (next_ok ba bw 0 L _ I.out (HT.out.below B.out) (by omega) (by omega)).mono ?_
  rintro e w2 ⟨rfl, ⟨a, hI⟩, ht⟩
  have S : Hid (AllRel w base ba bw L (.slice none 0 0) (.int .i64 (nextA L).1) (.bool (nextA L).2.1) w2) := Lib.hid ⟨[], L, a, rfl, World.ownsRow_nil _ _ _ _, rfl, rfl, hI, B.out.trans (ht.below B.out.size h1 h2), by rw [HB.out]; exact ht.size⟩
  clear hI ht I
  generalize hxx : (nextA L).1 = xx at S ⊢
  generalize hyy : (nextA L).2.1 = yy at S ⊢
  clear hxx hyy
  go_wp2_with fail
  go_loopw [3, 5, 6] (fun l n ok wr => AllRel w base ba bw L l n ok wr) (fun l _ _ _ => L.length - lenV l)
  case atStart => exact S.out
  case round =>
    obtain ⟨done, left, a, hdl, hown, rfl, rfl, hI, hB, hbs⟩ := hrel
    have O := Lib.hid hown
    have I := Lib.hid hI
    have B3 := Lib.hid hB
    have DL := Lib.hid hdl
    have hlen : L.length = done.length + left.length := by rw [hdl, List.length_append]
    clear hown hI hB hdl
    cases left with
    | nil =>
      simp only [nextA]
      go_wp2
      go_ret
      exact ⟨_, rfl, by rw [DL.out, List.append_nil]; exact own_base O.out hbw, B3.out⟩
    | cons n r =>
      simp only [nextA] at I ⊢
      rw [List.length_cons] at hlen
      have O2 := Lib.hid (O.out.alloc (.cells #[.int .i64 (n : Int)] 3))
      have A2 : Hid (Below wr.heap.size wr (wr.alloc (.cells #[.int .i64 (n : Int)] 3))) := Lib.hid ((Below.refl _ _).alloc (Nat.le_refl _) _)
      have I2 := Lib.hid (I.out.below A2.out)
      have LN := Lib.hid (own_len O.out)
      go_wp2_with (at_builtin; refine wpList_append_own _ rfl (.tmp 20) (.tmp 22) 28 rfl base 3 ii (.int .i64 0) 1 8 Tryd.underlying28 hi hi0 hi1 hi2 rfl (by decide) _ done.length _ rfl O2.out ⟨wr.heap.size, 0, none⟩ 1 1 [.int .i64 (n : Int)] rfl rfl (one_atQ wr _ _) (by simp [Value.oneCell']) (by unfold maxLen; omega) (by omega) (Nat.le_trans hbs A2.out.size) ?_; intro v3 w3 ho hg _)
      have O3 : Hid (w3.ownsRow base 3 1 v3 (done ++ [n]).length (natsV (done ++ [n]))) := Lib.hid (by rw [natsV_snoc, List.length_append]; exact ho)
      have hrow := fun k hk => (O2.out.lt k hk).1
      have I3 := Lib.hid (I2.out.kept (hg.block ba (Nat.lt_of_lt_of_le l1 (Nat.le_trans hbs A2.out.size)) (fun e => by have := hrow ba e.symm; omega)) (hg.block bw (Nat.lt_of_lt_of_le l2 (Nat.le_trans hbs A2.out.size)) (fun e => by have := hrow bw e.symm; omega)))
      have B4 := Lib.hid ((B3.out.trans (A2.out.mono B3.out.size)).grown hg (Nat.le_trans B3.out.size A2.out.size) (fun k hk => Nat.le_trans hbw (hrow k hk)))
      have hs3 := Nat.le_trans hbs (Nat.le_trans A2.out.size hg.size)
      have L3 := Lib.hid (own_len ho)
      clear ho hg hrow
      go_wp2_with fail
      refine (next_ok ba bw a r _ I3.out (HT.out.below B4.out) (by omega) (by omega)).mono ?_
      rintro e w4 ⟨rfl, ⟨a', hI⟩, ht⟩
      have S4 : Hid (AllRel w base ba bw L v3 (.int .i64 (nextA r).1) (.bool (nextA r).2.1) w4) := Lib.hid ⟨done ++ [n], r, a', by rw [DL.out, List.append_assoc]; rfl, own_two O3.out ht l1 l2, rfl, rfl, hI, B4.out.trans (ht.below B4.out.size h1 h2), Nat.le_trans hs3 ht.size⟩
      clear hI ht
      generalize hxx : (nextA r).1 = xx at S4 ⊢
      generalize hyy : (nextA r).2.1 = yy at S4 ⊢
      clear hxx hyy
      go_wp2
      go_roundw
      case rel => exact S4.out
      case measure => rw [LN.out, L3.out]; omega
theorem all_no (p : Option Addr) (w : World) (h : NoSet w p) : Calls Tryd.prog 20 #[.pointer p] w fun e w' => e = .returned (.slice none 0 0) ∧ w = w' := by
  have H := Lib.hid h
  clear h
  go_enter Tryd.func20, Tryd.ntmps20
  go_wp2_with fail
  refine (rising_no p _ H.out).mono ?_
  rintro e w' ⟨rfl, rfl⟩
  go_wp2_with fail
  refine (none_ok _).mono ?_
  rintro e w' ⟨rfl, rfl⟩
  go_wp2_with fail
  obtain ⟨W, hW⟩ : ∃ W, W = w := ⟨_, rfl⟩
  have HW := Lib.hid hW
  clear hW
  go_loopw [3, 6] (fun l ok wr => l = .slice none 0 0 ∧ ok = .bool false ∧ wr = W) (fun _ _ _ => 0)
  case atStart => exact ⟨rfl, rfl, HW.out.symm⟩
  case round =>
    obtain ⟨rfl, rfl, rfl⟩ := hrel
    go_wp2
    go_ret
    exact ⟨rfl, HW.out.symm⟩
end Go.Proofs.YthaficpjcgdmjaaDoor
