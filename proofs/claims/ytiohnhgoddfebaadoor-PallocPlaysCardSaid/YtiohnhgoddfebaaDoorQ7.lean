/- The contracts of package pick's Take, All. Conditions: the library's table reads as its initialiser lays it; the set lies as New laid it, or there is none, or nobody made it. -/
import Derived.Test.YtiohnhgoddfebaaDoorQ6
namespace Go.Proofs.YtiohnhgoddfebaaDoor
open Go.RowKit
set_option maxRecDepth 100000

/-- What Take answers, and what is left. -/
def takeA : List Nat → Int × Int × List Nat
  | [] => (0, 4, [])
  | n :: r => (n, 0, r)
theorem Turn.ahead {w w1 w' : World} {b : Nat} {L : List Nat} (hb : Below w.heap.size w w1) (h : Turn w1 w' b L) : Turn w w' b L := ⟨h.st, grownBy_trans (grownBy_of_below hb _) h.grown⟩
theorem drop_head (b n : Nat) (r : List Nat) (w : World) (h : SetAt w b (n :: r)) : Calls Tryd.prog 55 #[.pointer (some ⟨b, 0, none⟩), .int .i64 (n : Int)] w fun e w' => e = .returned (.int .i64 0) ∧ Turn w w' b r := by
  have := drop_any b (n :: r) n w h
  have hn := h.good.top n (by simp)
  have h1 : numB (n : Int) = true := (numB_iff _).2 (by omega)
  rwa [show dropE (n :: r) (n : Int) = 0 by simp [dropE, h1], show dropL (n :: r) (n : Int) = r by simp [dropL, h1, del_head h.good]] at this
set_option maxHeartbeats 1000000 in
theorem take_ok (b : Nat) (L : List Nat) (w : World) (h : SetAt w b L) (hT : LaidQ w) : Calls Tryd.prog 41 #[.pointer (some ⟨b, 0, none⟩)] w fun e w' => e = .returned (.tuple #[.int .i64 (takeA L).1, .int .i64 (takeA L).2.1]) ∧ Turn w w' b (takeA L).2.2 := by
  have H := Lib.hid h
  have HT := Lib.hid hT
  clear h hT
  have hlt := HT.out.lt
  cases L with
  | nil =>
    go_enter Tryd.func41, Tryd.ntmps41
    go_wp2_with (first
      | (go_at_call 53; refine (isThere_some b true _ H.out.made).mono ?_; rintro e w' ⟨rfl, rfl⟩)
      | (go_at_call 54; refine (rising_ok b [] _ H.out).mono ?_; rintro e w1 ⟨ba, bw, rfl, hI, hB, h1, h2⟩; have I := Lib.hid hI; have B := Lib.hid hB; clear hI hB)
      | (go_at_call 62; refine (next_ok ba bw 0 [] _ I.out (HT.out.below B.out) (by omega) (by omega)).mono ?_; rintro e w2 ⟨rfl, _, ht⟩; have B2 := Lib.hid (B.out.trans (ht.below B.out.size h1 h2)); clear ht; simp only [nextA]))
    go_ret2
    exact ⟨rfl, Turn.stay H.out B2.out⟩
  | cons n r =>
    go_enter Tryd.func41, Tryd.ntmps41
    go_wp2_with (first
      | (go_at_call 53; refine (isThere_some b true _ H.out.made).mono ?_; rintro e w' ⟨rfl, rfl⟩)
      | (go_at_call 54; refine (rising_ok b (n :: r) _ H.out).mono ?_; rintro e w1 ⟨ba, bw, rfl, hI, hB, h1, h2⟩; have I := Lib.hid hI; have B := Lib.hid hB; clear hI hB)
      | (go_at_call 62; refine (next_ok ba bw 0 (n :: r) _ I.out (HT.out.below B.out) (by omega) (by omega)).mono ?_; rintro e w2 ⟨rfl, _, ht⟩; have B2 := Lib.hid (B.out.trans (ht.below B.out.size h1 h2)); clear ht; simp only [nextA])
      | (go_at_call 55; refine (drop_head b n r _ (H.out.below B2.out)).mono ?_; rintro e w3 ⟨rfl, ht⟩; have T := Lib.hid (Turn.ahead B2.out ht); clear ht))
    go_ret2
    exact ⟨rfl, T.out⟩
theorem take_no (p : Option Addr) (w : World) (h : NoSet w p) : Calls Tryd.prog 41 #[.pointer p] w fun e w' => e = .returned (.tuple #[.int .i64 0, .int .i64 1]) ∧ w = w' := by
  have H := Lib.hid h
  clear h
  go_enter Tryd.func41, Tryd.ntmps41
  go_wp2_with (go_at_call 53; refine (isThere_no p _ H.out).mono ?_; rintro e w' ⟨rfl, rfl⟩)
  go_ret2
  exact ⟨rfl, rfl⟩

/-- Numbers, as cells. -/
def natsV (L : List Nat) : List Value := L.map fun (n : Nat) => .int .i64 (n : Int)
theorem natsV_length (L : List Nat) : (natsV L).length = L.length := by simp [natsV]
theorem natsV_snoc (L : List Nat) (n : Nat) : natsV (L ++ [n]) = natsV L ++ [.int .i64 (n : Int)] := by simp [natsV]
theorem intInfoQ : (Tryd.prog.info? 3).map (fun i => (i.zero, i.size, i.bytes)) = some (some (.int .i64 0), 1, 8) := by kernel_rfl
theorem one_atQ (w : World) (u : Value) (t : TypeId) : ∀ (j : Nat) (x : Value), [u][j]? = some x → (w.alloc (.cells #[u] t)).cell? ((⟨w.heap.size, 0, none⟩ : Addr).add j) = some x := fun j x hx => by
  rw [Addr.add_mid, cell_of_row _ _ _ _ _ _ (heap_alloc_new w _)]
  match j, hx with
  | 0, hx => exact hx
  | j + 1, hx => simp at hx
theorem own_two {w w' : World} {base p q k n : Nat} {e : TypeId} {v : Value} {xs : List Value} (h : w.ownsRow base e k v n xs) (ht : Two w w' p q) (hp : p < base) (hq : q < base) : w'.ownsRow base e k v n xs := by
  refine ⟨h.1, ?_⟩
  rcases h.2 with hn | ⟨g, cap, cur, rfl, hb, hg, rest⟩
  · exact .inl hn
  · exact .inr ⟨g, cap, cur, rfl, hb, (ht.block g (lt_of_block hg) (by omega) (by omega)).trans hg, rest⟩
theorem own_base {w : World} {base base' k n : Nat} {e : TypeId} {v : Value} {xs : List Value} (h : w.ownsRow base e k v n xs) (hb : base' ≤ base) : w.ownsRow base' e k v n xs := by
  refine ⟨h.1, ?_⟩
  rcases h.2 with hn | ⟨g, cap, cur, rfl, hb', rest⟩
  · exact .inl hn
  · exact .inr ⟨g, cap, cur, rfl, Nat.le_trans hb hb', rest⟩
theorem own_step {w w' : World} {base k n : Nat} {e : TypeId} {v : Value} {xs : List Value} (h : w.ownsRow base e k v n xs) (hb : Below w.heap.size w w') : w'.ownsRow base e k v n xs :=
  h.kept (grownBy_of_below hb none) (by cases hv : v.ownBlock <;> simp)
def lenV : Value → Nat | .slice _ n _ => n | _ => 0
theorem own_len {w : World} {base k n : Nat} {e : TypeId} {v : Value} {xs : List Value} (h : w.ownsRow base e k v n xs) : lenV v = n := by
  rcases h.2 with ⟨rfl, rfl⟩ | ⟨g, cap, cur, rfl, _⟩ <;> rfl
def AllRel (w : World) (base ba bw : Nat) (L : List Nat) (l n ok : Value) (wr : World) : Prop :=
  ∃ done left a, L = done ++ left ∧ wr.ownsRow base 3 1 l done.length (natsV done) ∧ n = .int .i64 (nextA left).1 ∧ ok = .bool (nextA left).2.1 ∧ Iter wr ba bw a (nextA left).2.2 ∧ Below w.heap.size w wr ∧ base ≤ wr.heap.size
def AllPost (w : World) (L : List Nat) (e : Ending) (w' : World) : Prop := ∃ v, e = .returned v ∧ w'.ownsRow w.heap.size 3 1 v L.length (natsV L) ∧ Below w.heap.size w w'
end Go.Proofs.YtiohnhgoddfebaaDoor
