/- The contracts of package octet's New, Fine, Left, spoil, take. Condition: the reader lies as New laid it, or is spoilt, or there is none. -/
import Derived.Test.YtpgoddbijkolbaaB3
namespace Go.Proofs.Ytpgoddbijkolbaa
open Go.RowKit
set_option maxRecDepth 100000

/-- Bytes lie from a place on. -/
def BytesAt (w : World) (g o : Nat) (l : List UInt8) : Prop := ∀ i, i < l.length → w.cell? ⟨g, o + i, none⟩ = some (.int .u8 ((l.getD i 0).toNat : Int))
theorem BytesAt.grown {w w' : World} {g o b : Nat} {l : List UInt8} (h : BytesAt w g o l) (hg : w.grownBy w' (some b)) (hne : g ≠ b) : BytesAt w' g o l :=
  fun i hi => hg.cell (h i hi) (fun e => hne (Option.some.inj e))
theorem BytesAt.below {w w' : World} {g o : Nat} {l : List UInt8} (h : BytesAt w g o l) (hb : Below w.heap.size w w') : BytesAt w' g o l :=
  fun i hi => (hb.cell (p := ⟨g, o + i, none⟩) (block_lt_of_cell (h i hi))).trans (h i hi)
theorem BytesAt.drop {w : World} {g o : Nat} {l : List UInt8} (h : BytesAt w g o l) (k : Nat) : BytesAt w g (o + k) (l.drop k) := fun i hi => by
  have hi' : k + i < l.length := by simp at hi; omega
  have := h (k + i) hi'
  rw [Nat.add_assoc, this]
  simp [List.getD_eq_getElem?_getD]
theorem BytesAt.take {w : World} {g o : Nat} {l : List UInt8} (h : BytesAt w g o l) (k : Nat) : BytesAt w g o (l.take k) := fun i hi => by
  have hi' : i < k ∧ i < l.length := by simp at hi; omega
  rw [h i hi'.2]
  simp [List.getD_eq_getElem?_getD, hi'.1]
theorem BytesAt.heap {w w' : World} {g o : Nat} {l : List UInt8} (h : BytesAt w g o l) (e : w'.heap = w.heap) : BytesAt w' g o l := fun i hi => by
  rw [World.cell?_of_block (w := w) (by rw [e])]; exact h i hi
theorem BytesAt.str {w : World} {g o k c : Nat} {l : List UInt8} (h : BytesAt w g o l) (hk : l.length = k) : (convert 64 9 (.slice (some ⟨g, o, none⟩) k c)).run Try.prog w = .ok (strV l) w := by
  subst hk
  exact run_convert_bytes_back w _ _ _ _ c l Try.underlying64 Try.underlying5 Try.underlying9 fun j hj => by
    have := h j hj
    rw [show (⟨g, o, none⟩ : Addr).add j = ⟨g, o + j, none⟩ by unfold Addr.add; split <;> simp_all]
    simpa [List.getD_eq_getElem?_getD, hj] using this

/-- A reader that is fine lies at block b, the bytes that are left at (g, o). -/
structure RdFine (w : World) (b g o c : Nat) (l : List UInt8) : Prop where
  box : w.heap[b]? = some (.cells #[.slice (some ⟨g, o, none⟩) l.length c, .bool true] 106 (0, 0))
  bytes : BytesAt w g o l
  ne : g ≠ b
  cap : l.length ≤ c
  top : l.length ≤ maxLen
  row : ∃ cs fz, w.heap[g]? = some (.cells cs 5 fz)
def RdBad (w : World) (b : Nat) : Prop := w.heap[b]? = some (.cells #[.slice none 0 0, .bool false] 106 (0, 0))
/-- A reader: the bytes that are left, or none, if it is not fine. -/
def Rd (w : World) (b : Nat) : Option (List UInt8) → Prop
  | some l => ∃ g o c, RdFine w b g o c l
  | none => RdBad w b
theorem RdFine.c0 {w : World} {b g o c : Nat} {l : List UInt8} (h : RdFine w b g o c l) : w.cell? ⟨b, 0, none⟩ = some (.slice (some ⟨g, o, none⟩) l.length c) := by rw [cell_of_row w b _ _ _ _ h.box]; rfl
theorem RdFine.c1 {w : World} {b g o c : Nat} {l : List UInt8} (h : RdFine w b g o c l) : w.cell? ⟨b, 1, none⟩ = some (.bool true) := by rw [cell_of_row w b _ _ _ _ h.box]; rfl
theorem RdFine.fr {w : World} {b g o c : Nat} {l : List UInt8} (h : RdFine w b g o c l) (i : Nat) : w.frozen? ⟨b, i, none⟩ = false := frozen_of_row w b i _ _ h.box
theorem RdBad.c0 {w : World} {b : Nat} (h : RdBad w b) : w.cell? ⟨b, 0, none⟩ = some (.slice none 0 0) := by rw [cell_of_row w b _ _ _ _ h]; rfl
theorem RdBad.c1 {w : World} {b : Nat} (h : RdBad w b) : w.cell? ⟨b, 1, none⟩ = some (.bool false) := by rw [cell_of_row w b _ _ _ _ h]; rfl
theorem RdBad.fr {w : World} {b : Nat} (h : RdBad w b) (i : Nat) : w.frozen? ⟨b, i, none⟩ = false := frozen_of_row w b i _ _ h
theorem Rd.below {w w' : World} {b : Nat} {s : Option (List UInt8)} (h : Rd w b s) (hb : Below w.heap.size w w') : Rd w' b s := by
  cases s with
  | none => exact below_block hb h
  | some l =>
    obtain ⟨g, o, c, h⟩ := h
    exact ⟨g, o, c, below_block hb h.box, h.bytes.below hb, h.ne, h.cap, h.top, by obtain ⟨cs, fz, hr⟩ := h.row; exact ⟨cs, fz, below_block hb hr⟩⟩
theorem Rd.lt {w : World} {b : Nat} {s : Option (List UInt8)} (h : Rd w b s) : b < w.heap.size := by
  cases s with
  | none => exact lt_of_block h
  | some l =>
    obtain ⟨g, o, c, h⟩ := h
    exact lt_of_block h.box

theorem fine_ok (b : Nat) (s : Option (List UInt8)) (w : World) (h : Rd w b s) : Calls Try.prog 68 #[.pointer (some ⟨b, 0, none⟩)] w fun e w' => e = .returned (.bool s.isSome) ∧ w = w' := by
  cases s with
  | none =>
    have c1 := RdBad.c1 h
    clear h
    go_enter Try.func68, Try.ntmps68
    go_wp2
    go_ret
    exact ⟨rfl, rfl⟩
  | some l =>
    obtain ⟨g, o, c, h⟩ := h
    have c1 := h.c1
    clear h
    go_enter Try.func68, Try.ntmps68
    go_wp2
    go_ret
    exact ⟨rfl, rfl⟩
theorem fine_nil (w : World) : Calls Try.prog 68 #[.pointer none] w fun e w' => e = .returned (.bool false) ∧ w = w' := by
  go_enter Try.func68, Try.ntmps68
  go_wp2
  go_ret
  exact ⟨rfl, rfl⟩
/-- How many bytes are left. -/
def leftN (s : Option (List UInt8)) : Nat := (s.getD []).length
theorem left_ok (b : Nat) (s : Option (List UInt8)) (w : World) (h : Rd w b s) : Calls Try.prog 76 #[.pointer (some ⟨b, 0, none⟩)] w fun e w' => e = .returned (.int .i64 (leftN s : Int)) ∧ w = w' := by
  cases s with
  | none =>
    have c0 := RdBad.c0 h
    clear h
    go_enter Try.func76, Try.ntmps76
    go_wp2
    go_ret
    exact ⟨rfl, rfl⟩
  | some l =>
    obtain ⟨g, o, c, h⟩ := h
    have c0 := h.c0
    have ht := h.top
    unfold maxLen at ht
    clear h
    go_enter Try.func76, Try.ntmps76
    go_wp2
    go_ret
    exact ⟨rfl, rfl⟩
theorem left_nil (w : World) : Calls Try.prog 76 #[.pointer none] w fun e w' => e = .returned (.int .i64 0) ∧ w = w' := by
  go_enter Try.func76, Try.ntmps76
  go_wp2
  go_ret
  exact ⟨rfl, rfl⟩
theorem spoil_nil (w : World) : Calls Try.prog 82 #[.pointer none] w fun e w' => e = .returned (.tuple #[]) ∧ w = w' := by
  go_enter Try.func82, Try.ntmps82
  go_wp2
  go_end0
  exact ⟨rfl, rfl⟩
theorem spoil_ok (b : Nat) (s : Option (List UInt8)) (w : World) (h : Rd w b s) : Calls Try.prog 82 #[.pointer (some ⟨b, 0, none⟩)] w fun e w' => e = .returned (.tuple #[]) ∧ Rd w' b none ∧ w.grownBy w' (some b) := by
  have hx : ∃ u v, w.heap[b]? = some (.cells #[u, v] 106 (0, 0)) := by
    cases s with
    | none => exact ⟨_, _, h⟩
    | some l =>
      obtain ⟨g, o, c, h⟩ := h
      exact ⟨_, _, h.box⟩
  obtain ⟨u, v, hx⟩ := hx
  have HX := Lib.hid hx
  have c0 : w.cell? ⟨b, 0, none⟩ = some u := by rw [cell_of_row w b _ _ _ _ hx]; rfl
  have c1 : w.cell? ⟨b, 1, none⟩ = some v := by rw [cell_of_row w b _ _ _ _ hx]; rfl
  have f0 : w.frozen? ⟨b, 0, none⟩ = false := frozen_of_row w b _ _ _ hx
  have f1 : w.frozen? ⟨b, 1, none⟩ = false := frozen_of_row w b _ _ _ hx
  clear h hx
  go_enter Try.func82, Try.ntmps82
  go_wp2
  go_end0
  refine ⟨rfl, ?_, grownBy_trans (grownBy_setCell _ _ _ _) (grownBy_setCell _ _ _ _)⟩
  have h1 := heap_setCell_same _ b 0 _ _ (.slice none 0 0) HX.out
  exact heap_setCell_same _ b 1 _ _ (.bool false) h1

/-- A row of bytes as '[]byte(s)' lays it. -/
theorem bytesRow_cells (w : World) (s : ByteArray) (cap : Nat) (t : TypeId) (fr : Nat × Nat) (l : List UInt8) (hl : s = ⟨l.toArray⟩) : BytesAt (w.alloc (.cells (bytesRow s cap) t fr)) w.heap.size 0 l := fun i hi => by
  subst hl
  rw [Nat.zero_add, cell_of_row _ _ _ _ _ _ (heap_alloc_new w _), bytesRow_at _ _ _ (by simpa using hi)]
  simp [List.getD_eq_getElem?_getD, hi]
/-- What New leaves. -/
def NewPost5 (l : List UInt8) (w : World) (e : Ending) (w' : World) : Prop := ∃ b, e = .returned (.pointer (some ⟨b, 0, none⟩)) ∧ Rd w' b (some l) ∧ w.heap.size ≤ b ∧ Below w.heap.size w w'
theorem new5_ok (l : List UInt8) (hl : l.length ≤ maxLen) (w : World) : Calls Try.prog 65 #[strV l] w (NewPost5 l w) := by
  have hc := run_bytes_of_string (P := Try.prog) w _ _ _ ⟨l.toArray⟩ Try.underlying9 Try.underlying64 Try.underlying5
  obtain ⟨c, hcap⟩ : ∃ c, c = grownCap w (ByteArray.mk l.toArray).size 0 5 := ⟨_, rfl⟩
  have hle : (ByteArray.mk l.toArray).size ≤ c := hcap ▸ grownCap_ge _ _ _ _
  rw [← hcap] at hc
  obtain ⟨o, ho⟩ : ∃ o : Obj, o = .cells (bytesRow ⟨l.toArray⟩ c) 5 ((bytesRow ⟨l.toArray⟩ c).size, (bytesRow ⟨l.toArray⟩ c).size + 1) := ⟨_, rfl⟩
  rw [← ho] at hc
  have hs : (ByteArray.mk l.toArray).size = l.length := by simp [ByteArray.size]
  rw [hs] at hc hle
  have HO := Lib.hid ho
  have HL := Lib.hid hl
  clear hl ho hcap hs
  go_enter Try.func65, Try.ntmps65
  go_wp2
  go_ret
  have hne : w.heap.size ≠ w.heap.size + 1 := by omega
  refine ⟨w.heap.size + 1, rfl, ⟨w.heap.size, 0, c, heap_alloc2_new _ _ _, ?_, hne, hle, HL.out, ?_⟩, by omega, (below_two _ _ _).drew⟩
  rotate_left
  · refine ⟨_, _, below_block (w := w.alloc o) ((Below.refl _ _).alloc (Nat.le_refl _) _).drew ((heap_alloc_new w o).trans (by rw [HO.out]))⟩
  rw [HO.out]
  exact ((bytesRow_cells w ⟨l.toArray⟩ c _ _ l rfl).below ((Below.refl _ _).alloc (Nat.le_refl _) _)).heap rfl

theorem RdFine.ofDrop {w w' : World} {b g o c k : Nat} {l : List UInt8} (h : RdFine w b g o c l) (hk : k ≤ l.length) (A : Addr) (hA : A = if c = k then ⟨g, o, none⟩ else ⟨g, o + k, none⟩)
    (hx : w' = w.setCell ⟨b, 0, none⟩ (.slice (some A) (l.length - k) (c - k))) : Rd w' b (some (l.drop k)) ∧ w.grownBy w' (some b) ∧ BytesAt w' g o (l.take k) := by
  subst hx
  have hg := grownBy_setCell w b 0 (.slice (some A) (l.length - k) (c - k))
  refine ⟨?_, hg, (h.bytes.take k).grown hg h.ne⟩
  have h1 := heap_setCell_same w b 0 _ _ (.slice (some A) (l.length - k) (c - k)) h.box
  have hcap := h.cap
  have htop := h.top
  have hrow : ∃ cs fz, (w.setCell ⟨b, 0, none⟩ (.slice (some A) (l.length - k) (c - k))).heap[g]? = some (.cells cs 5 fz) := by
    obtain ⟨cs, fz, hr⟩ := h.row
    exact ⟨cs, fz, (hg.block g (lt_of_block hr) (fun e => h.ne (Option.some.inj e))).trans hr⟩
  by_cases hck : c = k
  · rw [if_pos hck] at hA
    subst hA
    have : l.length - k = 0 := by omega
    refine ⟨g, o, c - k, ?_, fun i hi => by simp at hi; omega, h.ne, by rw [List.length_drop]; omega, by rw [List.length_drop]; omega, hrow⟩
    rw [List.length_drop]; exact h1
  · rw [if_neg hck] at hA
    subst hA
    refine ⟨g, o + k, c - k, ?_, (h.bytes.drop k).grown hg h.ne, h.ne, by rw [List.length_drop]; omega, by rw [List.length_drop]; omega, hrow⟩
    rw [List.length_drop]; exact h1
/-- What take leaves, where the bytes are there. -/
def TakePost (w : World) (b k : Nat) (l : List UInt8) (e : Ending) (w' : World) : Prop := ∃ g o c, e = .returned (.tuple #[.slice (some ⟨g, o, none⟩) k c, .bool true]) ∧ Rd w' b (some (l.drop k)) ∧ w.grownBy w' (some b) ∧ BytesAt w' g o (l.take k)
set_option maxHeartbeats 400000 in
theorem take_yes (b k : Nat) (l : List UInt8) (w : World) (h : Rd w b (some l)) (hk : k ≤ l.length) : Calls Try.prog 84 #[.pointer (some ⟨b, 0, none⟩), .int .i64 k] w (TakePost w b k l) := by
  obtain ⟨g, o, c, h⟩ := h
  have H := Lib.hid h
  have c0 := h.c0
  have f0 := h.fr 0
  have ht := h.top
  have hc := h.cap
  unfold maxLen at ht
  clear h
  by_cases hck : c = k
  · subst hck
    obtain rfl : c = l.length := by omega
    go_enter Try.func84, Try.ntmps84
    go_wp2_with (go_at_call 68; refine (fine_ok b (some l) _ ⟨g, o, l.length, H.out⟩).mono ?_; rintro e w' ⟨rfl, rfl⟩)
    go_ret2
    obtain ⟨h1, h2, h3⟩ := H.out.ofDrop hk ⟨g, o, none⟩ (by rw [if_pos rfl]) rfl
    rw [Nat.sub_self] at h1 h2 h3
    exact ⟨g, o, _, rfl, h1, h2, h3⟩
  · go_enter Try.func84, Try.ntmps84
    go_wp2_with (go_at_call 68; refine (fine_ok b (some l) _ ⟨g, o, c, H.out⟩).mono ?_; rintro e w' ⟨rfl, rfl⟩)
    go_ret2
    obtain ⟨h1, h2, h3⟩ := H.out.ofDrop hk ⟨g, o + k, none⟩ (by rw [if_neg hck]) rfl
    exact ⟨g, o, c, rfl, h1, h2, h3⟩
theorem take_nil (k : Int) (w : World) : Calls Try.prog 84 #[.pointer none, .int .i64 k] w fun e w' => e = .returned (.tuple #[.slice none 0 0, .bool false]) ∧ w = w' := by
  go_enter Try.func84, Try.ntmps84
  go_wp2_with (go_at_call 68; refine (fine_nil _).mono ?_; rintro e w' ⟨rfl, rfl⟩)
  go_ret2
  exact ⟨rfl, rfl⟩
/-- Are there so many bytes? -/
def has (s : Option (List UInt8)) (k : Nat) : Prop := ∃ l, s = some l ∧ k ≤ l.length
theorem take_no (b k : Nat) (s : Option (List UInt8)) (w : World) (h : Rd w b s) (hk : ¬ has s k) : Calls Try.prog 84 #[.pointer (some ⟨b, 0, none⟩), .int .i64 k] w fun e w' => e = .returned (.tuple #[.slice none 0 0, .bool false]) ∧ Rd w' b none ∧ w.grownBy w' (some b) := by
  cases s with
  | none =>
    have H := Lib.hid h
    clear h hk
    go_enter Try.func84, Try.ntmps84
    go_wp2_with (go_at_call 68; refine (fine_ok b none _ H.out).mono ?_; rintro e w' ⟨rfl, rfl⟩)
    go_ret2
    exact ⟨rfl, H.out, grownBy_refl _ _⟩
  | some l =>
    have hlt : l.length < k := Nat.lt_of_not_le fun e => hk ⟨l, rfl, e⟩
    have HR := Lib.hid h
    obtain ⟨g, o, c, h⟩ := h
    have c0 := h.c0
    have ht := h.top
    unfold maxLen at ht
    clear h hk
    go_enter Try.func84, Try.ntmps84
    go_wp2_with (first | (go_at_call 68; refine (fine_ok b (some l) _ HR.out).mono ?_; rintro e w' ⟨rfl, rfl⟩) | (go_at_call 82; refine (spoil_ok b (some l) _ HR.out).mono ?_; rintro e w' ⟨rfl, hx, hg⟩; have HX := Lib.hid hx; have HG := Lib.hid hg; clear hx hg))
    go_ret2
    exact ⟨rfl, HX.out, HG.out⟩
end Go.Proofs.Ytpgoddbijkolbaa
