/- Processes, and ends, as slices; the contracts of the document's At, Same, SameReaped of layer 13. Condition: the slices lie in memory. -/
import Derived.Test.YtbmiodkdoacbeaaY16
namespace Go.Proofs.Ytbmiodkdoacbeaa
open Go.RowKit Go.Maps
set_option maxRecDepth 100000

theorem prsV_get : ∀ (L : List Nd) (i : Nat), i < L.length → (prsV L)[i * 4]? = some (.int .i64 (L.getD i default).1) ∧ (prsV L)[i * 4 + 1]? = some (.int .i64 (L.getD i default).2.1) ∧ (prsV L)[i * 4 + 2]? = some (.int .i64 (L.getD i default).2.2.1) ∧ (prsV L)[i * 4 + 3]? = some (.int .u32 (L.getD i default).2.2.2)
  | x :: r, 0, _ => by simp [prsV]
  | x :: r, i + 1, h => by
    have ih := prsV_get r i (by simpa using h)
    have e : prsV (x :: r) = [.int .i64 x.1, .int .i64 x.2.1, .int .i64 x.2.2.1, .int .u32 x.2.2.2] ++ prsV r := by simp [prsV]
    rw [e, show (i + 1) * 4 = i * 4 + 4 by omega]
    simpa [List.getElem?_append_right] using ih
theorem rpV_get : ∀ (L : List Rp) (i : Nat), i < L.length → (rpV L)[i * 3]? = some (.int .i64 (L.getD i default).1) ∧ (rpV L)[i * 3 + 1]? = some (.int .i64 (L.getD i default).2.1) ∧ (rpV L)[i * 3 + 2]? = some (.int .u32 (L.getD i default).2.2)
  | x :: r, 0, _ => by simp [rpV]
  | x :: r, i + 1, h => by
    have ih := rpV_get r i (by simpa using h)
    have e : rpV (x :: r) = [.int .i64 x.1, .int .i64 x.2.1, .int .u32 x.2.2] ++ rpV r := by simp [rpV]
    rw [e, show (i + 1) * 3 = i * 3 + 3 by omega]
    simpa [List.getElem?_append_right] using ih
/-- A slice of processes. -/
def PrsAt (w : World) (v : Value) (L : List Nd) : Prop := ∃ a c, v = .slice a L.length c ∧ (L = [] ∨ ∃ b, a = some ⟨b, 0, none⟩ ∧ b < w.heap.size ∧ ∀ i, i < L.length →
  w.cell? ⟨b, i * 4, none⟩ = some (.int .i64 (L.getD i default).1) ∧ w.cell? ⟨b, i * 4 + 1, none⟩ = some (.int .i64 (L.getD i default).2.1) ∧ w.cell? ⟨b, i * 4 + 2, none⟩ = some (.int .i64 (L.getD i default).2.2.1) ∧ w.cell? ⟨b, i * 4 + 3, none⟩ = some (.int .u32 (L.getD i default).2.2.2))
theorem PrsAt.below {w w' : World} {v : Value} {L : List Nd} (h : PrsAt w v L) (hb : Below w.heap.size w w') : PrsAt w' v L := by
  obtain ⟨a, c, rfl, h⟩ := h
  refine ⟨a, c, rfl, h.imp id fun ⟨b, e, hlt, hc⟩ => ⟨b, e, Nat.lt_of_lt_of_le hlt hb.size, fun i hi => ?_⟩⟩
  obtain ⟨c0, c1, c2, c3⟩ := hc i hi
  have k : ∀ q, w'.cell? ⟨b, q, none⟩ = w.cell? ⟨b, q, none⟩ := fun q => hb.cell (p := ⟨b, q, none⟩) hlt
  exact ⟨(k _).trans c0, (k _).trans c1, (k _).trans c2, (k _).trans c3⟩
theorem PrsAt.of_row {w : World} {base : Nat} {v : Value} {L : List Nd} (h : w.ownsRow base 42 4 v L.length (prsV L)) : PrsAt w v L := by
  have h' := h
  rcases h.2 with ⟨rfl, h0⟩ | ⟨g, cap, cur, rfl, hb, hgg, _⟩
  · exact ⟨none, 0, by rw [h0], Or.inl (List.eq_nil_of_length_eq_zero h0)⟩
  · refine ⟨_, _, rfl, Or.inr ⟨g, rfl, lt_of_block hgg, fun i hi => ?_⟩⟩
    obtain ⟨a0, a1, a2, a3⟩ := prsV_get L i hi
    have b0 := h'.cells (g := g) rfl _ _ a0
    have b1 := h'.cells (g := g) rfl _ _ a1
    have b2 := h'.cells (g := g) rfl _ _ a2
    have b3 := h'.cells (g := g) rfl _ _ a3
    rw [Addr.add_mid, Nat.zero_add] at b0 b1 b2 b3
    exact ⟨b0, b1, b2, b3⟩
/-- One of them. -/
theorem PrsAt.at_ {w : World} {a : Option Addr} {n c : Nat} {L : List Nd} (h : PrsAt w (.slice a n c) L) {i : Nat} (hi : i < L.length) {x : Nd} (hx : L.getD i default = x) :
    ∃ b, a = some ⟨b, 0, none⟩ ∧ b < w.heap.size ∧ w.cell? ⟨b, i * 4, none⟩ = some (.int .i64 x.1) ∧ w.cell? ⟨b, i * 4 + 1, none⟩ = some (.int .i64 x.2.1) ∧ w.cell? ⟨b, i * 4 + 2, none⟩ = some (.int .i64 x.2.2.1) ∧ w.cell? ⟨b, i * 4 + 3, none⟩ = some (.int .u32 x.2.2.2) := by
  obtain ⟨a', c', he, h⟩ := h
  injection he with e1
  subst e1 hx
  rcases h with rfl | ⟨b, rfl, hb, hc⟩
  · simp at hi
  · exact ⟨b, rfl, hb, hc i hi⟩
theorem PrsAt.form {w : World} {v : Value} {L : List Nd} (h : PrsAt w v L) : ∃ a c, v = .slice a L.length c := by
  obtain ⟨a, c, e, _⟩ := h
  exact ⟨a, c, e⟩

/-- A slice of ends. -/
def RpsAt (w : World) (v : Value) (L : List Rp) : Prop := ∃ a c, v = .slice a L.length c ∧ (L = [] ∨ ∃ b, a = some ⟨b, 0, none⟩ ∧ b < w.heap.size ∧ ∀ i, i < L.length →
  w.cell? ⟨b, i * 3, none⟩ = some (.int .i64 (L.getD i default).1) ∧ w.cell? ⟨b, i * 3 + 1, none⟩ = some (.int .i64 (L.getD i default).2.1) ∧ w.cell? ⟨b, i * 3 + 2, none⟩ = some (.int .u32 (L.getD i default).2.2))
theorem RpsAt.below {w w' : World} {v : Value} {L : List Rp} (h : RpsAt w v L) (hb : Below w.heap.size w w') : RpsAt w' v L := by
  obtain ⟨a, c, rfl, h⟩ := h
  refine ⟨a, c, rfl, h.imp id fun ⟨b, e, hlt, hc⟩ => ⟨b, e, Nat.lt_of_lt_of_le hlt hb.size, fun i hi => ?_⟩⟩
  obtain ⟨c0, c1, c2⟩ := hc i hi
  have k : ∀ q, w'.cell? ⟨b, q, none⟩ = w.cell? ⟨b, q, none⟩ := fun q => hb.cell (p := ⟨b, q, none⟩) hlt
  exact ⟨(k _).trans c0, (k _).trans c1, (k _).trans c2⟩
theorem RpsAt.of_row {w : World} {base : Nat} {v : Value} {L : List Rp} (h : w.ownsRow base 58 3 v L.length (rpV L)) : RpsAt w v L := by
  have h' := h
  rcases h.2 with ⟨rfl, h0⟩ | ⟨g, cap, cur, rfl, hb, hgg, _⟩
  · exact ⟨none, 0, by rw [h0], Or.inl (List.eq_nil_of_length_eq_zero h0)⟩
  · refine ⟨_, _, rfl, Or.inr ⟨g, rfl, lt_of_block hgg, fun i hi => ?_⟩⟩
    obtain ⟨a0, a1, a2⟩ := rpV_get L i hi
    have b0 := h'.cells (g := g) rfl _ _ a0
    have b1 := h'.cells (g := g) rfl _ _ a1
    have b2 := h'.cells (g := g) rfl _ _ a2
    rw [Addr.add_mid, Nat.zero_add] at b0 b1 b2
    exact ⟨b0, b1, b2⟩
/-- One of them. -/
theorem RpsAt.at_ {w : World} {a : Option Addr} {n c : Nat} {L : List Rp} (h : RpsAt w (.slice a n c) L) {i : Nat} (hi : i < L.length) {x : Rp} (hx : L.getD i default = x) :
    ∃ b, a = some ⟨b, 0, none⟩ ∧ b < w.heap.size ∧ w.cell? ⟨b, i * 3, none⟩ = some (.int .i64 x.1) ∧ w.cell? ⟨b, i * 3 + 1, none⟩ = some (.int .i64 x.2.1) ∧ w.cell? ⟨b, i * 3 + 2, none⟩ = some (.int .u32 x.2.2) := by
  obtain ⟨a', c', he, h⟩ := h
  injection he with e1
  subst e1 hx
  rcases h with rfl | ⟨b, rfl, hb, hc⟩
  · simp at hi
  · exact ⟨b, rfl, hb, hc i hi⟩
theorem RpsAt.form {w : World} {v : Value} {L : List Rp} (h : RpsAt w v L) : ∃ a c, v = .slice a L.length c := by
  obtain ⟨a, c, e, _⟩ := h
  exact ⟨a, c, e⟩

/-- Where a container is; -1: it is not there. -/
def atIY (L : List Nd) (id : Int) : Int := if atN id L = none then -1 else (posN id L : Int)
theorem atIY_none {L : List Nd} {id : Int} (h : atN id L = none) : atIY L id = -1 := by unfold atIY; rw [if_pos h]
theorem atIY_some {L : List Nd} {id : Int} {x : Nd} (h : atN id L = some x) : atIY L id = (posN id L : Int) := by unfold atIY; rw [if_neg (by rw [h]; simp)]
set_option maxHeartbeats 1000000 in
theorem ratY (L : List Nd) (v : Value) (id : Int) (w : World) (hl : L.length ≤ 1000) (h : PrsAt w v L) {k : Int} (hk : atIY L id = k) :
    Calls Try.prog 16 #[v, .int .i64 id] w fun e w' => e = .returned (.int .i64 k) ∧ w = w' := by
  have H := Lib.hid h
  obtain ⟨a, c, rfl⟩ := h.form
  obtain ⟨n, hn⟩ : ∃ n, n = L.length := ⟨_, rfl⟩
  rw [← hn] at hl
  have HN := Lib.hid hn
  have HK := Lib.hid hk
  rw [← hn] at H ⊢
  clear hk hn h
  go_enter Try.func16, Try.ntmps16
  go_wp2_with fail
  go_loopw [5] (fun i wr => ∃ j : Nat, i = .int .i64 (j : Int) ∧ j ≤ n ∧ wr = w ∧ ∀ i, i < j → (L.getD i default).1 ≠ id) (fun i _ => (n - (intOf i).toNat))
  case atStart => exact ⟨0, rfl, Nat.zero_le _, rfl, fun i hi => absurd hi (Nat.not_lt_zero _)⟩
  case round =>
    obtain ⟨j, rfl, hj, rfl, hlow⟩ := hrel
    have LOW := Lib.hid hlow
    clear hlow
    by_cases hlt : j < n
    · have hjl : j < L.length := by rw [← HN.out]; exact hlt
      obtain ⟨⟨y, y1, y2, y3⟩, hy⟩ : ∃ y, L.getD j default = y := ⟨_, rfl⟩
      obtain ⟨b, rfl, hbl, c0, -, -, -⟩ := H.out.at_ hjl hy
      simp only at c0
      by_cases he : y = id
      · have d0 : (y == id) = true := by simpa using he
        have hp := pos_of hjl LOW.out (by rw [hy]; exact he)
        obtain rfl : k = (j : Int) := by rw [← HK.out, atIY_some hp.1, hp.2]
        clear hp hy
        go_wp2_with fail
        go_ret
        exact ⟨rfl, rfl⟩
      · have d0 : (y == id) = false := by simpa using he
        have LOW2 : Hid (∀ i, i < j + 1 → (L.getD i default).1 ≠ id) := Lib.hid fun i hi => by
          by_cases e : i = j
          · rw [e, hy]; exact he
          · exact LOW.out i (by omega)
        clear hy
        go_wp2_with fail
        go_roundw
        case rel => exact ⟨j + 1, by go_num, by omega, by trivial, LOW2.out⟩
        case measure => simp [intOf]; omega
    · obtain rfl : j = n := by omega
      obtain rfl : k = -1 := by rw [← HK.out]; exact atIY_none (none_of (by rw [← HN.out]; exact LOW.out))
      clear hlt
      go_wp2
      go_ret
      exact ⟨rfl, rfl⟩
set_option maxHeartbeats 2000000 in
theorem sameY (l : List Nd) (u v : Value) (w : World) (hl : l.length ≤ 1000) (hu : PrsAt w u l) (hv : PrsAt w v l) : Calls Try.prog 13 #[u, v] w fun e w' => e = .returned (.bool true) ∧ Below w.heap.size w w' := by
  obtain ⟨a, c, rfl, hU⟩ := hu
  obtain ⟨a', c', rfl, hV⟩ := hv
  obtain ⟨n, hn⟩ : ∃ n, n = l.length := ⟨_, rfl⟩
  rw [← hn] at hl ⊢
  have HN := Lib.hid hn
  have HU := Lib.hid hU
  have HV := Lib.hid hV
  clear hn hU hV
  go_enter Try.func13, Try.ntmps13
  go_wp2_with fail
  go_loopw [5] (fun i wr => ∃ j : Nat, i = .int .i64 (j : Int) ∧ j ≤ n ∧ Below w.heap.size w wr) (fun i _ => (n - (intOf i).toNat))
  case atStart => exact ⟨0, rfl, Nat.zero_le _, Below.refl _ _⟩
  case round =>
    obtain ⟨j, rfl, hj, hB⟩ := hrel
    have BB := Lib.hid hB
    clear hB
    by_cases hlt : j < n
    · have hjl : j < l.length := by rw [← HN.out]; exact hlt
      obtain ⟨b, rfl, hbl, hc⟩ := HU.out.resolve_left (by rintro rfl; simp at hjl)
      obtain ⟨b', rfl, hbl', hc'⟩ := HV.out.resolve_left (by rintro rfl; simp at hjl)
      have hcj := hc j hjl
      have hcj' := hc' j hjl
      obtain ⟨⟨e0, e1, e2, e3⟩, hy⟩ : ∃ y, y = l.getD j default := ⟨_, rfl⟩
      rw [← hy] at hcj hcj'
      simp only at hcj hcj'
      have CB : Hid (∀ w', Below w.heap.size w w' → (w'.cell? ⟨b, j * 4, none⟩ = some (.int .i64 e0) ∧ w'.cell? ⟨b, j * 4 + 1, none⟩ = some (.int .i64 e1) ∧ w'.cell? ⟨b, j * 4 + 2, none⟩ = some (.int .i64 e2) ∧ w'.cell? ⟨b, j * 4 + 3, none⟩ = some (.int .u32 e3)) ∧ (w'.cell? ⟨b', j * 4, none⟩ = some (.int .i64 e0) ∧ w'.cell? ⟨b', j * 4 + 1, none⟩ = some (.int .i64 e1) ∧ w'.cell? ⟨b', j * 4 + 2, none⟩ = some (.int .i64 e2) ∧ w'.cell? ⟨b', j * 4 + 3, none⟩ = some (.int .u32 e3))) := Lib.hid fun w' hb => by
        have k : ∀ q, w'.cell? ⟨b, q, none⟩ = w.cell? ⟨b, q, none⟩ := fun q => hb.cell (p := ⟨b, q, none⟩) hbl
        have k' : ∀ q, w'.cell? ⟨b', q, none⟩ = w.cell? ⟨b', q, none⟩ := fun q => hb.cell (p := ⟨b', q, none⟩) hbl'
        exact ⟨⟨(k _).trans hcj.1, (k _).trans hcj.2.1, (k _).trans hcj.2.2.1, (k _).trans hcj.2.2.2⟩, (k' _).trans hcj'.1, (k' _).trans hcj'.2.1, (k' _).trans hcj'.2.2.1, (k' _).trans hcj'.2.2.2⟩
      obtain ⟨⟨q0, q1, q2, q3⟩, r0, r1, r2, r3⟩ := CB.out wr BB.out
      clear hc hc' hcj hcj' hy
      go_wp2_with fail
      go_region_held3 (fun w' => (w'.cell? ⟨b, j * 4, none⟩ = some (.int .i64 e0) ∧ w'.cell? ⟨b, j * 4 + 1, none⟩ = some (.int .i64 e1) ∧ w'.cell? ⟨b, j * 4 + 2, none⟩ = some (.int .i64 e2) ∧ w'.cell? ⟨b, j * 4 + 3, none⟩ = some (.int .u32 e3)) ∧ (w'.cell? ⟨b', j * 4, none⟩ = some (.int .i64 e0) ∧ w'.cell? ⟨b', j * 4 + 1, none⟩ = some (.int .i64 e1) ∧ w'.cell? ⟨b', j * 4 + 2, none⟩ = some (.int .i64 e2) ∧ w'.cell? ⟨b', j * 4 + 3, none⟩ = some (.int .u32 e3))) (go_keep) (fail)
      all_goals
        go_wp2_with fail
        go_roundw
        case rel => exact ⟨j + 1, by go_num, by omega, BB.out.drew⟩
        case measure => simp [intOf]; omega
    · obtain rfl : j = n := by omega
      go_wp2
      go_ret
      exact ⟨rfl, BB.out⟩
set_option maxHeartbeats 2000000 in
theorem sameR (l : List Rp) (u v : Value) (w : World) (hl : l.length ≤ 1000) (hu : RpsAt w u l) (hv : RpsAt w v l) : Calls Try.prog 21 #[u, v] w fun e w' => e = .returned (.bool true) ∧ Below w.heap.size w w' := by
  obtain ⟨a, c, rfl, hU⟩ := hu
  obtain ⟨a', c', rfl, hV⟩ := hv
  obtain ⟨n, hn⟩ : ∃ n, n = l.length := ⟨_, rfl⟩
  rw [← hn] at hl ⊢
  have HN := Lib.hid hn
  have HU := Lib.hid hU
  have HV := Lib.hid hV
  clear hn hU hV
  go_enter Try.func21, Try.ntmps21
  go_wp2_with fail
  go_loopw [5] (fun i wr => ∃ j : Nat, i = .int .i64 (j : Int) ∧ j ≤ n ∧ Below w.heap.size w wr) (fun i _ => (n - (intOf i).toNat))
  case atStart => exact ⟨0, rfl, Nat.zero_le _, Below.refl _ _⟩
  case round =>
    obtain ⟨j, rfl, hj, hB⟩ := hrel
    have BB := Lib.hid hB
    clear hB
    by_cases hlt : j < n
    · have hjl : j < l.length := by rw [← HN.out]; exact hlt
      obtain ⟨b, rfl, hbl, hc⟩ := HU.out.resolve_left (by rintro rfl; simp at hjl)
      obtain ⟨b', rfl, hbl', hc'⟩ := HV.out.resolve_left (by rintro rfl; simp at hjl)
      have hcj := hc j hjl
      have hcj' := hc' j hjl
      obtain ⟨⟨e0, e1, e2⟩, hy⟩ : ∃ y, y = l.getD j default := ⟨_, rfl⟩
      rw [← hy] at hcj hcj'
      simp only at hcj hcj'
      have CB : Hid (∀ w', Below w.heap.size w w' → (w'.cell? ⟨b, j * 3, none⟩ = some (.int .i64 e0) ∧ w'.cell? ⟨b, j * 3 + 1, none⟩ = some (.int .i64 e1) ∧ w'.cell? ⟨b, j * 3 + 2, none⟩ = some (.int .u32 e2)) ∧ (w'.cell? ⟨b', j * 3, none⟩ = some (.int .i64 e0) ∧ w'.cell? ⟨b', j * 3 + 1, none⟩ = some (.int .i64 e1) ∧ w'.cell? ⟨b', j * 3 + 2, none⟩ = some (.int .u32 e2))) := Lib.hid fun w' hb => by
        have k : ∀ q, w'.cell? ⟨b, q, none⟩ = w.cell? ⟨b, q, none⟩ := fun q => hb.cell (p := ⟨b, q, none⟩) hbl
        have k' : ∀ q, w'.cell? ⟨b', q, none⟩ = w.cell? ⟨b', q, none⟩ := fun q => hb.cell (p := ⟨b', q, none⟩) hbl'
        exact ⟨⟨(k _).trans hcj.1, (k _).trans hcj.2.1, (k _).trans hcj.2.2⟩, (k' _).trans hcj'.1, (k' _).trans hcj'.2.1, (k' _).trans hcj'.2.2⟩
      obtain ⟨⟨q0, q1, q2⟩, r0, r1, r2⟩ := CB.out wr BB.out
      clear hc hc' hcj hcj' hy
      go_wp2_with fail
      go_region_held3 (fun w' => (w'.cell? ⟨b, j * 3, none⟩ = some (.int .i64 e0) ∧ w'.cell? ⟨b, j * 3 + 1, none⟩ = some (.int .i64 e1) ∧ w'.cell? ⟨b, j * 3 + 2, none⟩ = some (.int .u32 e2)) ∧ (w'.cell? ⟨b', j * 3, none⟩ = some (.int .i64 e0) ∧ w'.cell? ⟨b', j * 3 + 1, none⟩ = some (.int .i64 e1) ∧ w'.cell? ⟨b', j * 3 + 2, none⟩ = some (.int .u32 e2))) (go_keep) (fail)
      all_goals
        go_wp2_with fail
        go_roundw
        case rel => exact ⟨j + 1, by go_num, by omega, BB.out.drew⟩
        case measure => simp [intOf]; omega
    · obtain rfl : j = n := by omega
      go_wp2
      go_ret
      exact ⟨rfl, BB.out⟩
end Go.Proofs.Ytbmiodkdoacbeaa
