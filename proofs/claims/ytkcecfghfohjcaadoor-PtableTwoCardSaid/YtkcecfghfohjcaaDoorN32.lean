/- Rows of mappings; the document's Same, of equal ones; spaces that calls on others leave. No condition. -/
import Derived.Test.YtkcecfghfohjcaaDoorN28
import Derived.Test.YtkcecfghfohjcaaDoorGON
namespace Go.Proofs.YtkcecfghfohjcaaDoor
open Go.RowKit Go.Maps
set_option maxRecDepth 100000

/-- A slice of mappings. -/
def MapsAt (w : World) (v : Value) (l : List MapE) : Prop := ∃ a c, v = .slice a l.length c ∧ (l = [] ∨ ∃ b, a = some ⟨b, 0, none⟩ ∧ b < w.heap.size ∧ ∀ i, i < l.length →
  w.cell? ⟨b, i * 5, none⟩ = some (.int .i64 (l.getD i default).1) ∧ w.cell? ⟨b, i * 5 + 1, none⟩ = some (.bool (l.getD i default).2.1) ∧ w.cell? ⟨b, i * 5 + 2, none⟩ = some (.bool (l.getD i default).2.2.1) ∧ w.cell? ⟨b, i * 5 + 3, none⟩ = some (.bool (l.getD i default).2.2.2.1) ∧ w.cell? ⟨b, i * 5 + 4, none⟩ = some (.int .i64 (l.getD i default).2.2.2.2))
theorem mapsV_get : ∀ (l : List MapE) (i : Nat), i < l.length → (mapsV l)[i * 5]? = some (.int .i64 (l.getD i default).1) ∧ (mapsV l)[i * 5 + 1]? = some (.bool (l.getD i default).2.1) ∧ (mapsV l)[i * 5 + 2]? = some (.bool (l.getD i default).2.2.1) ∧ (mapsV l)[i * 5 + 3]? = some (.bool (l.getD i default).2.2.2.1) ∧ (mapsV l)[i * 5 + 4]? = some (.int .i64 (l.getD i default).2.2.2.2)
  | [], i, h => by simp at h
  | t :: r, 0, _ => ⟨rfl, rfl, rfl, rfl, rfl⟩
  | t :: r, i + 1, h => by
    have e : mapsV (t :: r) = [.int .i64 t.1, .bool t.2.1, .bool t.2.2.1, .bool t.2.2.2.1, .int .i64 t.2.2.2.2] ++ mapsV r := rfl
    have h1 := mapsV_get r i (by simpa using h)
    have g : ∀ j, (mapsV (t :: r))[(i + 1) * 5 + j]? = (mapsV r)[i * 5 + j]? := fun j => by
      rw [e, List.getElem?_append_right (by simp; omega)]
      congr 1
      simp; omega
    refine ⟨(g 0).trans ?_, (g 1).trans ?_, (g 2).trans ?_, (g 3).trans ?_, (g 4).trans ?_⟩
    · simpa using h1.1
    · simpa using h1.2.1
    · simpa using h1.2.2.1
    · simpa using h1.2.2.2.1
    · simpa using h1.2.2.2.2
theorem MapsAt.of_row {w : World} {base : Nat} {v : Value} {l : List MapE} (h : w.ownsRow base 75 5 v l.length (mapsV l)) : MapsAt w v l := by
  have h' := h
  rcases h.2 with ⟨rfl, h0⟩ | ⟨g, cap, cur, rfl, hb, hgg, _⟩
  · exact ⟨none, 0, by rw [h0], Or.inl (List.eq_nil_of_length_eq_zero h0)⟩
  · refine ⟨_, _, rfl, Or.inr ⟨g, rfl, lt_of_block hgg, fun i hi => ?_⟩⟩
    obtain ⟨a0, a1, a2, a3, a4⟩ := mapsV_get l i hi
    have b0 := h'.cells (g := g) rfl _ _ a0
    have b1 := h'.cells (g := g) rfl _ _ a1
    have b2 := h'.cells (g := g) rfl _ _ a2
    have b3 := h'.cells (g := g) rfl _ _ a3
    have b4 := h'.cells (g := g) rfl _ _ a4
    rw [Addr.add_mid, Nat.zero_add] at b0 b1 b2 b3 b4
    exact ⟨b0, b1, b2, b3, b4⟩
theorem MapsAt.below {w w' : World} {v : Value} {l : List MapE} (h : MapsAt w v l) (hb : Below w.heap.size w w') : MapsAt w' v l := by
  obtain ⟨a, c, rfl, h⟩ := h
  refine ⟨a, c, rfl, h.imp id fun ⟨b, e, hlt, hc⟩ => ⟨b, e, Nat.lt_of_lt_of_le hlt hb.size, fun i hi => ?_⟩⟩
  obtain ⟨c0, c1, c2, c3, c4⟩ := hc i hi
  have k : ∀ q, w'.cell? ⟨b, q, none⟩ = w.cell? ⟨b, q, none⟩ := fun q => hb.cell (p := ⟨b, q, none⟩) hlt
  exact ⟨(k _).trans c0, (k _).trans c1, (k _).trans c2, (k _).trans c3, (k _).trans c4⟩
def SameMRel (w : World) (n : Nat) (i : Value) (wr : World) : Prop := ∃ j : Nat, i = .int .i64 (j : Int) ∧ j ≤ n ∧ Below w.heap.size w wr
set_option maxHeartbeats 2000000 in
theorem same_yes (l : List MapE) (u v : Value) (w : World) (hl : l.length ≤ 1024) (hu : MapsAt w u l) (hv : MapsAt w v l) : Calls Tryd.prog 17 #[u, v] w fun e w' => e = .returned (.bool true) ∧ Below w.heap.size w w' := by
  obtain ⟨a, c, rfl, hU⟩ := hu
  obtain ⟨a', c', rfl, hV⟩ := hv
  obtain ⟨n, hn⟩ : ∃ n, n = l.length := ⟨_, rfl⟩
  rw [← hn] at hl ⊢
  have HN := Lib.hid hn
  have HU := Lib.hid hU
  have HV := Lib.hid hV
  clear hn hU hV
  go_enter Tryd.func17, Tryd.ntmps17
  go_wp2_with fail
  go_loopw [5] (fun i wr => SameMRel w n i wr) (fun i _ => (n - (intOf i).toNat))
  case atStart => exact ⟨0, rfl, Nat.zero_le _, Below.refl _ _⟩
  case round =>
    obtain ⟨j, rfl, hj, hB⟩ := hrel
    have BB := Lib.hid hB
    clear hB
    by_cases hlt : j < n
    · have hjl : j < l.length := by rw [← HN.out]; exact hlt
      obtain ⟨b, rfl, hbl, hc⟩ := HU.out.resolve_left (by rintro rfl; simp at hjl)
      obtain ⟨b', rfl, hbl', hc'⟩ := HV.out.resolve_left (by rintro rfl; simp at hjl)
      have hcj := hc j hjl
      have hcj' := hc' j hjl
      obtain ⟨⟨pg, ep, ex, ek, eg⟩, hy⟩ : ∃ y, y = l.getD j default := ⟨_, rfl⟩
      rw [← hy] at hcj hcj'
      simp only at hcj hcj'
      have CB : Hid (∀ w', Below w.heap.size w w' → (w'.cell? ⟨b, j * 5, none⟩ = some (.int .i64 pg) ∧ w'.cell? ⟨b, j * 5 + 1, none⟩ = some (.bool ep) ∧ w'.cell? ⟨b, j * 5 + 2, none⟩ = some (.bool ex) ∧ w'.cell? ⟨b, j * 5 + 3, none⟩ = some (.bool ek) ∧ w'.cell? ⟨b, j * 5 + 4, none⟩ = some (.int .i64 eg)) ∧ (w'.cell? ⟨b', j * 5, none⟩ = some (.int .i64 pg) ∧ w'.cell? ⟨b', j * 5 + 1, none⟩ = some (.bool ep) ∧ w'.cell? ⟨b', j * 5 + 2, none⟩ = some (.bool ex) ∧ w'.cell? ⟨b', j * 5 + 3, none⟩ = some (.bool ek) ∧ w'.cell? ⟨b', j * 5 + 4, none⟩ = some (.int .i64 eg))) := Lib.hid fun w' hb => by
        have k : ∀ q, w'.cell? ⟨b, q, none⟩ = w.cell? ⟨b, q, none⟩ := fun q => hb.cell (p := ⟨b, q, none⟩) hbl
        have k' : ∀ q, w'.cell? ⟨b', q, none⟩ = w.cell? ⟨b', q, none⟩ := fun q => hb.cell (p := ⟨b', q, none⟩) hbl'
        exact ⟨⟨(k _).trans hcj.1, (k _).trans hcj.2.1, (k _).trans hcj.2.2.1, (k _).trans hcj.2.2.2.1, (k _).trans hcj.2.2.2.2⟩, (k' _).trans hcj'.1, (k' _).trans hcj'.2.1, (k' _).trans hcj'.2.2.1, (k' _).trans hcj'.2.2.2.1, (k' _).trans hcj'.2.2.2.2⟩
      obtain ⟨⟨q0, q1, q2, q3, q4⟩, r0, r1, r2, r3, r4⟩ := CB.out wr BB.out
      clear hc hc' hcj hcj' hy
      go_wp2_with fail
      go_region_held3 (fun w' => (w'.cell? ⟨b, j * 5, none⟩ = some (.int .i64 pg) ∧ w'.cell? ⟨b, j * 5 + 1, none⟩ = some (.bool ep) ∧ w'.cell? ⟨b, j * 5 + 2, none⟩ = some (.bool ex) ∧ w'.cell? ⟨b, j * 5 + 3, none⟩ = some (.bool ek) ∧ w'.cell? ⟨b, j * 5 + 4, none⟩ = some (.int .i64 eg)) ∧ (w'.cell? ⟨b', j * 5, none⟩ = some (.int .i64 pg) ∧ w'.cell? ⟨b', j * 5 + 1, none⟩ = some (.bool ep) ∧ w'.cell? ⟨b', j * 5 + 2, none⟩ = some (.bool ex) ∧ w'.cell? ⟨b', j * 5 + 3, none⟩ = some (.bool ek) ∧ w'.cell? ⟨b', j * 5 + 4, none⟩ = some (.int .i64 eg))) (first | exact CB.out _ BB.out.drew | go_keep)
        (fail)
      all_goals
        go_wp2_with fail
        go_roundw
        case rel => exact ⟨j + 1, by go_num, by omega, BB.out.drew⟩
        case measure => simp [intOf]; omega
    · obtain rfl : j = n := by omega
      go_wp2
      go_ret
      exact ⟨rfl, BB.out⟩
/-- What calls on a space leave of others. -/
theorem putW_far {W : Nat → Option Sp} {r pg : Int} {e : Ent} {o : Nat} (h : (o : Int) ≠ r) (h0 : 0 ≤ r) : putW W r pg e o = W o := by
  unfold putW
  exact updW_other _ _ _ _ (by omega)
theorem putW_some {W : Nat → Option Sp} {pg : Int} {e : Ent} {r : Nat} (h : (W r).isSome = true) : (putW W (r : Int) pg e r).isSome = true := by
  unfold putW
  rw [Int.toNat_natCast, updW_same, spOf_nat]
  obtain ⟨F, hF⟩ := Option.isSome_iff_exists.1 h
  rw [hF]; rfl
structure TwoW (W W' : Nat → Option Sp) (r o : Nat) : Prop where
  far : W' o = W o
  near : (W r).isSome = true → (W' r).isSome = true
theorem TwoW.put {W : Nat → Option Sp} {r o : Nat} {pg : Int} {e : Ent} (h : o ≠ r) : TwoW W (putW W (r : Int) pg e) r o := ⟨putW_far (by omega) (by omega), putW_some⟩
theorem TwoW.refl (W : Nat → Option Sp) (r o : Nat) : TwoW W W r o := ⟨rfl, id⟩
theorem TwoW.map {n c : Nat} {W : Nat → Option Sp} {r o : Nat} {pg : Int} {e : Ent} (h : o ≠ r) : TwoW W (mapW n c W (r : Int) pg e) r o := by unfold mapW; split; exact .put h; exact .refl _ _ _
theorem TwoW.set {n : Nat} {W : Nat → Option Sp} {r o : Nat} {pg : Int} {e : Ent} (h : o ≠ r) : TwoW W (setW n W (r : Int) pg e) r o := by unfold setW; split; exact .put h; exact .refl _ _ _
theorem TwoW.unmap {W : Nat → Option Sp} {r o : Nat} {pg : Int} (h : o ≠ r) : TwoW W (unmW W (r : Int) pg) r o := by unfold unmW; split; exact .put h; exact .refl _ _ _
theorem allW_far {W W' : Nat → Option Sp} {o : Nat} (h : W' o = W o) : allW W' (o : Int) = allW W (o : Int) := by unfold allW; rw [spOf_nat, spOf_nat, h]
/-- One entry that is set changes no other. -/
def oneF (p : Nat) (e : Ent) (y : MapE) : MapE := if y.1 = (p : Int) then (y.1, e) else y
theorem segN_set (F : Sp) (p : Nat) (e : Ent) (hf : (F p).1 = true) (he : e.1 = true) (a : Nat) : ∀ k, segN (updF F p e) a k = (segN F a k).map (oneF p e)
  | 0 => rfl
  | k + 1 => by
    rw [segN, segN, segN_set F p e hf he a k, List.map_append]
    by_cases h : a + k = p
    · rw [h, updF_same, if_pos he, if_pos hf]; simp [oneF]
    · rw [updF_other _ _ _ _ h]
      split
      · have : ¬ ((a + k : Nat) : Int) = (p : Int) := by omega
        simp only [List.map_cons, List.map_nil, oneF, this, if_false]
      · rfl
theorem allF_set {F : Sp} {p : Nat} {e : Ent} (hf : (F p).1 = true) (he : e.1 = true) : allF (updF F p e) = (allF F).map (oneF p e) := segN_set F p e hf he 0 1024
theorem segN_length (F : Sp) (a : Nat) : ∀ k, (segN F a k).length ≤ k
  | 0 => Nat.le_refl _
  | k + 1 => by
    have := segN_length F a k
    rw [segN, List.length_append]
    split <;> simp <;> omega
theorem allW_length (W : Nat → Option Sp) (r : Int) : (allW W r).length ≤ 1024 := by
  unfold allW
  split
  · simp
  · exact segN_length _ _ _
end Go.Proofs.YtkcecfghfohjcaaDoor
