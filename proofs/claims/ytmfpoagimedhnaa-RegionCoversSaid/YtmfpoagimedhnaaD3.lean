/- Areas as slices; the contracts of package region's arePages, has, mayFollow, find, among, and of the document's Fits, meet. Condition: the slices lie in memory. -/
import Derived.Test.YtmfpoagimedhnaaD2
import Derived.BigQuiet
import Derived.Deep.RegionHeld3
namespace Go.Proofs.Ytmfpoagimedhnaa
open Go.RowKit Go.Maps
set_option maxRecDepth 100000

/-- The cells of an area in memory. -/
def CellsD (w : World) (b o : Nat) (x : Ar) : Prop := w.cell? ⟨b, o, none⟩ = some (.int .i64 x.1) ∧ w.cell? ⟨b, o + 1, none⟩ = some (.int .i64 x.2.1) ∧ w.cell? ⟨b, o + 2, none⟩ = some (.bool x.2.2)
/-- An area by value. -/
abbrev arV (x : Ar) : Value := .agg #[.int .i64 x.1, .int .i64 x.2.1, .bool x.2.2]
abbrev arsV (L : List Ar) : List Value := L.flatMap fun x => [.int .i64 x.1, .int .i64 x.2.1, .bool x.2.2]
/-- Numbers that a machine's word holds. -/
def WideD (x : Ar) : Prop := I64 x.1 ∧ I64 x.2.1
theorem FitD.wide {x : Ar} (h : FitD x.1 x.2.1) : WideD x := by unfold FitD at h; unfold WideD I64; omega
/-- A slice of areas. -/
def ArAt (w : World) (v : Value) (L : List Ar) : Prop := ∃ a c, v = .slice a L.length c ∧ L.length ≤ 2000 ∧ (∀ x ∈ L, WideD x) ∧ (L = [] ∨ ∃ b o, a = some ⟨b, o, none⟩ ∧ b < w.heap.size ∧ ∀ i, i < L.length → CellsD w b (o + i * 3) (L.getD i default))
theorem ArAt.below {w w' : World} {v : Value} {L : List Ar} (h : ArAt w v L) (hb : Below w.heap.size w w') : ArAt w' v L := by
  obtain ⟨a, c, rfl, hl, hw, h⟩ := h
  refine ⟨a, c, rfl, hl, hw, h.imp id fun ⟨b, o, e, hlt, hc⟩ => ⟨b, o, e, Nat.lt_of_lt_of_le hlt hb.size, fun i hi => ?_⟩⟩
  obtain ⟨c0, c1, c2⟩ := hc i hi
  have k : ∀ q, w'.cell? ⟨b, q, none⟩ = w.cell? ⟨b, q, none⟩ := fun q => hb.cell (p := ⟨b, q, none⟩) hlt
  exact ⟨(k _).trans c0, (k _).trans c1, (k _).trans c2⟩
theorem ArAt.nil (w : World) : ArAt w (.slice none 0 0) [] := ⟨none, 0, rfl, by simp, by simp, Or.inl rfl⟩
theorem ArAt.form {w : World} {v : Value} {L : List Ar} (h : ArAt w v L) : ∃ a c, v = .slice a L.length c := by
  obtain ⟨a, c, e, _⟩ := h
  exact ⟨a, c, e⟩
theorem ArAt.len {w : World} {v : Value} {L : List Ar} (h : ArAt w v L) : L.length ≤ 2000 := by
  obtain ⟨a, c, e, h, _⟩ := h
  exact h
theorem getD_inD {L : List Ar} {i : Nat} (h : i < L.length) : L.getD i default ∈ L := by
  rw [List.getD_eq_getElem?_getD, List.getElem?_eq_getElem h]; exact List.getElem_mem _
/-- One of them. -/
theorem ArAt.at_ {w : World} {a : Option Addr} {n c : Nat} {L : List Ar} (h : ArAt w (.slice a n c) L) {i : Nat} (hi : i < L.length) {x : Ar} (hx : L.getD i default = x) :
    ∃ b o, a = some ⟨b, o, none⟩ ∧ b < w.heap.size ∧ WideD x ∧ w.cell? ⟨b, o + i * 3, none⟩ = some (.int .i64 x.1) ∧ w.cell? ⟨b, o + i * 3 + 1, none⟩ = some (.int .i64 x.2.1) ∧ w.cell? ⟨b, o + i * 3 + 2, none⟩ = some (.bool x.2.2) := by
  obtain ⟨a', c', he, _, hw, h⟩ := h
  injection he with e1
  subst e1 hx
  rcases h with rfl | ⟨b, o, rfl, hb, hc⟩
  · simp at hi
  · exact ⟨b, o, rfl, hb, hw _ (getD_inD hi), hc i hi⟩
theorem arsV_get : ∀ (L : List Ar) (i : Nat), i < L.length → (arsV L)[i * 3]? = some (.int .i64 (L.getD i default).1) ∧ (arsV L)[i * 3 + 1]? = some (.int .i64 (L.getD i default).2.1) ∧ (arsV L)[i * 3 + 2]? = some (.bool (L.getD i default).2.2)
  | x :: r, 0, _ => by simp [arsV]
  | x :: r, i + 1, h => by
    have ih := arsV_get r i (by simpa using h)
    have e : arsV (x :: r) = [.int .i64 x.1, .int .i64 x.2.1, .bool x.2.2] ++ arsV r := by simp [arsV]
    rw [e, show (i + 1) * 3 = i * 3 + 3 by omega]
    simpa [List.getElem?_append_right] using ih
theorem ArAt.of_row {w : World} {base : Nat} {v : Value} {L : List Ar} (h : w.ownsRow base 32 3 v L.length (arsV L)) (hl : L.length ≤ 2000) (hw : ∀ x ∈ L, WideD x) : ArAt w v L := by
  have h' := h
  rcases h.2 with ⟨rfl, h0⟩ | ⟨g, cap, cur, rfl, hb, hgg, _⟩
  · exact ⟨none, 0, by rw [h0], hl, hw, Or.inl (List.eq_nil_of_length_eq_zero h0)⟩
  · refine ⟨_, _, rfl, hl, hw, Or.inr ⟨g, 0, rfl, lt_of_block hgg, fun i hi => ?_⟩⟩
    obtain ⟨a0, a1, a2⟩ := arsV_get L i hi
    have b0 := h'.cells (g := g) rfl _ _ a0
    have b1 := h'.cells (g := g) rfl _ _ a1
    have b2 := h'.cells (g := g) rfl _ _ a2
    rw [Addr.add_mid] at b0 b1 b2
    exact ⟨b0, b1, b2⟩

theorem arePages_ok (f m : Int) (hf : I64 f) (hm : I64 m) (w : World) : Calls Try.prog 28 #[.int .i64 f, .int .i64 m] w fun e w' => e = .returned (.bool (decide (FitD f m))) ∧ w' = w := by
  obtain ⟨f1, f2⟩ := hf
  obtain ⟨m1, m2⟩ := hm
  by_cases h1 : 0 ≤ f
  · by_cases h2 : 1 ≤ m
    · by_cases h3 : m ≤ 1024 - f
      · rw [decide_eq_true (show FitD f m from ⟨h1, h2, h3⟩)]
        go_enter Try.func28, Try.ntmps28
        go_wp2
        go_ret
        exact ⟨rfl, rfl⟩
      · rw [decide_eq_false (show ¬ FitD f m from fun h => h3 h.2.2)]
        go_enter Try.func28, Try.ntmps28
        go_wp2
        go_ret
        exact ⟨rfl, rfl⟩
    · rw [decide_eq_false (show ¬ FitD f m from fun h => h2 h.2.1)]
      go_enter Try.func28, Try.ntmps28
      go_wp2
      go_ret
      exact ⟨rfl, rfl⟩
  · rw [decide_eq_false (show ¬ FitD f m from fun h => h1 h.1)]
    go_enter Try.func28, Try.ntmps28
    go_wp2
    go_ret
    exact ⟨rfl, rfl⟩
theorem fits14 (f m : Int) (hf : I64 f) (hm : I64 m) (w : World) : Calls Try.prog 26 #[.int .i64 f, .int .i64 m] w fun e w' => e = .returned (.bool (decide (FitD f m))) ∧ w' = w := by
  obtain ⟨f1, f2⟩ := hf
  obtain ⟨m1, m2⟩ := hm
  by_cases h1 : 0 ≤ f
  · by_cases h4 : f < 1024
    · by_cases h2 : 1 ≤ m
      · by_cases h3 : m ≤ 1024 - f
        · rw [decide_eq_true (show FitD f m from ⟨h1, h2, h3⟩)]
          go_enter Try.func26, Try.ntmps26
          go_wp2
          go_ret
          exact ⟨rfl, rfl⟩
        · rw [decide_eq_false (show ¬ FitD f m from fun h => h3 h.2.2)]
          go_enter Try.func26, Try.ntmps26
          go_wp2
          go_ret
          exact ⟨rfl, rfl⟩
      · rw [decide_eq_false (show ¬ FitD f m from fun h => h2 h.2.1)]
        go_enter Try.func26, Try.ntmps26
        go_wp2
        go_ret
        exact ⟨rfl, rfl⟩
    · rw [decide_eq_false (show ¬ FitD f m from fun h => by unfold FitD at h; omega)]
      go_enter Try.func26, Try.ntmps26
      go_wp2
      go_ret
      exact ⟨rfl, rfl⟩
  · rw [decide_eq_false (show ¬ FitD f m from fun h => h1 h.1)]
    go_enter Try.func26, Try.ntmps26
    go_wp2
    go_ret
    exact ⟨rfl, rfl⟩
theorem has_okD (x y : Int) (b : Bool) (p : Int) (hx : FitD x y) (w : World) : Calls Try.prog 37 #[.agg #[.int .i64 x, .int .i64 y, .bool b], .int .i64 p] w fun e w' => e = .returned (.bool (decide (HasD (x, y, b) p))) ∧ Below w.heap.size w w' := by
  obtain ⟨x1, x2, x3⟩ := hx
  by_cases h1 : x ≤ p
  · by_cases h2 : p < x + y
    · rw [decide_eq_true (show HasD (x, y, b) p from ⟨h1, h2⟩)]
      go_enter Try.func37, Try.ntmps37
      go_wp2
      go_ret
      exact ⟨rfl, (Below.refl _ _).alloc (Nat.le_refl _) _⟩
    · rw [decide_eq_false (show ¬ HasD (x, y, b) p from fun h => h2 h.2)]
      go_enter Try.func37, Try.ntmps37
      go_wp2
      go_ret
      exact ⟨rfl, (Below.refl _ _).alloc (Nat.le_refl _) _⟩
  · rw [decide_eq_false (show ¬ HasD (x, y, b) p from fun h => h1 h.1)]
    go_enter Try.func37, Try.ntmps37
    go_wp2
    go_ret
    exact ⟨rfl, (Below.refl _ _).alloc (Nat.le_refl _) _⟩
theorem follow_ok (x y : Int) (b : Bool) (x' y' : Int) (b' : Bool) (hx : FitD x y) (hx' : I64 x') (w : World) : Calls Try.prog 29 #[.agg #[.int .i64 x, .int .i64 y, .bool b], .agg #[.int .i64 x', .int .i64 y', .bool b']] w fun e w' => e = .returned (.bool (decide (FolD (x, y, b) (x', y', b')))) ∧ Below w.heap.size w w' := by
  obtain ⟨x1, x2, x3⟩ := hx
  obtain ⟨p1, p2⟩ := hx'
  have hbw : ∀ o o', Below w.heap.size w ((w.alloc o).alloc o') := fun o o' => ((Below.refl _ _).alloc (Nat.le_refl _) _).alloc (by simp) _
  have HB := Lib.hid hbw
  clear hbw
  by_cases h1 : x + y < x'
  · rw [decide_eq_true (show FolD (x, y, b) (x', y', b') from Or.inl h1)]
    go_enter Try.func29, Try.ntmps29
    go_wp2
    go_ret
    exact ⟨rfl, HB.out _ _⟩
  · by_cases h2 : x' = x + y
    · have h3 : (x' == x + y) = true := by simpa using h2
      have e : decide (FolD (x, y, b) (x', y', b')) = (b' != b) := by
        cases b <;> cases b' <;> simp [FolD, h2]
      rw [e]
      clear e h2
      cases b <;> cases b' <;>
        (go_enter Try.func29, Try.ntmps29
         go_wp2
         go_ret
         exact ⟨rfl, HB.out _ _⟩)
    · have h3 : (x' == x + y) = false := by simpa using h2
      rw [decide_eq_false (show ¬ FolD (x, y, b) (x', y', b') from fun h => by rcases h with h | h <;> simp only at h <;> omega)]
      clear h2
      go_enter Try.func29, Try.ntmps29
      go_wp2
      go_ret
      exact ⟨rfl, HB.out _ _⟩
end Go.Proofs.Ytmfpoagimedhnaa
