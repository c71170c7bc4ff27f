/- The walks of the laws WordGet and WordEntry. Conditions: the two tables read as laid. -/
import Derived.Test.YtfehchbllfjngaaDoorW8
import Derived.Deep.RegionWith
import Derived.Deep.RegionHeld3
namespace Go.Proofs.YtfehchbllfjngaaDoor
open Go.RowKit

/-- The bits of a word, as an entry's. -/
theorem bits_of (a : Int) : ∃ p w c : Bool, a / 1 % 2 = bit p ∧ a / 2 % 2 = bit w ∧ a / 4 % 2 = bit c := by
  refine ⟨decide (a % 2 = 1), decide (a / 2 % 2 = 1), decide (a / 4 % 2 = 1), ?_, ?_, ?_⟩
  · by_cases h : a % 2 = 1 <;> simp [bit, h]; omega
  · by_cases h : a / 2 % 2 = 1 <;> simp [bit, h]; omega
  · by_cases h : a / 4 % 2 = 1 <;> simp [bit, h]; omega
/-- A word that is none: Get refuses it. -/
theorem get_bad (a : Int) (p w c : Bool) (f : Int) (W : World) (h0 : 0 ≤ a) (h1 : a < 4294967296) (hp : a / 1 % 2 = bit p) (hw : a / 2 % 2 = bit w) (hc : a / 4 % 2 = bit c) (hf : a / 256 % 1024 = f) (hbad : ¬ (okE p w c f = true ∧ wordOf p w c f = a)) (hL : LaidW W) :
    Calls Tryd.prog 16 #[.int .u32 a] W fun e w' => e = .returned (.tuple #[ent false false false 0, .int .i64 6]) ∧ Below W.heap.size W w' := by
  by_cases hok : okE p w c f = true
  · exact get_ne a p w c f W h0 h1 hp hw hc hf hok (by rw [bne_iff_ne]; exact fun h => hbad ⟨hok, h⟩) hL
  · exact get_no a p w c f W h0 h1 hp hw hc hf (by simpa using hok) hL
/-- Which words are of entries that may be, by numbers alone. -/
theorem word_iff (a : Int) (p w c : Bool) (h0 : 0 ≤ a) (hp : a / 1 % 2 = bit p) (hw : a / 2 % 2 = bit w) (hc : a / 4 % 2 = bit c) : wordOf p w c (a / 256 % 1024) = a ↔ (a < 262144 ∧ a / 8 % 32 = 0) := by
  unfold wordOf
  rw [← hp, ← hw, ← hc]
  omega
/-- The document's own Get, in the form of Get's contracts. -/
theorem rget_good (a : Int) (p w c : Bool) (f : Int) (W : World) (h0 : 0 ≤ a) (hp : a / 1 % 2 = bit p) (hw : a / 2 % 2 = bit w) (hc : a / 4 % 2 = bit c) (hf : a / 256 % 1024 = f) (hok : okE p w c f = true) (heq : wordOf p w c f = a) :
    Calls Tryd.prog 17 #[.int .u32 a] W fun e w' => e = .returned (.tuple #[ent p w c f, .int .i64 0]) ∧ Below W.heap.size W w' := by
  subst hf
  have hi := (word_iff a p w c h0 hp hw hc).1 heq
  have e : a / 256 % 1024 = a / 256 := by omega
  rw [e] at hok ⊢
  exact rget_yes a p w c W h0 (by omega) hw hc hi.1 hi.2 hok
theorem rget_bad (a : Int) (p w c : Bool) (f : Int) (W : World) (h0 : 0 ≤ a) (hp : a / 1 % 2 = bit p) (hw : a / 2 % 2 = bit w) (hc : a / 4 % 2 = bit c) (hf : a / 256 % 1024 = f) (hbad : ¬ (okE p w c f = true ∧ wordOf p w c f = a)) :
    Calls Tryd.prog 17 #[.int .u32 a] W fun e w' => e = .returned (.tuple #[ent false false false 0, .int .i64 6]) ∧ Below W.heap.size W w' := by
  subst hf
  by_cases h1 : 262144 ≤ a
  · exact rget_big a W h0 h1
  by_cases h2 : a / 8 % 32 = 0
  · have e : a / 256 % 1024 = a / 256 := by omega
    have hno : okE p w c (a / 256) = false := by
      by_cases hok : okE p w c (a / 256) = true
      · exact absurd ⟨by rw [e]; exact hok, (word_iff a p w c h0 hp hw hc).2 ⟨by omega, h2⟩⟩ hbad
      · simpa using hok
    exact rget_no a p w c W h0 (by omega) hw hc (by omega) h2 hno
  · exact rget_odd a W h0 (by omega) (by rw [bne_iff_ne]; exact h2)
set_option maxRecDepth 100000 in
set_option maxHeartbeats 2000000 in
theorem lawGet_walk (a : Int) (W : World) (ha : 0 ≤ a ∧ a ≤ 4294967295) (hL : LaidW W) : Calls Tryd.prog 4 #[.int .u32 a] W fun e w' => e = .returned (.bool true) ∧ Below W.heap.size W w' := by
  have HL := Lib.hid hL
  obtain ⟨h0, h1⟩ := ha
  have h2 : a < 4294967296 := by omega
  obtain ⟨p, w, c, hp, hw, hc⟩ := bits_of a
  obtain ⟨f, hf⟩ : ∃ f, a / 256 % 1024 = f := ⟨_, rfl⟩
  have hv : ∃ (q x d : Bool) (g k : Int), (∀ W, LaidW W → Calls Tryd.prog 16 #[.int .u32 a] W fun e w' => e = .returned (.tuple #[ent q x d g, .int .i64 k]) ∧ Below W.heap.size W w') ∧
      (∀ W, Calls Tryd.prog 17 #[.int .u32 a] W fun e w' => e = .returned (.tuple #[ent q x d g, .int .i64 k]) ∧ Below W.heap.size W w') := by
    by_cases hg : okE p w c f = true ∧ wordOf p w c f = a
    · exact ⟨p, w, c, f, 0, fun W h => get_yes a p w c f W h0 h2 hp hw hc hf hg.1 hg.2 h, fun W => rget_good a p w c f W h0 hp hw hc hf hg.1 hg.2⟩
    · exact ⟨false, false, false, 0, 6, fun W h => get_bad a p w c f W h0 h2 hp hw hc hf hg h, fun W => rget_bad a p w c f W h0 hp hw hc hf hg⟩
  clear hp hw hc hf p w c f hL h0 h1 h2
  obtain ⟨q, x, d, g, k, c1, c2⟩ := hv
  have C1 := Lib.hid c1
  have C2 := Lib.hid c2
  clear c1 c2
  go_enter Tryd.func4, Tryd.ntmps4
  go_wp2_with fail
  refine (C1.out _ (by exact HL.out)).mono ?_
  rintro e w1 ⟨rfl, hb⟩
  have B1 := Lib.hid hb
  clear hb
  go_wp2_with fail
  refine (C2.out _).mono ?_
  rintro e w2 ⟨rfl, hb⟩
  have e0 := (box_cell hb 0).trans rfl
  have e1 := (box_cell hb 1).trans rfl
  have e2 := (box_cell hb 2).trans rfl
  have e3 := (box_cell hb 3).trans rfl
  have B2 := Lib.hid ((B1.out.alloc B1.out.size _).trans (hb.mono (by have := B1.out.size; simp; omega)))
  have hz : w1.heap.size < w2.heap.size := by have := hb.size; simp at this; omega
  clear hb
  go_wp2_with fail
  refine (awake_any _ (by exact (HL.out.below B2.out).of_cells (fun b i hb => World.cell?_alloc_lt _ _ ⟨b, i, none⟩ hb))).mono ?_
  rintro e w3 ⟨rfl, hb⟩
  have B3 := Lib.hid ((B2.out.alloc B2.out.size _).trans (hb.mono (by have := B2.out.size; simp; omega)))
  clear hb
  go_wp2
  go_ret
  exact ⟨rfl, B3.out⟩
set_option maxRecDepth 100000 in
set_option maxHeartbeats 2000000 in
theorem lawEntry_walk (p w c : Bool) (f : Int) (W : World) (_wf : -9223372036854775808 ≤ f ∧ f ≤ 9223372036854775807) (hL : LaidW W) : Calls Tryd.prog 3 #[ent p w c f] W fun e w' => e = .returned (.bool true) ∧ Below W.heap.size W w' := by
  have HL := Lib.hid hL
  clear hL _wf
  have hv : ∃ v k m : Int, (∀ W, LaidW W → Calls Tryd.prog 11 #[ent p w c f] W fun e w' => e = .returned (.tuple #[.int .u32 v, .int .i64 k]) ∧ Below W.heap.size W w') ∧
      (∀ W, Calls Tryd.prog 12 #[ent p w c f] W fun e w' => e = .returned (.tuple #[.int .u32 v, .int .i64 k]) ∧ Below W.heap.size W w') ∧
      (∀ W, Calls Tryd.prog 13 #[ent p w c f] W fun e w' => e = .returned (.int .i64 m) ∧ Below W.heap.size W w') ∧
      (∀ W, Calls Tryd.prog 14 #[ent p w c f] W fun e w' => e = .returned (.int .i64 m) ∧ Below W.heap.size W w') := by
    cases hok : okE p w c f
    · exact ⟨0, 2, 2, fun W _ => put_no p w c f W hok, fun W => rput_no p w c f W hok, fun W => check_no p w c f W hok, fun W => rcheck_no p w c f W hok⟩
    · exact ⟨wordOf p w c f, 0, 0, fun W h => put_yes p w c f W hok h, fun W => rput_yes p w c f W hok, fun W => check_yes p w c f W hok, fun W => rcheck_yes p w c f W hok⟩
  obtain ⟨v, k, m, c1, c2, c3, c4⟩ := hv
  have C1 := Lib.hid c1
  have C2 := Lib.hid c2
  have C3 := Lib.hid c3
  have C4 := Lib.hid c4
  clear c1 c2 c3 c4
  go_enter Tryd.func3, Tryd.ntmps3
  go_wp2_with fail
  refine (C1.out _ (by exact HL.out.of_cells (fun b i hb => World.cell?_alloc_lt _ _ ⟨b, i, none⟩ hb))).mono ?_
  rintro e w1 ⟨rfl, hb⟩
  have e0 := (box_cell hb 0).trans rfl
  have e1 := (box_cell hb 1).trans rfl
  have e2 := (box_cell hb 2).trans rfl
  have e3 := (box_cell hb 3).trans rfl
  have hz : W.heap.size < w1.heap.size := by have := hb.size; simp at this; omega
  have B1 := Lib.hid (((Below.refl _ _).alloc (Nat.le_refl _) _).trans (hb.mono (by simp)))
  clear hb
  go_wp2_with fail
  refine (C2.out _).mono ?_
  rintro e w2 ⟨rfl, hb⟩
  have E0 := (hb.cell (p := ⟨W.heap.size, 0, none⟩) hz).trans e0
  have E1 := (hb.cell (p := ⟨W.heap.size, 1, none⟩) hz).trans e1
  have E2 := (hb.cell (p := ⟨W.heap.size, 2, none⟩) hz).trans e2
  have E3 := (hb.cell (p := ⟨W.heap.size, 3, none⟩) hz).trans e3
  have hz2 : W.heap.size < w2.heap.size := Nat.lt_of_lt_of_le hz hb.size
  have B2 := Lib.hid (B1.out.trans (hb.mono (Nat.le_of_lt hz)))
  clear hb e0 e1 e2 e3 hz
  go_wp2_with fail
  have B3 : Hid (Below W.heap.size W w2.drew) := Lib.hid B2.out.drew
  have hz3 : W.heap.size < w2.drew.heap.size := hz2
  have D0 : w2.drew.cell? ⟨W.heap.size, 0, none⟩ = some (.bool p) := E0
  have D1 : w2.drew.cell? ⟨W.heap.size, 1, none⟩ = some (.bool w) := E1
  have D2 : w2.drew.cell? ⟨W.heap.size, 2, none⟩ = some (.bool c) := E2
  have D3 : w2.drew.cell? ⟨W.heap.size, 3, none⟩ = some (.int .i64 f) := E3
  go_region_with (first | (go_at_call 13; refine (C3.out _).mono ?_; rintro e w3 ⟨rfl, hb⟩; have hz3 : W.heap.size < w3.heap.size := Nat.lt_of_lt_of_le (by assumption) hb.size; have B3 : Hid (Below W.heap.size W w3) := Lib.hid (Below.trans (Hid.out (by assumption)) (hb.mono (Nat.le_of_lt (by assumption)))); have E0 := (hb.cell (p := ⟨W.heap.size, 0, none⟩) (by assumption)).trans (show _ = some (.bool p) from (by assumption)); have E1 := (hb.cell (p := ⟨W.heap.size, 1, none⟩) (by assumption)).trans (show _ = some (.bool w) from (by assumption)); have E2 := (hb.cell (p := ⟨W.heap.size, 2, none⟩) (by assumption)).trans (show _ = some (.bool c) from (by assumption)); have E3 := (hb.cell (p := ⟨W.heap.size, 3, none⟩) (by assumption)).trans (show _ = some (.int .i64 f) from (by assumption)); clear hb) | (go_at_call 14; refine (C4.out _).mono ?_; rintro e w3 ⟨rfl, hb⟩; have hz3 : W.heap.size < w3.heap.size := Nat.lt_of_lt_of_le (by assumption) hb.size; have B3 : Hid (Below W.heap.size W w3) := Lib.hid (Below.trans (Hid.out (by assumption)) (hb.mono (Nat.le_of_lt (by assumption)))); have E0 := (hb.cell (p := ⟨W.heap.size, 0, none⟩) (by assumption)).trans (show _ = some (.bool p) from (by assumption)); have E1 := (hb.cell (p := ⟨W.heap.size, 1, none⟩) (by assumption)).trans (show _ = some (.bool w) from (by assumption)); have E2 := (hb.cell (p := ⟨W.heap.size, 2, none⟩) (by assumption)).trans (show _ = some (.bool c) from (by assumption)); have E3 := (hb.cell (p := ⟨W.heap.size, 3, none⟩) (by assumption)).trans (show _ = some (.int .i64 f) from (by assumption)); clear hb) | (go_at_call 15; refine (awake_any _ ?_).mono ?_; exact HL.out.below (Hid.out (by assumption)); rintro e w3 ⟨rfl, hb⟩; have hz3 : W.heap.size < w3.heap.size := Nat.lt_of_lt_of_le (by assumption) hb.size; have B3 : Hid (Below W.heap.size W w3) := Lib.hid (Below.trans (Hid.out (by assumption)) (hb.mono (Nat.le_of_lt (by assumption)))); have E0 := (hb.cell (p := ⟨W.heap.size, 0, none⟩) (by assumption)).trans (show _ = some (.bool p) from (by assumption)); have E1 := (hb.cell (p := ⟨W.heap.size, 1, none⟩) (by assumption)).trans (show _ = some (.bool w) from (by assumption)); have E2 := (hb.cell (p := ⟨W.heap.size, 2, none⟩) (by assumption)).trans (show _ = some (.bool c) from (by assumption)); have E3 := (hb.cell (p := ⟨W.heap.size, 3, none⟩) (by assumption)).trans (show _ = some (.int .i64 f) from (by assumption)); clear hb))
  all_goals go_wp2
  all_goals go_ret
  all_goals exact ⟨rfl, Hid.out (by assumption)⟩
end Go.Proofs.YtfehchbllfjngaaDoor
