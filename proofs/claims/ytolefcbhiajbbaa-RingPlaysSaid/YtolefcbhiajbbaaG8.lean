/- The laws' own words: what puts and tells them; a ring of a law's own over them. No condition. -/
import Derived.Test.YtolefcbhiajbbaaG7
namespace Go.Proofs.Ytolefcbhiajbbaa
open Go.RowKit
set_option maxRecDepth 100000

/-- The cells of words that are kept. -/
def kepV (K : List Int) (bad : Bool) : Array Value := (K.map (Value.int .u32) ++ [Value.bool bad]).toArray
theorem kepV_get (K : List Int) (bad : Bool) (i : Nat) (hi : i < K.length) : (kepV K bad)[i]? = some (.int .u32 (K.getD i 0)) := by
  rw [kepV, List.getElem?_toArray, List.getElem?_append_left (by simpa using hi)]
  simp [hi]
theorem kepV_bad (K : List Int) (bad : Bool) : (kepV K bad)[K.length]? = some (.bool bad) := by
  rw [kepV, List.getElem?_toArray, List.getElem?_append_right (by simp)]
  simp
theorem kepV_set (K : List Int) (bad : Bool) (i : Nat) (hi : i < K.length) (x : Int) : (kepV K bad).setIfInBounds i (.int .u32 x) = kepV (K.set i x) bad := by
  apply Array.ext'
  rw [Array.toList_setIfInBounds]
  simp only [kepV]
  rw [List.set_append_left _ _ (by simpa using hi)]
  simp [List.map_set]
/-- Words that are kept lie at block kb. -/
structure KepAt (w : World) (kb : Nat) (K : List Int) : Prop where
  len : K.length = 72
  wd : ∀ i, 0 ≤ K.getD i 0 ∧ K.getD i 0 < 4294967296
  box : w.heap[kb]? = some (.cells (kepV K false) 37 (0, 0))
section
variable {w : World} {kb : Nat} {K : List Int} (h : KepAt w kb K)
include h
theorem KepAt.cell (i : Nat) (hi : i < 72) : w.cell? ⟨kb, i, none⟩ = some (.int .u32 (K.getD i 0)) := by
  rw [cell_of_row w kb _ _ _ _ h.box]; exact kepV_get K false i (by rw [h.len]; exact hi)
theorem KepAt.bad : w.cell? ⟨kb, 72, none⟩ = some (.bool false) := by
  rw [cell_of_row w kb _ _ _ _ h.box, ← h.len]; exact kepV_bad K false
theorem KepAt.free (i : Nat) : w.frozen? ⟨kb, i, none⟩ = false := frozen_of_row w kb i _ _ h.box
theorem KepAt.set (i : Nat) (hi : i < 72) (x : Int) (hx : 0 ≤ x ∧ x < 4294967296) : KepAt (w.setCell ⟨kb, i, none⟩ (.int .u32 x)) kb (K.set i x) :=
  ⟨by rw [List.length_set]; exact h.len, fun j => by
    have := h.wd j
    simp only [List.getD_eq_getElem?_getD, List.getElem?_set] at this ⊢
    by_cases e : i = j
    · subst e; rw [if_pos rfl, if_pos (by rw [h.len]; exact hi)]; exact hx
    · rw [if_neg e]; exact this, by rw [heap_setCell_same w kb i _ _ _ h.box, kepV_set K false i (by rw [h.len]; exact hi)]⟩
end
def KepSt (kb : Nat) (g : Nat → Int) (w : World) : Prop := ∃ K, KepAt w kb K ∧ ∀ i, g i = K.getD i 0
theorem KepSt.cell {kb : Nat} {g : Nat → Int} {w : World} (h : KepSt kb g w) (i : Nat) (hi : i < 72) : w.cell? ⟨kb, i, none⟩ = some (.int .u32 (g i)) := by
  obtain ⟨K, h1, h2⟩ := h
  rw [h2]; exact h1.cell i hi
theorem KepSt.bad {kb : Nat} {g : Nat → Int} {w : World} (h : KepSt kb g w) : w.cell? ⟨kb, 72, none⟩ = some (.bool false) := let ⟨_, h1, _⟩ := h; h1.bad
theorem KepSt.lt {kb : Nat} {g : Nat → Int} {w : World} (h : KepSt kb g w) : kb < w.heap.size := let ⟨_, h1, _⟩ := h; lt_of_block h1.box
theorem KepSt.keep (kb : Nat) : KeepG (KepSt kb) (fun j => j = kb) 72 :=
  ⟨fun g V h k e => e ▸ h.lt, fun g V V' h ho => let ⟨K, h1, h2⟩ := h; ⟨K, ⟨h1.len, h1.wd, ho.kept h1.box (fun e => e rfl)⟩, h2⟩, fun g V h i _ => let ⟨K, h1, h2⟩ := h; by rw [h2]; exact h1.wd i⟩
theorem enters_put19 (args : Array Value) (W : World) : (callFunc 12 args).run Try.prog W = .ok (.enter 12 args) W := enters Try.func12 rfl rfl args W
theorem enters_get19 (args : Array Value) (W : World) : (callFunc 15 args).run Try.prog W = .ok (.enter 15 args) W := enters Try.func15 rfl rfl args W
theorem get19_ok (kb i : Nat) (g : Nat → Int) (w : World) (h : KepSt kb g w) (hi : i < 72) : Calls Try.prog 15 #[.pointer (some ⟨kb, 0, none⟩), .int .i64 (i : Int)] w fun e w' => e = .returned (.int .u32 (g i)) ∧ Below w.heap.size w w' := by
  have c0 := h.cell i hi
  have d1 : decide ((i : Int) < 0) = false := decide_eq_false (by omega)
  have d2 : decide (72 ≤ (i : Int)) = false := decide_eq_false (by omega)
  have d3 : decide (72 ≤ i) = false := decide_eq_false (by omega)
  have i0 : (i : Int) < 72 := by omega
  generalize g i = x at c0 ⊢
  clear h
  go_enter Try.func15, Try.ntmps15
  go_wp2
  go_ret
  exact ⟨rfl, Below.refl _ _⟩
theorem put19_ok (kb i : Nat) (g : Nat → Int) (x : Int) (hx : 0 ≤ x ∧ x < 4294967296) (w : World) (h : KepSt kb g w) (hi : i < 72) : Calls Try.prog 12 #[.pointer (some ⟨kb, 0, none⟩), .int .i64 (i : Int), .int .u32 x] w fun e w' => e = .returned (.tuple #[]) ∧ KepSt kb (upG g i x) w' ∧ Only w w' (fun j => j = kb) := by
  have c0 := h.cell i hi
  have f0 : w.frozen? ⟨kb, i, none⟩ = false := let ⟨_, h1, _⟩ := h; h1.free i
  have d1 : decide ((i : Int) < 0) = false := decide_eq_false (by omega)
  have d2 : decide (72 ≤ (i : Int)) = false := decide_eq_false (by omega)
  have d3 : decide (72 ≤ i) = false := decide_eq_false (by omega)
  have i0 : (i : Int) < 72 := by omega
  have HH : Hid (KepSt kb (upG g i x) (w.setCell ⟨kb, i, none⟩ (.int .u32 x)) ∧ Only w (w.setCell ⟨kb, i, none⟩ (.int .u32 x)) (fun j => j = kb)) := Lib.hid (by
    obtain ⟨K, h1, h2⟩ := h
    refine ⟨⟨K.set i x, h1.set i hi x hx, fun j => ?_⟩, Only.grown (grownBy_setCell w kb i _) rfl⟩
    unfold upG
    simp only [List.getD_eq_getElem?_getD, List.getElem?_set]
    by_cases e : j = i
    · subst e; rw [if_pos rfl, if_pos rfl, if_pos (by rw [h1.len]; exact hi)]; rfl
    · rw [if_neg e, if_neg (fun e' => e e'.symm), h2 j, List.getD_eq_getElem?_getD])
  generalize g i = y at c0
  clear h hx
  go_enter Try.func12, Try.ntmps12
  go_wp2
  go_end0
  exact ⟨rfl, HH.out⟩
theorem KepSt.gets (kb : Nat) : GetsG (KepSt kb) 72 15 #[.pointer (some ⟨kb, 0, none⟩)] #[] := ⟨enters_get19, fun g V i h hi => get19_ok kb i g V h hi⟩
theorem KepSt.puts (kb : Nat) : PutsG (KepSt kb) (fun j => j = kb) 72 12 #[.pointer (some ⟨kb, 0, none⟩)] #[] := ⟨enters_put19, fun g V i x h hi h0 h1 => put19_ok kb i g x ⟨h0, h1⟩ V h hi⟩
/-- The law's functions, as values. -/
abbrev putG (kb : Nat) : Value := .func (.func 12) #[.pointer (some ⟨kb, 0, none⟩)] #[]
abbrev getG (kb : Nat) : Value := .func (.func 15) #[.pointer (some ⟨kb, 0, none⟩)] #[]

def zero72 : List Int := List.replicate 72 0
theorem kepInfo : (Try.prog.info? 37).map (fun i => (i.zero, i.size)) = some (some (.agg (kepV zero72 false)), 73) := by kernel_rfl
theorem kepZero (w : World) : (zeroValue 37).run Try.prog w = .ok (.agg (kepV zero72 false)) w := (zero_of_info kepInfo).1 w
theorem zero72_get (i : Nat) : zero72.getD i 0 = 0 := by
  unfold zero72
  rw [List.getD_eq_getElem?_getD, List.getElem?_replicate]
  split <;> rfl
theorem KepAt.new (w : World) : KepAt (w.alloc (.cells (kepV zero72 false) 37)) w.heap.size zero72 := ⟨by simp [zero72], fun i => by rw [zero72_get]; decide, heap_alloc_new _ _⟩
theorem KepSt.new (w : World) : KepSt w.heap.size (fun _ => 0) (w.alloc (.cells (kepV zero72 false) 37)) := ⟨zero72, KepAt.new w, fun i => (zero72_get i).symm⟩

/-- A ring of a law's own, over words of its own. -/
structure LawG (W w : World) (b kb c d f m : Nat) (g : Nat → Int) : Prop where
  r : RngAt w b c d f m
  k : KepSt kb g w
  bel : Below W.heap.size W w
  b0 : W.heap.size ≤ b
  k0 : W.heap.size ≤ kb
  ne : b ≠ kb
section
variable {W w : World} {b kb c d f m : Nat} {g : Nat → Int} (h : LawG W w b kb c d f m g)
include h
theorem LawG.hN : wdsG c d ≤ 72 := wdsG_le h.r.c8 h.r.d8
theorem LawG.step {w' : World} (hb : Below w.heap.size w w') : LawG W w' b kb c d f m g := ⟨h.r.below hb, (KepSt.keep kb).below h.k hb, h.bel.trans (hb.mono h.bel.size), h.b0, h.k0, h.ne⟩
theorem LawG.onl {w' : World} {B : Nat → Prop} (ho : Only w w' B) (h1 : ¬ B b) (h2 : ¬ B kb) (h3 : ∀ j, B j → W.heap.size ≤ j) : LawG W w' b kb c d f m g := ⟨h.r.only ho h1, (KepSt.keep kb).stay _ _ _ h.k (ho.mono fun _ hj e => h2 (e ▸ hj)), Only.old h.bel ho h.bel.size h3, h.b0, h.k0, h.ne⟩
theorem LawG.send (L : List Int) (v : Value) (M : RowAt w v L) (hw : ∀ x ∈ L, 0 ≤ x ∧ x < 4294967296) (hL : 1 ≤ L.length ∧ L.length ≤ d) (hm : m < c) : Calls Try.prog 11 #[.pointer (some ⟨b, 0, none⟩), v, putG kb] w fun e w' => e = .returned (.int .i64 0) ∧ LawG W w' b kb c d f (m + 1) (msgF g (begG c d f m) L L.length) ∧ Only w w' (fun j => j = b ∨ j = kb) :=
  (send_okG (KepSt.keep kb) (KepSt.puts kb) h.r h.ne hm h.hN (by decide) h.k L hL hw v M).mono fun _ _ ⟨he, h1, h2, h3⟩ => ⟨he, ⟨h1, h2, Only.old h.bel h3 h.bel.size (fun j hj => hj.elim (fun e => e ▸ h.b0) (fun e => e ▸ h.k0)), h.b0, h.k0, h.ne⟩, h3⟩
end
theorem LawG.recv {W w : World} {b kb c d f m : Nat} {g : Nat → Int} (h : LawG W w b kb c d f (m + 1) g) : Calls Try.prog 14 #[.pointer (some ⟨b, 0, none⟩), getG kb] w fun e w' => ∃ r, e = .returned (.tuple #[.slice (some ⟨r, 0, none⟩) (lenG d (g (begG c d f 0))) (lenG d (g (begG c d f 0))), .int .i64 0]) ∧ w.heap.size ≤ r ∧ MsgG w' r (msgOf g (begG c d f 0) (lenG d (g (begG c d f 0)))) ∧ LawG W w' b kb c d ((f + 1) % c) m g ∧ Only w w' (fun j => j = b) :=
  (recv_okG (KepSt.keep kb) (KepSt.gets kb) h.r h.ne h.hN (by decide) h.k).mono fun _ _ ⟨r, he, h1, h2, h3, h4, h5⟩ => ⟨r, he, h1, h2, ⟨h3, h4, Only.old h.bel h5 h.bel.size (fun j e => e ▸ h.b0), h.b0, h.k0, h.ne⟩, h5⟩
theorem LawG.next {W w : World} {b kb c d f m : Nat} {g : Nat → Int} (h : LawG W w b kb c d f (m + 1) g) : Calls Try.prog 21 #[.pointer (some ⟨b, 0, none⟩), getG kb] w fun e w' => e = .returned (.int .i64 (lenG d (g (begG c d f 0)) : Int)) ∧ Below w.heap.size w w' :=
  next_okG (KepSt.keep kb) (KepSt.gets kb) h.r h.hN (by decide) h.k
end Go.Proofs.Ytolefcbhiajbbaa
