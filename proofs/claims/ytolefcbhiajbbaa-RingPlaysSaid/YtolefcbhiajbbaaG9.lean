/- What the laws' sentinel does. No condition. -/
import Derived.Test.YtolefcbhiajbbaaG8
namespace Go.Proofs.Ytolefcbhiajbbaa
open Go.RowKit
set_option maxRecDepth 100000

/-- Words that are written out, as a message. -/
theorem lit_row (w : World) (L : List Int) : RowAt (w.alloc (.cells (wordsV L) 34)) (.slice (some ⟨w.heap.size, 0, none⟩) L.length L.length) L := (msg_of_row (heap_alloc_new w _)).rowAt
theorem LawG.sendLit {W w : World} {b kb c d f m : Nat} {g : Nat → Int} (h : LawG W w b kb c d f m g) (L : List Int) (n s : Nat) (hn : L.length = n) (hs : s = w.heap.size) (hw : ∀ x ∈ L, 0 ≤ x ∧ x < 4294967296) (hL : 1 ≤ n ∧ n ≤ d) (hm : m < c) :
    Calls Try.prog 11 #[.pointer (some ⟨b, 0, none⟩), .slice (some ⟨s, 0, none⟩) n n, putG kb] (w.alloc (.cells (wordsV L) 34)) fun e w' => e = .returned (.int .i64 0) ∧ LawG W w' b kb c d f (m + 1) (msgF g (begG c d f m) L n) ∧ Only w w' (fun j => j = b ∨ j = kb) := by
  subst hn hs
  exact ((h.step (below_step1 w _)).send L _ (lit_row w L) hw hL hm).mono fun _ _ ⟨h1, h2, h3⟩ => ⟨h1, h2, (Only.below (below_step1 w _)).trans h3⟩
theorem LawG.new {W w : World} (hb : Below W.heap.size W w) (c d : Nat) (hc : 1 ≤ c ∧ c ≤ 8) (hd : 1 ≤ d ∧ d ≤ 8) : Calls Try.prog 9 #[.int .i64 (c : Int), .int .i64 (d : Int)] w fun e w' => ∃ b, e = .returned (.tuple #[.pointer (some ⟨b, 0, none⟩), .int .i64 0]) ∧ W.heap.size ≤ b ∧ b < w'.heap.size ∧ Below w.heap.size w w' ∧ RngAt w' b c d 0 0 ∧ Below W.heap.size W w' :=
  (new_okG c d hc hd w).mono fun _ _ ⟨b, he, h1, h2, h3⟩ => ⟨b, he, Nat.le_trans hb.size h2, h1.lt, h3, h1, hb.trans (h3.mono hb.size)⟩
/-- With words of its own behind it. -/
theorem LawG.start {W w : World} {b c d : Nat} (h : RngAt w b c d 0 0) (hb : Below W.heap.size W w) (h0 : W.heap.size ≤ b) : LawG W (w.alloc (.cells (kepV zero72 false) 37)) b w.heap.size c d 0 0 (fun _ => 0) :=
  ⟨h.below (below_step1 w _), KepSt.new w, hb.trans ((below_step1 w _).mono hb.size), h0, hb.size, Nat.ne_of_lt h.lt⟩
set_option maxHeartbeats 2000000 in
theorem awake19 (W : World) : Calls Try.prog 8 #[] W fun e w' => e = .returned (.bool true) ∧ Below W.heap.size W w' := by
  have hz := kepZero
  have hmf : ∀ (fn : Fn) (first cap : Array Value) (w : World), (Instr.makeFunc fn first cap).run Try.prog w = .ok (.func fn first cap) w := fun _ _ _ _ => rfl
  have NW := Lib.hid (LawG.new (Below.refl W.heap.size W) 2 3 (by decide) (by decide))
  go_enter Try.func8, Try.ntmps8
  go_wp2_with fail
  refine NW.out.mono ?_
  rintro e w1 ⟨b, rfl, h0, -, -, hr, hb⟩
  have L1 := Lib.hid (LawG.start hr hb h0)
  clear hr hb
  generalize hkb : w1.heap.size = kb at L1
  go_wp2_with fail
  have S1 := L1.out.sendLit [7] 1 (kb + 1) rfl (by simp; exact hkb.symm) (by decide) (by decide) (by decide)
  refine S1.mono ?_
  rintro e w2 ⟨rfl, hl, -⟩
  have L2 := Lib.hid hl
  clear S1 hl
  go_wp2_with fail
  refine (L2.out.sendLit [1, 2, 3] 3 _ rfl rfl (by decide) (by decide) (by decide)).mono ?_
  rintro e w3 ⟨rfl, hl, -⟩
  have L3 := Lib.hid hl
  clear hl
  go_wp2_with fail
  refine (send_fullG (L3.out.r.below (below_step1 w3 (.cells #[.int .u32 5] 34))) _ 1 1 _ _ _ (by decide)).mono ?_
  rintro e w4 ⟨rfl, hb⟩
  have L4 := Lib.hid (L3.out.step ((below_step1 w3 _).trans (hb.mono (by simp))))
  clear hb
  obtain ⟨g, hg⟩ : ∃ g, g = msgF (msgF (fun _ => 0) (begG 2 3 0 0) [7] 1) (begG 2 3 0 (0 + 1)) [1, 2, 3] 3 := ⟨_, rfl⟩
  have g0 : g (begG 2 3 0 0) = 1 := by rw [hg]; decide
  have g1 : msgOf g (begG 2 3 0 0) 1 = [7] := by rw [hg]; decide
  have k0 : g 0 = 1 := by rw [hg]; decide
  have k4 : g 4 = 3 := by rw [hg]; decide
  have k7 : g 7 = 3 := by rw [hg]; decide
  rw [← hg] at L4
  have RC := L4.out.recv
  rw [g0, show lenG 3 1 = 1 from by decide, g1] at RC
  have RC := Lib.hid RC
  have GG := Lib.hid (And.intro k0 (And.intro k4 k7))
  clear hg g0 g1 k0 k4 k7
  go_wp2_with fail
  refine RC.out.mono ?_
  rintro e w5 ⟨r, rfl, -, hm, hl, -⟩
  have c0 := hl.k.cell 0 (by decide)
  have c4 := hl.k.cell 4 (by decide)
  have c7 := hl.k.cell 7 (by decide)
  rw [GG.out.1] at c0
  rw [GG.out.2.1] at c4
  rw [GG.out.2.2] at c7
  have cm : w5.cell? ⟨r, 0, none⟩ = some (.int .u32 7) := hm.cell 0 (by decide)
  have L5 := Lib.hid hl
  have WD := Lib.hid (words_okG hl.r)
  clear hm hl
  go_wp2_with (go_at_call 19; refine WD.out.mono ?_; rintro e w6 ⟨rfl, q, hq⟩; have B6 : Hid (Below w5.heap.size w5 w6) := Lib.hid (by rw [hq]; exact below_drewN (Below.refl _ _) q); clear hq)
  go_ret
  exact ⟨rfl, (L5.out.step B6.out).bel⟩
end Go.Proofs.Ytolefcbhiajbbaa
