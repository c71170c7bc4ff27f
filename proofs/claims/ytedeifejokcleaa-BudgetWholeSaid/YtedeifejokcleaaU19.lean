/- The contract of layer 11's play: a call on both. Condition: both say the same ahead. Written by gen/gen_u19.py. -/
import Derived.Test.YtedeifejokcleaaU15
namespace Go.Proofs.Ytedeifejokcleaa
open Go.RowKit Go.Maps
set_option maxRecDepth 100000

/-- The budget and the document's list say the same. -/
structure Pair11 (W w : World) (b : Nat) (v : Value) (L : List Nd) : Prop where
  ob : OB W w b (fun k => v.ownBlock = some k) L
  row : w.ownsRow W.heap.size 49 4 v L.length (ndsV L)
theorem Pair11.step {W w w' : World} {b : Nat} {v : Value} {L : List Nd} (h : Pair11 W w b v L) (hb : Below w.heap.size w w') : Pair11 W w' b v L := ⟨h.ob.step hb, own_step h.row hb⟩
theorem Pair11.nds {W w : World} {b : Nat} {v : Value} {L : List Nd} (h : Pair11 W w b v L) : NdsAt w v L := NdsAt.of_row h.row
def playL (L : List Nd) (d id up n : Int) : List Nd := if d = 1 then openL L id up n else if d = 2 then closeL L id else if d = 3 then chargeL L id n else if d = 4 then refundL L id n else L
theorem playL_good {L : List Nd} (h : Good L) (d id up n : Int) : Good (playL L d id up n) := by
  unfold playL
  split
  · exact h.open _ _ _
  split
  · exact h.close _
  split
  · exact h.charge _ _
  split
  · exact h.refund _ _
  exact h
theorem ropen11 {base : Nat} {w : World} {v : Value} {L : List Nd} (hg : Good L) (ho : w.ownsRow base 49 4 v L.length (ndsV L)) (hbs : base ≤ w.heap.size) (id up n : Int) {er : Int} (he : openE L id up n = er) :
    Calls Try.prog 24 #[v, .int .i64 id, .int .i64 up, .int .i64 n] w (RPost base w v (openL L id up n) er) := by
  by_cases h : er = 0
  · subst h; exact ropen11_ok hg ho hbs id up n he
  · exact ropen11_err hg ho id up n he h
theorem rclose11 {base : Nat} {w : World} {v : Value} {L : List Nd} (hg : Good L) (ho : w.ownsRow base 49 4 v L.length (ndsV L)) (hbs : base ≤ w.heap.size) (id : Int) {er : Int} (he : closeE L id = er) :
    Calls Try.prog 25 #[v, .int .i64 id] w (RPost base w v (closeL L id) er) := by
  by_cases h : er = 0
  · subst h; exact rclose11_ok hg ho hbs id he
  · exact rclose11_err hg ho id he h
/-- Behind the document's call: the budget, apart of the new list. -/
theorem Pair11.ref {W w w' : World} {b : Nat} {v v' : Value} {L L' : List Nd} (h : Pair11 W w b v L) (ho : w'.ownsRow W.heap.size 49 4 v' L'.length (ndsV L')) (hb : Below w.heap.size w w') (hf : ∀ g, v'.ownBlock = some g → v.ownBlock = some g ∨ w.heap.size ≤ g) : OB W w' b (fun k => v'.ownBlock = some k) L :=
  h.ob.more hb fun k hk => ⟨hf k hk, (ho.lt k hk).2⟩
def PlayPost (W : World) (b : Nat) (L' : List Nd) (e : Ending) (w' : World) : Prop := ∃ v', e = .returned (.tuple #[v', .bool true]) ∧ Pair11 W w' b v' L'
theorem opBox (w : World) (d id up n : Int) : (w.alloc (.cells #[.int .i64 d, .int .i64 id, .int .i64 up, .int .i64 n] 34)).heap[w.heap.size]? = some (.cells #[.int .i64 d, .int .i64 id, .int .i64 up, .int .i64 n] 34 (0, 0)) := heap_alloc_new w _
set_option maxHeartbeats 4000000 in
theorem play11_open {W w : World} {b : Nat} {v : Value} {L : List Nd} (h : Pair11 W w b v L) (id up n : Int) :
    Calls Try.prog 12 #[.pointer (some ⟨b, 0, none⟩), v, .agg #[.int .i64 1, .int .i64 id, .int .i64 up, .int .i64 n]] w (PlayPost W b (openL L id up n)) := by
  obtain ⟨w1, hw1⟩ : ∃ w1, w1 = w.alloc (.cells #[.int .i64 1, .int .i64 id, .int .i64 up, .int .i64 n] 34) := ⟨_, rfl⟩
  have B1 : Hid (Below w.heap.size w w1) := Lib.hid (by rw [hw1]; exact (Below.refl _ _).alloc (Nat.le_refl _) _)
  have X1 : Hid (w1.heap[w.heap.size]? = some (.cells #[.int .i64 1, .int .i64 id, .int .i64 up, .int .i64 n] 34 (0, 0))) := Lib.hid (by rw [hw1]; exact opBox w _ _ _ _)
  have H1 := Lib.hid (h.step B1.out)
  obtain ⟨er, her⟩ : ∃ er, openE L id up n = er := ⟨_, rfl⟩
  have HER := Lib.hid her
  obtain ⟨z0, z1, z2, z3, -⟩ := box4 X1.out
  have hwe := Lib.hid hw1
  rw [hw1] at z0 z1 z2 z3
  clear h her hw1
  go_enter Try.func12, Try.ntmps12
  go_wp2_with fail
  rw [← hwe.out]
  clear hwe z0 z1 z2 z3
  refine (ropen11 H1.out.ob.good H1.out.row H1.out.ob.below.size id up n HER.out).mono ?_
  rintro e w2 ⟨v', rfl, ho, hb, hf⟩
  have O2 := Lib.hid (H1.out.ref ho hb hf)
  have R2 := Lib.hid ho
  obtain ⟨y0, y1, y2, y3, -⟩ := box4 (below_block hb X1.out)
  clear ho hb hf
  go_wp2_with fail
  refine (ob_open O2.out id up n HER.out).mono ?_
  rintro e w3 ⟨rfl, h, hk⟩
  have H3 : Hid (Pair11 W w3 b v' (openL L id up n)) := Lib.hid ⟨h, hk.own R2.out (fun g hg => hg)⟩
  clear h hk y0 y1 y2 y3
  go_wp2
  go_ret2
  exact ⟨v', rfl, H3.out⟩
set_option maxHeartbeats 4000000 in
theorem play11_close {W w : World} {b : Nat} {v : Value} {L : List Nd} (h : Pair11 W w b v L) (id up n : Int) :
    Calls Try.prog 12 #[.pointer (some ⟨b, 0, none⟩), v, .agg #[.int .i64 2, .int .i64 id, .int .i64 up, .int .i64 n]] w (PlayPost W b (closeL L id)) := by
  obtain ⟨w1, hw1⟩ : ∃ w1, w1 = w.alloc (.cells #[.int .i64 2, .int .i64 id, .int .i64 up, .int .i64 n] 34) := ⟨_, rfl⟩
  have B1 : Hid (Below w.heap.size w w1) := Lib.hid (by rw [hw1]; exact (Below.refl _ _).alloc (Nat.le_refl _) _)
  have X1 : Hid (w1.heap[w.heap.size]? = some (.cells #[.int .i64 2, .int .i64 id, .int .i64 up, .int .i64 n] 34 (0, 0))) := Lib.hid (by rw [hw1]; exact opBox w _ _ _ _)
  have H1 := Lib.hid (h.step B1.out)
  obtain ⟨er, her⟩ : ∃ er, closeE L id = er := ⟨_, rfl⟩
  have HER := Lib.hid her
  obtain ⟨z0, z1, z2, z3, -⟩ := box4 X1.out
  have hwe := Lib.hid hw1
  rw [hw1] at z0 z1 z2 z3
  clear h her hw1
  go_enter Try.func12, Try.ntmps12
  go_wp2_with fail
  rw [← hwe.out]
  clear hwe z0 z1 z2 z3
  refine (rclose11 H1.out.ob.good H1.out.row H1.out.ob.below.size id HER.out).mono ?_
  rintro e w2 ⟨v', rfl, ho, hb, hf⟩
  have O2 := Lib.hid (H1.out.ref ho hb hf)
  have R2 := Lib.hid ho
  obtain ⟨y0, y1, y2, y3, -⟩ := box4 (below_block hb X1.out)
  clear ho hb hf
  go_wp2_with fail
  refine (ob_close O2.out id HER.out).mono ?_
  rintro e w3 ⟨rfl, h, hk⟩
  have H3 : Hid (Pair11 W w3 b v' (closeL L id)) := Lib.hid ⟨h, hk.own R2.out (fun g hg => hg)⟩
  clear h hk y0 y1 y2 y3
  go_wp2
  go_ret2
  exact ⟨v', rfl, H3.out⟩
set_option maxHeartbeats 4000000 in
theorem play11_charge {W w : World} {b : Nat} {v : Value} {L : List Nd} (h : Pair11 W w b v L) (id up n : Int) :
    Calls Try.prog 12 #[.pointer (some ⟨b, 0, none⟩), v, .agg #[.int .i64 3, .int .i64 id, .int .i64 up, .int .i64 n]] w (PlayPost W b (chargeL L id n)) := by
  obtain ⟨w1, hw1⟩ : ∃ w1, w1 = w.alloc (.cells #[.int .i64 3, .int .i64 id, .int .i64 up, .int .i64 n] 34) := ⟨_, rfl⟩
  have B1 : Hid (Below w.heap.size w w1) := Lib.hid (by rw [hw1]; exact (Below.refl _ _).alloc (Nat.le_refl _) _)
  have X1 : Hid (w1.heap[w.heap.size]? = some (.cells #[.int .i64 3, .int .i64 id, .int .i64 up, .int .i64 n] 34 (0, 0))) := Lib.hid (by rw [hw1]; exact opBox w _ _ _ _)
  have H1 := Lib.hid (h.step B1.out)
  obtain ⟨er, her⟩ : ∃ er, chargeE L id n = er := ⟨_, rfl⟩
  have HER := Lib.hid her
  obtain ⟨z0, z1, z2, z3, -⟩ := box4 X1.out
  have hwe := Lib.hid hw1
  rw [hw1] at z0 z1 z2 z3
  clear h her hw1
  go_enter Try.func12, Try.ntmps12
  go_wp2_with fail
  rw [← hwe.out]
  clear hwe z0 z1 z2 z3
  refine (rcharge11 H1.out.ob.good H1.out.row H1.out.ob.below.size id n HER.out).mono ?_
  rintro e w2 ⟨v', rfl, ho, hb, hf⟩
  have O2 := Lib.hid (H1.out.ref ho hb hf)
  have R2 := Lib.hid ho
  obtain ⟨y0, y1, y2, y3, -⟩ := box4 (below_block hb X1.out)
  clear ho hb hf
  go_wp2_with fail
  refine (ob_charge O2.out id n HER.out).mono ?_
  rintro e w3 ⟨rfl, h, hk⟩
  have H3 : Hid (Pair11 W w3 b v' (chargeL L id n)) := Lib.hid ⟨h, hk.own R2.out (fun g hg => hg)⟩
  clear h hk y0 y1 y2 y3
  go_wp2
  go_ret2
  exact ⟨v', rfl, H3.out⟩
set_option maxHeartbeats 4000000 in
theorem play11_refund {W w : World} {b : Nat} {v : Value} {L : List Nd} (h : Pair11 W w b v L) (id up n : Int) :
    Calls Try.prog 12 #[.pointer (some ⟨b, 0, none⟩), v, .agg #[.int .i64 4, .int .i64 id, .int .i64 up, .int .i64 n]] w (PlayPost W b (refundL L id n)) := by
  obtain ⟨w1, hw1⟩ : ∃ w1, w1 = w.alloc (.cells #[.int .i64 4, .int .i64 id, .int .i64 up, .int .i64 n] 34) := ⟨_, rfl⟩
  have B1 : Hid (Below w.heap.size w w1) := Lib.hid (by rw [hw1]; exact (Below.refl _ _).alloc (Nat.le_refl _) _)
  have X1 : Hid (w1.heap[w.heap.size]? = some (.cells #[.int .i64 4, .int .i64 id, .int .i64 up, .int .i64 n] 34 (0, 0))) := Lib.hid (by rw [hw1]; exact opBox w _ _ _ _)
  have H1 := Lib.hid (h.step B1.out)
  obtain ⟨er, her⟩ : ∃ er, refundE L id n = er := ⟨_, rfl⟩
  have HER := Lib.hid her
  obtain ⟨z0, z1, z2, z3, -⟩ := box4 X1.out
  have hwe := Lib.hid hw1
  rw [hw1] at z0 z1 z2 z3
  clear h her hw1
  go_enter Try.func12, Try.ntmps12
  go_wp2_with fail
  rw [← hwe.out]
  clear hwe z0 z1 z2 z3
  refine (rrefund11 H1.out.ob.good H1.out.row H1.out.ob.below.size id n HER.out).mono ?_
  rintro e w2 ⟨v', rfl, ho, hb, hf⟩
  have O2 := Lib.hid (H1.out.ref ho hb hf)
  have R2 := Lib.hid ho
  obtain ⟨y0, y1, y2, y3, -⟩ := box4 (below_block hb X1.out)
  clear ho hb hf
  go_wp2_with fail
  refine (ob_refund O2.out id n HER.out).mono ?_
  rintro e w3 ⟨rfl, h, hk⟩
  have H3 : Hid (Pair11 W w3 b v' (refundL L id n)) := Lib.hid ⟨h, hk.own R2.out (fun g hg => hg)⟩
  clear h hk y0 y1 y2 y3
  go_wp2
  go_ret2
  exact ⟨v', rfl, H3.out⟩
set_option maxHeartbeats 4000000 in
theorem play11_none {W w : World} {b : Nat} {v : Value} {L : List Nd} (h : Pair11 W w b v L) (d id up n : Int) (h1 : d ≠ 1) (h2 : d ≠ 2) (h3 : d ≠ 3) (h4 : d ≠ 4) :
    Calls Try.prog 12 #[.pointer (some ⟨b, 0, none⟩), v, .agg #[.int .i64 d, .int .i64 id, .int .i64 up, .int .i64 n]] w (PlayPost W b L) := by
  have d1 : (d == 1) = false := by simpa using h1
  have d2 : (d == 2) = false := by simpa using h2
  have d3 : (d == 3) = false := by simpa using h3
  have d4 : (d == 4) = false := by simpa using h4
  have H1 := Lib.hid (h.step ((Below.refl _ _).alloc (Nat.le_refl _) (.cells #[.int .i64 d, .int .i64 id, .int .i64 up, .int .i64 n] 34)))
  clear h h1 h2 h3 h4
  go_enter Try.func12, Try.ntmps12
  go_wp2
  go_ret2
  exact ⟨_, rfl, H1.out⟩
theorem play11 {W w : World} {b : Nat} {v : Value} {L : List Nd} (h : Pair11 W w b v L) (d id up n : Int) :
    Calls Try.prog 12 #[.pointer (some ⟨b, 0, none⟩), v, .agg #[.int .i64 d, .int .i64 id, .int .i64 up, .int .i64 n]] w (PlayPost W b (playL L d id up n)) := by
  by_cases h1 : d = 1
  · subst h1; exact play11_open h id up n
  by_cases h2 : d = 2
  · subst h2; exact play11_close h id up n
  by_cases h3 : d = 3
  · subst h3; exact play11_charge h id up n
  by_cases h4 : d = 4
  · subst h4; exact play11_refund h id up n
  rw [show playL L d id up n = L by unfold playL; rw [if_neg h1, if_neg h2, if_neg h3, if_neg h4]]
  exact play11_none h d id up n h1 h2 h3 h4
end Go.Proofs.Ytedeifejokcleaa
