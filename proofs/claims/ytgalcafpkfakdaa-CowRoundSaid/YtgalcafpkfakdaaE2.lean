/- The contracts of package cow's Fork, Write, Set: what they answer at any entry. No condition. -/
import Derived.Test.YtgalcafpkfakdaaE1
namespace Go.Proofs.Ytgalcafpkfakdaa
open Go.RowKit
set_option maxRecDepth 100000

/-- Behind a call, ahead of which the entry was boxed, and a result laid. -/
theorem box_res {W w1 : World} {p x c : Bool} {f : Int} {t : TypeId} (hb : Below ((W.alloc (.cells #[.bool p, .bool x, .bool c, .int .i64 f] t)).alloc (.cells #[.bool false, .bool false, .bool false, .int .i64 0] t)).heap.size ((W.alloc (.cells #[.bool p, .bool x, .bool c, .int .i64 f] t)).alloc (.cells #[.bool false, .bool false, .bool false, .int .i64 0] t)) w1) :
    EntAt w1 W.heap.size p x c f ∧ ResAt w1 (W.heap.size + 1) ∧ Below W.heap.size W w1 := by
  have h1 := (EntAt.new W p x c f t).alloc (.cells #[.bool false, .bool false, .bool false, .int .i64 0] t)
  have h2 := ResAt.new (W.alloc (.cells #[.bool p, .bool x, .bool c, .int .i64 f] t)) t
  rw [World.size_alloc] at h2
  exact ⟨h1.below hb, h2.below hb, (((Below.refl _ _).alloc (Nat.le_refl _) _).alloc (by simp) _).trans (hb.mono (by simp only [World.size_alloc]; omega))⟩
/-- Behind a call, ahead of which the entry was boxed. -/
theorem box_ent {W w1 : World} {p x c : Bool} {f : Int} {t : TypeId} (hb : Below (W.alloc (.cells #[.bool p, .bool x, .bool c, .int .i64 f] t)).heap.size (W.alloc (.cells #[.bool p, .bool x, .bool c, .int .i64 f] t)) w1) :
    EntAt w1 W.heap.size p x c f ∧ Below W.heap.size W w1 :=
  ⟨(EntAt.new W p x c f t).below hb, ((Below.refl _ _).alloc (Nat.le_refl _) _).trans (hb.mono (by simp))⟩
theorem frozen_box {W w1 : World} {c1 c2 : Array Value} {t1 t2 : TypeId} (hb : Below ((W.alloc (.cells c1 t1)).alloc (.cells c2 t2)).heap.size ((W.alloc (.cells c1 t1)).alloc (.cells c2 t2)) w1) (i : Nat) : w1.frozen? ⟨W.heap.size, i, none⟩ = false := by
  have hlt : (⟨W.heap.size, i, none⟩ : Addr).block < (W.alloc (.cells c1 t1)).heap.size := by simp
  exact (hb.frozen (p := ⟨W.heap.size, i, none⟩) (by simp only [World.size_alloc]; omega)).trans ((World.frozen?_alloc_old _ _ _ (Nat.ne_of_lt hlt)).trans (World.frozen?_alloc_new ..))
set_option maxHeartbeats 1000000 in
theorem fork_no (p w c : Bool) (f : Int) (W : World) (h : pgE p w c f = false) : Calls Try.prog 8 #[ent p w c f] W fun e w' => e = .returned (.tuple #[ent false false false 0, .int .i64 2]) ∧ Below W.heap.size W w' := by
  have H := Lib.hid h
  clear h
  go_enter Try.func8, Try.ntmps8
  go_wp2_with fail
  refine (isPage_any p w c f _).mono ?_
  rw [H.out]
  rintro e w1 ⟨rfl, hb⟩
  obtain ⟨-, hr, hB⟩ := box_res hb
  have HB := Lib.hid hB
  obtain ⟨⟨r0, r1, r2, r3⟩, f0, f1, f2, f3⟩ := hr
  clear hb hB
  go_wp2
  exact bodyPost_ret (v := .tuple #[ent false false false 0, .int .i64 2]) (by simp [results, Try.results8, go_sem, r0, r1, r2, r3]) rfl ⟨rfl, below_ent HB.out (by omega) _ _ _ _⟩
set_option maxHeartbeats 2000000 in
theorem fork_read (f : Int) (W : World) (h : pgE true false false f = true) : Calls Try.prog 8 #[ent true false false f] W fun e w' => e = .returned (.tuple #[ent true false false f, .int .i64 0]) ∧ Below W.heap.size W w' := by
  have H := Lib.hid h
  clear h
  go_enter Try.func8, Try.ntmps8
  go_wp2_with fail
  refine (isPage_any true false false f _).mono ?_
  rw [H.out]
  rintro e w1 ⟨rfl, hb⟩
  obtain ⟨he, hr, hB⟩ := box_res hb
  have HE := Lib.hid he
  have HR := Lib.hid hr
  have HB1 := Lib.hid hB
  have D : Hid (∀ V, Below w1.heap.size w1 V → V.cell? ⟨W.heap.size, 0, none⟩ = some (.bool true) ∧ V.cell? ⟨W.heap.size, 1, none⟩ = some (.bool false) ∧ V.cell? ⟨W.heap.size, 2, none⟩ = some (.bool false) ∧ V.cell? ⟨W.heap.size, 3, none⟩ = some (.int .i64 f)) :=
    Lib.hid fun V hV => have k := HE.out.below hV; ⟨k.c0, k.c1, k.c2, k.c3⟩
  obtain ⟨e0, e1, e2, e3⟩ := he
  clear hb hB hr
  go_wp2_with fail
  go_region_held3 (fun V => V.cell? ⟨W.heap.size, 0, none⟩ = some (.bool true) ∧ V.cell? ⟨W.heap.size, 1, none⟩ = some (.bool false) ∧ V.cell? ⟨W.heap.size, 2, none⟩ = some (.bool false) ∧ V.cell? ⟨W.heap.size, 3, none⟩ = some (.int .i64 f)) (first | with_reducible exact D.out _ (Below.refl _ _).drew | with_reducible exact D.out w2 B2.out)
    (first
      | (go_at_call 16; refine (toWrite_any f _).mono ?_; rintro e w2 ⟨rfl, hb⟩; have B2 : Hid (Below w1.heap.size w1 w2) := Lib.hid ((Below.refl _ _).drew.trans hb); clear hb))
  clear e0 e1 e2 e3
  obtain ⟨e0, e1, e2, e3⟩ := D.out w2 B2.out
  have HB := Lib.hid (below_step HB1.out B2.out HB1.out.size)
  obtain ⟨⟨r0, r1, r2, r3⟩, f0, f1, f2, f3⟩ := HR.out.below B2.out
  go_wp2
  exact bodyPost_ret (v := .tuple #[ent true false false f, .int .i64 0]) (by simp [results, Try.results8, go_sem, r0, r1, r2, r3]) rfl ⟨rfl, below_ent HB.out (by omega) _ _ _ _⟩
set_option maxHeartbeats 2000000 in
theorem fork_write (f : Int) (W : World) (h : pgE true true false f = true) : Calls Try.prog 8 #[ent true true false f] W fun e w' => e = .returned (.tuple #[ent true false true f, .int .i64 0]) ∧ Below W.heap.size W w' := by
  have H := Lib.hid h
  clear h
  go_enter Try.func8, Try.ntmps8
  go_wp2_with fail
  refine (isPage_any true true false f _).mono ?_
  rw [H.out]
  rintro e w1 ⟨rfl, hb⟩
  obtain ⟨he, hr, hB⟩ := box_res hb
  have HE := Lib.hid he
  have HR := Lib.hid hr
  have HB1 := Lib.hid hB
  have D : Hid (∀ V, Below w1.heap.size w1 V → V.cell? ⟨W.heap.size, 0, none⟩ = some (.bool true) ∧ V.cell? ⟨W.heap.size, 1, none⟩ = some (.bool true) ∧ V.cell? ⟨W.heap.size, 2, none⟩ = some (.bool false) ∧ V.cell? ⟨W.heap.size, 3, none⟩ = some (.int .i64 f)) :=
    Lib.hid fun V hV => have k := HE.out.below hV; ⟨k.c0, k.c1, k.c2, k.c3⟩
  obtain ⟨e0, e1, e2, e3⟩ := he
  clear hb hB hr
  go_wp2_with fail
  go_region_held3 (fun V => V.cell? ⟨W.heap.size, 0, none⟩ = some (.bool true) ∧ V.cell? ⟨W.heap.size, 1, none⟩ = some (.bool true) ∧ V.cell? ⟨W.heap.size, 2, none⟩ = some (.bool false) ∧ V.cell? ⟨W.heap.size, 3, none⟩ = some (.int .i64 f)) (first | with_reducible exact D.out _ (Below.refl _ _).drew | with_reducible exact D.out w2 B2.out)
    (first
      | (go_at_call 16; refine (toWrite_any f _).mono ?_; rintro e w2 ⟨rfl, hb⟩; have B2 : Hid (Below w1.heap.size w1 w2) := Lib.hid ((Below.refl _ _).drew.trans hb); clear hb))
  clear e0 e1 e2 e3
  obtain ⟨e0, e1, e2, e3⟩ := D.out w2 B2.out
  go_wp2_with fail
  refine (toCopy_any f _).mono ?_
  rintro e w3 ⟨rfl, hb⟩
  have HB := Lib.hid (below_step HB1.out (below_step B2.out hb B2.out.size) HB1.out.size)
  obtain ⟨⟨r0, r1, r2, r3⟩, f0, f1, f2, f3⟩ := HR.out.below (below_step B2.out hb B2.out.size)
  clear hb
  go_wp2
  exact bodyPost_ret (v := .tuple #[ent true false true f, .int .i64 0]) (by simp [results, Try.results8, go_sem, r0, r1, r2, r3]) rfl ⟨rfl, below_ent HB.out (by omega) _ _ _ _⟩
set_option maxHeartbeats 2000000 in
theorem fork_copy (f : Int) (W : World) (h : pgE true false true f = true) : Calls Try.prog 8 #[ent true false true f] W fun e w' => e = .returned (.tuple #[ent true false true f, .int .i64 0]) ∧ Below W.heap.size W w' := by
  have H := Lib.hid h
  clear h
  go_enter Try.func8, Try.ntmps8
  go_wp2_with fail
  refine (isPage_any true false true f _).mono ?_
  rw [H.out]
  rintro e w1 ⟨rfl, hb⟩
  obtain ⟨he, hr, hB⟩ := box_res hb
  have HE := Lib.hid he
  have HR := Lib.hid hr
  have HB1 := Lib.hid hB
  have D : Hid (∀ V, Below w1.heap.size w1 V → V.cell? ⟨W.heap.size, 0, none⟩ = some (.bool true) ∧ V.cell? ⟨W.heap.size, 1, none⟩ = some (.bool false) ∧ V.cell? ⟨W.heap.size, 2, none⟩ = some (.bool true) ∧ V.cell? ⟨W.heap.size, 3, none⟩ = some (.int .i64 f)) :=
    Lib.hid fun V hV => have k := HE.out.below hV; ⟨k.c0, k.c1, k.c2, k.c3⟩
  obtain ⟨e0, e1, e2, e3⟩ := he
  clear hb hB hr
  go_wp2_with fail
  go_region_held3 (fun V => V.cell? ⟨W.heap.size, 0, none⟩ = some (.bool true) ∧ V.cell? ⟨W.heap.size, 1, none⟩ = some (.bool false) ∧ V.cell? ⟨W.heap.size, 2, none⟩ = some (.bool true) ∧ V.cell? ⟨W.heap.size, 3, none⟩ = some (.int .i64 f)) (first | with_reducible exact D.out _ (Below.refl _ _).drew | with_reducible exact D.out w2 B2.out)
    (first
      | (go_at_call 16; refine (toWrite_any f _).mono ?_; rintro e w2 ⟨rfl, hb⟩; have B2 : Hid (Below w1.heap.size w1 w2) := Lib.hid ((Below.refl _ _).drew.trans hb); clear hb))
  clear e0 e1 e2 e3
  obtain ⟨e0, e1, e2, e3⟩ := D.out w2 B2.out
  have HB := Lib.hid (below_step HB1.out B2.out HB1.out.size)
  obtain ⟨⟨r0, r1, r2, r3⟩, f0, f1, f2, f3⟩ := HR.out.below B2.out
  go_wp2
  exact bodyPost_ret (v := .tuple #[ent true false true f, .int .i64 0]) (by simp [results, Try.results8, go_sem, r0, r1, r2, r3]) rfl ⟨rfl, below_ent HB.out (by omega) _ _ _ _⟩
set_option maxHeartbeats 1000000 in
theorem write_no (p w c : Bool) (f n : Int) (W : World) (h : pgE p w c f = false) : Calls Try.prog 11 #[ent p w c f, .int .i64 n] W fun e w' => e = .returned (.tuple #[.int .i64 0, .int .i64 2]) ∧ Below W.heap.size W w' := by
  have H := Lib.hid h
  clear h
  go_enter Try.func11, Try.ntmps11
  go_wp2_with fail
  refine (isPage_any p w c f _).mono ?_
  rw [H.out]
  rintro e w1 ⟨rfl, hb⟩
  obtain ⟨-, hB⟩ := box_ent hb
  have HB := Lib.hid hB
  clear hb hB
  go_wp2
  go_ret2
  exact ⟨rfl, HB.out⟩
set_option maxHeartbeats 1000000 in
theorem write_few (p w c : Bool) (f n : Int) (W : World) (h : pgE p w c f = true) (hn : n < 1) : Calls Try.prog 11 #[ent p w c f, .int .i64 n] W fun e w' => e = .returned (.tuple #[.int .i64 0, .int .i64 2]) ∧ Below W.heap.size W w' := by
  have H := Lib.hid h
  clear h
  go_enter Try.func11, Try.ntmps11
  go_wp2_with fail
  refine (isPage_any p w c f _).mono ?_
  rw [H.out]
  rintro e w1 ⟨rfl, hb⟩
  obtain ⟨-, hB⟩ := box_ent hb
  have HB := Lib.hid hB
  clear hb hB
  go_wp2
  go_ret2
  exact ⟨rfl, HB.out⟩
set_option maxHeartbeats 2000000 in
theorem write_read (f : Int) (n : Int) (W : World) (h : pgE true false false f = true) (hn : 1 ≤ n) : Calls Try.prog 11 #[ent true false false f, .int .i64 n] W fun e w' => e = .returned (.tuple #[.int .i64 0, .int .i64 8]) ∧ Below W.heap.size W w' := by
  have H := Lib.hid h
  clear h
  go_enter Try.func11, Try.ntmps11
  go_wp2_with fail
  refine (isPage_any true false false f _).mono ?_
  rw [H.out]
  rintro e w1 ⟨rfl, hb⟩
  obtain ⟨he, hB⟩ := box_ent hb
  have HE := Lib.hid he
  have HB1 := Lib.hid hB
  have D : Hid (∀ V, Below w1.heap.size w1 V → V.cell? ⟨W.heap.size, 0, none⟩ = some (.bool true) ∧ V.cell? ⟨W.heap.size, 1, none⟩ = some (.bool false) ∧ V.cell? ⟨W.heap.size, 2, none⟩ = some (.bool false) ∧ V.cell? ⟨W.heap.size, 3, none⟩ = some (.int .i64 f)) :=
    Lib.hid fun V hV => have k := HE.out.below hV; ⟨k.c0, k.c1, k.c2, k.c3⟩
  obtain ⟨e0, e1, e2, e3⟩ := he
  clear hb hB
  go_wp2_with fail
  go_region_held3 (fun V => V.cell? ⟨W.heap.size, 0, none⟩ = some (.bool true) ∧ V.cell? ⟨W.heap.size, 1, none⟩ = some (.bool false) ∧ V.cell? ⟨W.heap.size, 2, none⟩ = some (.bool false) ∧ V.cell? ⟨W.heap.size, 3, none⟩ = some (.int .i64 f)) (first | with_reducible exact D.out _ (Below.refl _ _).drew | with_reducible exact D.out w2 B2.out)
    (first
      | (go_at_call 19; refine (toRead_any f _).mono ?_; rintro e w2 ⟨rfl, hb⟩; have B2 : Hid (Below w1.heap.size w1 w2) := Lib.hid ((Below.refl _ _).drew.trans hb); clear hb))
  have HB := Lib.hid (below_step HB1.out B2.out HB1.out.size)
  go_wp2
  go_ret2
  exact ⟨rfl, HB.out⟩
set_option maxHeartbeats 2000000 in
theorem write_write (f : Int) (n : Int) (W : World) (h : pgE true true false f = true) (hn : 1 ≤ n) : Calls Try.prog 11 #[ent true true false f, .int .i64 n] W fun e w' => e = .returned (.tuple #[.int .i64 1, .int .i64 0]) ∧ Below W.heap.size W w' := by
  have H := Lib.hid h
  clear h
  go_enter Try.func11, Try.ntmps11
  go_wp2_with fail
  refine (isPage_any true true false f _).mono ?_
  rw [H.out]
  rintro e w1 ⟨rfl, hb⟩
  obtain ⟨he, hB⟩ := box_ent hb
  have HE := Lib.hid he
  have HB1 := Lib.hid hB
  have D : Hid (∀ V, Below w1.heap.size w1 V → V.cell? ⟨W.heap.size, 0, none⟩ = some (.bool true) ∧ V.cell? ⟨W.heap.size, 1, none⟩ = some (.bool true) ∧ V.cell? ⟨W.heap.size, 2, none⟩ = some (.bool false) ∧ V.cell? ⟨W.heap.size, 3, none⟩ = some (.int .i64 f)) :=
    Lib.hid fun V hV => have k := HE.out.below hV; ⟨k.c0, k.c1, k.c2, k.c3⟩
  obtain ⟨e0, e1, e2, e3⟩ := he
  clear hb hB
  go_wp2_with fail
  go_region_held3 (fun V => V.cell? ⟨W.heap.size, 0, none⟩ = some (.bool true) ∧ V.cell? ⟨W.heap.size, 1, none⟩ = some (.bool true) ∧ V.cell? ⟨W.heap.size, 2, none⟩ = some (.bool false) ∧ V.cell? ⟨W.heap.size, 3, none⟩ = some (.int .i64 f)) (first | with_reducible exact D.out _ (Below.refl _ _).drew | with_reducible exact D.out w2 B2.out)
    (first
      | (go_at_call 19; refine (toRead_any f _).mono ?_; rintro e w2 ⟨rfl, hb⟩; have B2 : Hid (Below w1.heap.size w1 w2) := Lib.hid ((Below.refl _ _).drew.trans hb); clear hb))
  clear e0 e1 e2 e3
  obtain ⟨e0, e1, e2, e3⟩ := D.out w2 B2.out
  go_wp2_with fail
  go_region_held3 (fun V => V.cell? ⟨W.heap.size, 0, none⟩ = some (.bool true) ∧ V.cell? ⟨W.heap.size, 1, none⟩ = some (.bool true) ∧ V.cell? ⟨W.heap.size, 2, none⟩ = some (.bool false) ∧ V.cell? ⟨W.heap.size, 3, none⟩ = some (.int .i64 f)) (first | with_reducible exact D.out _ B2.out.drew | with_reducible exact D.out w3 B3.out)
    (first
      | (go_at_call 16; refine (toWrite_any f _).mono ?_; rintro e w3 ⟨rfl, hb⟩; have B3 : Hid (Below w1.heap.size w1 w3) := Lib.hid (below_step B2.out.drew hb B2.out.size); clear hb))
  have HB := Lib.hid (below_step HB1.out B3.out HB1.out.size)
  go_wp2
  go_ret2
  exact ⟨rfl, HB.out⟩
set_option maxHeartbeats 2000000 in
theorem write_own (f : Int) (W : World) (h : pgE true false true f = true) : Calls Try.prog 11 #[ent true false true f, .int .i64 1] W fun e w' => e = .returned (.tuple #[.int .i64 2, .int .i64 0]) ∧ Below W.heap.size W w' := by
  have H := Lib.hid h
  clear h
  go_enter Try.func11, Try.ntmps11
  go_wp2_with fail
  refine (isPage_any true false true f _).mono ?_
  rw [H.out]
  rintro e w1 ⟨rfl, hb⟩
  obtain ⟨he, hB⟩ := box_ent hb
  have HE := Lib.hid he
  have HB1 := Lib.hid hB
  have D : Hid (∀ V, Below w1.heap.size w1 V → V.cell? ⟨W.heap.size, 0, none⟩ = some (.bool true) ∧ V.cell? ⟨W.heap.size, 1, none⟩ = some (.bool false) ∧ V.cell? ⟨W.heap.size, 2, none⟩ = some (.bool true) ∧ V.cell? ⟨W.heap.size, 3, none⟩ = some (.int .i64 f)) :=
    Lib.hid fun V hV => have k := HE.out.below hV; ⟨k.c0, k.c1, k.c2, k.c3⟩
  obtain ⟨e0, e1, e2, e3⟩ := he
  clear hb hB
  go_wp2_with fail
  go_region_held3 (fun V => V.cell? ⟨W.heap.size, 0, none⟩ = some (.bool true) ∧ V.cell? ⟨W.heap.size, 1, none⟩ = some (.bool false) ∧ V.cell? ⟨W.heap.size, 2, none⟩ = some (.bool true) ∧ V.cell? ⟨W.heap.size, 3, none⟩ = some (.int .i64 f)) (first | with_reducible exact D.out _ (Below.refl _ _).drew | with_reducible exact D.out w2 B2.out)
    (first
      | (go_at_call 19; refine (toRead_any f _).mono ?_; rintro e w2 ⟨rfl, hb⟩; have B2 : Hid (Below w1.heap.size w1 w2) := Lib.hid ((Below.refl _ _).drew.trans hb); clear hb))
  clear e0 e1 e2 e3
  obtain ⟨e0, e1, e2, e3⟩ := D.out w2 B2.out
  go_wp2_with fail
  go_region_held3 (fun V => V.cell? ⟨W.heap.size, 0, none⟩ = some (.bool true) ∧ V.cell? ⟨W.heap.size, 1, none⟩ = some (.bool false) ∧ V.cell? ⟨W.heap.size, 2, none⟩ = some (.bool true) ∧ V.cell? ⟨W.heap.size, 3, none⟩ = some (.int .i64 f)) (first | with_reducible exact D.out _ B2.out.drew | with_reducible exact D.out w3 B3.out)
    (first
      | (go_at_call 16; refine (toWrite_any f _).mono ?_; rintro e w3 ⟨rfl, hb⟩; have B3 : Hid (Below w1.heap.size w1 w3) := Lib.hid (below_step B2.out.drew hb B2.out.size); clear hb))
  have HB := Lib.hid (below_step HB1.out B3.out HB1.out.size)
  go_wp2
  go_ret2
  exact ⟨rfl, HB.out⟩
set_option maxHeartbeats 2000000 in
theorem write_many (f : Int) (n : Int) (W : World) (h : pgE true false true f = true) (hn : 1 < n) : Calls Try.prog 11 #[ent true false true f, .int .i64 n] W fun e w' => e = .returned (.tuple #[.int .i64 3, .int .i64 0]) ∧ Below W.heap.size W w' := by
  have H := Lib.hid h
  clear h
  have hn1 : ¬ n < 1 := by omega
  have hn2 : ¬ n = 1 := by omega
  have hn3 : (n == 1) = false := by simpa using hn2
  go_enter Try.func11, Try.ntmps11
  go_wp2_with fail
  refine (isPage_any true false true f _).mono ?_
  rw [H.out]
  rintro e w1 ⟨rfl, hb⟩
  obtain ⟨he, hB⟩ := box_ent hb
  have HE := Lib.hid he
  have HB1 := Lib.hid hB
  have D : Hid (∀ V, Below w1.heap.size w1 V → V.cell? ⟨W.heap.size, 0, none⟩ = some (.bool true) ∧ V.cell? ⟨W.heap.size, 1, none⟩ = some (.bool false) ∧ V.cell? ⟨W.heap.size, 2, none⟩ = some (.bool true) ∧ V.cell? ⟨W.heap.size, 3, none⟩ = some (.int .i64 f)) :=
    Lib.hid fun V hV => have k := HE.out.below hV; ⟨k.c0, k.c1, k.c2, k.c3⟩
  obtain ⟨e0, e1, e2, e3⟩ := he
  clear hb hB
  go_wp2_with fail
  go_region_held3 (fun V => V.cell? ⟨W.heap.size, 0, none⟩ = some (.bool true) ∧ V.cell? ⟨W.heap.size, 1, none⟩ = some (.bool false) ∧ V.cell? ⟨W.heap.size, 2, none⟩ = some (.bool true) ∧ V.cell? ⟨W.heap.size, 3, none⟩ = some (.int .i64 f)) (first | with_reducible exact D.out _ (Below.refl _ _).drew | with_reducible exact D.out w2 B2.out)
    (first
      | (go_at_call 19; refine (toRead_any f _).mono ?_; rintro e w2 ⟨rfl, hb⟩; have B2 : Hid (Below w1.heap.size w1 w2) := Lib.hid ((Below.refl _ _).drew.trans hb); clear hb))
  clear e0 e1 e2 e3
  obtain ⟨e0, e1, e2, e3⟩ := D.out w2 B2.out
  go_wp2_with fail
  go_region_held3 (fun V => V.cell? ⟨W.heap.size, 0, none⟩ = some (.bool true) ∧ V.cell? ⟨W.heap.size, 1, none⟩ = some (.bool false) ∧ V.cell? ⟨W.heap.size, 2, none⟩ = some (.bool true) ∧ V.cell? ⟨W.heap.size, 3, none⟩ = some (.int .i64 f)) (first | with_reducible exact D.out _ B2.out.drew | with_reducible exact D.out w3 B3.out)
    (first
      | (go_at_call 16; refine (toWrite_any f _).mono ?_; rintro e w3 ⟨rfl, hb⟩; have B3 : Hid (Below w1.heap.size w1 w3) := Lib.hid (below_step B2.out.drew hb B2.out.size); clear hb))
  have HB := Lib.hid (below_step HB1.out B3.out HB1.out.size)
  go_wp2
  go_ret2
  exact ⟨rfl, HB.out⟩
set_option maxHeartbeats 1000000 in
theorem set_no (p w c : Bool) (f n : Int) (x : Bool) (W : World) (h : pgE p w c f = false) : Calls Try.prog 13 #[ent p w c f, .int .i64 n, .bool x] W fun e w' => e = .returned (.tuple #[ent false false false 0, .int .i64 2]) ∧ Below W.heap.size W w' := by
  have H := Lib.hid h
  clear h
  go_enter Try.func13, Try.ntmps13
  go_wp2_with fail
  refine (isPage_any p w c f _).mono ?_
  rw [H.out]
  rintro e w1 ⟨rfl, hb⟩
  obtain ⟨-, hr, hB⟩ := box_res hb
  have HB := Lib.hid hB
  obtain ⟨⟨r0, r1, r2, r3⟩, f0, f1, f2, f3⟩ := hr
  clear hb hB
  go_wp2
  exact bodyPost_ret (v := .tuple #[ent false false false 0, .int .i64 2]) (by simp [results, Try.results13, go_sem, r0, r1, r2, r3]) rfl ⟨rfl, below_ent HB.out (by omega) _ _ _ _⟩
set_option maxHeartbeats 1000000 in
theorem set_few (p w c : Bool) (f n : Int) (x : Bool) (W : World) (h : pgE p w c f = true) (hn : n < 1) : Calls Try.prog 13 #[ent p w c f, .int .i64 n, .bool x] W fun e w' => e = .returned (.tuple #[ent false false false 0, .int .i64 2]) ∧ Below W.heap.size W w' := by
  have H := Lib.hid h
  clear h
  go_enter Try.func13, Try.ntmps13
  go_wp2_with fail
  refine (isPage_any p w c f _).mono ?_
  rw [H.out]
  rintro e w1 ⟨rfl, hb⟩
  obtain ⟨-, hr, hB⟩ := box_res hb
  have HB := Lib.hid hB
  obtain ⟨⟨r0, r1, r2, r3⟩, f0, f1, f2, f3⟩ := hr
  clear hb hB
  go_wp2
  exact bodyPost_ret (v := .tuple #[ent false false false 0, .int .i64 2]) (by simp [results, Try.results13, go_sem, r0, r1, r2, r3]) rfl ⟨rfl, below_ent HB.out (by omega) _ _ _ _⟩
set_option maxHeartbeats 1000000 in
theorem set_read (w c : Bool) (f : Int) (n : Int) (W : World) (h : pgE true w c f = true) (hn : 1 ≤ n) : Calls Try.prog 13 #[ent true w c f, .int .i64 n, .bool false] W fun e w' => e = .returned (.tuple #[ent true false false f, .int .i64 0]) ∧ Below W.heap.size W w' := by
  have H := Lib.hid h
  clear h
  go_enter Try.func13, Try.ntmps13
  go_wp2_with fail
  refine (isPage_any true w c f _).mono ?_
  rw [H.out]
  rintro e w1 ⟨rfl, hb⟩
  obtain ⟨⟨e0, e1, e2, e3⟩, hr, hB⟩ := box_res hb
  have HR := Lib.hid hr
  have HB1 := Lib.hid hB
  clear hb hr hB
  go_wp2_with fail
  refine (toRead_any f _).mono ?_
  rintro e w2 ⟨rfl, hb⟩
  have HB := Lib.hid (below_step HB1.out hb HB1.out.size)
  obtain ⟨⟨r0, r1, r2, r3⟩, f0, f1, f2, f3⟩ := HR.out.below hb
  clear hb
  go_wp2
  exact bodyPost_ret (v := .tuple #[ent true false false f, .int .i64 0]) (by simp [results, Try.results13, go_sem, r0, r1, r2, r3]) rfl ⟨rfl, below_ent HB.out (by omega) _ _ _ _⟩
set_option maxHeartbeats 1000000 in
theorem set_write (w c : Bool) (f : Int) (W : World) (h : pgE true w c f = true) : Calls Try.prog 13 #[ent true w c f, .int .i64 1, .bool true] W fun e w' => e = .returned (.tuple #[ent true true false f, .int .i64 0]) ∧ Below W.heap.size W w' := by
  have H := Lib.hid h
  clear h
  go_enter Try.func13, Try.ntmps13
  go_wp2_with fail
  refine (isPage_any true w c f _).mono ?_
  rw [H.out]
  rintro e w1 ⟨rfl, hb⟩
  obtain ⟨⟨e0, e1, e2, e3⟩, hr, hB⟩ := box_res hb
  have HR := Lib.hid hr
  have HB1 := Lib.hid hB
  clear hb hr hB
  go_wp2_with fail
  refine (toWrite_any f _).mono ?_
  rintro e w2 ⟨rfl, hb⟩
  have HB := Lib.hid (below_step HB1.out hb HB1.out.size)
  obtain ⟨⟨r0, r1, r2, r3⟩, f0, f1, f2, f3⟩ := HR.out.below hb
  clear hb
  go_wp2
  exact bodyPost_ret (v := .tuple #[ent true true false f, .int .i64 0]) (by simp [results, Try.results13, go_sem, r0, r1, r2, r3]) rfl ⟨rfl, below_ent HB.out (by omega) _ _ _ _⟩
set_option maxHeartbeats 1000000 in
theorem set_copy (w c : Bool) (f : Int) (n : Int) (W : World) (h : pgE true w c f = true) (hn : 1 < n) : Calls Try.prog 13 #[ent true w c f, .int .i64 n, .bool true] W fun e w' => e = .returned (.tuple #[ent true false true f, .int .i64 0]) ∧ Below W.heap.size W w' := by
  have H := Lib.hid h
  clear h
  have hn1 : ¬ n < 1 := by omega
  have hn3 : (n == 1) = false := by simp; omega
  go_enter Try.func13, Try.ntmps13
  go_wp2_with fail
  refine (isPage_any true w c f _).mono ?_
  rw [H.out]
  rintro e w1 ⟨rfl, hb⟩
  obtain ⟨⟨e0, e1, e2, e3⟩, hr, hB⟩ := box_res hb
  have HR := Lib.hid hr
  have HB1 := Lib.hid hB
  clear hb hr hB
  go_wp2_with fail
  refine (toCopy_any f _).mono ?_
  rintro e w2 ⟨rfl, hb⟩
  have HB := Lib.hid (below_step HB1.out hb HB1.out.size)
  obtain ⟨⟨r0, r1, r2, r3⟩, f0, f1, f2, f3⟩ := HR.out.below hb
  clear hb
  go_wp2
  exact bodyPost_ret (v := .tuple #[ent true false true f, .int .i64 0]) (by simp [results, Try.results13, go_sem, r0, r1, r2, r3]) rfl ⟨rfl, below_ent HB.out (by omega) _ _ _ _⟩
end Go.Proofs.Ytgalcafpkfakdaa
