/- The contracts of package conf's closures that read one row: each number may fail. Condition: the reader lies as New laid it. Written by gen/gen_c11.py. -/
import Derived.Test.YtpgoddbijkolbaaC11
namespace Go.Proofs.Ytpgoddbijkolbaa
open Go.RowKit
set_option maxRecDepth 100000

set_option maxHeartbeats 2000000 in
set_option linter.unusedSimpArgs false in
theorem rrow_part (p q b : Nat) (l : List UInt8) (w : World) (h : Rd w b (some l)) (hq : RdV w q b) (hp : NumR w p q) :
    Calls Try.prog 71 #[.pointer (some ⟨p, 0, none⟩)] w (ReadPost rowVal w b (rowP pw l)) := by
  obtain ⟨w0, hw0⟩ : ∃ w0, w0 = w.alloc (.cells #[.int .i64 0, .int .i64 0] 41) := ⟨_, rfl⟩
  have hA : Below w.heap.size w w0 := by rw [hw0]; exact (Below.refl _ _).alloc (Nat.le_refl _) _
  have X0 : Hid (w0.heap[w.heap.size]? = some (.cells #[.int .i64 0, .int .i64 0] 41 (0, 0))) := Lib.hid (by rw [hw0]; exact heap_alloc_new w _)
  have G0 := Lib.hid (grownBy_of_below hA (some b))
  have R0 := Lib.hid (h.below hA)
  have Q0 : Hid (RdV w0 q b) := Lib.hid (below_block hA hq)
  have P0 : Hid (NumR w0 p q) := Lib.hid (below_block hA hp)
  have hne := hp.ne h
  have hneq := hq.ne h
  have hnr : w.heap.size ≠ b := by have := h.lt; omega
  have hpr : p ≠ w.heap.size := by have := lt_of_block hp; omega
  have p0 := P0.out.c0
  clear h hq hp hA
  go_enter Try.func71, Try.ntmps71
  go_wp2_with fail
  rw [← hw0]
  clear hw0
  refine wp_region_held_drew (S := fun w' => w'.cell? ⟨p, 0, none⟩ = some (.func (.func 66) #[] #[.pointer (some ⟨q, 0, none⟩)])) (by kernel_rfl) (by exact p0) (fun hHeld => ?_)
  refine wpAnyH_take (i := 0) (oi := _) (v := (.func (.func 66) #[] #[.pointer (some ⟨q, 0, none⟩)])) rfl (by kernel_rfl) (by kernel_rfl) (by kernel_rfl) (fun _ _ _ h => h) (Or.inl ⟨by rfl, ?_⟩) (by assumption) ?_
  · intro w hSw
    go_simp
  try simp only [Act.put, List.getElem_toArray, List.getElem_cons_zero, List.getElem_cons_succ, List.setIfInBounds_toArray, List.set_cons_zero, List.set_cons_succ]
  refine wpAnyH_take (i := 2) (oi := _) (v := (.func (.func 66) #[] #[.pointer (some ⟨q, 0, none⟩)])) rfl (by kernel_rfl) (by kernel_rfl) (by kernel_rfl) (fun _ _ _ h => h) (Or.inl ⟨by rfl, ?_⟩) (by assumption) ?_
  · intro w hSw
    go_simp
  try simp only [Act.put, List.getElem_toArray, List.getElem_cons_zero, List.getElem_cons_succ, List.setIfInBounds_toArray, List.set_cons_zero, List.set_cons_succ]
  refine wpAnyH_ready (rs := [1]) (by kernel_rfl) (by simp) ?_
  refine AllReadyH.cons (o := _) rfl (fun K hK => ?_) AllReadyH.nil
  go_simp
  refine (rnum_conf q b 2 l (by decide) (by decide) w0.drew (R0.out.below (Below.refl _ _).drew) (show RdV w0.drew q b from Q0.out)).mono ?_
  cases h0 : numP 2 l with
  | none =>
    rintro e w1 ⟨hg, rfl⟩
    exact ⟨rfl, grownBy_trans G0.out (grownBy_from (a := w0) hg rfl rfl rfl rfl), by rw [show rowP pw l = none by simp [rowP, h0]]⟩
  | some x =>
    obtain ⟨n0, r0⟩ := x
    rintro e w1 ⟨hg, rfl, hr⟩
    have G1 := Lib.hid (grownBy_trans G0.out (grownBy_from (a := w0) hg rfl rfl rfl rfl))
    have R1 := Lib.hid hr
    have Q1 : Hid (RdV w1 q b) := Lib.hid (kept_block hg (show w0.drew.heap[q]? = _ from Q0.out) hneq)
    have P1 : Hid (NumR w1 p q) := Lib.hid (kept_block hg (show w0.drew.heap[p]? = _ from P0.out) hne)
    have X1 : Hid (w1.heap[w.heap.size]? = some (.cells #[.int .i64 0, .int .i64 0] 41 (0, 0))) := Lib.hid (kept_block hg (show w0.drew.heap[w.heap.size]? = _ from X0.out) hnr)
    clear hg hr hHeld
    refine hK.out _ _ (by exact P1.out.c0) (fun hHeld => ?_)
    clear hK K
    try simp only [Act.put, List.getElem_toArray, List.getElem_cons_zero, List.getElem_cons_succ, List.setIfInBounds_toArray, List.set_cons_zero, List.set_cons_succ]
    refine wpAnyH_ready (rs := [3]) (by kernel_rfl) (by simp) ?_
    refine AllReadyH.cons (o := _) rfl (fun K hK => ?_) AllReadyH.nil
    go_simp
    refine (rnum_conf q b 1 r0 (by decide) (by decide) w1 R1.out Q1.out).mono ?_
    cases h1 : numP 1 r0 with
    | none =>
      rintro e w2 ⟨hg, rfl⟩
      exact ⟨rfl, grownBy_trans G1.out hg, by rw [show rowP pw l = none by simp [rowP, h0, h1]]⟩
    | some x =>
      obtain ⟨n1, r1⟩ := x
      rintro e w2 ⟨hg, rfl, hr⟩
      have G2 := Lib.hid (grownBy_trans G1.out hg)
      have R2 := Lib.hid hr
      have Q2 : Hid (RdV w2 q b) := Lib.hid (kept_block hg Q1.out hneq)
      have P2 : Hid (NumR w2 p q) := Lib.hid (kept_block hg P1.out hne)
      have X2 : Hid (w2.heap[w.heap.size]? = some (.cells #[.int .i64 0, .int .i64 0] 41 (0, 0))) := Lib.hid (kept_block hg X1.out hnr)
      clear hg hr hHeld
      refine hK.out _ _ (by exact P2.out.c0) (fun hHeld => ?_)
      clear hK K
      try simp only [Act.put, List.getElem_toArray, List.getElem_cons_zero, List.getElem_cons_succ, List.setIfInBounds_toArray, List.set_cons_zero, List.set_cons_succ]
      have x0 : w2.cell? ⟨w.heap.size, 0, none⟩ = some (.int .i64 0) := by rw [cell_of_row w2 _ _ _ _ _ X2.out]; rfl
      have x1 : w2.cell? ⟨w.heap.size, 1, none⟩ = some (.int .i64 0) := by rw [cell_of_row w2 _ _ _ _ _ X2.out]; rfl
      have f0 : w2.frozen? ⟨w.heap.size, 0, none⟩ = false := frozen_of_row w2 _ 0 _ _ X2.out
      have f1 : w2.frozen? ⟨w.heap.size, 1, none⟩ = false := frozen_of_row w2 _ 1 _ _ X2.out
      refine wpAnyH_take (i := 4) (oi := _) (v := .agg #[.int .i64 (n0 : Int), .int .i64 (n1 : Int)]) rfl (by kernel_rfl) (by kernel_rfl) (by kernel_rfl) (fun _ _ _ h => h) (Or.inl ⟨by rfl, ?_⟩) (by assumption) ?_
      · intro w hSw
        go_simp
      try simp only [Act.put, List.getElem_toArray, List.getElem_cons_zero, List.getElem_cons_succ, List.setIfInBounds_toArray, List.set_cons_zero, List.set_cons_succ]
      refine wpAnyH_ready (rs := [5]) (by kernel_rfl) (by simp) ?_
      refine AllReadyH.cons (o := _) rfl (fun K hK => ?_) AllReadyH.nil
      go_simp
      have z0 := heap_setCell_same _ w.heap.size 0 _ _ (.int .i64 (n0 : Int)) X2.out
      have z1 := heap_setCell_same _ w.heap.size 1 _ _ (.int .i64 (n1 : Int)) z0
      obtain ⟨w3, hw⟩ : ∃ w', w' = ((w2).setCell ⟨w.heap.size, 0, none⟩ (.int .i64 (n0 : Int))).setCell ⟨w.heap.size, 1, none⟩ (.int .i64 (n1 : Int)) := ⟨_, rfl⟩
      rw [← hw] at z1
      have ZZ : Hid (w3.heap[w.heap.size]? = some (.cells #[.int .i64 (n0 : Int), .int .i64 (n1 : Int)] 41 (0, 0))) := Lib.hid (by simpa using z1)
      have G3 : Hid (w.grownBy w3 (some b)) := Lib.hid (by rw [hw]; exact grownBy_setNew (grownBy_setNew (G2.out) (Nat.le_refl _) _) (Nat.le_refl _) _)
      have GX : Hid (w2.grownBy w3 (some w.heap.size)) := Lib.hid (by rw [hw]; exact grownBy_trans (grownBy_trans (grownBy_refl _ _) (grownBy_setCell _ _ _ _)) (grownBy_setCell _ _ _ _))
      have P3 : Hid (NumR w3 p q) := Lib.hid (kept_block GX.out P2.out hpr)
      have R3 : Hid (Rd w3 b (some r1)) := Lib.hid (R2.out.apart (fun g e => by obtain rfl := Option.some.inj e; exact ⟨_, _, _, X2.out, by decide⟩) GX.out (fun e => hnr (Option.some.inj e)))
      have y0 : w3.cell? ⟨w.heap.size, 0, none⟩ = some (.int .i64 (n0 : Int)) := by rw [cell_of_row w3 _ _ _ _ _ ZZ.out]; rfl
      have y1 : w3.cell? ⟨w.heap.size, 1, none⟩ = some (.int .i64 (n1 : Int)) := by rw [cell_of_row w3 _ _ _ _ _ ZZ.out]; rfl
      rw [← hw]
      clear hw z0 z1
      refine hK.out _ _ (by exact P3.out.c0) (fun _ => ?_)
      clear hK K
      refine wpAnyH_done (by kernel_rfl) ?_ _
      go_wp2
      refine ⟨rfl, .agg #[.int .i64 (n0 : Int), .int .i64 (n1 : Int)], ?_, G3.out, ?_⟩
      · simp [results, Try.results71, go_sem, y0, y1]
      · rw [show rowP pw l = some ([(n0 : Int), (n1 : Int)], r1) by simp [rowP, h0, h1]]
        exact ⟨rfl, R3.out⟩

set_option maxHeartbeats 2000000 in
set_option linter.unusedSimpArgs false in
theorem rrow_win (p q b : Nat) (l : List UInt8) (w : World) (h : Rd w b (some l)) (hq : RdV w q b) (hp : NumR w p q) :
    Calls Try.prog 73 #[.pointer (some ⟨p, 0, none⟩)] w (ReadPost rowVal w b (rowP ww l)) := by
  obtain ⟨w0, hw0⟩ : ∃ w0, w0 = w.alloc (.cells #[.int .i64 0, .int .i64 0] 44) := ⟨_, rfl⟩
  have hA : Below w.heap.size w w0 := by rw [hw0]; exact (Below.refl _ _).alloc (Nat.le_refl _) _
  have X0 : Hid (w0.heap[w.heap.size]? = some (.cells #[.int .i64 0, .int .i64 0] 44 (0, 0))) := Lib.hid (by rw [hw0]; exact heap_alloc_new w _)
  have G0 := Lib.hid (grownBy_of_below hA (some b))
  have R0 := Lib.hid (h.below hA)
  have Q0 : Hid (RdV w0 q b) := Lib.hid (below_block hA hq)
  have P0 : Hid (NumR w0 p q) := Lib.hid (below_block hA hp)
  have hne := hp.ne h
  have hneq := hq.ne h
  have hnr : w.heap.size ≠ b := by have := h.lt; omega
  have hpr : p ≠ w.heap.size := by have := lt_of_block hp; omega
  have p0 := P0.out.c0
  clear h hq hp hA
  go_enter Try.func73, Try.ntmps73
  go_wp2_with fail
  rw [← hw0]
  clear hw0
  refine wp_region_held_drew (S := fun w' => w'.cell? ⟨p, 0, none⟩ = some (.func (.func 66) #[] #[.pointer (some ⟨q, 0, none⟩)])) (by kernel_rfl) (by exact p0) (fun hHeld => ?_)
  refine wpAnyH_take (i := 0) (oi := _) (v := (.func (.func 66) #[] #[.pointer (some ⟨q, 0, none⟩)])) rfl (by kernel_rfl) (by kernel_rfl) (by kernel_rfl) (fun _ _ _ h => h) (Or.inl ⟨by rfl, ?_⟩) (by assumption) ?_
  · intro w hSw
    go_simp
  try simp only [Act.put, List.getElem_toArray, List.getElem_cons_zero, List.getElem_cons_succ, List.setIfInBounds_toArray, List.set_cons_zero, List.set_cons_succ]
  refine wpAnyH_take (i := 2) (oi := _) (v := (.func (.func 66) #[] #[.pointer (some ⟨q, 0, none⟩)])) rfl (by kernel_rfl) (by kernel_rfl) (by kernel_rfl) (fun _ _ _ h => h) (Or.inl ⟨by rfl, ?_⟩) (by assumption) ?_
  · intro w hSw
    go_simp
  try simp only [Act.put, List.getElem_toArray, List.getElem_cons_zero, List.getElem_cons_succ, List.setIfInBounds_toArray, List.set_cons_zero, List.set_cons_succ]
  refine wpAnyH_ready (rs := [1]) (by kernel_rfl) (by simp) ?_
  refine AllReadyH.cons (o := _) rfl (fun K hK => ?_) AllReadyH.nil
  go_simp
  refine (rnum_conf q b 1 l (by decide) (by decide) w0.drew (R0.out.below (Below.refl _ _).drew) (show RdV w0.drew q b from Q0.out)).mono ?_
  cases h0 : numP 1 l with
  | none =>
    rintro e w1 ⟨hg, rfl⟩
    exact ⟨rfl, grownBy_trans G0.out (grownBy_from (a := w0) hg rfl rfl rfl rfl), by rw [show rowP ww l = none by simp [rowP, h0]]⟩
  | some x =>
    obtain ⟨n0, r0⟩ := x
    rintro e w1 ⟨hg, rfl, hr⟩
    have G1 := Lib.hid (grownBy_trans G0.out (grownBy_from (a := w0) hg rfl rfl rfl rfl))
    have R1 := Lib.hid hr
    have Q1 : Hid (RdV w1 q b) := Lib.hid (kept_block hg (show w0.drew.heap[q]? = _ from Q0.out) hneq)
    have P1 : Hid (NumR w1 p q) := Lib.hid (kept_block hg (show w0.drew.heap[p]? = _ from P0.out) hne)
    have X1 : Hid (w1.heap[w.heap.size]? = some (.cells #[.int .i64 0, .int .i64 0] 44 (0, 0))) := Lib.hid (kept_block hg (show w0.drew.heap[w.heap.size]? = _ from X0.out) hnr)
    clear hg hr hHeld
    refine hK.out _ _ (by exact P1.out.c0) (fun hHeld => ?_)
    clear hK K
    try simp only [Act.put, List.getElem_toArray, List.getElem_cons_zero, List.getElem_cons_succ, List.setIfInBounds_toArray, List.set_cons_zero, List.set_cons_succ]
    refine wpAnyH_ready (rs := [3]) (by kernel_rfl) (by simp) ?_
    refine AllReadyH.cons (o := _) rfl (fun K hK => ?_) AllReadyH.nil
    go_simp
    refine (rnum_conf q b 1 r0 (by decide) (by decide) w1 R1.out Q1.out).mono ?_
    cases h1 : numP 1 r0 with
    | none =>
      rintro e w2 ⟨hg, rfl⟩
      exact ⟨rfl, grownBy_trans G1.out hg, by rw [show rowP ww l = none by simp [rowP, h0, h1]]⟩
    | some x =>
      obtain ⟨n1, r1⟩ := x
      rintro e w2 ⟨hg, rfl, hr⟩
      have G2 := Lib.hid (grownBy_trans G1.out hg)
      have R2 := Lib.hid hr
      have Q2 : Hid (RdV w2 q b) := Lib.hid (kept_block hg Q1.out hneq)
      have P2 : Hid (NumR w2 p q) := Lib.hid (kept_block hg P1.out hne)
      have X2 : Hid (w2.heap[w.heap.size]? = some (.cells #[.int .i64 0, .int .i64 0] 44 (0, 0))) := Lib.hid (kept_block hg X1.out hnr)
      clear hg hr hHeld
      refine hK.out _ _ (by exact P2.out.c0) (fun hHeld => ?_)
      clear hK K
      try simp only [Act.put, List.getElem_toArray, List.getElem_cons_zero, List.getElem_cons_succ, List.setIfInBounds_toArray, List.set_cons_zero, List.set_cons_succ]
      have x0 : w2.cell? ⟨w.heap.size, 0, none⟩ = some (.int .i64 0) := by rw [cell_of_row w2 _ _ _ _ _ X2.out]; rfl
      have x1 : w2.cell? ⟨w.heap.size, 1, none⟩ = some (.int .i64 0) := by rw [cell_of_row w2 _ _ _ _ _ X2.out]; rfl
      have f0 : w2.frozen? ⟨w.heap.size, 0, none⟩ = false := frozen_of_row w2 _ 0 _ _ X2.out
      have f1 : w2.frozen? ⟨w.heap.size, 1, none⟩ = false := frozen_of_row w2 _ 1 _ _ X2.out
      refine wpAnyH_take (i := 4) (oi := _) (v := .agg #[.int .i64 (n0 : Int), .int .i64 (n1 : Int)]) rfl (by kernel_rfl) (by kernel_rfl) (by kernel_rfl) (fun _ _ _ h => h) (Or.inl ⟨by rfl, ?_⟩) (by assumption) ?_
      · intro w hSw
        go_simp
      try simp only [Act.put, List.getElem_toArray, List.getElem_cons_zero, List.getElem_cons_succ, List.setIfInBounds_toArray, List.set_cons_zero, List.set_cons_succ]
      refine wpAnyH_ready (rs := [5]) (by kernel_rfl) (by simp) ?_
      refine AllReadyH.cons (o := _) rfl (fun K hK => ?_) AllReadyH.nil
      go_simp
      have z0 := heap_setCell_same _ w.heap.size 0 _ _ (.int .i64 (n0 : Int)) X2.out
      have z1 := heap_setCell_same _ w.heap.size 1 _ _ (.int .i64 (n1 : Int)) z0
      obtain ⟨w3, hw⟩ : ∃ w', w' = ((w2).setCell ⟨w.heap.size, 0, none⟩ (.int .i64 (n0 : Int))).setCell ⟨w.heap.size, 1, none⟩ (.int .i64 (n1 : Int)) := ⟨_, rfl⟩
      rw [← hw] at z1
      have ZZ : Hid (w3.heap[w.heap.size]? = some (.cells #[.int .i64 (n0 : Int), .int .i64 (n1 : Int)] 44 (0, 0))) := Lib.hid (by simpa using z1)
      have G3 : Hid (w.grownBy w3 (some b)) := Lib.hid (by rw [hw]; exact grownBy_setNew (grownBy_setNew (G2.out) (Nat.le_refl _) _) (Nat.le_refl _) _)
      have GX : Hid (w2.grownBy w3 (some w.heap.size)) := Lib.hid (by rw [hw]; exact grownBy_trans (grownBy_trans (grownBy_refl _ _) (grownBy_setCell _ _ _ _)) (grownBy_setCell _ _ _ _))
      have P3 : Hid (NumR w3 p q) := Lib.hid (kept_block GX.out P2.out hpr)
      have R3 : Hid (Rd w3 b (some r1)) := Lib.hid (R2.out.apart (fun g e => by obtain rfl := Option.some.inj e; exact ⟨_, _, _, X2.out, by decide⟩) GX.out (fun e => hnr (Option.some.inj e)))
      have y0 : w3.cell? ⟨w.heap.size, 0, none⟩ = some (.int .i64 (n0 : Int)) := by rw [cell_of_row w3 _ _ _ _ _ ZZ.out]; rfl
      have y1 : w3.cell? ⟨w.heap.size, 1, none⟩ = some (.int .i64 (n1 : Int)) := by rw [cell_of_row w3 _ _ _ _ _ ZZ.out]; rfl
      rw [← hw]
      clear hw z0 z1
      refine hK.out _ _ (by exact P3.out.c0) (fun _ => ?_)
      clear hK K
      refine wpAnyH_done (by kernel_rfl) ?_ _
      go_wp2
      refine ⟨rfl, .agg #[.int .i64 (n0 : Int), .int .i64 (n1 : Int)], ?_, G3.out, ?_⟩
      · simp [results, Try.results73, go_sem, y0, y1]
      · rw [show rowP ww l = some ([(n0 : Int), (n1 : Int)], r1) by simp [rowP, h0, h1]]
        exact ⟨rfl, R3.out⟩

set_option maxHeartbeats 2000000 in
set_option linter.unusedSimpArgs false in
theorem rrow_chan (p q b : Nat) (l : List UInt8) (w : World) (h : Rd w b (some l)) (hq : RdV w q b) (hp : NumR w p q) :
    Calls Try.prog 75 #[.pointer (some ⟨p, 0, none⟩)] w (ReadPost rowVal w b (rowP cw l)) := by
  obtain ⟨w0, hw0⟩ : ∃ w0, w0 = w.alloc (.cells #[.int .i64 0, .int .i64 0, .int .i64 0, .int .i64 0] 46) := ⟨_, rfl⟩
  have hA : Below w.heap.size w w0 := by rw [hw0]; exact (Below.refl _ _).alloc (Nat.le_refl _) _
  have X0 : Hid (w0.heap[w.heap.size]? = some (.cells #[.int .i64 0, .int .i64 0, .int .i64 0, .int .i64 0] 46 (0, 0))) := Lib.hid (by rw [hw0]; exact heap_alloc_new w _)
  have G0 := Lib.hid (grownBy_of_below hA (some b))
  have R0 := Lib.hid (h.below hA)
  have Q0 : Hid (RdV w0 q b) := Lib.hid (below_block hA hq)
  have P0 : Hid (NumR w0 p q) := Lib.hid (below_block hA hp)
  have hne := hp.ne h
  have hneq := hq.ne h
  have hnr : w.heap.size ≠ b := by have := h.lt; omega
  have hpr : p ≠ w.heap.size := by have := lt_of_block hp; omega
  have p0 := P0.out.c0
  clear h hq hp hA
  go_enter Try.func75, Try.ntmps75
  go_wp2_with fail
  rw [← hw0]
  clear hw0
  refine wp_region_held_drew (S := fun w' => w'.cell? ⟨p, 0, none⟩ = some (.func (.func 66) #[] #[.pointer (some ⟨q, 0, none⟩)])) (by kernel_rfl) (by exact p0) (fun hHeld => ?_)
  refine wpAnyH_take (i := 0) (oi := _) (v := (.func (.func 66) #[] #[.pointer (some ⟨q, 0, none⟩)])) rfl (by kernel_rfl) (by kernel_rfl) (by kernel_rfl) (fun _ _ _ h => h) (Or.inl ⟨by rfl, ?_⟩) (by assumption) ?_
  · intro w hSw
    go_simp
  try simp only [Act.put, List.getElem_toArray, List.getElem_cons_zero, List.getElem_cons_succ, List.setIfInBounds_toArray, List.set_cons_zero, List.set_cons_succ]
  refine wpAnyH_take (i := 2) (oi := _) (v := (.func (.func 66) #[] #[.pointer (some ⟨q, 0, none⟩)])) rfl (by kernel_rfl) (by kernel_rfl) (by kernel_rfl) (fun _ _ _ h => h) (Or.inl ⟨by rfl, ?_⟩) (by assumption) ?_
  · intro w hSw
    go_simp
  try simp only [Act.put, List.getElem_toArray, List.getElem_cons_zero, List.getElem_cons_succ, List.setIfInBounds_toArray, List.set_cons_zero, List.set_cons_succ]
  refine wpAnyH_take (i := 4) (oi := _) (v := (.func (.func 66) #[] #[.pointer (some ⟨q, 0, none⟩)])) rfl (by kernel_rfl) (by kernel_rfl) (by kernel_rfl) (fun _ _ _ h => h) (Or.inl ⟨by rfl, ?_⟩) (by assumption) ?_
  · intro w hSw
    go_simp
  try simp only [Act.put, List.getElem_toArray, List.getElem_cons_zero, List.getElem_cons_succ, List.setIfInBounds_toArray, List.set_cons_zero, List.set_cons_succ]
  refine wpAnyH_take (i := 6) (oi := _) (v := (.func (.func 66) #[] #[.pointer (some ⟨q, 0, none⟩)])) rfl (by kernel_rfl) (by kernel_rfl) (by kernel_rfl) (fun _ _ _ h => h) (Or.inl ⟨by rfl, ?_⟩) (by assumption) ?_
  · intro w hSw
    go_simp
  try simp only [Act.put, List.getElem_toArray, List.getElem_cons_zero, List.getElem_cons_succ, List.setIfInBounds_toArray, List.set_cons_zero, List.set_cons_succ]
  refine wpAnyH_ready (rs := [1]) (by kernel_rfl) (by simp) ?_
  refine AllReadyH.cons (o := _) rfl (fun K hK => ?_) AllReadyH.nil
  go_simp
  refine (rnum_conf q b 1 l (by decide) (by decide) w0.drew (R0.out.below (Below.refl _ _).drew) (show RdV w0.drew q b from Q0.out)).mono ?_
  cases h0 : numP 1 l with
  | none =>
    rintro e w1 ⟨hg, rfl⟩
    exact ⟨rfl, grownBy_trans G0.out (grownBy_from (a := w0) hg rfl rfl rfl rfl), by rw [show rowP cw l = none by simp [rowP, h0]]⟩
  | some x =>
    obtain ⟨n0, r0⟩ := x
    rintro e w1 ⟨hg, rfl, hr⟩
    have G1 := Lib.hid (grownBy_trans G0.out (grownBy_from (a := w0) hg rfl rfl rfl rfl))
    have R1 := Lib.hid hr
    have Q1 : Hid (RdV w1 q b) := Lib.hid (kept_block hg (show w0.drew.heap[q]? = _ from Q0.out) hneq)
    have P1 : Hid (NumR w1 p q) := Lib.hid (kept_block hg (show w0.drew.heap[p]? = _ from P0.out) hne)
    have X1 : Hid (w1.heap[w.heap.size]? = some (.cells #[.int .i64 0, .int .i64 0, .int .i64 0, .int .i64 0] 46 (0, 0))) := Lib.hid (kept_block hg (show w0.drew.heap[w.heap.size]? = _ from X0.out) hnr)
    clear hg hr hHeld
    refine hK.out _ _ (by exact P1.out.c0) (fun hHeld => ?_)
    clear hK K
    try simp only [Act.put, List.getElem_toArray, List.getElem_cons_zero, List.getElem_cons_succ, List.setIfInBounds_toArray, List.set_cons_zero, List.set_cons_succ]
    refine wpAnyH_ready (rs := [3]) (by kernel_rfl) (by simp) ?_
    refine AllReadyH.cons (o := _) rfl (fun K hK => ?_) AllReadyH.nil
    go_simp
    refine (rnum_conf q b 1 r0 (by decide) (by decide) w1 R1.out Q1.out).mono ?_
    cases h1 : numP 1 r0 with
    | none =>
      rintro e w2 ⟨hg, rfl⟩
      exact ⟨rfl, grownBy_trans G1.out hg, by rw [show rowP cw l = none by simp [rowP, h0, h1]]⟩
    | some x =>
      obtain ⟨n1, r1⟩ := x
      rintro e w2 ⟨hg, rfl, hr⟩
      have G2 := Lib.hid (grownBy_trans G1.out hg)
      have R2 := Lib.hid hr
      have Q2 : Hid (RdV w2 q b) := Lib.hid (kept_block hg Q1.out hneq)
      have P2 : Hid (NumR w2 p q) := Lib.hid (kept_block hg P1.out hne)
      have X2 : Hid (w2.heap[w.heap.size]? = some (.cells #[.int .i64 0, .int .i64 0, .int .i64 0, .int .i64 0] 46 (0, 0))) := Lib.hid (kept_block hg X1.out hnr)
      clear hg hr hHeld
      refine hK.out _ _ (by exact P2.out.c0) (fun hHeld => ?_)
      clear hK K
      try simp only [Act.put, List.getElem_toArray, List.getElem_cons_zero, List.getElem_cons_succ, List.setIfInBounds_toArray, List.set_cons_zero, List.set_cons_succ]
      refine wpAnyH_ready (rs := [5]) (by kernel_rfl) (by simp) ?_
      refine AllReadyH.cons (o := _) rfl (fun K hK => ?_) AllReadyH.nil
      go_simp
      refine (rnum_conf q b 1 r1 (by decide) (by decide) w2 R2.out Q2.out).mono ?_
      cases h2 : numP 1 r1 with
      | none =>
        rintro e w3 ⟨hg, rfl⟩
        exact ⟨rfl, grownBy_trans G2.out hg, by rw [show rowP cw l = none by simp [rowP, h0, h1, h2]]⟩
      | some x =>
        obtain ⟨n2, r2⟩ := x
        rintro e w3 ⟨hg, rfl, hr⟩
        have G3 := Lib.hid (grownBy_trans G2.out hg)
        have R3 := Lib.hid hr
        have Q3 : Hid (RdV w3 q b) := Lib.hid (kept_block hg Q2.out hneq)
        have P3 : Hid (NumR w3 p q) := Lib.hid (kept_block hg P2.out hne)
        have X3 : Hid (w3.heap[w.heap.size]? = some (.cells #[.int .i64 0, .int .i64 0, .int .i64 0, .int .i64 0] 46 (0, 0))) := Lib.hid (kept_block hg X2.out hnr)
        clear hg hr hHeld
        refine hK.out _ _ (by exact P3.out.c0) (fun hHeld => ?_)
        clear hK K
        try simp only [Act.put, List.getElem_toArray, List.getElem_cons_zero, List.getElem_cons_succ, List.setIfInBounds_toArray, List.set_cons_zero, List.set_cons_succ]
        refine wpAnyH_ready (rs := [7]) (by kernel_rfl) (by simp) ?_
        refine AllReadyH.cons (o := _) rfl (fun K hK => ?_) AllReadyH.nil
        go_simp
        refine (rnum_conf q b 1 r2 (by decide) (by decide) w3 R3.out Q3.out).mono ?_
        cases h3 : numP 1 r2 with
        | none =>
          rintro e w4 ⟨hg, rfl⟩
          exact ⟨rfl, grownBy_trans G3.out hg, by rw [show rowP cw l = none by simp [rowP, h0, h1, h2, h3]]⟩
        | some x =>
          obtain ⟨n3, r3⟩ := x
          rintro e w4 ⟨hg, rfl, hr⟩
          have G4 := Lib.hid (grownBy_trans G3.out hg)
          have R4 := Lib.hid hr
          have Q4 : Hid (RdV w4 q b) := Lib.hid (kept_block hg Q3.out hneq)
          have P4 : Hid (NumR w4 p q) := Lib.hid (kept_block hg P3.out hne)
          have X4 : Hid (w4.heap[w.heap.size]? = some (.cells #[.int .i64 0, .int .i64 0, .int .i64 0, .int .i64 0] 46 (0, 0))) := Lib.hid (kept_block hg X3.out hnr)
          clear hg hr hHeld
          refine hK.out _ _ (by exact P4.out.c0) (fun hHeld => ?_)
          clear hK K
          try simp only [Act.put, List.getElem_toArray, List.getElem_cons_zero, List.getElem_cons_succ, List.setIfInBounds_toArray, List.set_cons_zero, List.set_cons_succ]
          have x0 : w4.cell? ⟨w.heap.size, 0, none⟩ = some (.int .i64 0) := by rw [cell_of_row w4 _ _ _ _ _ X4.out]; rfl
          have x1 : w4.cell? ⟨w.heap.size, 1, none⟩ = some (.int .i64 0) := by rw [cell_of_row w4 _ _ _ _ _ X4.out]; rfl
          have x2 : w4.cell? ⟨w.heap.size, 2, none⟩ = some (.int .i64 0) := by rw [cell_of_row w4 _ _ _ _ _ X4.out]; rfl
          have x3 : w4.cell? ⟨w.heap.size, 3, none⟩ = some (.int .i64 0) := by rw [cell_of_row w4 _ _ _ _ _ X4.out]; rfl
          have f0 : w4.frozen? ⟨w.heap.size, 0, none⟩ = false := frozen_of_row w4 _ 0 _ _ X4.out
          have f1 : w4.frozen? ⟨w.heap.size, 1, none⟩ = false := frozen_of_row w4 _ 1 _ _ X4.out
          have f2 : w4.frozen? ⟨w.heap.size, 2, none⟩ = false := frozen_of_row w4 _ 2 _ _ X4.out
          have f3 : w4.frozen? ⟨w.heap.size, 3, none⟩ = false := frozen_of_row w4 _ 3 _ _ X4.out
          refine wpAnyH_take (i := 8) (oi := _) (v := .agg #[.int .i64 (n0 : Int), .int .i64 (n1 : Int), .int .i64 (n2 : Int), .int .i64 (n3 : Int)]) rfl (by kernel_rfl) (by kernel_rfl) (by kernel_rfl) (fun _ _ _ h => h) (Or.inl ⟨by rfl, ?_⟩) (by assumption) ?_
          · intro w hSw
            go_simp
          try simp only [Act.put, List.getElem_toArray, List.getElem_cons_zero, List.getElem_cons_succ, List.setIfInBounds_toArray, List.set_cons_zero, List.set_cons_succ]
          refine wpAnyH_ready (rs := [9]) (by kernel_rfl) (by simp) ?_
          refine AllReadyH.cons (o := _) rfl (fun K hK => ?_) AllReadyH.nil
          go_simp
          have z0 := heap_setCell_same _ w.heap.size 0 _ _ (.int .i64 (n0 : Int)) X4.out
          have z1 := heap_setCell_same _ w.heap.size 1 _ _ (.int .i64 (n1 : Int)) z0
          have z2 := heap_setCell_same _ w.heap.size 2 _ _ (.int .i64 (n2 : Int)) z1
          have z3 := heap_setCell_same _ w.heap.size 3 _ _ (.int .i64 (n3 : Int)) z2
          obtain ⟨w5, hw⟩ : ∃ w', w' = ((((w4).setCell ⟨w.heap.size, 0, none⟩ (.int .i64 (n0 : Int))).setCell ⟨w.heap.size, 1, none⟩ (.int .i64 (n1 : Int))).setCell ⟨w.heap.size, 2, none⟩ (.int .i64 (n2 : Int))).setCell ⟨w.heap.size, 3, none⟩ (.int .i64 (n3 : Int)) := ⟨_, rfl⟩
          rw [← hw] at z3
          have ZZ : Hid (w5.heap[w.heap.size]? = some (.cells #[.int .i64 (n0 : Int), .int .i64 (n1 : Int), .int .i64 (n2 : Int), .int .i64 (n3 : Int)] 46 (0, 0))) := Lib.hid (by simpa using z3)
          have G5 : Hid (w.grownBy w5 (some b)) := Lib.hid (by rw [hw]; exact grownBy_setNew (grownBy_setNew (grownBy_setNew (grownBy_setNew (G4.out) (Nat.le_refl _) _) (Nat.le_refl _) _) (Nat.le_refl _) _) (Nat.le_refl _) _)
          have GX : Hid (w4.grownBy w5 (some w.heap.size)) := Lib.hid (by rw [hw]; exact grownBy_trans (grownBy_trans (grownBy_trans (grownBy_trans (grownBy_refl _ _) (grownBy_setCell _ _ _ _)) (grownBy_setCell _ _ _ _)) (grownBy_setCell _ _ _ _)) (grownBy_setCell _ _ _ _))
          have P5 : Hid (NumR w5 p q) := Lib.hid (kept_block GX.out P4.out hpr)
          have R5 : Hid (Rd w5 b (some r3)) := Lib.hid (R4.out.apart (fun g e => by obtain rfl := Option.some.inj e; exact ⟨_, _, _, X4.out, by decide⟩) GX.out (fun e => hnr (Option.some.inj e)))
          have y0 : w5.cell? ⟨w.heap.size, 0, none⟩ = some (.int .i64 (n0 : Int)) := by rw [cell_of_row w5 _ _ _ _ _ ZZ.out]; rfl
          have y1 : w5.cell? ⟨w.heap.size, 1, none⟩ = some (.int .i64 (n1 : Int)) := by rw [cell_of_row w5 _ _ _ _ _ ZZ.out]; rfl
          have y2 : w5.cell? ⟨w.heap.size, 2, none⟩ = some (.int .i64 (n2 : Int)) := by rw [cell_of_row w5 _ _ _ _ _ ZZ.out]; rfl
          have y3 : w5.cell? ⟨w.heap.size, 3, none⟩ = some (.int .i64 (n3 : Int)) := by rw [cell_of_row w5 _ _ _ _ _ ZZ.out]; rfl
          rw [← hw]
          clear hw z0 z1 z2 z3
          refine hK.out _ _ (by exact P5.out.c0) (fun _ => ?_)
          clear hK K
          refine wpAnyH_done (by kernel_rfl) ?_ _
          go_wp2
          refine ⟨rfl, .agg #[.int .i64 (n0 : Int), .int .i64 (n1 : Int), .int .i64 (n2 : Int), .int .i64 (n3 : Int)], ?_, G5.out, ?_⟩
          · simp [results, Try.results75, go_sem, y0, y1, y2, y3]
          · rw [show rowP cw l = some ([(n0 : Int), (n1 : Int), (n2 : Int), (n3 : Int)], r3) by simp [rowP, h0, h1, h2, h3]]
            exact ⟨rfl, R5.out⟩

end Go.Proofs.Ytpgoddbijkolbaa
