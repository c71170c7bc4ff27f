/- The contract of package slots' All. Condition: the table lies as New laid it, or there is none. Written by gen/gen_y10.py of gen/XY10.body. -/
import Derived.Test.YtbmiodkdoacbeaaY9
namespace Go.Proofs.Ytbmiodkdoacbeaa
open Go.RowKit Go.Shelf Go.Maps
attribute [local go_sem] Oper.semAt_some
set_option maxRecDepth 100000

theorem procInfo : (Try.prog.info? 42).map (fun i => (i.zero, i.size, i.bytes)) = some (some (.agg #[.int .i64 0, .int .i64 0, .int .i64 0, .int .u32 0]), 4, 32) := by kernel_rfl
def prsV (L : List Nd) : List Value := L.flatMap fun x => [.int .i64 x.1, .int .i64 x.2.1, .int .i64 x.2.2.1, .int .u32 x.2.2.2]
theorem prsV_append (A B : List Nd) : prsV (A ++ B) = prsV A ++ prsV B := by simp [prsV]
theorem prsV_one (x : Nd) : prsV [x] = [.int .i64 x.1, .int .i64 x.2.1, .int .i64 x.2.2.1, .int .u32 x.2.2.2] := by simp [prsV]
theorem new_proc (w : World) (a b c d : Int) : ∀ j u, [Value.int .i64 a, .int .i64 b, .int .i64 c, .int .u32 d][j]? = some u → (w.alloc (.cells #[.int .i64 a, .int .i64 b, .int .i64 c, .int .u32 d] 42)).drew.cell? ((⟨w.heap.size, 0, none⟩ : Addr).add j) = some u := fun j u hu => by
  rw [Addr.add_mid, Nat.zero_add]
  show (w.alloc (.cells #[.int .i64 a, .int .i64 b, .int .i64 c, .int .u32 d] 42)).cell? _ = _
  rw [cell_of_row _ _ _ _ _ _ (heap_alloc_new w _)]
  simpa using hu
theorem preY_len {n : Int} {L : List Nd} (h : GoodY n L) (j : Int) : (preN j L).length ≤ 8 := by
  have h1 := h.len
  have h2 := h.most
  have h3 : (preN j L).length ≤ L.length := List.length_filter_le _ _
  omega
structure AllStY (w : World) (b : Nat) (P : Pt) (L : List Nd) (s : PlY) (V : World) : Prop where
  eq : s.2 = (P, L)
  bel : Below w.heap.size w V
  sbox : V.heap[w.heap.size + 1]? = some (boxT b)
  row : ∃ v, V.heap[w.heap.size]? = some (.cells #[v] 28 (0, 0)) ∧ V.ownsRow w.heap.size 42 4 v (preN s.1 L).length (prsV (preN s.1 L))
theorem AllStY.stay {w : World} {b : Nat} {P : Pt} {L : List Nd} {s : PlY} {V V' : World} (h : AllStY w b P L s V) {B : Nat} (hB : w.heap.size + 1 < B) (hs : StayT 42 B V V') : AllStY w b P L s V' :=
  ⟨h.eq, h.bel.trans (hs.bel.mono (by omega)), (hs.bel.block _ hB).trans h.sbox, by
    obtain ⟨v, h1, h2⟩ := h.row
    exact ⟨v, (hs.bel.block _ (by omega)).trans h1, own_stay h2 hs⟩⟩
def AllPostY (w : World) (L : List Nd) (e : Ending) (w' : World) : Prop := ∃ v, e = .returned v ∧ w'.ownsRow w.heap.size 42 4 v L.length (prsV L) ∧ Below w.heap.size w w'
theorem allY_no (p : Option Addr) (w : World) (h : NoTab w p) : Calls Try.prog 14 #[.pointer p] w fun e w' => e = .returned (.slice none 0 0) ∧ w = w' := by
  go_enter Try.func14, Try.ntmps14
  go_wp2_with fail
  refine (isThereY_no p w h).mono ?_
  rintro e w' ⟨rfl, rfl⟩
  go_wp2
  go_ret
  exact ⟨rfl, rfl⟩
set_option maxHeartbeats 8000000 in
theorem allY_ok {w : World} {b m : Nat} {n : Int} {P : Pt} {L : List Nd} (h : TabAt w b m n P L) :
    Calls Try.prog 14 #[.pointer (some ⟨b, 0, none⟩)] w (AllPostY w L) := by
  obtain ⟨ie, hi, hi0, hi1, hi2⟩ := info_parts procInfo
  have hmx : Try.prog.follows .mixedOrders = true := by kernel_rfl
  obtain ⟨w2, hw2⟩ : ∃ w2, w2 = w.alloc (.cells #[.slice none 0 0] 28) := ⟨_, rfl⟩
  have hz2 : w2.heap.size = w.heap.size + 1 := by rw [hw2]; simp
  obtain ⟨w3, hw3⟩ : ∃ w3, w3 = w2.alloc (.cells #[.pointer (some ⟨b, 0, none⟩)] 24) := ⟨_, rfl⟩
  have hz3 : w3.heap.size = w.heap.size + 2 := by rw [hw3]; simp; omega
  have b2 : Below w.heap.size w w2 := by rw [hw2]; exact (Below.refl _ _).alloc (Nat.le_refl _) _
  have b3 : Below w2.heap.size w2 w3 := by rw [hw3]; exact (Below.refl _ _).alloc (Nat.le_refl _) _
  have x2 : w2.heap[w.heap.size]? = some (.cells #[.slice none 0 0] 28 (0, 0)) := by rw [hw2]; exact heap_alloc_new _ _
  have x3 : w3.heap[w2.heap.size]? = some (boxT b) := by rw [hw3]; exact heap_alloc_new _ _
  rw [hz2] at x3
  have R3 : Hid (AllStY w b P L (1, P, L) w3) := Lib.hid ⟨rfl, b2.trans (b3.mono (by omega)), x3, _, (b3.block _ (by omega)).trans x2, by simp only; rw [preY_one h.good]; exact World.ownsRow_nil _ _ _ _⟩
  have X3 := Lib.hid x3
  have H := Lib.hid h
  clear x2 x3 b2 b3 h
  refine (callsIn_wide (n := 10)).1 ?_
  refine callsIn_of_wp_marks Try.func14 rfl trivial ?_ rfl
  simp only [Try.ntmps14, List.size_toArray, List.length_cons, List.length_nil, Nat.reduceAdd, Nat.reduceSub, Array.replicate_succ, Array.replicate_zero, List.push_toArray, List.append_toArray, List.nil_append, List.cons_append]
  gi_wp2
  refine ⟨trivial, ?_⟩
  refine (callsIn_wide.2 (isThereY_ok b m w H.out.c1)).mono ?_
  rintro e w' ⟨rfl, rfl⟩
  gi_wp2
  refine ⟨trivial, ?_⟩
  rw [← hw2]
  clear hw2
  refine (callsIn_wide.2 (mkAllY _ _)).mono ?_
  rintro e w' ⟨rfl, rfl⟩
  gi_wp2
  rw [← hw3]
  clear hw3
  refine range_g (T := 42) (gf := 33) (lb := #[.pointer (some ⟨w.heap.size + 1, 0, none⟩)]) rfl (enters Try.func33 rfl rfl) (all_g 42 b m (w.heap.size + 1) n w3 X3.out)
    (fun k hk => ⟨by omega, rfl⟩) (Nat.le_refl _) (by intro _; rfl)
    (AllStY w b P L) (fun _ _ => False)
    (fun s V V' hh hs => hh.stay (by omega) hs) (fun _ _ _ hh _ => hh)
    (fun s V hh => by
      obtain ⟨j, P', L'⟩ := s
      have e := hh.eq
      simp only [Prod.mk.injEq] at e
      obtain ⟨rfl, rfl⟩ := e
      exact H.out.later hh.bel)
    (1, P, L) rfl R3.out
    (fun x a' _ => a' = { tmps := #[.pointer (some ⟨b, 0, none⟩), undef, .slice none 0 0, .pointer (some ⟨w.heap.size, 0, none⟩), .pointer (some ⟨x, 0, none⟩), .pointer (some ⟨b, 0, none⟩), .bool true, .bool false, .pointer (some ⟨b, 0, none⟩), .func (.func 33) #[] #[.pointer (some ⟨w.heap.size + 1, 0, none⟩)], .pointer (some ⟨x, 0, none⟩), undef, undef, undef, undef, undef, undef, undef], defers := [] })
    (fun _ _ _ _ _ _ hs _ _ => hs)
    ?assign ?body ?pass ?done ?stop
  case assign =>
    rintro l' s x V C hI hzv hC
    dsimp only [encP]
    gi_wp2
    exact hC _ _ (KeepT.refl _ _ _ _) hI rfl
  case body =>
    rintro l' ⟨j, P', L'⟩ p a' V hI hzv ⟨hr, hp⟩ rfl
    have e := hI.eq
    simp only [Prod.mk.injEq] at e
    obtain ⟨rfl, rfl⟩ := e
    simp only at hr hp
    obtain ⟨x, hx, hpx⟩ := (H.out.later hI.bel).proc hp
    obtain ⟨v, hl, ho⟩ := hI.row
    have hlt := fun k (hk : v.ownBlock = some k) => ho.lt k hk
    obtain ⟨R, hR⟩ : ∃ R, R = preN j L' := ⟨_, rfl⟩
    have hRl : R.length ≤ 8 := by rw [hR]; exact preY_len H.out.good j
    change V.ownsRow w.heap.size 42 4 v (preN j L').length (prsV (preN j L')) at ho
    rw [← hR] at ho
    have hpw : p < w.heap.size := H.out.low p (Or.inr (Or.inr ⟨j, hp⟩))
    have hnx : preN (j + 1) L' = R ++ [x] := by rw [preN_succ j H.out.good.up, hx, hR]; rfl
    obtain ⟨x1, x2, x3, x4⟩ := x
    obtain ⟨a0, a1, a2, a3, -⟩ := prO_cells hpx
    simp only at a0 a1 a2 a3
    have l0 := cell_of_one hl
    obtain ⟨WA, hWA⟩ : ∃ WA, WA = (V.alloc (.cells #[.int .i64 x1, .int .i64 x2, .int .i64 x3, .int .u32 x4] 42)).drew := ⟨_, rfl⟩
    have bw : Below V.heap.size V WA := by rw [hWA]; exact ((Below.refl _ _).alloc (Nat.le_refl _) _).drew
    have cells4 : ∀ W' : World, W'.heap[p]? = some (prO (x1, x2, x3, x4)) → W'.cell? ⟨p, 0, none⟩ = some (.int .i64 x1) ∧ W'.cell? ⟨p, 1, none⟩ = some (.int .i64 x2) ∧ W'.cell? ⟨p, 2, none⟩ = some (.int .i64 x3) ∧ W'.cell? ⟨p, 3, none⟩ = some (.int .u32 x4) := fun W' h1 => ⟨(prO_cells h1).1, (prO_cells h1).2.1, (prO_cells h1).2.2.1, (prO_cells h1).2.2.2.1⟩
    have SD : Hid (V.drew.cell? ⟨p, 0, none⟩ = some (.int .i64 x1) ∧ V.drew.cell? ⟨p, 1, none⟩ = some (.int .i64 x2) ∧ V.drew.cell? ⟨p, 2, none⟩ = some (.int .i64 x3) ∧ V.drew.cell? ⟨p, 3, none⟩ = some (.int .u32 x4)) := Lib.hid (cells4 V.drew hpx)
    have SA := Lib.hid (cells4 WA (below_block bw hpx))
    have OA := Lib.hid (own_step ho bw)
    have NEWS := Lib.hid (new_proc V x1 x2 x3 x4)
    have ZA : Hid (w.heap.size ≤ WA.heap.size) := Lib.hid (by have := bw.size; omega)
    have s0 : WA.cell? ⟨w.heap.size, 0, none⟩ = some v := cell_of_one (below_block bw hl)
    have hlb := lt_of_block hl
    have ownl : v.ownBlock ≠ some w.heap.size := fun hg => by
      obtain ⟨cs, hcs⟩ := own_block ho hg
      rw [hl] at hcs
      exact absurd (show (some 28 : Option Nat) = some 42 from congrArg kindOf (Option.some.inj hcs)) (by decide)
    have AT4 : Hid (∀ w4, WA.grownBy w4 v.ownBlock → w4.heap[w.heap.size]? = some (.cells #[v] 28 (0, 0))) := Lib.hid (fun w4 hg => (hg.block _ (lt_of_block (below_block bw hl)) (fun e => ownl e.symm)).trans (below_block bw hl))
    have PQ4 : Hid (∀ w4, WA.grownBy w4 v.ownBlock → w4.heap[p]? = some (prO (x1, x2, x3, x4))) := Lib.hid (fun w4 hg => (hg.block _ (lt_of_block (below_block bw hpx)) (fun e => by have := (hlt p e.symm).1; omega)).trans (below_block bw hpx))
    have S4 : Hid (∀ w4, WA.grownBy w4 v.ownBlock → w4.cell? ⟨p, 0, none⟩ = some (.int .i64 x1) ∧ w4.cell? ⟨p, 1, none⟩ = some (.int .i64 x2) ∧ w4.cell? ⟨p, 2, none⟩ = some (.int .i64 x3) ∧ w4.cell? ⟨p, 3, none⟩ = some (.int .u32 x4)) := Lib.hid (fun w4 hg => cells4 w4 (PQ4.out w4 hg))
    have S5 : Hid (∀ w4, WA.grownBy w4 v.ownBlock → ∀ u, (w4.setCell ⟨w.heap.size, 0, none⟩ u).cell? ⟨p, 0, none⟩ = some (.int .i64 x1) ∧ (w4.setCell ⟨w.heap.size, 0, none⟩ u).cell? ⟨p, 1, none⟩ = some (.int .i64 x2) ∧ (w4.setCell ⟨w.heap.size, 0, none⟩ u).cell? ⟨p, 2, none⟩ = some (.int .i64 x3) ∧ (w4.setCell ⟨w.heap.size, 0, none⟩ u).cell? ⟨p, 3, none⟩ = some (.int .u32 x4)) := Lib.hid (fun w4 hg u => cells4 _ ((Below.heap_setCell _ _ _ _ (by simp only; omega)).trans (PQ4.out w4 hg)))
    have HI := Lib.hid hI
    have HLT := Lib.hid hlt
    have OV := Lib.hid ho
    have HNX := Lib.hid hnx
    have FIN : Hid (∀ u w4, w4.ownsRow w.heap.size 42 4 u (R.length + 1) (prsV R ++ [.int .i64 x1, .int .i64 x2, .int .i64 x3, .int .u32 x4]) → WA.grownBy w4 v.ownBlock → KeepT 42 (fun k => k = w.heap.size + 1) w3.heap.size V (w4.setCell ⟨w.heap.size, 0, none⟩ u) ∧ ∃ s', (wayAll b m n).Nx (j, P', L') s' ∧ AllStY w b P' L' s' (w4.setCell ⟨w.heap.size, 0, none⟩ u)) := Lib.hid (fun u w4 ho4 hg4 => by
      have l4 := AT4.out w4 hg4
      have o1 : Only V (w4.setCell ⟨w.heap.size, 0, none⟩ u) (fun k => k = w.heap.size ∨ v.ownBlock = some k) := ((Only.below bw).trans ⟨hg4.os, hg4.tape, hg4.output, hg4.size, fun i hi hB => hg4.block i hi (fun e => hB (Or.inr e.symm))⟩).trans (Only.grown (grownBy_setCell _ _ _ _) (Or.inl rfl))
      have o5 : (w4.setCell ⟨w.heap.size, 0, none⟩ u).ownsRow w.heap.size 42 4 u (R.length + 1) (prsV R ++ [.int .i64 x1, .int .i64 x2, .int .i64 x3, .int .u32 x4]) := ownsRow_only (B := fun k => k = w.heap.size) ho4 (Only.grown (grownBy_setCell _ _ _ _) rfl) (fun g hg e => by
        obtain ⟨cs, hcs⟩ := own_block ho4 hg
        rw [e, l4] at hcs
        exact absurd (show (some 28 : Option Nat) = some 42 from congrArg kindOf (Option.some.inj hcs)) (by decide))
      have I := HI.out
      refine ⟨KeepT.only o1 (fun k hk e => ?_) (fun k o hk hko hB => ?_), (j + 1, P', L'), rfl, ?_⟩
      · rcases hk with hk | hk
        · omega
        · obtain ⟨cs, hcs⟩ := own_block OV.out hk
          rw [e, I.sbox] at hcs
          exact absurd (show (some 24 : Option Nat) = some 42 from congrArg kindOf (Option.some.inj hcs)) (by decide)
      · rcases hk with hk | hk
        · omega
        · obtain ⟨cs, hcs⟩ := own_block OV.out hk
          rw [hko] at hcs
          rw [Option.some.inj hcs]
          rfl
      · refine ⟨rfl, Only.old I.bel o1 I.bel.size (fun k hk => ?_), o1.kept I.sbox ?_, u, heap_setCell_same _ _ 0 _ _ _ l4, ?_⟩
        · rcases hk with hk | hk
          · omega
          · exact (HLT.out k hk).1
        · rintro (e | e)
          · omega
          · obtain ⟨cs, hcs⟩ := own_block OV.out e
            rw [I.sbox] at hcs
            exact absurd (show (some 24 : Option Nat) = some 42 from congrArg kindOf (Option.some.inj hcs)) (by decide)
        · simp only [HNX.out]
          rw [List.length_append, prsV_append, prsV_one]
          exact o5)
    clear bw cells4 PQ4 a0 a1 a2 a3 hx hpx hnx ownl hp hI hlt ho hR hl
    rw [hWA] at SA OA ZA s0 AT4 S4 S5 FIN
    clear hWA
    gi_wp2
    refine round_held (S := fun w' => w'.cell? ⟨p, 0, none⟩ = some (.int .i64 x1) ∧ w'.cell? ⟨p, 1, none⟩ = some (.int .i64 x2) ∧ w'.cell? ⟨p, 2, none⟩ = some (.int .i64 x3) ∧ w'.cell? ⟨p, 3, none⟩ = some (.int .u32 x4)) hmx (by rfl) (fun ⟨_, _, h⟩ => h) (by exact SD.out) (fun hHeld => ?_)
    refine wpAnyH_take (i := 1) (oi := _) (v := .pointer (some ⟨p, 0, none⟩)) rfl (by kernel_rfl) (by kernel_rfl) (by kernel_rfl) (fun _ _ _ h => h) (Or.inl ⟨by rfl, ?_⟩) (by assumption) ?_
    · intro w hSw
      try dsimp only at hSw
      go_split_ands
      go_simp
    try simp only [Act.put, List.getElem_toArray, List.getElem_cons_zero, List.getElem_cons_succ, List.setIfInBounds_toArray, List.set_cons_zero, List.set_cons_succ]
    refine wpAnyH_take (i := 2) (oi := _) (v := .pointer (some ⟨p, 0, none⟩)) rfl (by kernel_rfl) (by kernel_rfl) (by kernel_rfl) (fun _ _ _ h => h) (Or.inl ⟨by rfl, ?_⟩) (by assumption) ?_
    · intro w hSw
      try dsimp only at hSw
      go_split_ands
      go_simp
    try simp only [Act.put, List.getElem_toArray, List.getElem_cons_zero, List.getElem_cons_succ, List.setIfInBounds_toArray, List.set_cons_zero, List.set_cons_succ]
    refine wpAnyH_take (i := 3) (oi := _) (v := .agg #[.int .i64 x1, .int .i64 x2, .int .i64 x3, .int .u32 x4]) rfl (by kernel_rfl) (by kernel_rfl) (by kernel_rfl) (fun _ _ _ h => h) (Or.inl ⟨by rfl, ?_⟩) (by assumption) ?_
    · intro w hSw
      try dsimp only at hSw
      go_split_ands
      go_simp
    try simp only [Act.put, List.getElem_toArray, List.getElem_cons_zero, List.getElem_cons_succ, List.setIfInBounds_toArray, List.set_cons_zero, List.set_cons_succ]
    refine wpAnyH_ready (rs := [0, 4]) (by kernel_rfl) (by simp) ?_
    refine AllReadyH.cons (o := _) rfl (fun K hK => ?_) (AllReadyH.cons (o := _) rfl (fun K hK => ?_) AllReadyH.nil)
    · go_simp
      refine hK.out _ _ (by exact SD.out) (fun hHeld => ?_)
      clear hK K
      try simp only [Act.put, List.getElem_toArray, List.getElem_cons_zero, List.getElem_cons_succ, List.setIfInBounds_toArray, List.set_cons_zero, List.set_cons_succ]
      refine wpAnyH_ready (rs := [4]) (by kernel_rfl) (by simp) ?_
      refine AllReadyH.cons (o := _) rfl (fun K hK => ?_) AllReadyH.nil
      go_simp
      refine hK.out _ _ (by exact SA.out) (fun hHeld => ?_)
      clear hK K
      try simp only [Act.put, List.getElem_toArray, List.getElem_cons_zero, List.getElem_cons_succ, List.setIfInBounds_toArray, List.set_cons_zero, List.set_cons_succ]
      refine wpAnyH_ready (rs := [5]) (by kernel_rfl) (by simp) ?_
      refine AllReadyH.cons (o := _) rfl (fun K hK => ?_) AllReadyH.nil
      refine step_append_lies _ (by rfl) _ _ _ (by rfl) w.heap.size 42 ie _ 4 32 Try.underlying28 hi hi0 hi1 hi2 rfl (by omega) v R.length (prsV R) (by rfl) OA.out ⟨V.heap.size, 0, none⟩ 1 1 [.int .i64 x1, .int .i64 x2, .int .i64 x3, .int .u32 x4] (by rfl) (by rfl) NEWS.out (by simp [Value.oneCell']) (by omega) (by unfold maxLen; omega) (by omega) ZA.out (V.heap.size + 1) (by simp) ?_
      intro gg cap w4 ho hg _ _
      have hb4 := AT4.out w4 hg
      have hS4 := S4.out w4 hg
      have OO := Lib.hid ho
      have GG := Lib.hid hg
      have B4 := Lib.hid hb4
      have y1 := cell_of_one hb4
      have f1 := free_of_one hb4
      clear ho hg hb4
      try simp only [Act.put, List.getElem_toArray, List.getElem_cons_zero, List.getElem_cons_succ, List.setIfInBounds_toArray, List.set_cons_zero, List.set_cons_succ]
      refine hK.out _ _ (by exact hS4) (fun hHeld => ?_)
      clear hK K
      try simp only [Act.put, List.getElem_toArray, List.getElem_cons_zero, List.getElem_cons_succ, List.setIfInBounds_toArray, List.set_cons_zero, List.set_cons_succ]
      refine wpAnyH_ready (rs := [6]) (by kernel_rfl) (by simp) ?_
      refine AllReadyH.cons (o := _) rfl (fun K hK => ?_) AllReadyH.nil
      go_simp
      refine hK.out _ _ (by exact S5.out w4 GG.out _) (fun hHeld => ?_)
      clear hK K
      try simp only [Act.put, List.getElem_toArray, List.getElem_cons_zero, List.getElem_cons_succ, List.setIfInBounds_toArray, List.set_cons_zero, List.set_cons_succ]
      refine wpAnyH_done (by kernel_rfl) ?_ _
      gi_wp2
      exact FIN.out _ w4 OO.out GG.out
    · go_simp
      refine hK.out _ _ (by exact SA.out) (fun hHeld => ?_)
      clear hK K
      try simp only [Act.put, List.getElem_toArray, List.getElem_cons_zero, List.getElem_cons_succ, List.setIfInBounds_toArray, List.set_cons_zero, List.set_cons_succ]
      refine wpAnyH_ready (rs := [0]) (by kernel_rfl) (by simp) ?_
      refine AllReadyH.cons (o := _) rfl (fun K hK => ?_) AllReadyH.nil
      go_simp
      refine hK.out _ _ (by exact SA.out) (fun hHeld => ?_)
      clear hK K
      try simp only [Act.put, List.getElem_toArray, List.getElem_cons_zero, List.getElem_cons_succ, List.setIfInBounds_toArray, List.set_cons_zero, List.set_cons_succ]
      refine wpAnyH_ready (rs := [5]) (by kernel_rfl) (by simp) ?_
      refine AllReadyH.cons (o := _) rfl (fun K hK => ?_) AllReadyH.nil
      refine step_append_lies _ (by rfl) _ _ _ (by rfl) w.heap.size 42 ie _ 4 32 Try.underlying28 hi hi0 hi1 hi2 rfl (by omega) v R.length (prsV R) (by rfl) OA.out ⟨V.heap.size, 0, none⟩ 1 1 [.int .i64 x1, .int .i64 x2, .int .i64 x3, .int .u32 x4] (by rfl) (by rfl) NEWS.out (by simp [Value.oneCell']) (by omega) (by unfold maxLen; omega) (by omega) ZA.out (V.heap.size + 1) (by simp) ?_
      intro gg cap w4 ho hg _ _
      have hb4 := AT4.out w4 hg
      have hS4 := S4.out w4 hg
      have OO := Lib.hid ho
      have GG := Lib.hid hg
      have B4 := Lib.hid hb4
      have y1 := cell_of_one hb4
      have f1 := free_of_one hb4
      clear ho hg hb4
      try simp only [Act.put, List.getElem_toArray, List.getElem_cons_zero, List.getElem_cons_succ, List.setIfInBounds_toArray, List.set_cons_zero, List.set_cons_succ]
      refine hK.out _ _ (by exact hS4) (fun hHeld => ?_)
      clear hK K
      try simp only [Act.put, List.getElem_toArray, List.getElem_cons_zero, List.getElem_cons_succ, List.setIfInBounds_toArray, List.set_cons_zero, List.set_cons_succ]
      refine wpAnyH_ready (rs := [6]) (by kernel_rfl) (by simp) ?_
      refine AllReadyH.cons (o := _) rfl (fun K hK => ?_) AllReadyH.nil
      go_simp
      refine hK.out _ _ (by exact S5.out w4 GG.out _) (fun hHeld => ?_)
      clear hK K
      try simp only [Act.put, List.getElem_toArray, List.getElem_cons_zero, List.getElem_cons_succ, List.setIfInBounds_toArray, List.set_cons_zero, List.set_cons_succ]
      refine wpAnyH_done (by kernel_rfl) ?_ _
      gi_wp2
      exact FIN.out _ w4 OO.out GG.out
  case pass =>
    rintro ⟨j, P', L'⟩ ⟨j', P2, L2⟩ V hI ⟨⟨he, he2⟩, -, hn⟩
    have e := hI.eq
    simp only [Prod.mk.injEq] at e
    obtain ⟨rfl, rfl⟩ := e
    simp only at he he2 hn
    subst he
    cases he2
    have hx := H.out.none_ hn
    refine ⟨rfl, hI.bel, hI.sbox, ?_⟩
    simp only
    rw [preN_succ j H.out.good.up, hx]
    simpa using hI.row
  case done =>
    rintro D ⟨j, P', L'⟩ V hD hf hI hKD
    have e := hI.eq
    simp only [Prod.mk.injEq] at e
    obtain ⟨rfl, rfl⟩ := e
    have hj : j = n + 1 := hf
    subst hj
    obtain ⟨v, hl, ho⟩ := hI.row
    have l0 := cell_of_one hl
    simp only at ho
    rw [preY_end H.out.good] at ho
    have HB := Lib.hid (hI.bel.trans (below_put w.heap.size V D (.deferred none) (by omega)))
    have HO := Lib.hid (own_stay ho (StayT.put (T := 42) (B := w.heap.size) (.deferred none) hKD (by simp [kindOf]) (by omega)))
    clear hI hl ho
    gi_wp2
    refine ⟨by simp, .inl ⟨_, _, rfl, run_takeDeferred hKD, ?_⟩⟩
    refine ⟨v, ?_, v, rfl, HO.out, HB.out⟩
    simp [results, Try.results14, go_sem]
  case stop =>
    rintro D c V hD hh hKD
    exact hh.elim
end Go.Proofs.Ytbmiodkdoacbeaa
