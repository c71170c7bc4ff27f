/- The contract of what Recv of package ring does within its guard. Condition: the ring lies as New laid it; what tells words has a contract. -/
import Derived.Test.YtolefcbhiajbbaaG5
import Derived.Deep.RegionHeld3
namespace Go.Proofs.Ytolefcbhiajbbaa
open Go.RowKit
set_option maxRecDepth 100000

theorem made_wordsG (n : Nat) : madeCells #[.int .u32 0] n = wordsV (List.replicate n 0) := by
  apply Array.ext
  · rw [size_madeCells, wordsV_size, List.length_replicate]
  · intro i h1 h2
    have h3 : i % 1 = 0 := Nat.mod_one i
    simp [madeCells, wordsV, h3]
theorem make_wordsG (n : Nat) (hn : n ≤ 1000000) (w : World) : (Instr.makeSlice 38 (.int .i64 (n : Int)) (.int .i64 (n : Int))).run Try.prog w = .ok (.slice (some ⟨w.heap.size, 0, none⟩) n n) (w.alloc (.cells (wordsV (List.replicate n 0)) 34)) := by
  obtain ⟨i, hi, h1, h2, h3⟩ := info_parts wordInfoG
  have := run_make (P := Try.prog) w 38 34 i _ Try.underlying38 hi h1 .i64 .i64 n n (by omega) (by omega) (by rw [h3]; omega) (by omega)
  rw [h2] at this
  simpa [Value.cells, made_wordsG] using this
/-- A row of words, its first k filled. -/
def fillG (h : Nat → Int) (k n : Nat) : List Int := (List.range n).map fun j => if j < k then h j else 0
theorem fillG_len (h : Nat → Int) (k n : Nat) : (fillG h k n).length = n := by simp [fillG]
theorem fillG_zero (h : Nat → Int) (n : Nat) : fillG h 0 n = List.replicate n 0 := by
  refine List.ext_getElem (by simp [fillG]) fun i h1 h2 => ?_
  simp [fillG]
theorem fillG_set (h : Nat → Int) (k n : Nat) : (fillG h k n).set k (h k) = fillG h (k + 1) n := by
  refine List.ext_getElem (by simp [fillG]) fun i h1 h2 => ?_
  rw [List.getElem_set]
  simp only [fillG, List.getElem_map, List.getElem_range]
  by_cases e : k = i
  · subst e; simp
  · rw [if_neg e]
    by_cases e2 : i < k
    · rw [if_pos e2, if_pos (by omega)]
    · rw [if_neg e2, if_neg (by omega)]
/-- The words of a message: so many behind its length. -/
def msgOf (g : Nat → Int) (at_ n : Nat) : List Int := (List.range n).map fun j => g (at_ + (1 + j))
theorem msgOf_len (g : Nat → Int) (at_ n : Nat) : (msgOf g at_ n).length = n := by simp [msgOf]
theorem fillG_all (g : Nat → Int) (at_ n : Nat) : fillG (fun j => g (at_ + (1 + j))) n n = msgOf g at_ n := by
  unfold fillG msgOf
  exact List.map_congr_left fun j hj => by rw [if_pos (List.mem_range.1 hj)]
theorem msg_of_row {w : World} {g : Nat} {L : List Int} (h : w.heap[g]? = some (.cells (wordsV L) 34 (0, 0))) : MsgG w g L := ⟨_, h, fun i hi => wordsV_get L i hi⟩
section
variable {St : (Nat → Int) → World → Prop} {S : Nat → Prop} {N : Nat} {k : Nat} {first caps : Array Value} {g0 : Nat → Int} {w : World} {b c d f m : Nat}
/-- What the closure of Recv keeps while it takes words. -/
structure RecvG (St : (Nat → Int) → World → Prop) (b c d f m at_ : Nat) (k : Nat) (first caps : Array Value) (g0 : Nat → Int) (w : World) (bp bb lb gw n : Nat) (lv : Value) (j : Nat) (V : World) : Prop where
  r : RngAt V b c d f m
  st : St g0 V
  cap : CapG 47 V (.func (.func k) first caps) bp bb at_
  row : V.heap[gw]? = some (.cells (wordsV (fillG (fun j => g0 (at_ + (1 + j))) j n)) 34 (0, 0))
  lbox : V.heap[lb]? = some (.cells #[lv] 38 (0, 0))
  only : Only w V (fun j => j = b)
theorem below_step1 (w : World) (o : Obj) : Below w.heap.size w (w.alloc o) := (Below.refl _ _).alloc (Nat.le_refl _) o
set_option maxHeartbeats 4000000 in
theorem recvIt_okG (K : KeepG St S N) (G : GetsG St N k first caps) (R : RngAt w b c d f (m + 1)) (hb : ¬ S b) (hN : wdsG c d ≤ N) (hN2 : N ≤ 1000000) (hs : St g0 w)
    (rb pb lb : Nat) (lv : Value) (X1 : w.heap[rb]? = some (.cells #[.pointer (some ⟨b, 0, none⟩)] 24 (0, 0))) (X2 : w.heap[pb]? = some (.cells #[.func (.func k) first caps] 47 (0, 0))) (X3 : w.heap[lb]? = some (.cells #[lv] 38 (0, 0))) :
    Calls Try.prog 27 #[.pointer (some ⟨rb, 0, none⟩), .pointer (some ⟨pb, 0, none⟩), .pointer (some ⟨lb, 0, none⟩)] w fun e w' => e = .returned (.tuple #[]) ∧ (RngAt w' b c d ((f + 1) % c) m ∧ ∃ g, w.heap.size ≤ g ∧ w'.heap[lb]? = some (.cells #[.slice (some ⟨g, 0, none⟩) (lenG d (g0 (begG c d f 0))) (lenG d (g0 (begG c d f 0)))] 38 (0, 0)) ∧ MsgG w' g (msgOf g0 (begG c d f 0) (lenG d (g0 (begG c d f 0))))) ∧ Only w w' (fun j => j = b ∨ j = lb) := by
  have c1 := cell_of_one X1
  have c2 := cell_of_one X2
  have PT := Lib.hid (teller_okG R k first caps)
  have BG := Lib.hid (begG_lt (c := c) (d := d) (f := f) (i := 0) R.c1)
  have WX := Lib.hid (K.wd g0 w hs (begG c d f 0) (by have := begG_lt (c := c) (d := d) (f := f) (i := 0) R.c1; omega))
  have HK := Lib.hid K
  have HG := Lib.hid G
  have HR := Lib.hid R
  have HS := Lib.hid hs
  have X3 := Lib.hid X3
  have X1 := Lib.hid X1
  have L1 := Lib.hid (R.of_box X1.out (by decide) : rb ≠ b)
  have nb := Lib.hid hb
  have L3 := Lib.hid (R.of_box X3.out (by decide) : lb ≠ b)
  have hc1 := R.c1
  have hc8 := R.c8
  have hd8 := R.d8
  have hfc := R.fc
  have hmc := R.mc
  have LN := Lib.hid (lenG_ge (d := d) (x := g0 (begG c d f 0)) R.d1 WX.out.1)
  have R1 := Lib.hid (lt_of_block X1.out)
  have SL := Lib.hid (K.lt g0 w hs)
  obtain ⟨f', hf'⟩ : ∃ f', f' = (f + 1) % c := ⟨_, rfl⟩
  have hf2 : f' < c := by rw [hf']; exact Nat.mod_lt _ (by omega)
  have ht : ((f : Int) + 1).tmod (c : Int) = (f' : Int) := by rw [Int.tmod_eq_emod_of_nonneg (by omega), hf']; push_cast; rfl
  have hcz : ¬ (c : Int) = 0 := by omega
  rw [← hf']
  obtain ⟨at_, hat⟩ : ∃ a, a = begG c d f 0 := ⟨_, rfl⟩
  rw [← hat] at PT BG WX LN ⊢
  obtain ⟨n, hn⟩ : ∃ n, n = lenG d (g0 at_) := ⟨_, rfl⟩
  rw [← hn] at LN ⊢
  have HN := Lib.hid hn
  clear K G R hs X2 hb hf' hat hn
  go_enter Try.func27, Try.ntmps27
  go_wp2_with fail
  refine PT.out.mono ?_
  rintro e w1 ⟨bp, bb, rfl, hC, hp, hq, hb1⟩
  have x1 := (hb1.cell (p := ⟨rb, 0, none⟩) R1.out).trans c1
  have R2 := HR.out.below hb1
  have r0 := R2.cap
  have r2 := R2.fst
  have r3 : w1.cell? ⟨b, 3, none⟩ = some (.int .i64 ((m : Int) + 1)) := R2.many
  have f2 := R2.free 2
  have f3 := R2.free 3
  have C1 := Lib.hid hC
  have B1 := Lib.hid hb1
  have RR := Lib.hid R2
  have HP := Lib.hid hp
  have HQ := Lib.hid hq
  have wr1 : (m : Int) + 1 ≤ 8 := by omega
  clear hC hp hq R2 hb1 c1 c2
  go_wp2_with fail
  refine Code.wp_mono (Q := fun e a' w' => e = .normal ∧ a' = { tmps := #[.pointer (some ⟨rb, 0, none⟩), .pointer (some ⟨pb, 0, none⟩), .pointer (some ⟨lb, 0, none⟩), .func (.func 35) #[] #[.pointer (some ⟨bp, 0, none⟩), .pointer (some ⟨bb, 0, none⟩)], undef, undef, .pointer (some ⟨b, 0, none⟩), .func (.func k) first caps, .func (.func 35) #[] #[.pointer (some ⟨bp, 0, none⟩), .pointer (some ⟨bb, 0, none⟩)], .pointer (some ⟨b, 0, none⟩), .pointer (some ⟨b, 0, none⟩), .pointer (some ⟨b, 0, none⟩), .pointer (some ⟨b, 0, none⟩), .pointer (some ⟨b, 2, none⟩), .int .i64 (f : Int), .int .i64 ((f : Int) + 1), .pointer (some ⟨b, 0, none⟩), .pointer (some ⟨b, 0, none⟩), .pointer (some ⟨b, 0, none⟩), .int .i64 (c : Int), .int .i64 (f' : Int), .pointer (some ⟨b, 0, none⟩), .pointer (some ⟨b, 0, none⟩), .pointer (some ⟨b, 3, none⟩), .int .i64 ((m : Int) + 1), .int .i64 (m : Int), .pointer (some ⟨b, 0, none⟩), .pointer (some ⟨b, 2, none⟩), .pointer (some ⟨b, 0, none⟩), .pointer (some ⟨b, 3, none⟩), undef, undef, undef, undef, undef, undef, undef, undef, undef, undef, undef, undef, undef, undef, undef, undef, undef, undef], defers := [] } ∧ w' = ((w1.setCell ⟨b, 2, none⟩ (.int .i64 (f' : Int))).setCell ⟨b, 3, none⟩ (.int .i64 (m : Int))).drew) ?rest ?reg
  case reg =>
    have he : ((f : Int) + 1) % (c : Int) = (f' : Int) := by rw [← ht, Int.tmod_eq_emod_of_nonneg (by omega)]
    have hcn : ¬ c = 0 := by omega
    have wf : IntKind.i64.wrap ((f : Int) + 1) = (f : Int) + 1 := IntWalk.i64_in _ (by omega)
    have wm : IntKind.i64.wrap (m : Int) = (m : Int) := IntWalk.i64_in _ (by omega)
    have KS2 : ∀ v, (w1.setCell ⟨b, 2, none⟩ v).drew.cell? ⟨rb, 0, none⟩ = some (.pointer (some ⟨b, 0, none⟩)) ∧ (w1.setCell ⟨b, 2, none⟩ v).drew.cell? ⟨b, 0, none⟩ = some (.int .i64 (c : Int)) := fun v => ⟨(World.cell?_setCell_far _ _ _ _ L1.out.symm).trans x1, (World.cell?_setCell_other _ _ _ _ (by simp)).trans r0⟩
    have KS3 : ∀ v u, ((w1.setCell ⟨b, 2, none⟩ v).setCell ⟨b, 3, none⟩ u).drew.cell? ⟨rb, 0, none⟩ = some (.pointer (some ⟨b, 0, none⟩)) ∧ ((w1.setCell ⟨b, 2, none⟩ v).setCell ⟨b, 3, none⟩ u).drew.cell? ⟨b, 0, none⟩ = some (.int .i64 (c : Int)) := fun v u => ⟨(World.cell?_setCell_far _ _ _ _ L1.out.symm).trans (KS2 v).1, (World.cell?_setCell_other _ _ _ _ (by simp)).trans (KS2 v).2⟩
    clear HK HG HR HS X1 X3 nb L1 L3 R1 SL PT BG WX LN HN C1 B1 RR HP HQ
    as_aux_lemma =>
      refine wp_region_noPanic ?_
      refine wp_region_held_drew (S := fun V => V.cell? ⟨rb, 0, none⟩ = some (.pointer (some ⟨b, 0, none⟩)) ∧ V.cell? ⟨b, 0, none⟩ = some (.int .i64 (c : Int))) (by kernel_rfl) (by exact ⟨x1, r0⟩) (fun hHeld => ?_)
      refine wpAnyH_take (i := 0) (oi := _) (v := .pointer (some ⟨b, 0, none⟩)) rfl (by kernel_rfl) (by kernel_rfl) (by kernel_rfl) (fun _ _ _ h => h) (Or.inl ⟨by rfl, ?_⟩) (by assumption) ?_
      · intro w hSw
        try dsimp only at hSw
        go_split_ands
        go_simp
      try simp only [Act.put, List.getElem_toArray, List.getElem_cons_zero, List.setIfInBounds_toArray, List.set_cons_zero, List.set_cons_succ]
      refine wpAnyH_take (i := 1) (oi := _) (v := .pointer (some ⟨b, 0, none⟩)) rfl (by kernel_rfl) (by kernel_rfl) (by kernel_rfl) (fun _ _ _ h => h) (Or.inl ⟨by rfl, ?_⟩) (by assumption) ?_
      · intro w hSw
        try dsimp only at hSw
        go_split_ands
        go_simp
      try simp only [Act.put, List.getElem_toArray, List.getElem_cons_zero, List.getElem_cons_succ, List.setIfInBounds_toArray, List.set_cons_zero, List.set_cons_succ]
      refine wpAnyH_take (i := 2) (oi := _) (v := .pointer (some ⟨b, 0, none⟩)) rfl (by kernel_rfl) (by kernel_rfl) (by kernel_rfl) (fun _ _ _ h => h) (Or.inl ⟨by rfl, ?_⟩) (by assumption) ?_
      · intro w hSw
        try dsimp only at hSw
        go_split_ands
        go_simp
      try simp only [Act.put, List.getElem_toArray, List.getElem_cons_zero, List.getElem_cons_succ, List.setIfInBounds_toArray, List.set_cons_zero, List.set_cons_succ]
      refine wpAnyH_take (i := 3) (oi := _) (v := .pointer (some ⟨b, 0, none⟩)) rfl (by kernel_rfl) (by kernel_rfl) (by kernel_rfl) (fun _ _ _ h => h) (Or.inl ⟨by rfl, ?_⟩) (by assumption) ?_
      · intro w hSw
        try dsimp only at hSw
        go_split_ands
        go_simp
      try simp only [Act.put, List.getElem_toArray, List.getElem_cons_zero, List.getElem_cons_succ, List.setIfInBounds_toArray, List.set_cons_zero, List.set_cons_succ]
      refine wpAnyH_take (i := 4) (oi := _) (v := .pointer (some ⟨b, 2, none⟩)) rfl (by kernel_rfl) (by kernel_rfl) (by kernel_rfl) (fun _ _ _ h => h) (Or.inl ⟨by rfl, ?_⟩) (by assumption) ?_
      · intro w hSw
        try dsimp only at hSw
        go_split_ands
        go_simp
      try simp only [Act.put, List.getElem_toArray, List.getElem_cons_zero, List.getElem_cons_succ, List.setIfInBounds_toArray, List.set_cons_zero, List.set_cons_succ]
      refine wpAnyH_take (i := 7) (oi := _) (v := .pointer (some ⟨b, 0, none⟩)) rfl (by kernel_rfl) (by kernel_rfl) (by kernel_rfl) (fun _ _ _ h => h) (Or.inl ⟨by rfl, ?_⟩) (by assumption) ?_
      · intro w hSw
        try dsimp only at hSw
        go_split_ands
        go_simp
      try simp only [Act.put, List.getElem_toArray, List.getElem_cons_zero, List.getElem_cons_succ, List.setIfInBounds_toArray, List.set_cons_zero, List.set_cons_succ]
      refine wpAnyH_take (i := 8) (oi := _) (v := .pointer (some ⟨b, 0, none⟩)) rfl (by kernel_rfl) (by kernel_rfl) (by kernel_rfl) (fun _ _ _ h => h) (Or.inl ⟨by rfl, ?_⟩) (by assumption) ?_
      · intro w hSw
        try dsimp only at hSw
        go_split_ands
        go_simp
      try simp only [Act.put, List.getElem_toArray, List.getElem_cons_zero, List.getElem_cons_succ, List.setIfInBounds_toArray, List.set_cons_zero, List.set_cons_succ]
      refine wpAnyH_take (i := 9) (oi := _) (v := .pointer (some ⟨b, 0, none⟩)) rfl (by kernel_rfl) (by kernel_rfl) (by kernel_rfl) (fun _ _ _ h => h) (Or.inl ⟨by rfl, ?_⟩) (by assumption) ?_
      · intro w hSw
        try dsimp only at hSw
        go_split_ands
        go_simp
      try simp only [Act.put, List.getElem_toArray, List.getElem_cons_zero, List.getElem_cons_succ, List.setIfInBounds_toArray, List.set_cons_zero, List.set_cons_succ]
      refine wpAnyH_take (i := 10) (oi := _) (v := .int .i64 (c : Int)) rfl (by kernel_rfl) (by kernel_rfl) (by kernel_rfl) (fun _ _ _ h => h) (Or.inl ⟨by rfl, ?_⟩) (by assumption) ?_
      · intro w hSw
        try dsimp only at hSw
        go_split_ands
        go_simp
      try simp only [Act.put, List.getElem_toArray, List.getElem_cons_zero, List.getElem_cons_succ, List.setIfInBounds_toArray, List.set_cons_zero, List.set_cons_succ]
      refine wpAnyH_take (i := 12) (oi := _) (v := .pointer (some ⟨b, 0, none⟩)) rfl (by kernel_rfl) (by kernel_rfl) (by kernel_rfl) (fun _ _ _ h => h) (Or.inl ⟨by rfl, ?_⟩) (by assumption) ?_
      · intro w hSw
        try dsimp only at hSw
        go_split_ands
        go_simp
      try simp only [Act.put, List.getElem_toArray, List.getElem_cons_zero, List.getElem_cons_succ, List.setIfInBounds_toArray, List.set_cons_zero, List.set_cons_succ]
      refine wpAnyH_take (i := 13) (oi := _) (v := .pointer (some ⟨b, 0, none⟩)) rfl (by kernel_rfl) (by kernel_rfl) (by kernel_rfl) (fun _ _ _ h => h) (Or.inl ⟨by rfl, ?_⟩) (by assumption) ?_
      · intro w hSw
        try dsimp only at hSw
        go_split_ands
        go_simp
      try simp only [Act.put, List.getElem_toArray, List.getElem_cons_zero, List.getElem_cons_succ, List.setIfInBounds_toArray, List.set_cons_zero, List.set_cons_succ]
      refine wpAnyH_take (i := 14) (oi := _) (v := .pointer (some ⟨b, 3, none⟩)) rfl (by kernel_rfl) (by kernel_rfl) (by kernel_rfl) (fun _ _ _ h => h) (Or.inl ⟨by rfl, ?_⟩) (by assumption) ?_
      · intro w hSw
        try dsimp only at hSw
        go_split_ands
        go_simp
      try simp only [Act.put, List.getElem_toArray, List.getElem_cons_zero, List.getElem_cons_succ, List.setIfInBounds_toArray, List.set_cons_zero, List.set_cons_succ]
      refine wpAnyH_ready (rs := [5, 15]) (by kernel_rfl) (by simp) ?_
      refine AllReadyH.cons (o := _) rfl (fun K1 hK => ?_) (AllReadyH.cons (o := _) rfl (fun K1 hK => ?_) AllReadyH.nil)
      · clear hHeld
        go_simp
        refine hK.out _ _ ⟨x1, r0⟩ (fun hHeld => ?_)
        clear hK K1
        try simp only [Act.put, List.getElem_toArray, List.getElem_cons_zero, List.getElem_cons_succ, List.setIfInBounds_toArray, List.set_cons_zero, List.set_cons_succ]
        refine wpAnyH_take (i := 6) (oi := _) (v := .int .i64 ((f : Int) + 1)) rfl (by kernel_rfl) (by kernel_rfl) (by kernel_rfl) (fun _ _ _ h => h) (Or.inl ⟨by rfl, ?_⟩) (by assumption) ?_
        · intro w hSw
          try dsimp only at hSw
          go_split_ands
          go_simp
        try simp only [Act.put, List.getElem_toArray, List.getElem_cons_zero, List.getElem_cons_succ, List.setIfInBounds_toArray, List.set_cons_zero, List.set_cons_succ]
        refine wpAnyH_take (i := 11) (oi := _) (v := .int .i64 (f' : Int)) rfl (by kernel_rfl) (by kernel_rfl) (by kernel_rfl) (fun _ _ _ h => h) (Or.inl ⟨by rfl, ?_⟩) (by assumption) ?_
        · intro w hSw
          try dsimp only at hSw
          go_split_ands
          go_simp
        try simp only [Act.put, List.getElem_toArray, List.getElem_cons_zero, List.getElem_cons_succ, List.setIfInBounds_toArray, List.set_cons_zero, List.set_cons_succ]
        refine wpAnyH_ready (rs := [15]) (by kernel_rfl) (by simp) ?_
        refine AllReadyH.cons (o := _) rfl (fun K1 hK => ?_) AllReadyH.nil
        clear hHeld
        go_simp
        refine hK.out _ _ ⟨x1, r0⟩ (fun hHeld => ?_)
        clear hK K1
        try simp only [Act.put, List.getElem_toArray, List.getElem_cons_zero, List.getElem_cons_succ, List.setIfInBounds_toArray, List.set_cons_zero, List.set_cons_succ]
        refine wpAnyH_take (i := 16) (oi := _) (v := .int .i64 (m : Int)) rfl (by kernel_rfl) (by kernel_rfl) (by kernel_rfl) (fun _ _ _ h => h) (Or.inl ⟨by rfl, ?_⟩) (by assumption) ?_
        · intro w hSw
          try dsimp only at hSw
          go_split_ands
          go_simp
        try simp only [Act.put, List.getElem_toArray, List.getElem_cons_zero, List.getElem_cons_succ, List.setIfInBounds_toArray, List.set_cons_zero, List.set_cons_succ]
        refine wpAnyH_take (i := 17) (oi := _) (v := .pointer (some ⟨b, 0, none⟩)) rfl (by kernel_rfl) (by kernel_rfl) (by kernel_rfl) (fun _ _ _ h => h) (Or.inl ⟨by rfl, ?_⟩) (by assumption) ?_
        · intro w hSw
          try dsimp only at hSw
          go_split_ands
          go_simp
        try simp only [Act.put, List.getElem_toArray, List.getElem_cons_zero, List.getElem_cons_succ, List.setIfInBounds_toArray, List.set_cons_zero, List.set_cons_succ]
        refine wpAnyH_take (i := 18) (oi := _) (v := .pointer (some ⟨b, 2, none⟩)) rfl (by kernel_rfl) (by kernel_rfl) (by kernel_rfl) (fun _ _ _ h => h) (Or.inl ⟨by rfl, ?_⟩) (by assumption) ?_
        · intro w hSw
          try dsimp only at hSw
          go_split_ands
          go_simp
        try simp only [Act.put, List.getElem_toArray, List.getElem_cons_zero, List.getElem_cons_succ, List.setIfInBounds_toArray, List.set_cons_zero, List.set_cons_succ]
        refine wpAnyH_ready (rs := [19]) (by kernel_rfl) (by simp) ?_
        refine AllReadyH.cons (o := _) rfl (fun K1 hK => ?_) AllReadyH.nil
        clear hHeld
        go_simp
        refine hK.out _ _ (KS2 _) (fun hHeld => ?_)
        clear hK K1
        try simp only [Act.put, List.getElem_toArray, List.getElem_cons_zero, List.getElem_cons_succ, List.setIfInBounds_toArray, List.set_cons_zero, List.set_cons_succ]
        refine wpAnyH_take (i := 20) (oi := _) (v := .pointer (some ⟨b, 0, none⟩)) rfl (by kernel_rfl) (by kernel_rfl) (by kernel_rfl) (fun _ _ _ h => h) (Or.inl ⟨by rfl, ?_⟩) (by assumption) ?_
        · intro w hSw
          try dsimp only at hSw
          go_split_ands
          go_simp
        try simp only [Act.put, List.getElem_toArray, List.getElem_cons_zero, List.getElem_cons_succ, List.setIfInBounds_toArray, List.set_cons_zero, List.set_cons_succ]
        refine wpAnyH_take (i := 21) (oi := _) (v := .pointer (some ⟨b, 3, none⟩)) rfl (by kernel_rfl) (by kernel_rfl) (by kernel_rfl) (fun _ _ _ h => h) (Or.inl ⟨by rfl, ?_⟩) (by assumption) ?_
        · intro w hSw
          try dsimp only at hSw
          go_split_ands
          go_simp
        try simp only [Act.put, List.getElem_toArray, List.getElem_cons_zero, List.getElem_cons_succ, List.setIfInBounds_toArray, List.set_cons_zero, List.set_cons_succ]
        refine wpAnyH_ready (rs := [22]) (by kernel_rfl) (by simp) ?_
        refine AllReadyH.cons (o := _) rfl (fun K1 hK => ?_) AllReadyH.nil
        clear hHeld
        go_simp
        refine hK.out _ _ (KS3 _ _) (fun hHeld => ?_)
        clear hK K1
        try simp only [Act.put, List.getElem_toArray, List.getElem_cons_zero, List.getElem_cons_succ, List.setIfInBounds_toArray, List.set_cons_zero, List.set_cons_succ]
        refine wpAnyH_done (by kernel_rfl) ?_ _
        refine NoPanic.normal ?_
        exact ⟨rfl, rfl, rfl⟩
      · clear hHeld
        go_simp
        refine hK.out _ _ ⟨x1, r0⟩ (fun hHeld => ?_)
        clear hK K1
        try simp only [Act.put, List.getElem_toArray, List.getElem_cons_zero, List.getElem_cons_succ, List.setIfInBounds_toArray, List.set_cons_zero, List.set_cons_succ]
        refine wpAnyH_take (i := 16) (oi := _) (v := .int .i64 (m : Int)) rfl (by kernel_rfl) (by kernel_rfl) (by kernel_rfl) (fun _ _ _ h => h) (Or.inl ⟨by rfl, ?_⟩) (by assumption) ?_
        · intro w hSw
          try dsimp only at hSw
          go_split_ands
          go_simp
        try simp only [Act.put, List.getElem_toArray, List.getElem_cons_zero, List.getElem_cons_succ, List.setIfInBounds_toArray, List.set_cons_zero, List.set_cons_succ]
        refine wpAnyH_ready (rs := [5]) (by kernel_rfl) (by simp) ?_
        refine AllReadyH.cons (o := _) rfl (fun K1 hK => ?_) AllReadyH.nil
        clear hHeld
        go_simp
        refine hK.out _ _ ⟨x1, r0⟩ (fun hHeld => ?_)
        clear hK K1
        try simp only [Act.put, List.getElem_toArray, List.getElem_cons_zero, List.getElem_cons_succ, List.setIfInBounds_toArray, List.set_cons_zero, List.set_cons_succ]
        refine wpAnyH_take (i := 6) (oi := _) (v := .int .i64 ((f : Int) + 1)) rfl (by kernel_rfl) (by kernel_rfl) (by kernel_rfl) (fun _ _ _ h => h) (Or.inl ⟨by rfl, ?_⟩) (by assumption) ?_
        · intro w hSw
          try dsimp only at hSw
          go_split_ands
          go_simp
        try simp only [Act.put, List.getElem_toArray, List.getElem_cons_zero, List.getElem_cons_succ, List.setIfInBounds_toArray, List.set_cons_zero, List.set_cons_succ]
        refine wpAnyH_take (i := 11) (oi := _) (v := .int .i64 (f' : Int)) rfl (by kernel_rfl) (by kernel_rfl) (by kernel_rfl) (fun _ _ _ h => h) (Or.inl ⟨by rfl, ?_⟩) (by assumption) ?_
        · intro w hSw
          try dsimp only at hSw
          go_split_ands
          go_simp
        try simp only [Act.put, List.getElem_toArray, List.getElem_cons_zero, List.getElem_cons_succ, List.setIfInBounds_toArray, List.set_cons_zero, List.set_cons_succ]
        refine wpAnyH_take (i := 17) (oi := _) (v := .pointer (some ⟨b, 0, none⟩)) rfl (by kernel_rfl) (by kernel_rfl) (by kernel_rfl) (fun _ _ _ h => h) (Or.inl ⟨by rfl, ?_⟩) (by assumption) ?_
        · intro w hSw
          try dsimp only at hSw
          go_split_ands
          go_simp
        try simp only [Act.put, List.getElem_toArray, List.getElem_cons_zero, List.getElem_cons_succ, List.setIfInBounds_toArray, List.set_cons_zero, List.set_cons_succ]
        refine wpAnyH_take (i := 18) (oi := _) (v := .pointer (some ⟨b, 2, none⟩)) rfl (by kernel_rfl) (by kernel_rfl) (by kernel_rfl) (fun _ _ _ h => h) (Or.inl ⟨by rfl, ?_⟩) (by assumption) ?_
        · intro w hSw
          try dsimp only at hSw
          go_split_ands
          go_simp
        try simp only [Act.put, List.getElem_toArray, List.getElem_cons_zero, List.getElem_cons_succ, List.setIfInBounds_toArray, List.set_cons_zero, List.set_cons_succ]
        refine wpAnyH_ready (rs := [19]) (by kernel_rfl) (by simp) ?_
        refine AllReadyH.cons (o := _) rfl (fun K1 hK => ?_) AllReadyH.nil
        clear hHeld
        go_simp
        refine hK.out _ _ (KS2 _) (fun hHeld => ?_)
        clear hK K1
        try simp only [Act.put, List.getElem_toArray, List.getElem_cons_zero, List.getElem_cons_succ, List.setIfInBounds_toArray, List.set_cons_zero, List.set_cons_succ]
        refine wpAnyH_take (i := 20) (oi := _) (v := .pointer (some ⟨b, 0, none⟩)) rfl (by kernel_rfl) (by kernel_rfl) (by kernel_rfl) (fun _ _ _ h => h) (Or.inl ⟨by rfl, ?_⟩) (by assumption) ?_
        · intro w hSw
          try dsimp only at hSw
          go_split_ands
          go_simp
        try simp only [Act.put, List.getElem_toArray, List.getElem_cons_zero, List.getElem_cons_succ, List.setIfInBounds_toArray, List.set_cons_zero, List.set_cons_succ]
        refine wpAnyH_take (i := 21) (oi := _) (v := .pointer (some ⟨b, 3, none⟩)) rfl (by kernel_rfl) (by kernel_rfl) (by kernel_rfl) (fun _ _ _ h => h) (Or.inl ⟨by rfl, ?_⟩) (by assumption) ?_
        · intro w hSw
          try dsimp only at hSw
          go_split_ands
          go_simp
        try simp only [Act.put, List.getElem_toArray, List.getElem_cons_zero, List.getElem_cons_succ, List.setIfInBounds_toArray, List.set_cons_zero, List.set_cons_succ]
        refine wpAnyH_ready (rs := [22]) (by kernel_rfl) (by simp) ?_
        refine AllReadyH.cons (o := _) rfl (fun K1 hK => ?_) AllReadyH.nil
        clear hHeld
        go_simp
        refine hK.out _ _ (KS3 _ _) (fun hHeld => ?_)
        clear hK K1
        try simp only [Act.put, List.getElem_toArray, List.getElem_cons_zero, List.getElem_cons_succ, List.setIfInBounds_toArray, List.set_cons_zero, List.set_cons_succ]
        refine wpAnyH_done (by kernel_rfl) ?_ _
        refine NoPanic.normal ?_
        exact ⟨rfl, rfl, rfl⟩
  rintro _ _ _ ⟨rfl, rfl, rfl⟩
  obtain ⟨w2, hw2⟩ : ∃ w2, w2 = ((w1.setCell ⟨b, 2, none⟩ (.int .i64 (f' : Int))).setCell ⟨b, 3, none⟩ (.int .i64 (m : Int))).drew := ⟨_, rfl⟩
  rw [← hw2]
  have O2 : Only w1 w2 (fun j => j = b) := by
    rw [hw2]
    exact ((Only.grown (B := fun j => j = b) (r := b) (grownBy_setCell _ _ _ _) rfl).trans (Only.grown (B := fun j => j = b) (r := b) (grownBy_setCell _ _ _ _) rfl)).trans (Only.drewN _ 1 _)
  have R2 : RngAt w2 b c d f' m := by
    rw [hw2]
    exact ((RR.out.setFirst f' hf2).setMany m (by omega)).drewN 1
  have C2 := C1.out.only O2 (fun e => RR.out.of_box C1.out.p (by decide) e) (fun e => RR.out.of_box C1.out.b (by decide) e)
  have S2 := HK.out.stay _ _ _ (HK.out.below HS.out B1.out) (O2.mono fun j e h => nb.out (e ▸ h))
  have x0 := cell_of_one (O2.kept (below_block B1.out (show w.heap[rb]? = some (.cells #[.pointer (some ⟨b, 0, none⟩)] 24 (0, 0)) from X1.out)) L1.out)
  have Y3 := Lib.hid (O2.kept (below_block B1.out X3.out) L3.out)
  have OO : Hid (Only w w2 (fun j => j = b)) := Lib.hid ((Only.below B1.out).trans O2)
  have T0 := tell_okG HG.out S2 C2 0 (by have := BG.out; omega) hN2
  rw [show ((0 : Nat) : Int) = 0 from rfl, Nat.add_zero] at T0
  have LG := Lib.hid (length_okG R2 WX.out bp bb T0)
  have H2 := Lib.hid (And.intro R2 (And.intro C2 S2))
  rw [← HN.out] at LG
  have n8 : n ≤ 8 := by have := LN.out; omega
  clear hw2 O2 R2 C2 S2 T0 x1 r0 r2 r3 f2 f3 ht hcz RR
  go_wp2_with fail
  refine LG.out.mono ?_
  rintro e w3 ⟨rfl, hb3⟩
  have mk := make_wordsG n (by omega) w3
  have B3 := below_step1 w3 (.cells (wordsV (List.replicate n 0)) 34)
  have B4 := Lib.hid (hb3.trans (B3.mono hb3.size))
  have I0 : Hid (RecvG St b c d f' m at_ k first caps g0 w bp bb lb w3.heap.size n lv 0 (w3.alloc (.cells (wordsV (List.replicate n 0)) 34))) := Lib.hid ⟨H2.out.1.below B4.out, HK.out.below H2.out.2.2 B4.out, H2.out.2.1.below B4.out, by rw [fillG_zero]; exact heap_alloc_new _ _, below_block B4.out Y3.out, OO.out.trans (Only.below B4.out)⟩
  have GW : Hid (w.heap.size ≤ w3.heap.size) := Lib.hid (Nat.le_trans OO.out.size hb3.size)
  have BP := Lib.hid (show w3.heap.size ≠ bp ∧ w3.heap.size ≠ bb ∧ ¬ S w3.heap.size ∧ w3.heap.size ≠ b ∧ w3.heap.size ≠ lb from ⟨fun e => by have := lt_of_block H2.out.2.1.p; have := hb3.size; omega, fun e => by have := lt_of_block H2.out.2.1.b; have := hb3.size; omega, fun h => by have := SL.out _ h; have := GW.out; omega, fun e => by have := H2.out.1.lt; have := hb3.size; omega, fun e => by have := lt_of_block Y3.out; have := hb3.size; omega⟩)
  generalize w3.heap.size = gw at *
  clear hb3 B3 B4 x0 LG
  go_wp2_with fail
  go_loopw [36] (fun i wr => ∃ j : Nat, i = .int .i64 (j : Int) ∧ j ≤ n ∧ RecvG St b c d f' m at_ k first caps g0 w bp bb lb gw n lv j wr) (fun i _ => (n - (intOf i).toNat))
  case atStart => exact ⟨0, rfl, Nat.zero_le _, I0.out⟩
  case round =>
    obtain ⟨j, rfl, hj, hR⟩ := hrel
    have HR := Lib.hid hR
    clear hR
    by_cases hlt : j < n
    · have TK := tell_okG HG.out HR.out.st HR.out.cap (1 + j) (by have := BG.out; have := LN.out; omega) hN2
      rw [show ((1 + j : Nat) : Int) = 1 + (j : Int) by push_cast; rfl] at TK
      obtain ⟨x, hx⟩ : ∃ x, x = g0 (at_ + (1 + j)) := ⟨_, rfl⟩
      rw [← hx] at TK
      have TK := Lib.hid TK
      have HX := Lib.hid hx
      clear hx
      go_wp2_with fail
      refine TK.out.mono ?_
      rintro e w5 ⟨rfl, hb5⟩
      have row5 := below_block hb5 HR.out.row
      have c5 : w5.cell? ⟨gw, j, none⟩ = some (.int .u32 0) := by
        rw [cell_of_row w5 gw _ _ _ _ row5, wordsV_get _ _ (by rw [fillG_len]; exact hlt)]
        simp [fillG, List.getD_eq_getElem?_getD, hlt]
      have f5 := frozen_of_row w5 gw j _ _ row5
      obtain ⟨w6, hw6⟩ : ∃ w6, w6 = w5.setCell ⟨gw, j, none⟩ (.int .u32 x) := ⟨_, rfl⟩
      have O6 : Only w5 w6 (fun i => i = gw) := Only.grown (hw6 ▸ grownBy_setCell w5 _ _ _) rfl
      have I6 : Hid (RecvG St b c d f' m at_ k first caps g0 w bp bb lb gw n lv (j + 1) w6) := Lib.hid ⟨(HR.out.r.below hb5).only O6 (fun e => BP.out.2.2.2.1 e.symm), HK.out.stay _ _ _ (HK.out.below HR.out.st hb5) (O6.mono fun i e h => BP.out.2.2.1 (e ▸ h)), (HR.out.cap.below hb5).only O6 (fun e => BP.out.1 e.symm) (fun e => BP.out.2.1 e.symm), by
        rw [hw6, heap_setCell_same _ _ _ _ _ _ row5, wordsV_set, HX.out, fillG_set (fun j => g0 (at_ + (1 + j)))], O6.kept (below_block hb5 HR.out.lbox) (fun e => BP.out.2.2.2.2 e.symm), (HR.out.only.trans (Only.below hb5)).late O6 (fun i e h => by have := GW.out; omega)⟩
      clear row5 O6 hb5
      go_wp2_with fail
      rw [← hw6]
      clear hw6 c5 f5
      go_roundw
      case rel => exact ⟨j + 1, by go_num, by omega, I6.out⟩
      case measure => simp [intOf]; omega
    · obtain rfl : j = n := by omega
      have z0 := cell_of_one HR.out.lbox
      have f0 := free_of_one HR.out.lbox
      obtain ⟨w6, hw6⟩ : ∃ w6, w6 = wr.setCell ⟨lb, 0, none⟩ (.slice (some ⟨gw, 0, none⟩) j j) := ⟨_, rfl⟩
      have O6 : Only wr w6 (fun i => i = lb) := Only.grown (hw6 ▸ grownBy_setCell wr _ _ _) rfl
      have D6 : Hid ((RngAt w6 b c d f' m ∧ ∃ g, w.heap.size ≤ g ∧ w6.heap[lb]? = some (.cells #[.slice (some ⟨g, 0, none⟩) j j] 38 (0, 0)) ∧ MsgG w6 g (msgOf g0 at_ j)) ∧ Only w w6 (fun i => i = b ∨ i = lb)) := Lib.hid ⟨⟨HR.out.r.only O6 (fun e => L3.out e.symm), gw, GW.out, by rw [hw6, heap_setCell_same _ _ 0 _ _ _ HR.out.lbox]; rfl, by
        have := msg_of_row HR.out.row
        rw [fillG_all] at this
        exact this.only O6 BP.out.2.2.2.2⟩, (HR.out.only.mono fun _ e => Or.inl e).trans (O6.mono fun _ e => Or.inr e)⟩
      clear O6
      go_wp2_with fail
      rw [← hw6]
      go_end0
      exact ⟨rfl, D6.out⟩
end
end Go.Proofs.Ytolefcbhiajbbaa
