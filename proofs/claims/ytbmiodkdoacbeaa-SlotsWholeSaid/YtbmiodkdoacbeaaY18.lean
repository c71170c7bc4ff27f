/- The walk of SlotsOrphans. No condition. Written by gen/gen_y18.py. -/
import Derived.Test.YtbmiodkdoacbeaaY17
namespace Go.Proofs.Ytbmiodkdoacbeaa
open Go.RowKit Go.Maps
set_option maxRecDepth 100000

theorem OT.only {W w w' : World} {b : Nat} {n : Int} {F F' : Nat → Prop} {L : List Nd} (h : OT W w b n F L) (ho : Only w w' F') (hF : ∀ k, F' k → F k ∧ W.heap.size ≤ k) (hb : ¬ F' b) : OT W w' b n F L := by
  obtain ⟨m, P, h1, h2⟩ := h.ex
  exact ⟨⟨m, P, h1.kept (ho.block _ (lt_of_block h1.box) hb) (fun k hk => ho.block k (h1.lt hk) (fun e => (h2 k hk).2 (hF k e).1)), h2⟩, Only.old h.below ho h.below.size (fun k hk => (hF k hk).2), h.nb, fun k hk => Nat.lt_of_lt_of_le (h.flt k hk) ho.size⟩
theorem OT.boxLt {W w : World} {b : Nat} {n : Int} {F : Nat → Prop} {L : List Nd} (h : OT W w b n F L) : b < w.heap.size := let ⟨_, _, h1, _⟩ := h.ex; lt_of_block h1.box
theorem three8 {n : Int} (h : 3 ≤ n ∧ n ≤ 8) : n = 3 ∨ n = 4 ∨ n = 5 ∨ n = 6 ∨ n = 7 ∨ n = 8 := by omega
theorem orph_add1 {n : Int} (h : 3 ≤ n ∧ n ≤ 8) : addP n [(1, 0, 1, 0)] 1 = 2 ∧ addE n [(1, 0, 1, 0)] 1 = 0 ∧ addL n [(1, 0, 1, 0)] 1 = [(1, 0, 1, 0), (2, 1, 1, 0)] := by
  rcases three8 h with rfl | rfl | rfl | rfl | rfl | rfl <;> decide
theorem orph_add2 {n : Int} (h : 3 ≤ n ∧ n ≤ 8) : addP n [(1, 0, 1, 0), (2, 1, 1, 0)] 2 = 3 ∧ addE n [(1, 0, 1, 0), (2, 1, 1, 0)] 2 = 0 ∧ addL n [(1, 0, 1, 0), (2, 1, 1, 0)] 2 = [(1, 0, 1, 0), (2, 1, 1, 0), (3, 2, 1, 0)] := by
  rcases three8 h with rfl | rfl | rfl | rfl | rfl | rfl <;> decide
theorem orph_zombie {n : Int} (h : 3 ≤ n ∧ n ≤ 8) (c : Int) : exitE [(1, 0, 1, 0), (2, 1, 1, 0), (3, 2, 1, 0)] 3 = 0 ∧ exitL n [(1, 0, 1, 0), (2, 1, 1, 0), (3, 2, 1, 0)] 3 c = [(1, 0, 1, 0), (2, 1, 1, 0), (3, 2, 3, c)] ∧ exitR n [(1, 0, 1, 0), (2, 1, 1, 0), (3, 2, 1, 0)] 3 c = [] := by
  rcases three8 h with rfl | rfl | rfl | rfl | rfl | rfl <;> exact ⟨by kernel_rfl, by kernel_rfl, by kernel_rfl⟩
theorem orph_wait_z {n : Int} (h : 3 ≤ n ∧ n ≤ 8) (c : Int) : waitE [(1, 0, 1, 0), (2, 1, 1, 0), (3, 2, 3, c)] 1 = 0 ∧ waitL n [(1, 0, 1, 0), (2, 1, 1, 0), (3, 2, 3, c)] 1 = [(1, 0, 2, 0), (2, 1, 1, 0), (3, 2, 3, c)] ∧ waitR n [(1, 0, 1, 0), (2, 1, 1, 0), (3, 2, 3, c)] 1 = [] := by
  rcases three8 h with rfl | rfl | rfl | rfl | rfl | rfl <;> exact ⟨by kernel_rfl, by kernel_rfl, by kernel_rfl⟩
theorem orph_exit_zw {n : Int} (h : 3 ≤ n ∧ n ≤ 8) (c : Int) : exitE [(1, 0, 2, 0), (2, 1, 1, 0), (3, 2, 3, c)] 2 = 0 ∧ exitL n [(1, 0, 2, 0), (2, 1, 1, 0), (3, 2, 3, c)] 2 9 = [(1, 0, 1, 0), (3, 1, 3, c)] ∧ exitR n [(1, 0, 2, 0), (2, 1, 1, 0), (3, 2, 3, c)] 2 9 = [(1, 2, 9)] := by
  rcases three8 h with rfl | rfl | rfl | rfl | rfl | rfl <;> exact ⟨by kernel_rfl, by kernel_rfl, by kernel_rfl⟩
theorem orph_exit_zn {n : Int} (h : 3 ≤ n ∧ n ≤ 8) (c : Int) : exitE [(1, 0, 1, 0), (2, 1, 1, 0), (3, 2, 3, c)] 2 = 0 ∧ exitL n [(1, 0, 1, 0), (2, 1, 1, 0), (3, 2, 3, c)] 2 9 = [(1, 0, 1, 0), (2, 1, 3, 9), (3, 1, 3, c)] ∧ exitR n [(1, 0, 1, 0), (2, 1, 1, 0), (3, 2, 3, c)] 2 9 = [] := by
  rcases three8 h with rfl | rfl | rfl | rfl | rfl | rfl <;> exact ⟨by kernel_rfl, by kernel_rfl, by kernel_rfl⟩
theorem orph_get_zw (c : Int) : getP [(1, 0, 1, 0), (3, 1, 3, c)] 3 = (3, 1, 3, c) ∧ (atN 3 [(1, 0, 1, 0), (3, 1, 3, c)]).isSome = true := ⟨by kernel_rfl, by kernel_rfl⟩
theorem orph_get_zn (c : Int) : getP [(1, 0, 1, 0), (2, 1, 3, 9), (3, 1, 3, c)] 3 = (3, 1, 3, c) ∧ (atN 3 [(1, 0, 1, 0), (2, 1, 3, 9), (3, 1, 3, c)]).isSome = true := ⟨by kernel_rfl, by kernel_rfl⟩
theorem orph_wait_r {n : Int} (h : 3 ≤ n ∧ n ≤ 8) : waitE [(1, 0, 1, 0), (2, 1, 1, 0), (3, 2, 1, 0)] 1 = 0 ∧ waitL n [(1, 0, 1, 0), (2, 1, 1, 0), (3, 2, 1, 0)] 1 = [(1, 0, 2, 0), (2, 1, 1, 0), (3, 2, 1, 0)] ∧ waitR n [(1, 0, 1, 0), (2, 1, 1, 0), (3, 2, 1, 0)] 1 = [] := by
  rcases three8 h with rfl | rfl | rfl | rfl | rfl | rfl <;> exact ⟨by kernel_rfl, by kernel_rfl, by kernel_rfl⟩
theorem orph_exit_rw {n : Int} (h : 3 ≤ n ∧ n ≤ 8) : exitE [(1, 0, 2, 0), (2, 1, 1, 0), (3, 2, 1, 0)] 2 = 0 ∧ exitL n [(1, 0, 2, 0), (2, 1, 1, 0), (3, 2, 1, 0)] 2 9 = [(1, 0, 1, 0), (3, 1, 1, 0)] ∧ exitR n [(1, 0, 2, 0), (2, 1, 1, 0), (3, 2, 1, 0)] 2 9 = [(1, 2, 9)] := by
  rcases three8 h with rfl | rfl | rfl | rfl | rfl | rfl <;> exact ⟨by kernel_rfl, by kernel_rfl, by kernel_rfl⟩
theorem orph_exit_rn {n : Int} (h : 3 ≤ n ∧ n ≤ 8) : exitE [(1, 0, 1, 0), (2, 1, 1, 0), (3, 2, 1, 0)] 2 = 0 ∧ exitL n [(1, 0, 1, 0), (2, 1, 1, 0), (3, 2, 1, 0)] 2 9 = [(1, 0, 1, 0), (2, 1, 3, 9), (3, 1, 1, 0)] ∧ exitR n [(1, 0, 1, 0), (2, 1, 1, 0), (3, 2, 1, 0)] 2 9 = [] := by
  rcases three8 h with rfl | rfl | rfl | rfl | rfl | rfl <;> exact ⟨by kernel_rfl, by kernel_rfl, by kernel_rfl⟩
theorem orph_get_rw : getP [(1, 0, 1, 0), (3, 1, 1, 0)] 3 = (3, 1, 1, 0) ∧ (atN 3 [(1, 0, 1, 0), (3, 1, 1, 0)]).isSome = true := ⟨by kernel_rfl, by kernel_rfl⟩
theorem orph_get_rn : getP [(1, 0, 1, 0), (2, 1, 3, 9), (3, 1, 1, 0)] 3 = (3, 1, 1, 0) ∧ (atN 3 [(1, 0, 1, 0), (2, 1, 3, 9), (3, 1, 1, 0)]).isSome = true := ⟨by kernel_rfl, by kernel_rfl⟩
set_option maxHeartbeats 16000000 in
theorem slotsOrphans_walk (n : Int) (zombie waits : Bool) (c : Int) (W : World) (_ : I64 n) (hc : 0 ≤ c ∧ c ≤ 4294967295) : Calls Try.prog 8 #[.int .i64 n, .bool zombie, .bool waits, .int .u32 c] W fun e w' => e = .returned (.bool true) ∧ Below W.heap.size W w' := by
  obtain ⟨ie, hi, hi0, hi1, hi2⟩ := info_parts reapInfo
  by_cases hn : 3 ≤ n ∧ n ≤ 8
  · have n1 := hn.1
    have n2 := hn.2
    have HN := Lib.hid hn
    have HC := Lib.hid hc
    have o1 := orph_add1 hn
    have o2 := orph_add2 hn
    clear hn hc
    go_enter Try.func8, Try.ntmps8
    go_wp2_with fail
    refine (ot_new (W := W) n (Below.refl _ _) (by omega)).mono ?_
    rintro e w1 ⟨b, rfl, h, -⟩
    have H1 := Lib.hid h
    clear h
    go_wp2_with fail
    refine (ot_add H1.out 1 (by decide) o1.1 o1.2.1 o1.2.2).mono ?_
    rintro e w2 ⟨rfl, h, -⟩
    have H2 := Lib.hid h
    clear h o1
    go_wp2_with fail
    refine (ot_add H2.out 2 (by decide) o2.1 o2.2.1 o2.2.2).mono ?_
    rintro e w3 ⟨rfl, h, -⟩
    have H3 := Lib.hid h
    clear h o2
    cases zombie with
    | true =>
      have oz := orph_zombie HN.out c
      go_wp2_with fail
      refine (ot_exit H3.out 3 c (by decide) HC.out oz.1 oz.2.1 oz.2.2).mono ?_
      rintro e w4 ⟨v4, rfl, -, h, -⟩
      have H4 := Lib.hid h
      clear h oz
      cases waits with
      | true =>
        have ow := orph_wait_z HN.out c
        go_wp2_with fail
        refine (ot_wait H4.out 1 (by decide) ow.1 ow.2.1 ow.2.2).mono ?_
        rintro e w5 ⟨v5, rfl, -, h, -⟩
        have H5 := Lib.hid h
        clear h ow
        have ox := orph_exit_zw HN.out c
        have og := Lib.hid (orph_get_zw c)
        go_wp2_with fail
        refine (ot_exit H5.out 2 9 (by decide) (by decide) ox.1 ox.2.1 ox.2.2).mono ?_
        rintro e w6 ⟨v6, rfl, r6, h, -⟩
        have hlt := fun g (hg : v6.ownBlock = some g) => (show w6.ownsRow _ 58 3 v6 _ _ from r6).lt g hg
        obtain ⟨w7, hw7⟩ : ∃ w7, w7 = w6.alloc (.cells #[] 58) := ⟨_, rfl⟩
        have hb7 : Below w6.heap.size w6 w7 := by rw [hw7]; exact (Below.refl _ _).alloc (Nat.le_refl _) _
        have hz7 : w7.heap.size = w6.heap.size + 1 := by rw [hw7]; simp
        have H7 : Hid (OT W w7 b n (fun k => k = w6.heap.size) _) := Lib.hid (h.more hb7 (fun k hk => by subst hk; exact ⟨Or.inr (Nat.le_refl _), by omega⟩))
        have r7 := own_step r6 hb7
        have B6 := Lib.hid h.boxLt
        have LT := Lib.hid hlt
        have hw6 : W.heap.size ≤ w6.heap.size := h.below.size
        have o7 := World.ownsRow_lit (base := w6.heap.size) (e := 58) (size := 3) w6 #[] 0 (Nat.le_refl _) (by decide) rfl
        rw [← hw7] at o7
        obtain ⟨w8, hw8⟩ : ∃ w8, w8 = w7.alloc (.cells #[.int .i64 1, .int .i64 2, .int .u32 9] 58) := ⟨_, rfl⟩
        have hb8 : Below w7.heap.size w7 w8 := by rw [hw8]; exact (Below.refl _ _).alloc (Nat.le_refl _) _
        have H8 := Lib.hid (H7.out.step hb8)
        have R8 := Lib.hid (own_step r7 hb8)
        have O8 := Lib.hid (own_step o7 hb8)
        have N8 : Hid (∀ j u, [Value.int .i64 1, .int .i64 2, .int .u32 9][j]? = some u → w8.cell? ((⟨w7.heap.size, 0, none⟩ : Addr).add j) = some u) := Lib.hid (by
          rw [hw8]; exact World.news_of_block (cs := #[.int .i64 1, .int .i64 2, .int .u32 9]) (t := 58) (fr := (0, 0)) (heap_alloc_new w7 _))
        have Z8 : Hid (w6.heap.size ≤ w8.heap.size) := Lib.hid (by have := hb8.size; omega)
        rw [hw8, hw7] at H8 R8 O8 N8 Z8
        have S8 := Lib.hid hw6
        clear h r6 r7 hb7 hb8 H7 o7 ox hlt hw8 hw7 hw6 hz7
        go_wp2_with (at_builtin; refine wpList_append_lies _ rfl _ _ _ rfl w6.heap.size 58 ie _ 3 24 Try.underlying52 hi hi0 hi1 hi2 rfl (by omega) (.slice (some ⟨w6.heap.size, 0, none⟩) 0 0) 0 [] rfl O8.out ⟨w6.heap.size + 1, 0, none⟩ 1 1 [.int .i64 1, .int .i64 2, .int .u32 9] rfl rfl (by simpa using N8.out) (by simp [Value.oneCell']) (by omega) (by unfold maxLen; omega) (by omega) Z8.out (w6.heap.size + 1 + 1) (by simp) ?_; intro gg cap w9 ho hg _ _; have OO := Lib.hid ho; have GG := Lib.hid hg; clear ho hg)
        have og9 : Only _ w9 (fun k => k = w6.heap.size) := Only.grown (r := w6.heap.size) GG.out rfl
        have H9 := Lib.hid (H8.out.only og9 (fun k hk => ⟨hk, by have := S8.out; omega⟩) (by have := B6.out; omega))
        have R9 := Lib.hid (ownsRow_only R8.out og9 (fun g hg e => by have := (LT.out g hg).2; omega))
        clear og9
        refine (ot_get H9.out 3 (by decide) og.out.1 og.out.2).mono ?_
        rintro e w10 ⟨rfl, hb⟩
        have W10 := Lib.hid (own_step OO.out hb)
        have R10 := Lib.hid (own_step R9.out hb)
        have H10 := Lib.hid (H9.out.step hb)
        clear hb
        obtain ⟨w11, hw11⟩ : ∃ w11, w11 = w10.alloc (.cells #[.int .i64 3, .int .i64 1, .int .i64 3, .int .u32 c] 42) := ⟨_, rfl⟩
        have hb11 : Below w10.heap.size w10 w11 := by rw [hw11]; exact (Below.refl _ _).alloc (Nat.le_refl _) _
        have hx11 : w11.heap[w10.heap.size]? = some (prO (3, 1, 3, c)) := by rw [hw11]; exact heap_alloc_new w10 _
        have U11 := Lib.hid (RpsAt.below (RpsAt.of_row (L := [(1, 2, 9)]) R10.out) hb11)
        have H11 := Lib.hid (H10.out.step hb11)
        have X11 := Lib.hid hx11
        have V11 := Lib.hid (RpsAt.below (RpsAt.of_row (L := [(1, 2, 9)]) W10.out) hb11)
        clear hb11 hx11
        unfold prV
        go_wp2_with fail
        rw [← hw11]
        clear hw11
        refine (sameR [(1, 2, 9)] _ _ w11 (by decide) U11.out V11.out).mono ?_
        rintro e w12 ⟨rfl, hb⟩
        have H12 := Lib.hid (H11.out.step hb)
        obtain ⟨a0, a1, a2, a3, -⟩ := prO_cells (below_block hb X11.out)
        simp only at a0 a1 a2 a3
        clear hb
        go_wp2_with fail
        refine (awake13 _).mono ?_
        rintro e w13 ⟨rfl, hb⟩
        have B13 := Lib.hid (H12.out.below.trans (hb.mono H12.out.below.size))
        clear hb a0 a1 a2 a3
        go_wp2
        go_ret
        exact ⟨rfl, B13.out⟩
      | false =>
        have ox := orph_exit_zn HN.out c
        have og := Lib.hid (orph_get_zn c)
        go_wp2_with fail
        refine (ot_exit H4.out 2 9 (by decide) (by decide) ox.1 ox.2.1 ox.2.2).mono ?_
        rintro e w6 ⟨v6, rfl, r6, h, -⟩
        have hlt := fun g (hg : v6.ownBlock = some g) => (show w6.ownsRow _ 58 3 v6 _ _ from r6).lt g hg
        obtain ⟨w7, hw7⟩ : ∃ w7, w7 = w6.alloc (.cells #[] 58) := ⟨_, rfl⟩
        have hb7 : Below w6.heap.size w6 w7 := by rw [hw7]; exact (Below.refl _ _).alloc (Nat.le_refl _) _
        have hz7 : w7.heap.size = w6.heap.size + 1 := by rw [hw7]; simp
        have H7 : Hid (OT W w7 b n (fun k => k = w6.heap.size) _) := Lib.hid (h.more hb7 (fun k hk => by subst hk; exact ⟨Or.inr (Nat.le_refl _), by omega⟩))
        have r7 := own_step r6 hb7
        have B6 := Lib.hid h.boxLt
        have LT := Lib.hid hlt
        have hw6 : W.heap.size ≤ w6.heap.size := h.below.size
        have R8 := Lib.hid r7
        rw [hw7] at H7 R8
        clear h r6 r7 hb7 ox hlt hw7 hw6 hz7
        go_wp2_with fail
        refine (ot_get H7.out 3 (by decide) og.out.1 og.out.2).mono ?_
        rintro e w10 ⟨rfl, hb⟩
        have R10 := Lib.hid (own_step R8.out hb)
        have H10 := Lib.hid (H7.out.step hb)
        clear hb
        obtain ⟨w11, hw11⟩ : ∃ w11, w11 = w10.alloc (.cells #[.int .i64 3, .int .i64 1, .int .i64 3, .int .u32 c] 42) := ⟨_, rfl⟩
        have hb11 : Below w10.heap.size w10 w11 := by rw [hw11]; exact (Below.refl _ _).alloc (Nat.le_refl _) _
        have hx11 : w11.heap[w10.heap.size]? = some (prO (3, 1, 3, c)) := by rw [hw11]; exact heap_alloc_new w10 _
        have U11 := Lib.hid (RpsAt.below (RpsAt.of_row (L := []) R10.out) hb11)
        have H11 := Lib.hid (H10.out.step hb11)
        have X11 := Lib.hid hx11
        have V11 : Hid (RpsAt w11 (.slice (some ⟨w6.heap.size, 0, none⟩) 0 0) []) := Lib.hid ⟨_, _, rfl, Or.inl rfl⟩
        clear hb11 hx11
        unfold prV
        go_wp2_with fail
        rw [← hw11]
        clear hw11
        refine (sameR [] _ _ w11 (by decide) U11.out V11.out).mono ?_
        rintro e w12 ⟨rfl, hb⟩
        have H12 := Lib.hid (H11.out.step hb)
        obtain ⟨a0, a1, a2, a3, -⟩ := prO_cells (below_block hb X11.out)
        simp only at a0 a1 a2 a3
        clear hb
        go_wp2_with fail
        refine (awake13 _).mono ?_
        rintro e w13 ⟨rfl, hb⟩
        have B13 := Lib.hid (H12.out.below.trans (hb.mono H12.out.below.size))
        clear hb a0 a1 a2 a3
        go_wp2
        go_ret
        exact ⟨rfl, B13.out⟩
    | false =>
      cases waits with
      | true =>
        have ow := orph_wait_r HN.out
        go_wp2_with fail
        refine (ot_wait H3.out 1 (by decide) ow.1 ow.2.1 ow.2.2).mono ?_
        rintro e w5 ⟨v5, rfl, -, h, -⟩
        have H5 := Lib.hid h
        clear h ow
        have ox := orph_exit_rw HN.out
        have og := Lib.hid (orph_get_rw)
        go_wp2_with fail
        refine (ot_exit H5.out 2 9 (by decide) (by decide) ox.1 ox.2.1 ox.2.2).mono ?_
        rintro e w6 ⟨v6, rfl, r6, h, -⟩
        have hlt := fun g (hg : v6.ownBlock = some g) => (show w6.ownsRow _ 58 3 v6 _ _ from r6).lt g hg
        obtain ⟨w7, hw7⟩ : ∃ w7, w7 = w6.alloc (.cells #[] 58) := ⟨_, rfl⟩
        have hb7 : Below w6.heap.size w6 w7 := by rw [hw7]; exact (Below.refl _ _).alloc (Nat.le_refl _) _
        have hz7 : w7.heap.size = w6.heap.size + 1 := by rw [hw7]; simp
        have H7 : Hid (OT W w7 b n (fun k => k = w6.heap.size) _) := Lib.hid (h.more hb7 (fun k hk => by subst hk; exact ⟨Or.inr (Nat.le_refl _), by omega⟩))
        have r7 := own_step r6 hb7
        have B6 := Lib.hid h.boxLt
        have LT := Lib.hid hlt
        have hw6 : W.heap.size ≤ w6.heap.size := h.below.size
        have o7 := World.ownsRow_lit (base := w6.heap.size) (e := 58) (size := 3) w6 #[] 0 (Nat.le_refl _) (by decide) rfl
        rw [← hw7] at o7
        obtain ⟨w8, hw8⟩ : ∃ w8, w8 = w7.alloc (.cells #[.int .i64 1, .int .i64 2, .int .u32 9] 58) := ⟨_, rfl⟩
        have hb8 : Below w7.heap.size w7 w8 := by rw [hw8]; exact (Below.refl _ _).alloc (Nat.le_refl _) _
        have H8 := Lib.hid (H7.out.step hb8)
        have R8 := Lib.hid (own_step r7 hb8)
        have O8 := Lib.hid (own_step o7 hb8)
        have N8 : Hid (∀ j u, [Value.int .i64 1, .int .i64 2, .int .u32 9][j]? = some u → w8.cell? ((⟨w7.heap.size, 0, none⟩ : Addr).add j) = some u) := Lib.hid (by
          rw [hw8]; exact World.news_of_block (cs := #[.int .i64 1, .int .i64 2, .int .u32 9]) (t := 58) (fr := (0, 0)) (heap_alloc_new w7 _))
        have Z8 : Hid (w6.heap.size ≤ w8.heap.size) := Lib.hid (by have := hb8.size; omega)
        rw [hw8, hw7] at H8 R8 O8 N8 Z8
        have S8 := Lib.hid hw6
        clear h r6 r7 hb7 hb8 H7 o7 ox hlt hw8 hw7 hw6 hz7
        go_wp2_with (at_builtin; refine wpList_append_lies _ rfl _ _ _ rfl w6.heap.size 58 ie _ 3 24 Try.underlying52 hi hi0 hi1 hi2 rfl (by omega) (.slice (some ⟨w6.heap.size, 0, none⟩) 0 0) 0 [] rfl O8.out ⟨w6.heap.size + 1, 0, none⟩ 1 1 [.int .i64 1, .int .i64 2, .int .u32 9] rfl rfl (by simpa using N8.out) (by simp [Value.oneCell']) (by omega) (by unfold maxLen; omega) (by omega) Z8.out (w6.heap.size + 1 + 1) (by simp) ?_; intro gg cap w9 ho hg _ _; have OO := Lib.hid ho; have GG := Lib.hid hg; clear ho hg)
        have og9 : Only _ w9 (fun k => k = w6.heap.size) := Only.grown (r := w6.heap.size) GG.out rfl
        have H9 := Lib.hid (H8.out.only og9 (fun k hk => ⟨hk, by have := S8.out; omega⟩) (by have := B6.out; omega))
        have R9 := Lib.hid (ownsRow_only R8.out og9 (fun g hg e => by have := (LT.out g hg).2; omega))
        clear og9
        refine (ot_get H9.out 3 (by decide) og.out.1 og.out.2).mono ?_
        rintro e w10 ⟨rfl, hb⟩
        have W10 := Lib.hid (own_step OO.out hb)
        have R10 := Lib.hid (own_step R9.out hb)
        have H10 := Lib.hid (H9.out.step hb)
        clear hb
        obtain ⟨w11, hw11⟩ : ∃ w11, w11 = w10.alloc (.cells #[.int .i64 3, .int .i64 1, .int .i64 1, .int .u32 0] 42) := ⟨_, rfl⟩
        have hb11 : Below w10.heap.size w10 w11 := by rw [hw11]; exact (Below.refl _ _).alloc (Nat.le_refl _) _
        have hx11 : w11.heap[w10.heap.size]? = some (prO (3, 1, 1, 0)) := by rw [hw11]; exact heap_alloc_new w10 _
        have U11 := Lib.hid (RpsAt.below (RpsAt.of_row (L := [(1, 2, 9)]) R10.out) hb11)
        have H11 := Lib.hid (H10.out.step hb11)
        have X11 := Lib.hid hx11
        have V11 := Lib.hid (RpsAt.below (RpsAt.of_row (L := [(1, 2, 9)]) W10.out) hb11)
        clear hb11 hx11
        unfold prV
        go_wp2_with fail
        rw [← hw11]
        clear hw11
        refine (sameR [(1, 2, 9)] _ _ w11 (by decide) U11.out V11.out).mono ?_
        rintro e w12 ⟨rfl, hb⟩
        have H12 := Lib.hid (H11.out.step hb)
        obtain ⟨a0, a1, a2, a3, -⟩ := prO_cells (below_block hb X11.out)
        simp only at a0 a1 a2 a3
        clear hb
        go_wp2_with fail
        refine (awake13 _).mono ?_
        rintro e w13 ⟨rfl, hb⟩
        have B13 := Lib.hid (H12.out.below.trans (hb.mono H12.out.below.size))
        clear hb a0 a1 a2 a3
        go_wp2
        go_ret
        exact ⟨rfl, B13.out⟩
      | false =>
        have ox := orph_exit_rn HN.out
        have og := Lib.hid (orph_get_rn)
        go_wp2_with fail
        refine (ot_exit H3.out 2 9 (by decide) (by decide) ox.1 ox.2.1 ox.2.2).mono ?_
        rintro e w6 ⟨v6, rfl, r6, h, -⟩
        have hlt := fun g (hg : v6.ownBlock = some g) => (show w6.ownsRow _ 58 3 v6 _ _ from r6).lt g hg
        obtain ⟨w7, hw7⟩ : ∃ w7, w7 = w6.alloc (.cells #[] 58) := ⟨_, rfl⟩
        have hb7 : Below w6.heap.size w6 w7 := by rw [hw7]; exact (Below.refl _ _).alloc (Nat.le_refl _) _
        have hz7 : w7.heap.size = w6.heap.size + 1 := by rw [hw7]; simp
        have H7 : Hid (OT W w7 b n (fun k => k = w6.heap.size) _) := Lib.hid (h.more hb7 (fun k hk => by subst hk; exact ⟨Or.inr (Nat.le_refl _), by omega⟩))
        have r7 := own_step r6 hb7
        have B6 := Lib.hid h.boxLt
        have LT := Lib.hid hlt
        have hw6 : W.heap.size ≤ w6.heap.size := h.below.size
        have R8 := Lib.hid r7
        rw [hw7] at H7 R8
        clear h r6 r7 hb7 ox hlt hw7 hw6 hz7
        go_wp2_with fail
        refine (ot_get H7.out 3 (by decide) og.out.1 og.out.2).mono ?_
        rintro e w10 ⟨rfl, hb⟩
        have R10 := Lib.hid (own_step R8.out hb)
        have H10 := Lib.hid (H7.out.step hb)
        clear hb
        obtain ⟨w11, hw11⟩ : ∃ w11, w11 = w10.alloc (.cells #[.int .i64 3, .int .i64 1, .int .i64 1, .int .u32 0] 42) := ⟨_, rfl⟩
        have hb11 : Below w10.heap.size w10 w11 := by rw [hw11]; exact (Below.refl _ _).alloc (Nat.le_refl _) _
        have hx11 : w11.heap[w10.heap.size]? = some (prO (3, 1, 1, 0)) := by rw [hw11]; exact heap_alloc_new w10 _
        have U11 := Lib.hid (RpsAt.below (RpsAt.of_row (L := []) R10.out) hb11)
        have H11 := Lib.hid (H10.out.step hb11)
        have X11 := Lib.hid hx11
        have V11 : Hid (RpsAt w11 (.slice (some ⟨w6.heap.size, 0, none⟩) 0 0) []) := Lib.hid ⟨_, _, rfl, Or.inl rfl⟩
        clear hb11 hx11
        unfold prV
        go_wp2_with fail
        rw [← hw11]
        clear hw11
        refine (sameR [] _ _ w11 (by decide) U11.out V11.out).mono ?_
        rintro e w12 ⟨rfl, hb⟩
        have H12 := Lib.hid (H11.out.step hb)
        obtain ⟨a0, a1, a2, a3, -⟩ := prO_cells (below_block hb X11.out)
        simp only at a0 a1 a2 a3
        clear hb
        go_wp2_with fail
        refine (awake13 _).mono ?_
        rintro e w13 ⟨rfl, hb⟩
        have B13 := Lib.hid (H12.out.below.trans (hb.mono H12.out.below.size))
        clear hb a0 a1 a2 a3
        go_wp2
        go_ret
        exact ⟨rfl, B13.out⟩
  · by_cases h1 : n < 3
    · go_enter Try.func8, Try.ntmps8
      go_wp2_with fail
      refine (awake13 _).mono ?_
      rintro e w8 ⟨rfl, hb⟩
      have B := Lib.hid hb
      clear hb
      go_wp2
      go_ret
      exact ⟨rfl, B.out⟩
    · have h2 : 8 < n := by omega
      clear hn
      go_enter Try.func8, Try.ntmps8
      go_wp2_with fail
      refine (awake13 _).mono ?_
      rintro e w8 ⟨rfl, hb⟩
      have B := Lib.hid hb
      clear hb
      go_wp2
      go_ret
      exact ⟨rfl, B.out⟩
end Go.Proofs.Ytbmiodkdoacbeaa
