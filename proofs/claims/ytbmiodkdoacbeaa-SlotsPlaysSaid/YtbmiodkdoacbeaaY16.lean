/- The walks of SlotsOnce and SlotsOrphans. No condition. -/
import Derived.Test.YtbmiodkdoacbeaaY15
namespace Go.Proofs.Ytbmiodkdoacbeaa
open Go.RowKit Go.Maps
set_option maxRecDepth 100000

theorem cell_same {w w' : World} {g i : Nat} (h : w'.heap[g]? = w.heap[g]?) : w'.cell? ⟨g, i, none⟩ = w.cell? ⟨g, i, none⟩ := by
  unfold World.cell?
  simp only [h]
theorem ReapOut.oneB {w w' : World} {v : Value} {r : Rp} (h : ReapOut w [r] v w') : ∃ g c cs, v = .slice (some ⟨g, 0, none⟩) 1 c ∧ w.heap.size ≤ g ∧ w'.heap[g]? = some (.cells cs 58 (0, 0)) ∧ w'.cell? ⟨g, 0, none⟩ = some (.int .i64 r.1) ∧ w'.cell? ⟨g, 1, none⟩ = some (.int .i64 r.2.1) ∧ w'.cell? ⟨g, 2, none⟩ = some (.int .u32 r.2.2) := by
  obtain ⟨g, c, rfl, h1, h2, q⟩ := h.one
  obtain ⟨cs, hcs⟩ := own_block (show w'.ownsRow w.heap.size 58 3 _ _ _ from h) (g := g) rfl
  exact ⟨g, c, cs, rfl, h1, hcs, q⟩
/-- A block of another kind is none of the table's. -/
theorem OT.apart {W w : World} {b : Nat} {n : Int} {F : Nat → Prop} {L : List Nd} (h : OT W w b n F L) {g : Nat} {cs : Array Value} {T : TypeId} (hg : w.heap[g]? = some (.cells cs T (0, 0))) (hT : T ≠ 42) : OT W w b n (fun k => F k ∨ k = g) L := by
  obtain ⟨m, P, h1, h2⟩ := h.ex
  refine ⟨⟨m, P, h1, fun k hk => ⟨(h2 k hk).1, ?_⟩⟩, h.below, h.nb, fun k hk => hk.elim (h.flt k) (fun e => e ▸ lt_of_block hg)⟩
  rintro (hf | rfl)
  · exact (h2 k hk).2 hf
  · rcases hk with rfl | ⟨id, hp⟩
    · obtain ⟨es, ck, hm⟩ := h1.map.isMap
      rw [hg] at hm
      cases hm
    · obtain ⟨x, _, h3⟩ := h1.proc hp
      rw [hg] at h3
      exact hT (Option.some.inj (show (some T : Option Nat) = some 42 from congrArg kindOf (Option.some.inj h3)))
theorem two8 {n : Int} (h : 2 ≤ n ∧ n ≤ 8) : n = 2 ∨ n = 3 ∨ n = 4 ∨ n = 5 ∨ n = 6 ∨ n = 7 ∨ n = 8 := by omega
theorem once_add {n : Int} (h : 2 ≤ n ∧ n ≤ 8) : addP n [(1, 0, 1, 0)] 1 = 2 ∧ addE n [(1, 0, 1, 0)] 1 = 0 ∧ addL n [(1, 0, 1, 0)] 1 = [(1, 0, 1, 0), (2, 1, 1, 0)] := by
  rcases two8 h with rfl | rfl | rfl | rfl | rfl | rfl | rfl <;> decide
theorem once_wait {n : Int} (h : 2 ≤ n ∧ n ≤ 8) : waitE [(1, 0, 1, 0), (2, 1, 1, 0)] 1 = 0 ∧ waitL n [(1, 0, 1, 0), (2, 1, 1, 0)] 1 = [(1, 0, 2, 0), (2, 1, 1, 0)] ∧ waitR n [(1, 0, 1, 0), (2, 1, 1, 0)] 1 = [] := by
  rcases two8 h with rfl | rfl | rfl | rfl | rfl | rfl | rfl <;> decide
theorem once_exit {n : Int} (h : 2 ≤ n ∧ n ≤ 8) (c : Int) : exitE [(1, 0, 2, 0), (2, 1, 1, 0)] 2 = 0 ∧ exitL n [(1, 0, 2, 0), (2, 1, 1, 0)] 2 c = [(1, 0, 1, 0)] ∧ exitR n [(1, 0, 2, 0), (2, 1, 1, 0)] 2 c = [(1, 2, c)] := by
  rcases two8 h with rfl | rfl | rfl | rfl | rfl | rfl | rfl <;> exact ⟨by decide, by kernel_rfl, by kernel_rfl⟩
theorem once_exit2 {n : Int} (h : 2 ≤ n ∧ n ≤ 8) (c : Int) : exitE [(1, 0, 1, 0), (2, 1, 1, 0)] 2 = 0 ∧ exitL n [(1, 0, 1, 0), (2, 1, 1, 0)] 2 c = [(1, 0, 1, 0), (2, 1, 3, c)] ∧ exitR n [(1, 0, 1, 0), (2, 1, 1, 0)] 2 c = [] := by
  rcases two8 h with rfl | rfl | rfl | rfl | rfl | rfl | rfl <;> exact ⟨by decide, by kernel_rfl, by kernel_rfl⟩
theorem once_wait2 {n : Int} (h : 2 ≤ n ∧ n ≤ 8) (c : Int) : waitE [(1, 0, 1, 0), (2, 1, 3, c)] 1 = 0 ∧ waitL n [(1, 0, 1, 0), (2, 1, 3, c)] 1 = [(1, 0, 1, 0)] ∧ waitR n [(1, 0, 1, 0), (2, 1, 3, c)] 1 = [(1, 2, c)] := by
  rcases two8 h with rfl | rfl | rfl | rfl | rfl | rfl | rfl <;> exact ⟨by kernel_rfl, by kernel_rfl, by kernel_rfl⟩
theorem once_get (c : Int) : getP [(1, 0, 1, 0), (2, 1, 3, c)] 2 = (2, 1, 3, c) ∧ (atN 2 [(1, 0, 1, 0), (2, 1, 3, c)]).isSome = true := ⟨by kernel_rfl, by kernel_rfl⟩
set_option maxHeartbeats 8000000 in
theorem slotsOnce_walk (n c : Int) (ahead : Bool) (W : World) (_ : I64 n) (hc : 0 ≤ c ∧ c ≤ 4294967295) : Calls Try.prog 6 #[.int .i64 n, .int .u32 c, .bool ahead] W fun e w' => e = .returned (.bool true) ∧ Below W.heap.size W w' := by
  by_cases hn : 2 ≤ n ∧ n ≤ 8
  · have n1 := hn.1
    have n2 := hn.2
    have HN := Lib.hid hn
    have HC := Lib.hid hc
    have o1 := once_add hn
    clear hn hc
    go_enter Try.func6, Try.ntmps6
    go_wp2_with fail
    refine (ot_new (W := W) n (Below.refl _ _) (by omega)).mono ?_
    rintro e w1 ⟨b, rfl, h, -⟩
    have H1 := Lib.hid h
    clear h
    go_wp2_with fail
    refine (ot_add H1.out 1 (by decide) o1.1 o1.2.1 o1.2.2).mono ?_
    rintro e w2 ⟨rfl, h, -⟩
    have H2 := Lib.hid h
    have O1 := Lib.hid o1
    clear h o1
    cases ahead with
    | true =>
      have o2 := once_wait HN.out
      go_wp2_with fail
      refine (ot_wait H2.out 1 (by decide) o2.1 o2.2.1 o2.2.2).mono ?_
      rintro e w3 ⟨v3, rfl, r3, h, -⟩
      have H3 := Lib.hid h
      obtain ⟨a3, c3, rfl⟩ := r3.nil
      have o3 := once_exit HN.out c
      clear h r3 o2
      go_wp2_with fail
      refine (ot_exit H3.out 2 c (by decide) HC.out o3.1 o3.2.1 o3.2.2).mono ?_
      rintro e w4 ⟨v4, rfl, r4, h, -⟩
      obtain ⟨g, c4, cs, rfl, -, hg, q0, q1, q2⟩ := r4.oneB
      have H4 := Lib.hid (h.apart hg (by decide))
      have Q := Lib.hid (And.intro q0 (And.intro q1 q2))
      clear h r4 q0 q1 q2 hg o3
      go_wp2_with fail
      refine (ot_add H4.out 1 (by decide) O1.out.1 O1.out.2.1 O1.out.2.2).mono ?_
      rintro e w5 ⟨rfl, h, hk⟩
      have q0 := (cell_same (hk.block g (Or.inr rfl))).trans Q.out.1
      have q1 := (cell_same (hk.block g (Or.inr rfl))).trans Q.out.2.1
      have q2 := (cell_same (hk.block g (Or.inr rfl))).trans Q.out.2.2
      have H5 := Lib.hid h
      clear h hk
      go_wp2_with fail
      refine (awake13 _).mono ?_
      rintro e w6 ⟨rfl, hb⟩
      have B := Lib.hid (H5.out.below.trans (hb.mono H5.out.below.size))
      clear hb q0 q1 q2
      go_wp2
      go_ret
      exact ⟨rfl, B.out⟩
    | false =>
      have o3 := once_exit2 HN.out c
      go_wp2_with fail
      refine (ot_exit H2.out 2 c (by decide) HC.out o3.1 o3.2.1 o3.2.2).mono ?_
      rintro e w3 ⟨v3, rfl, r3, h, -⟩
      have H3 := Lib.hid h
      obtain ⟨a3, c3, rfl⟩ := r3.nil
      have og := once_get c
      clear h r3 o3
      go_wp2_with fail
      refine (ot_get H3.out 2 (by decide) og.1 og.2).mono ?_
      rintro e w4 ⟨rfl, hb⟩
      obtain ⟨w5, hw5⟩ : ∃ w5, w5 = w4.alloc (.cells #[.int .i64 2, .int .i64 1, .int .i64 3, .int .u32 c] 42) := ⟨_, rfl⟩
      have hx5 : w5.heap[w4.heap.size]? = some (prO (2, 1, 3, c)) := by rw [hw5]; exact heap_alloc_new w4 _
      have hb5 : Below w4.heap.size w4 w5 := by rw [hw5]; exact (Below.refl _ _).alloc (Nat.le_refl _) _
      have H4 : Hid (OT W w5 b n (fun k => k = w4.heap.size) [(1, 0, 1, 0), (2, 1, 3, c)]) := Lib.hid ((H3.out.step hb).more hb5 (fun k hk => by
        subst hk
        exact ⟨Or.inr (Nat.le_refl _), lt_of_block hx5⟩))
      have X5 := Lib.hid hx5
      have o4 := once_wait2 HN.out c
      clear hb hb5 hx5 og
      unfold prV
      go_wp2_with fail
      rw [← hw5]
      clear hw5
      refine (ot_wait H4.out 1 (by decide) o4.1 o4.2.1 o4.2.2).mono ?_
      rintro e w6 ⟨v6, rfl, r6, h, hk⟩
      obtain ⟨g, c4, cs, rfl, hg0, hg, q0, q1, q2⟩ := r6.oneB
      have H6 := Lib.hid (h.apart hg (by decide))
      have Q := Lib.hid (And.intro q0 (And.intro q1 q2))
      obtain ⟨a0, a1, a2, a3, -⟩ := prO_cells ((hk.block _ rfl).trans X5.out)
      simp only at a0 a1 a2 a3
      clear h r6 q0 q1 q2 hg hg0 hk o4
      go_wp2_with fail
      refine (ot_add H6.out 1 (by decide) O1.out.1 O1.out.2.1 O1.out.2.2).mono ?_
      rintro e w7 ⟨rfl, h, hk⟩
      have q0 := (cell_same (hk.block g (Or.inr rfl))).trans Q.out.1
      have q1 := (cell_same (hk.block g (Or.inr rfl))).trans Q.out.2.1
      have q2 := (cell_same (hk.block g (Or.inr rfl))).trans Q.out.2.2
      have H7 := Lib.hid h
      clear h hk a0 a1 a2 a3
      go_wp2_with fail
      refine (awake13 _).mono ?_
      rintro e w8 ⟨rfl, hb⟩
      have B := Lib.hid (H7.out.below.trans (hb.mono H7.out.below.size))
      clear hb q0 q1 q2
      go_wp2
      go_ret
      exact ⟨rfl, B.out⟩
  · by_cases h1 : n < 2
    · go_enter Try.func6, Try.ntmps6
      go_wp2_with fail
      refine (awake13 _).mono ?_
      rintro e w8 ⟨rfl, hb⟩
      have B := Lib.hid hb
      clear hb
      go_wp2
      go_ret
      exact ⟨rfl, B.out⟩
    · have h2 : 8 < n := by omega
      clear hn
      go_enter Try.func6, Try.ntmps6
      go_wp2_with fail
      refine (awake13 _).mono ?_
      rintro e w8 ⟨rfl, hb⟩
      have B := Lib.hid hb
      clear hb
      go_wp2
      go_ret
      exact ⟨rfl, B.out⟩
end Go.Proofs.Ytbmiodkdoacbeaa
