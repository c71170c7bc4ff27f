/- The contract of package plan's iterator over who has frames. Conditions: the configuration's lists lie in memory, and its numbers may be. -/
import Derived.Test.YtepfljfaclakeaaP2
namespace Go.Proofs.Ytepfljfaclakeaa
open Go.RowKit Go.Shelf
attribute [local go_sem] Oper.semAt_some
set_option maxRecDepth 100000

structure OwnRel (w0 W : World) (b : Nat) (v1 v2 v3 : Value) (J : List OwnE → World → Prop) (L : List OwnE) (wr : World) : Prop where
  bel : Below w0.heap.size w0 wr
  size : W.heap.size ≤ wr.heap.size
  box : CBox wr b v1 v2 v3
  told : J L wr
theorem OwnRel.next {w0 W wr W3 : World} {b : Nat} {v1 v2 v3 : Value} {J : List OwnE → World → Prop} {L L' : List OwnE} {K : Nat → Prop} (h : OwnRel w0 W b v1 v2 v3 J L wr) (hs : w0.heap.size ≤ W.heap.size) (hK : ∀ k, k < w0.heap.size → K k) (hb : K b) (hk : Keep K W.heap.size wr W3) (hJ : J L' W3) : OwnRel w0 W b v1 v2 v3 J L' W3 :=
  ⟨h.bel.trans (hk.below (Nat.le_trans hs h.size) hK), Nat.le_trans h.size hk.size, (hk.same b (lt_of_block h.box) (Or.inl hb)).trans h.box, hJ⟩
theorem OwnRel.alloc {w0 W wr : World} {b : Nat} {v1 v2 v3 : Value} {J : List OwnE → World → Prop} {L : List OwnE} (h : OwnRel w0 W b v1 v2 v3 J L wr) (hs : w0.heap.size ≤ W.heap.size) (hJ : Hangs W.heap.size J) (o : Obj) : OwnRel w0 W b v1 v2 v3 J L (wr.alloc o) :=
  ⟨h.bel.alloc (Nat.le_trans hs h.size) _, by simpa using Nat.le_trans h.size (Nat.le_succ _), h.box.below ((Below.refl _ _).alloc (Nat.le_refl _) _), hJ _ _ _ h.told ((Below.refl _ _).alloc h.size _)⟩
set_option maxHeartbeats 4000000 in
theorem frames_seq_in (b n c1 m c3 : Nat) (a1 a3 : Option Addr) (v2 : Value) (P S H : List Row) (hn : n = P.length) (hm : m = H.length) (ht1 : n ≤ 1000) (ht3 : m ≤ 1000) (hP : ∀ T ∈ P, partB T = true) (hH : ∀ T ∈ H, chanB n T = true) (w0 w : World) (h : CfAt w0 (.slice a1 n c1) v2 (.slice a3 m c3) (P, S, H)) (hb0 : Below w0.heap.size w0 w) (hx : CBox w b (.slice a1 n c1) v2 (.slice a3 m c3)) (K : Nat → Prop) (hK : ∀ k, k < w0.heap.size → K k) (hKb : K b) :
    Seq Try.prog 55 #[.pointer (some ⟨b, 0, none⟩)] encO (ownL (P, S, H)) K w := by
  intro l J Jx W hW hJ hJx hY h0
  have hsz : w0.heap.size ≤ W.heap.size := Nat.le_trans hb0.size hW.size
  have R0 : Hid (OwnRel w0 W b (.slice a1 n c1) v2 (.slice a3 m c3) J (partN P 0) W) := Lib.hid ⟨hb0.trans (hW.mono hb0.size), Nat.le_refl _, hx.below hW, h0⟩
  have e0 := (hx.below hW).c0
  have HC := Lib.hid h
  have HN := Lib.hid hn
  have HMM := Lib.hid hm
  have PP := Lib.hid hP
  have HH := Lib.hid hH
  have HL : Hid (ownL (P, S, H) = partN P n ++ chanN H m) := Lib.hid (by rw [hn, hm]; rfl)
  clear hb0 hW h hx hn hm hP hH h0
  refine (callsIn_wide (n := 5)).1 ?_
  refine callsIn_of_wp Try.func55 rfl trivial ?_ rfl
  simp only [Try.ntmps55, List.size_toArray, List.length_cons, List.length_nil, Nat.reduceAdd, Nat.reduceSub, Array.replicate_succ, Array.replicate_zero, List.push_toArray, List.append_toArray, List.nil_append, List.cons_append]
  gi_wp2
  gi_loopw [10] (fun i wr => ∃ j : Nat, i = .int .i64 (j : Int) ∧ j ≤ n ∧ OwnRel w0 W b (.slice a1 n c1) v2 (.slice a3 m c3) J (partN P j) wr) (fun i _ => (n - (intOf i).toNat))
  case atStart => exact ⟨0, rfl, Nat.zero_le _, R0.out⟩
  case round =>
    obtain ⟨j, rfl, hj, hR⟩ := hrel
    have RR := Lib.hid hR
    clear hR e0
    by_cases hlt : j < n
    · obtain ⟨hmP, bb, o, x, y, rfl, hbl, hrow, g0, g1⟩ := (show RowsAt 2 w0 (.slice a1 n c1) P from HC.out.ps).two RR.out.bel j hlt
      have hx := partF_le (P.getD j []) (PP.out _ (getD_mem (by have := HN.out; omega)))
      rw [hrow] at hx
      obtain ⟨⟨x1, x2⟩, ⟨y1, y2⟩, -⟩ := hx
      simp only [List.getD_cons_zero, List.getD_cons_succ] at x1 x2 y1 y2
      obtain ⟨t, htt⟩ : ∃ t, t = (y + 3 - 1) / 3 := ⟨_, rfl⟩
      have hxo : ownAt P j = ((0, (j : Int)), x) := by unfold ownAt; rw [hrow]; rfl
      have hxt : trapAt P j = ((1, (j : Int)), t) := by unfold trapAt; rw [hrow, htt, show y + 3 - 1 = y + 2 by omega]; rfl
      have hall : partN P j ++ [((0, (j : Int)), x), ((1, (j : Int)), t)] <+: ownL (P, S, H) := by
        rw [HL.out, ← hxo, ← hxt, ← partN_succ]; exact (partN_pre P (by omega)).trans (List.prefix_append _ _)
      have hpre : partN P j ++ [((0, (j : Int)), x)] <+: ownL (P, S, H) := List.IsPrefix.trans (l₂ := partN P j ++ [((0, (j : Int)), x), ((1, (j : Int)), t)]) ⟨[((1, (j : Int)), t)], by simp⟩ hall
      have hnx : partN P (j + 1) = partN P j ++ [((0, (j : Int)), x)] ++ [((1, (j : Int)), t)] := by rw [partN_succ, hxo, hxt]; simp
      have RA := Lib.hid (RR.out.alloc hsz hJ (.cells #[.int .i64 x, .int .i64 y] 42))
      obtain ⟨fn, tmps, assign, body, hy, hR⟩ := hY (partN P j) ((0, (j : Int)), x) (wr.alloc (.cells #[.int .i64 x, .int .i64 y] 42)) 4 RA.out.told RA.out.size hpre
      have hcall := fun w => planPieces_is y 3 t (by omega) (by omega) (by decide) (by decide) htt.symm w
      have hY2 := fun (W3 : World) (hW3 : OwnRel w0 W b (.slice (some ⟨bb, o, none⟩) n c1) v2 (.slice a3 m c3) J (partN P j ++ [((0, (j : Int)), x)]) W3) => hY (partN P j ++ [((0, (j : Int)), x)]) ((1, (j : Int)), t) W3 4 hW3.told hW3.size (by rw [← hnx]; rw [HL.out]; exact (partN_pre P (by omega)).trans (List.prefix_append _ _))
      dsimp only [encO] at hy hY2
      have PRE := Lib.hid hpre
      have NX := Lib.hid hnx
      have HR := Lib.hid hR
      have HCALL := Lib.hid hcall
      have HY2 := Lib.hid hY2
      have hszw : W.heap.size ≤ wr.heap.size := RR.out.size
      clear hmP hrow hxo hxt hall hpre hnx hR hcall hY2 htt
      gi_wp2
      refine HR.out.mono ?_
      rintro e W3 ⟨hk, ⟨rfl, hJ3⟩ | ⟨rfl, hJ3⟩⟩
      · have R3 := Lib.hid (RA.out.next hsz hK hKb hk hJ3)
        have hc3 : W3.heap[wr.heap.size]? = some (.cells #[.int .i64 x, .int .i64 y] 42 (0, 0)) := (hk.same wr.heap.size (by simp) (Or.inr hszw)).trans (heap_alloc_new wr _)
        have q1 : W3.cell? ⟨wr.heap.size, 1, none⟩ = some (.int .i64 y) := by rw [cell_of_row _ _ _ _ _ _ hc3]; rfl
        obtain ⟨fn2, tmps2, assign2, body2, hy2, hR2⟩ := HY2.out W3 R3.out
        have HR2 := Lib.hid hR2
        clear hk hJ3 hc3 hR2
        gi_wp2_with (refine ⟨trivial, ?_⟩; gi_at_call 56; refine (callsIn_wide.2 (HCALL.out _)).mono ?_; rintro e w' ⟨rfl, rfl⟩)
        refine HR2.out.mono ?_
        rintro e W4 ⟨hk, ⟨rfl, hJ4⟩ | ⟨rfl, hJ4⟩⟩
        · rw [← NX.out] at hJ4
          have R4 := Lib.hid (R3.out.next hsz hK hKb hk hJ4)
          clear hk hJ4
          gi_wp2
          go_roundw
          case rel => exact ⟨j + 1, by go_num, by omega, R4.out⟩
          case measure => simp [intOf]; omega
        · rw [← NX.out] at hJ4
          gi_wp2
          refine bodyPost_ret (results_none rfl _ _ _) rfl ?_
          exact ⟨⟨_, rfl⟩, Or.inr ⟨_, by rw [HL.out]; exact (partN_pre P (by omega)).trans (List.prefix_append _ _), hJ4⟩⟩
      · gi_wp2
        refine ⟨trivial, ?_⟩
        gi_wp2
        refine ⟨fun _ h => (by cases h), ?_⟩
        gi_wp2
        refine bodyPost_ret (results_none rfl _ _ _) rfl ?_
        exact ⟨⟨_, rfl⟩, Or.inr ⟨_, PRE.out, hJ3⟩⟩
    · obtain rfl : j = n := by omega
      have e2 := RR.out.box.c2
      clear hlt
      gi_wp2
      gi_loopw [36] (fun i wr => ∃ k : Nat, i = .int .i64 (k : Int) ∧ k ≤ m ∧ OwnRel w0 W b (.slice a1 j c1) v2 (.slice a3 m c3) J (partN P j ++ chanN H k) wr) (fun i _ => (m - (intOf i).toNat))
      case atStart => exact ⟨0, rfl, Nat.zero_le _, by simpa [chanN] using RR.out⟩
      case round =>
        obtain ⟨k, rfl, hk', hR⟩ := hrel
        have R5 := Lib.hid hR
        clear hR e2
        by_cases hlt2 : k < m
        · obtain ⟨hmH, bb, o, x, y, u, v, rfl, hbl, hrow, g0, g1, g2, g3⟩ := (show RowsAt 4 w0 (.slice a3 m c3) H from HC.out.hs).four R5.out.bel k hlt2
          have hx := chanF_le _ (H.getD k []) (HH.out _ (getD_mem (by have := HMM.out; omega)))
          rw [hrow] at hx
          obtain ⟨⟨u1, u2⟩, ⟨v1, v2'⟩, ⟨p1, p2⟩, -⟩ := hx
          simp only [List.getD_cons_zero, List.getD_cons_succ] at u1 u2 v1 v2' p1 p2
          obtain ⟨r, hr⟩ : ∃ r, r = u * (v + 1) := ⟨_, rfl⟩
          rw [← hr] at p1 p2
          obtain ⟨t, htt⟩ : ∃ t, t = (r + 32 - 1) / 32 := ⟨_, rfl⟩
          have hxc : chanAt H k = ((2, (k : Int)), t) := by unfold chanAt chanF; rw [hrow, htt, hr, show u * (v + 1) + 32 - 1 = u * (v + 1) + 31 by omega]; rfl
          have hnx : partN P j ++ chanN H (k + 1) = partN P j ++ chanN H k ++ [((2, (k : Int)), t)] := by rw [chanN_succ, hxc, List.append_assoc]
          have hpre : partN P j ++ chanN H k ++ [((2, (k : Int)), t)] <+: ownL (P, S, H) := by
            rw [← hnx, HL.out]
            exact (List.prefix_append_right_inj _).2 (chanN_pre H (by omega))
          have RA := Lib.hid (R5.out.alloc hsz hJ (.cells #[.int .i64 x, .int .i64 y, .int .i64 u, .int .i64 v] 44))
          obtain ⟨fn, tmps, assign, body, hy, hR⟩ := hY (partN P j ++ chanN H k) ((2, (k : Int)), t) (wr.alloc (.cells #[.int .i64 x, .int .i64 y, .int .i64 u, .int .i64 v] 44)) 4 RA.out.told RA.out.size hpre
          have hcall := fun w => planPieces_is r 32 t (by omega) (by omega) (by decide) (by decide) htt.symm w
          dsimp only [encO] at hy
          have PRE := Lib.hid hpre
          have NX := Lib.hid hnx
          have HR := Lib.hid hR
          have HCALL := Lib.hid hcall
          have hr2 : u * (v + 1) = r := hr.symm
          clear hmH hrow hxc hpre hnx hR hcall htt hr
          gi_wp2_with (refine ⟨trivial, ?_⟩; gi_at_call 56; refine (callsIn_wide.2 (HCALL.out _)).mono ?_; rintro e w' ⟨rfl, rfl⟩)
          refine HR.out.mono ?_
          rintro e W3 ⟨hk, ⟨rfl, hJ3⟩ | ⟨rfl, hJ3⟩⟩
          · rw [← NX.out] at hJ3
            have R3 := Lib.hid (RA.out.next hsz hK hKb hk hJ3)
            clear hk hJ3
            gi_wp2
            go_roundw
            case rel => exact ⟨k + 1, by go_num, by omega, R3.out⟩
            case measure => simp [intOf]; omega
          · gi_wp2
            refine bodyPost_ret (results_none rfl _ _ _) rfl ?_
            exact ⟨⟨_, rfl⟩, Or.inr ⟨_, PRE.out, hJ3⟩⟩
        · obtain rfl : k = m := by omega
          gi_wp2
          go_end0
          exact ⟨⟨_, rfl⟩, Or.inl (by rw [HL.out]; exact R5.out.told)⟩
theorem frames_seq (b : Nat) (v1 v2 v3 : Value) (C : Cf) (hm : mayB C = true) (w0 w : World) (h : CfAt w0 v1 v2 v3 C) (hb0 : Below w0.heap.size w0 w) (hx : CBox w b v1 v2 v3) (K : Nat → Prop) (hK : ∀ k, k < w0.heap.size → K k) (hKb : K b) :
    Seq Try.prog 55 #[.pointer (some ⟨b, 0, none⟩)] encO (ownL C) K w := by
  obtain ⟨⟨p1, p2⟩, c1, c2⟩ := mayB_parts hm
  obtain ⟨P, S, H⟩ := C
  have hp := h.ps
  obtain ⟨a, c, rfl, t1, _, _⟩ := hp
  have hh := h.hs
  obtain ⟨a', c', rfl, t3, _, _⟩ := hh
  exact frames_seq_in b _ c _ c' a a' v2 P S H rfl rfl t1 t3 p2 c2 w0 w h hb0 hx K hK hKb
end Go.Proofs.Ytepfljfaclakeaa
