/- The walk of RingFull. Condition: the arguments are as wide as their types. -/
import Derived.Test.YtolefcbhiajbbaaG10
namespace Go.Proofs.Ytolefcbhiajbbaa
open Go.RowKit
set_option maxRecDepth 100000

theorem ringFull_bad (c d x : Int) (h : ¬ (1 ≤ c ∧ c ≤ 8 ∧ 1 ≤ d ∧ d ≤ 8)) (W : World) : Calls Try.prog 7 #[.int .i64 c, .int .i64 d, .int .u32 x] W fun e w' => e = .returned (.bool true) ∧ Below W.heap.size W w' := by
  have NB := Lib.hid (new_badG c d h W)
  clear h
  go_enter Try.func7, Try.ntmps7
  go_wp2_with (first
    | (go_at_call 9; refine NB.out.mono ?_; rintro e w1 ⟨rfl, rfl⟩)
    | (go_at_call 8; refine (awake19 _).mono ?_; rintro e w2 ⟨rfl, hb⟩; have B := Lib.hid hb; clear hb))
  go_ret
  exact ⟨rfl, B.out⟩
theorem begG_zero (c d f : Nat) (h : f < c) : begG c d f 0 = f * (d + 1) := by
  unfold begG; rw [Nat.add_zero, Nat.mod_eq_of_lt h]
theorem begG_first (c d j : Nat) (h : j < c) : begG c d 0 j = j * (d + 1) := by
  unfold begG; rw [Nat.zero_add, Nat.mod_eq_of_lt h]
/-- What the loop keeps. -/
def FullG (W : World) (b kb c d : Nat) (j : Nat) (wr : World) : Prop := ∃ g, LawG W wr b kb c d 0 j g ∧ (1 ≤ j → g 0 = 1 ∧ g 1 = 1)
theorem full_next {g : Nat → Int} {c d j : Nat} (hd : 1 ≤ d) (hj : j < c) (h : 1 ≤ j → g 0 = 1 ∧ g 1 = 1) : msgF g (begG c d 0 j) [(j : Int) + 1] 1 0 = 1 ∧ msgF g (begG c d 0 j) [(j : Int) + 1] 1 1 = 1 := by
  rw [begG_first c d j hj]
  cases j with
  | zero => simp [msgF]
  | succ j =>
    have := h (by omega)
    have h2 : 2 ≤ (j + 1) * (d + 1) := by have := Nat.mul_le_mul (show 1 ≤ j + 1 by omega) (show 2 ≤ d + 1 by omega); omega
    unfold msgF
    rw [if_neg (by omega), if_neg (by omega), if_neg (by omega), if_neg (by omega)]
    exact this
set_option maxHeartbeats 1000000 in
theorem ringFull_ok (c d : Nat) (x : Int) (hc : 1 ≤ c ∧ c ≤ 8) (hd : 1 ≤ d ∧ d ≤ 8) (hx : 0 ≤ x ∧ x < 4294967296) (W : World) : Calls Try.prog 7 #[.int .i64 (c : Int), .int .i64 (d : Int), .int .u32 x] W fun e w' => e = .returned (.bool true) ∧ Below W.heap.size W w' := by
  have hz := kepZero
  have hmf : ∀ (fn : Fn) (first cap : Array Value) (w : World), (Instr.makeFunc fn first cap).run Try.prog w = .ok (.func fn first cap) w := fun _ _ _ _ => rfl
  have NW := Lib.hid (LawG.new (Below.refl W.heap.size W) c d hc hd)
  have HC := Lib.hid hc
  have HD := Lib.hid hd
  have HX := Lib.hid hx
  have c8 := hc.2
  have d8 := hd.2
  obtain ⟨m, hm⟩ : ∃ m, c = m + 1 := ⟨c - 1, by omega⟩
  have HM := Lib.hid hm
  clear hc hd hx hm
  go_enter Try.func7, Try.ntmps7
  go_wp2_with fail
  refine NW.out.mono ?_
  rintro e w1 ⟨b, rfl, h0, -, -, hr, hb⟩
  have L1 := Lib.hid (LawG.start hr hb h0)
  obtain ⟨kb, hkb⟩ : ∃ kb, kb = w1.heap.size := ⟨_, rfl⟩
  rw [← hkb] at L1
  clear hr hb
  go_wp2_with fail
  rw [← hkb]
  clear hkb
  go_loopw [10] (fun i wr => ∃ j : Nat, i = .int .i64 (j : Int) ∧ j ≤ c ∧ FullG W b kb c d j wr) (fun i _ => (c - (intOf i).toNat))
  case atStart => exact ⟨0, rfl, Nat.zero_le _, _, L1.out, fun h => by omega⟩
  case round =>
    obtain ⟨j, rfl, hj, g, hl, hg⟩ := hrel
    have LL := Lib.hid hl
    have HG := Lib.hid hg
    clear hl hg
    by_cases hlt : j < c
    · have S1 := Lib.hid (LL.out.sendLit [(j : Int) + 1] 1 _ rfl rfl (by intro y hy; simp at hy; omega) ⟨Nat.le_refl _, HD.out.1⟩ hlt)
      have HG2 := Lib.hid (full_next (j := j) HD.out.1 hlt HG.out)
      have wj : IntKind.u32.wrap ((j : Int) + 1) = (j : Int) + 1 := IntWalk.u32_in _ (by omega)
      go_wp2_with (first
        | (go_at_call 11; refine S1.out.mono ?_; rintro e w2 ⟨rfl, hl, -⟩; have L2 := Lib.hid hl; clear hl)
        | (go_at_call 18; refine (len_okG L2.out.r).mono ?_; rintro e w3 ⟨rfl, rfl⟩))
      go_roundw
      case rel => exact ⟨j + 1, by go_num, by omega, _, L2.out, fun _ => HG2.out⟩
      case measure => simp [intOf]; omega
    · obtain rfl : c = j := by omega
      have KE : ∃ K, KepAt wr kb K := let ⟨K, h, _⟩ := LL.out.k; ⟨K, h⟩
      obtain ⟨K, hK⟩ := KE
      have KL := Lib.hid hK.len
      have b1 := below_step1 wr (.cells (kepV zero72 false) 37)
      have KB := Lib.hid hK.box
      have KA := Lib.hid (below_block b1 hK.box)
      have NA := Lib.hid (heap_alloc_new wr (.cells (kepV zero72 false) 37))
      obtain ⟨w2, hw2⟩ : ∃ w2, w2 = (wr.alloc (.cells (kepV zero72 false) 37)).setRow wr.heap.size (kepV K false) := ⟨_, rfl⟩
      have B2 : Below wr.heap.size wr w2 := by rw [hw2]; exact below_setRow b1 (Nat.le_refl _) _
      have L2 := Lib.hid (LL.out.step B2)
      have K2 := Lib.hid (below_block B2 hK.box)
      have N2 : Hid (w2.heap[wr.heap.size]? = some (.cells (kepV K false) 37 (0, 0))) := Lib.hid (by rw [hw2]; exact setRow_heap _ _ _ _ _ _ (heap_alloc_new wr _))
      have F2 := Lib.hid (fun a => send_fullG (L2.out.r.below (below_step1 w2 (.cells #[.int .u32 x] 34))) a 1 1 12 #[.pointer (some ⟨kb, 0, none⟩)] #[] ⟨Nat.le_refl _, HD.out.1⟩)
      have mk : Hid (∀ V : World, (Instr.makeSlice 38 (.int .i64 ((d : Int) + 1)) (.int .i64 ((d : Int) + 1))).run Try.prog V = .ok (.slice (some ⟨V.heap.size, 0, none⟩) (d + 1) (d + 1)) (V.alloc (.cells (wordsV (List.replicate (d + 1) 0)) 34))) := Lib.hid fun V => by
        have := make_wordsG (d + 1) (by omega) V
        rwa [show ((d + 1 : Nat) : Int) = (d : Int) + 1 by push_cast; rfl] at this
      have E2 := Lib.hid hw2
      clear hK b1 B2 hw2 hlt
      go_wp2_with (first | (refine wpR_load kepTy rfl (.tmp 9) rfl kb rfl (kepV K false) KB.out (kepV_size K false KL.out) ?_) | (refine wpR_store kepTy rfl (.tmp 11) (.tmp 46) rfl wr.heap.size (kepV K false) rfl rfl _ NA.out (kepV_size K false KL.out) (kepV_size zero72 false rfl) (kepV_one K false) ?_))
      rw [← E2.out]
      refine (F2.out _).mono ?_
      rintro e w3 ⟨rfl, hb⟩
      have b3 := (below_step1 w2 (.cells #[.int .u32 x] 34)).trans (hb.mono (by simp))
      have L3 := Lib.hid (L2.out.step b3)
      have K3 := Lib.hid (below_block b3 K2.out)
      have N3 := Lib.hid (below_block b3 N2.out)
      clear hb b3
      obtain ⟨rs, hrs⟩ : ∃ rs, rs = wr.heap.size := ⟨_, rfl⟩
      rw [← hrs] at N3 ⊢
      clear hrs E2 F2 L2 K2 N2 KA NA KB
      have F3 := Lib.hid (fun a => send_badG (L3.out.r.below (below_step1 w3 (.cells (wordsV (List.replicate (d + 1) 0)) 34))) a (d + 1) (d + 1) 12 #[.pointer (some ⟨kb, 0, none⟩)] #[] (Or.inr ⟨by omega, by omega⟩))
      have mk := mk.out w3
      go_wp2_with fail
      refine (F3.out _).mono ?_
      rintro e w4 ⟨rfl, hb⟩
      have b4 := (below_step1 w3 (.cells (wordsV (List.replicate (d + 1) 0)) 34)).trans (hb.mono (by simp))
      have L4 := Lib.hid (L3.out.step b4)
      have K4 := Lib.hid (below_block b4 K3.out)
      have N4 := Lib.hid (below_block b4 N3.out)
      have hG := HG.out (by have := HC.out; omega)
      have b0 : begG c d 0 0 = 0 := by rw [begG_zero c d 0 (by have := HC.out; omega), Nat.zero_mul]
      have RC := L4.out.r
      have R5 : Hid (Calls Try.prog 14 #[.pointer (some ⟨b, 0, none⟩), getG kb] w4 fun e w' => ∃ r, e = .returned (.tuple #[.slice (some ⟨r, 0, none⟩) 1 1, .int .i64 0]) ∧ w4.heap.size ≤ r ∧ MsgG w' r [1] ∧ LawG W w' b kb c d ((0 + 1) % c) m g ∧ Only w4 w' (fun j => j = b)) := Lib.hid (by
        have h : LawG W w4 b kb c d 0 (m + 1) g := by rw [← HM.out]; exact L4.out
        have := h.recv
        rw [b0, hG.1, show lenG d 1 = 1 from by have := HD.out; unfold lenG; rw [if_neg (by omega)]; rfl, show msgOf g 0 1 = [1] from by simp [msgOf, List.range, List.range.loop, hG.2]] at this
        exact this)
      clear hb b4 hG b0 RC mk L3 K3 N3 F3
      go_wp2_with (first
        | (refine wpR_loadG kepTy (by rfl) (.tmp 9) rfl kb rfl (kepV K false) K4.out (kepV_size K false KL.out) ?_)
        | (refine wpR_loadG kepTy (by rfl) (.tmp 11) rfl rs rfl (kepV K false) N4.out (kepV_size K false KL.out) ?_)
        | (refine wpK_neq (by rfl) (.tmp 65) (.tmp 66) _ rfl K false KL.out rfl rfl ?_))
      refine R5.out.mono ?_
      rintro e w5 ⟨r, rfl, -, hm, hl, -⟩
      have S6 : Hid (Calls Try.prog 11 #[.pointer (some ⟨b, 0, none⟩), .slice (some ⟨w5.heap.size, 0, none⟩) 1 1, putG kb] (w5.alloc (.cells #[.int .u32 x] 34)) fun e w' => e = .returned (.int .i64 0) ∧ RngAt w' b c d ((0 + 1) % c) c ∧ Below W.heap.size W w' ∧ MsgG w' r [1]) := Lib.hid ((hl.sendLit [x] 1 _ rfl rfl (by intro y hy; simp at hy; have := HX.out; omega) ⟨Nat.le_refl _, HD.out.1⟩ (by have := HM.out; omega)).mono fun e w' ⟨h1, h2, h3⟩ => ⟨h1, by have := h2.r; rwa [← HM.out] at this, h2.bel, hm.only h3 (fun h => by
          obtain ⟨cs, hc, _⟩ := hm
          rcases h with e | e
          · exact kind_ne hc hl.r.box (by simp only [kindOf]; decide) e
          · obtain ⟨K', hk, _⟩ := hl.k
            exact kind_ne hc hk.box (by simp only [kindOf]; decide) e)⟩)
      clear hm hl
      go_wp2_with fail
      refine S6.out.mono ?_
      rintro e w6 ⟨rfl, hr, hB, hm⟩
      have LN := Lib.hid (len_okG hr)
      have cm : w6.cell? ⟨r, 0, none⟩ = some (.int .u32 1) := hm.cell 0 (by decide)
      have B6 := Lib.hid hB
      clear hr hB hm
      go_wp2_with (first
        | (go_at_call 18; refine LN.out.mono ?_; rintro e w7 ⟨rfl, rfl⟩)
        | (go_at_call 8; refine (awake19 _).mono ?_; rintro e w8 ⟨rfl, hb⟩; have B8 := Lib.hid (B6.out.trans (hb.mono B6.out.size)); clear hb))
      go_ret
      exact ⟨rfl, B8.out⟩
theorem ringFull_walk (c d x : Int) (W : World) (_hc : -9223372036854775808 ≤ c ∧ c ≤ 9223372036854775807) (_hd : -9223372036854775808 ≤ d ∧ d ≤ 9223372036854775807) (hx : 0 ≤ x ∧ x ≤ 4294967295) : Calls Try.prog 7 #[.int .i64 c, .int .i64 d, .int .u32 x] W fun e w' => e = .returned (.bool true) ∧ Below W.heap.size W w' := by
  by_cases h : 1 ≤ c ∧ c ≤ 8 ∧ 1 ≤ d ∧ d ≤ 8
  · obtain ⟨c', rfl⟩ : ∃ c' : Nat, c = (c' : Int) := ⟨c.toNat, by omega⟩
    obtain ⟨d', rfl⟩ : ∃ d' : Nat, d = (d' : Int) := ⟨d.toNat, by omega⟩
    exact ringFull_ok c' d' x (by omega) (by omega) (by omega) W
  · exact ringFull_bad c d x h W
end Go.Proofs.Ytolefcbhiajbbaa
