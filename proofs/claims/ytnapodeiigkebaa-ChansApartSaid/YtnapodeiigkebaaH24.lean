/- Where the walk of ChansApart begins, and where it ends at once. Conditions: named in the theorems. -/
import Derived.Test.YtnapodeiigkebaaH23
namespace Go.Proofs.Ytnapodeiigkebaa
open Go.RowKit
set_option maxRecDepth 100000

theorem apart_out {v1 v2 v3 : Value} {la : Option Addr} {nl lc : Nat} {C : Cf} {W : World} (CF : CfAt W v1 v2 v3 C) (hl : ¬ longC C) (only : Int) (ho : chk C ≠ 0 ∨ (chk C = 0 ∧ 60 < nl)) :
    Calls Try.prog 4 #[.agg #[v1, v2, v3], .slice la nl lc, .int .i64 only] W fun e w' => e = .returned (.bool true) ∧ Below W.heap.size W w' := by
  have V1 := Lib.hid (CvH.new CF)
  have LA := Lib.hid fun V (h : CvH W V v1 v2 v3 C) => long20_no _ _ _ C V h.conf hl
  have KA := Lib.hid fun V (h : CvH W V v1 v2 v3 C) => rcheck_ok _ _ _ C V h.conf
  obtain ⟨k, hk⟩ : ∃ k, k = chk C := ⟨_, rfl⟩
  rw [← hk] at ho KA
  clear hl CF hk
  rcases ho with h0 | ⟨rfl, h0⟩
  · have g0 : (k == 0) = false := by simpa using h0
    go_enter Try.func4, Try.ntmps4
    go_wp2_with (first
      | (go_at_call 8; refine (LA.out _ V1.out).mono ?_; rintro e w2 ⟨rfl, hb⟩; have V2 := Lib.hid (V1.out.step hb); have x0 := V2.out.box.c0; have x1 := V2.out.box.c1; have x2 := V2.out.box.c2; clear hb)
      | (go_at_call 12; refine (KA.out _ V2.out).mono ?_; rintro e w3 ⟨rfl, hb⟩; have V3 := Lib.hid (V2.out.step hb); clear hb)
      | (go_at_call 9; refine (awake20 _).mono ?_; rintro e w4 ⟨rfl, hb⟩; have V4 := Lib.hid (V3.out.step hb); clear hb))
    go_ret
    exact ⟨rfl, V4.out.below⟩
  · have g0 : decide (60 < nl) = true := decide_eq_true h0
    go_enter Try.func4, Try.ntmps4
    go_wp2_with (first
      | (go_at_call 8; refine (LA.out _ V1.out).mono ?_; rintro e w2 ⟨rfl, hb⟩; have V2 := Lib.hid (V1.out.step hb); have x0 := V2.out.box.c0; have x1 := V2.out.box.c1; have x2 := V2.out.box.c2; clear hb)
      | (go_at_call 12; refine (KA.out _ V2.out).mono ?_; rintro e w3 ⟨rfl, hb⟩; have V3 := Lib.hid (V2.out.step hb); clear hb)
      | (go_at_call 9; refine (awake20 _).mono ?_; rintro e w4 ⟨rfl, hb⟩; have V4 := Lib.hid (V3.out.step hb); clear hb))
    go_ret
    exact ⟨rfl, V4.out.below⟩
theorem ApSt.start {W w6 w7 w8 : World} {v1 v2 v3 : Value} {C : Cf} {X Y : ChX} {L0 : List Int} {mp fb mp2 fb2 k : Nat} (M1 : OwnMem W w6 mp fb 1024 L0) (M2 : OwnMem W w6 mp2 fb2 1024 L0) (hk : (mp < k ∧ fb < k) ∧ k ≤ mp2 ∧ k ≤ fb2) (nx : NewH w6 mp fb 1024 L0 C X w7) (ny : NewH w7 mp2 fb2 1024 L0 C Y w8) (box : CBox w8 W.heap.size v1 v2 v3) (cf : CfAt W v1 v2 v3 C) : ApSt W w8 v1 v2 v3 C X Y L0 Q0 Q0 := by
  have ox := OwnH.made M1 nx
  have by8 := ny.2.2.2.2.2.2.2.2.2
  have bx7 := nx.2.2.2.2.2.2.2.2.2
  have oy := OwnH.made (M2.step bx7) ny
  have m2 : mp2 < w6.heap.size := lt_of_block M2.st.box
  have f2 : fb2 < w6.heap.size := lt_of_block M2.st.row
  have m1 : mp < w6.heap.size := lt_of_block M1.st.box
  have f1 : fb < w6.heap.size := lt_of_block M1.st.row
  have s67 := bx7.size
  refine ⟨⟨_, ox.step by8⟩, ⟨_, _, oy⟩, box, cf, fun j hx hy => ?_⟩
  have xlo : ∀ i, i < X.H.length → w6.heap.size ≤ X.rb i := nx.2.2.2.2.2.2.2.2.1
  have ylo : ∀ i, i < Y.H.length → w7.heap.size ≤ Y.rb i := ny.2.2.2.2.2.2.2.2.1
  have xhi : ∀ i, i < X.H.length → X.rb i < w7.heap.size := fun i hi => (nx.1.ring i hi).lt
  have e1 := nx.2.2.2.1
  have e2 := nx.2.2.2.2.1
  have e3 := ny.2.2.2.1
  have e4 := ny.2.2.2.2.1
  rcases hx with (rfl | rfl) | ⟨i, hi, rfl⟩ <;> rcases hy with (h | h) | ⟨i', hi', h⟩
  · omega
  · omega
  · have := ylo i' hi'; omega
  · omega
  · omega
  · have := ylo i' hi'; omega
  · have := xlo i hi; omega
  · have := xlo i hi; omega
  · have := xhi i hi; have := ylo i' hi'; omega
/-- The words, so many frames written. -/
def NineTo (L : List Int) (i : Nat) : Prop := ∀ q, q < 32768 → L.getD q 0 = if q / 32 < i then nineH q else 0
theorem NineTo.zero : NineTo (List.replicate (1024 * 32) 0) 0 := fun q _ => by rw [replicate_get, if_neg (by omega)]
theorem NineTo.next {L : List Int} {i : Nat} (h : NineTo L i) (hl : L.length = 1024 * 32) (hi : i < 1024) : NineTo (L.set (i * 32 + 7) 99) (i + 1) := fun q hq => by
  rw [getD_set _ _ _ _ (by omega)]
  by_cases e : i * 32 + 7 = q
  · rw [if_pos e, if_pos (by omega)]
    unfold nineH
    rw [if_pos (by omega)]
  · rw [if_neg e, h q hq]
    by_cases h1 : q / 32 < i
    · rw [if_pos h1, if_pos (by omega)]
    · rw [if_neg h1]
      by_cases h2 : q / 32 < i + 1
      · rw [if_pos h2]
        unfold nineH
        rw [if_neg (by omega)]
      · rw [if_neg h2]
theorem nine_wd {L : List Int} (h : ∀ k, 0 ≤ L.getD k 0 ∧ L.getD k 0 < 4294967296) (j : Nat) (hj : j < L.length) : ∀ k, 0 ≤ (L.set j 99).getD k 0 ∧ (L.set j 99).getD k 0 < 4294967296 := fun k => by
  rw [getD_set _ _ _ _ hj]
  split
  · omega
  · exact h k
/-- A word is written, while there are no messages. -/
theorem ApSt.write {W w : World} {v1 v2 v3 : Value} {C : Cf} {X Y : ChX} {L : List Int} (h : ApSt W w v1 v2 v3 C X Y L Q0 Q0) (hn : X.n = 1024) (i : Nat) (hi : i < 1024) (hN : NineTo L i) :
    Calls Try.prog 21 #[.pointer (some ⟨X.mp, 0, none⟩), .int .i64 (i : Int), .int .i64 7, .int .u32 99] w fun e w' => e = .returned (.int .i64 0) ∧ ∃ L', ApSt W w' v1 v2 v3 C X Y L' Q0 Q0 ∧ NineTo L' (i + 1) := by
  obtain ⟨ff, o⟩ := h.x
  have hm := o.st.mem
  have hlen := hm.len
  rw [hn] at hlen
  have := write_i X.mp X.fb X.n L (i : Int) 7 99 w hm (by unfold okFQ; omega)
  rw [show idx (i : Int) 7 = i * 32 + 7 by unfold idx; omega] at this
  refine this.mono fun e w' ⟨he, hp⟩ => ⟨he, _, ?_, hN.next hlen hi⟩
  obtain ⟨a1, a2⟩ := o.st.written hp (nine_wd o.st.wd _ (by omega))
  exact h.turnX (o.turn a1 a2) a2
end Go.Proofs.Ytnapodeiigkebaa
