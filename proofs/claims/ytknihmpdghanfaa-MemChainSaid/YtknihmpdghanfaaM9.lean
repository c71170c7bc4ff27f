/- The walk of MemNone. No condition. -/
import Derived.Test.YtknihmpdghanfaaM8
import Derived.LoopTactic
namespace Go.Proofs.Ytknihmpdghanfaa
open Go.RowKit

theorem frames_no (p : Option Addr) (w : World) (hp : NoMem w p) : Calls Try.prog 13 #[.pointer p] w fun e w' => e = .returned (.int .i64 0) ∧ w = w' := by
  rcases hp with rfl | ⟨mp, rfl, hz⟩
  · exact frames_nil w
  · exact frames_some mp none 0 0 w hz

/-- What holds at the head of a round. -/
structure NoneSt (W : World) (p : Option Addr) (wr : World) : Prop where
  no : NoMem wr p
  c : wr.cell? ⟨W.heap.size, 0, none⟩ = some (.slice none 0 0)
  b : Below W.heap.size W wr
  z : W.heap.size < wr.heap.size
theorem NoneSt.step {W wr w' : World} {p : Option Addr} (h : NoneSt W p wr) (k : Below wr.heap.size wr w') : NoneSt W p w' :=
  ⟨h.no.below k, (k.cell (p := ⟨W.heap.size, 0, none⟩) h.z).trans h.c, h.b.trans (k.mono h.b.size), Nat.lt_of_lt_of_le h.z k.size⟩
theorem NoneSt.own {W wr : World} {p : Option Addr} (h : NoneSt W p wr) : NoneSt W (some ⟨W.heap.size, 0, none⟩) wr := ⟨Or.inr ⟨_, rfl, h.c⟩, h.c, h.b, h.z⟩
def NoneRel (W : World) (m i : Value) (wr : World) : Prop := ∃ (p : Option Addr) (k : Nat), m = .pointer p ∧ k ≤ 2 ∧ i = .int .i64 k ∧ NoneSt W p wr

set_option maxRecDepth 100000 in
set_option maxHeartbeats 4000000 in
theorem memNone_walk (a b v : Int) (W : World) (_ha : -9223372036854775808 ≤ a ∧ a ≤ 9223372036854775807) (_hb : -9223372036854775808 ≤ b ∧ b ≤ 9223372036854775807) (_hv : 0 ≤ v ∧ v ≤ 4294967295) :
    Calls Try.prog 4 #[.int .i64 a, .int .i64 b, .int .u32 v] W fun e w' => e = .returned (.bool true) ∧ Below W.heap.size W w' := by
  clear _ha _hb _hv
  go_enter Try.func4, Try.ntmps4
  go_wp2
  go_loopw [7, 9] (fun m i wr => NoneRel W m i wr) (fun _ i _ => (2 - intOf i).toNat)
  case atStart => exact ⟨none, 0, rfl, by omega, rfl, Or.inl rfl, by rw [World.cell?_alloc_at _ _ _ _ rfl]; rfl, (Below.refl _ _).alloc (Nat.le_refl _) _, by simp⟩
  case round =>
    obtain ⟨p, k, rfl, hk, rfl, hp⟩ := hrel
    by_cases hlt : k < 2
    · by_cases h1 : k = 1
      · subst h1
        have P0 := Lib.hid hp.own
        clear hlt hp hk
        go_wp2_with fail
        refine (read_no _ a b wr P0.out.no).mono ?_
        rintro e w1 ⟨rfl, hb⟩
        have P1 := Lib.hid (P0.out.step hb)
        clear hb P0
        go_wp2_with fail
        refine (page_no _ a w1 P1.out.no).mono ?_
        rintro e w2 ⟨rfl, hb⟩
        have P2 := Lib.hid (P1.out.step hb)
        clear hb P1
        go_wp2_with fail
        refine (write_no _ a b v w2 P2.out.no).mono ?_
        rintro e w3 ⟨rfl, hb⟩
        have P3 := Lib.hid (P2.out.step hb)
        clear hb P2
        go_wp2_with fail
        refine (zero_no _ a w3 P3.out.no).mono ?_
        rintro e w4 ⟨rfl, hb⟩
        have P4 := Lib.hid (P3.out.step hb)
        clear hb P3
        go_wp2_with fail
        refine (copy_no _ a b w4 P4.out.no).mono ?_
        rintro e w5 ⟨rfl, hb⟩
        have P5 := Lib.hid (P4.out.step hb)
        clear hb P4
        go_wp2_with fail
        refine (frames_no _ w5 P5.out.no).mono ?_
        rintro e w6 ⟨rfl, rfl⟩
        go_wp2
        go_roundw
        case rel => exact ⟨_, 2, rfl, by omega, rfl, P5.out⟩
        case measure => simp [intOf]
      · obtain rfl : k = 0 := by omega
        have P0 := Lib.hid hp
        clear hlt hp hk h1
        go_wp2_with fail
        refine (read_no _ a b wr P0.out.no).mono ?_
        rintro e w1 ⟨rfl, hb⟩
        have P1 := Lib.hid (P0.out.step hb)
        clear hb P0
        go_wp2_with fail
        refine (page_no _ a w1 P1.out.no).mono ?_
        rintro e w2 ⟨rfl, hb⟩
        have P2 := Lib.hid (P1.out.step hb)
        clear hb P1
        go_wp2_with fail
        refine (write_no _ a b v w2 P2.out.no).mono ?_
        rintro e w3 ⟨rfl, hb⟩
        have P3 := Lib.hid (P2.out.step hb)
        clear hb P2
        go_wp2_with fail
        refine (zero_no _ a w3 P3.out.no).mono ?_
        rintro e w4 ⟨rfl, hb⟩
        have P4 := Lib.hid (P3.out.step hb)
        clear hb P3
        go_wp2_with fail
        refine (copy_no _ a b w4 P4.out.no).mono ?_
        rintro e w5 ⟨rfl, hb⟩
        have P5 := Lib.hid (P4.out.step hb)
        clear hb P4
        go_wp2_with fail
        refine (frames_no _ w5 P5.out.no).mono ?_
        rintro e w6 ⟨rfl, rfl⟩
        go_wp2
        go_roundw
        case rel => exact ⟨_, 1, rfl, by omega, rfl, P5.out⟩
        case measure => simp [intOf]
    · obtain rfl : k = 2 := by omega
      have P0 := Lib.hid hp
      clear hlt hp hk
      go_wp2_with fail
      refine (awake_any wr).mono ?_
      rintro e w1 ⟨rfl, hb⟩
      have P1 := Lib.hid (P0.out.step hb)
      clear hb
      go_wp2
      go_ret
      exact ⟨rfl, P1.out.b⟩
end Go.Proofs.Ytknihmpdghanfaa
