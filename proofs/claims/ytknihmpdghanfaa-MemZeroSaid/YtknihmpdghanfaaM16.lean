/- The walk of MemZero. Conditions: the script lies as its slice says. -/
import Derived.Test.YtknihmpdghanfaaM15
namespace Go.Proofs.Ytknihmpdghanfaa
open Go.RowKit

/-- A slice of these words, beside block fb. -/
def RowX (w : World) (fb : Nat) (v : Value) (L : List Int) : Prop := ∃ a c, v = .slice a L.length c ∧ (L = [] ∨ ∃ b o, a = some ⟨b, o, none⟩ ∧ b < w.heap.size ∧ b ≠ fb ∧ ∀ i, i < L.length → w.cell? ⟨b, o + i, none⟩ = some (.int .u32 (L.getD i 0)))
theorem RowX.rowAt {w : World} {fb : Nat} {v : Value} {L : List Int} (h : RowX w fb v L) : RowAt w v L := by
  obtain ⟨a, c, rfl, h | ⟨b, o, rfl, hlt, _, hc⟩⟩ := h
  · exact ⟨a, c, rfl, Or.inl h⟩
  · exact ⟨_, c, rfl, Or.inr ⟨b, o, rfl, hlt, hc⟩⟩
theorem RowX.grown {w w' : World} {fb : Nat} {v : Value} {L : List Int} (h : RowX w fb v L) (hg : w.grownBy w' (some fb)) : RowX w' fb v L := by
  obtain ⟨a, c, rfl, h | ⟨b, o, rfl, hlt, hne, hc⟩⟩ := h
  · exact ⟨a, c, rfl, Or.inl h⟩
  · have e : ∀ j, w'.cell? ⟨b, j, none⟩ = w.cell? ⟨b, j, none⟩ := fun j => World.cell?_of_block (hg.block b hlt (fun e => hne (Option.some.inj e)))
    exact ⟨_, c, rfl, Or.inr ⟨b, o, rfl, Nat.lt_of_lt_of_le hlt hg.size, hne, fun i hi => by rw [e]; exact hc i hi⟩⟩
theorem RowX.below {w w' : World} {fb : Nat} {v : Value} {L : List Int} (h : RowX w fb v L) (hb : Below w.heap.size w w') : RowX w' fb v L := h.grown (grownBy_of_below hb _)
theorem NewRow.rowX {B : Nat} {w : World} {v : Value} {R : List Int} {fb : Nat} (h : NewRow B w v R) (hf : fb < B) : RowX w fb v R := by
  obtain ⟨b, t, rfl, hb, hr⟩ := h
  exact ⟨_, _, rfl, Or.inr ⟨b, 0, rfl, lt_of_block hr, by omega, fun i hi => by rw [cell_of_row w b _ _ _ _ hr, Nat.zero_add]; exact wordsV_get R i hi⟩⟩
theorem made_rowAt (w : World) : RowAt (w.alloc (.cells (wordsV (List.replicate 32 0)) 36)) (.slice (some ⟨w.heap.size, 0, none⟩) 32 32) zeros :=
  ⟨_, _, rfl, Or.inr ⟨w.heap.size, 0, rfl, by simp, fun i hi => by rw [cell_of_row _ _ _ _ _ _ (heap_alloc_new w _), Nat.zero_add]; exact wordsV_get zeros i hi⟩⟩

theorem make_32 (w : World) : (Instr.makeSlice 28 (.int .i64 32) (.int .i64 32)).run Try.prog w = .ok (.slice (some ⟨w.heap.size, 0, none⟩) 32 32) (w.alloc (.cells (wordsV (List.replicate 32 0)) 36)) := make_words 32 (by decide) w
theorem row_zeros {L : List Int} {n f : Nat} (hl : L.length = n * 32) (hf : f < n) (h : ∀ q, q < 32 → L.getD (f * 32 + q) 0 = 0) : rowOf L f = zeros :=
  ext_getD (by rw [rowOf_length hl hf]; rfl) fun j hj => by
    rw [rowOf_length hl hf] at hj
    rw [getD_rowOf _ _ _ hj, h j hj, zeros_get]
theorem put_same {L : List Int} {n f : Nat} (hl : L.length = n * 32) (hf : f < n) : putRow L f (rowOf L f) = L :=
  (putRow_ext hl hl hf (rowOf_length hl hf) fun j _ => by
    by_cases h : f * 32 ≤ j ∧ j < f * 32 + 32
    · rw [if_pos h, getD_rowOf _ _ _ (by omega), show f * 32 + (j - f * 32) = j by omega]
    · rw [if_neg h]).symm

/-- A write to another frame. -/
theorem write_other (mp fb n own : Nat) (L : List Int) (f q v : Int) (hne : f ≠ own) (hl : L.length = n * 32) : ∃ (k : Int) (L' : List Int), (∀ w, MemSt w mp fb n L → Calls Try.prog 16 #[.pointer (some ⟨mp, 0, none⟩), .int .i64 f, .int .i64 q, .int .u32 v] w fun e w' => e = .returned (.int .i64 k) ∧ Puts w w' mp fb n L') ∧
    ∀ j, j < 32 → L'.getD (own * 32 + j) 0 = L.getD (own * 32 + j) 0 := by
  by_cases h : okFQ n f q
  · refine ⟨0, _, fun w hw => write_i mp fb n L f q v w hw h, fun j hj => ?_⟩
    rw [getD_set _ _ _ _ (by rw [hl]; exact idx_lt h), if_neg (by unfold okFQ at h; unfold idx; omega)]
  · exact ⟨2, L, fun w hw => (write_bad mp fb n L f q v w hw h).mono fun e w' ⟨he, hb⟩ => ⟨he, Puts.stay hw hb⟩, fun _ _ => rfl⟩

set_option maxRecDepth 100000 in
set_option maxHeartbeats 2000000 in
theorem zero_out (n : Int) (a : Option Addr) (m c : Nat) (own : Int) (W : World) (h : n < 1 ∨ (¬ n < 1 ∧ 20 < n) ∨ (¬ n < 1 ∧ ¬ 20 < n ∧ 100 < m) ∨ (¬ n < 1 ∧ ¬ 20 < n ∧ ¬ 100 < m ∧ own < 0) ∨ (¬ n < 1 ∧ ¬ 20 < n ∧ ¬ 100 < m ∧ ¬ own < 0 ∧ n ≤ own)) :
    Calls Try.prog 6 #[.int .i64 n, .slice a m c, .int .i64 own] W fun e w' => e = .returned (.bool true) ∧ Below W.heap.size W w' := by
  rcases h with h1 | ⟨h1, h2⟩ | ⟨h1, h2, h3⟩ | ⟨h1, h2, h3, h4⟩ | ⟨h1, h2, h3, h4, h5⟩
  all_goals
    try have d3 : decide ((100 : Int) < (m : Int)) = false := decide_eq_false (by omega)
    go_enter Try.func6, Try.ntmps6
    go_wp2_with (go_at_call 9; refine (awake_any _).mono ?_; rintro e w2 ⟨rfl, hb⟩; have B := Lib.hid hb; clear hb)
    go_ret
    exact ⟨rfl, Hid.out (by assumption)⟩

def ZeroRel (W : World) (mp fb n m own : Nat) (i : Value) (wr : World) : Prop := ∃ (k : Nat) (L : List Int), i = .int .i64 k ∧ k ≤ m ∧ OwnMem W wr mp fb n L ∧ ∀ q, q < 32 → L.getD (own * 32 + q) 0 = 0
def ZeroRel2 (W : World) (mp fb n : Nat) (L : List Int) (v : Value) (i : Value) (wr : World) : Prop := ∃ k : Nat, i = .int .i64 k ∧ k ≤ n ∧ OwnMem W wr mp fb n L ∧ RowX wr fb v zeros
set_option maxRecDepth 100000 in
set_option maxHeartbeats 8000000 in
theorem zero_in (n own : Nat) (a : Option Addr) (c : Nat) (S : List OpD) (W : World) (hm : S.length ≤ 100) (h1 : 1 ≤ n) (h2 : n ≤ 20) (h3 : own < n) (hS : S = [] ∨ ∃ b o, a = some ⟨b, o, none⟩ ∧ b < W.heap.size ∧ ∀ i, i < S.length →
    W.cell? ⟨b, o + i * 4, none⟩ = some (.int .i64 (S.getD i default).1) ∧ W.cell? ⟨b, o + i * 4 + 1, none⟩ = some (.int .i64 (S.getD i default).2.1) ∧ W.cell? ⟨b, o + i * 4 + 2, none⟩ = some (.int .i64 (S.getD i default).2.2.1) ∧ W.cell? ⟨b, o + i * 4 + 3, none⟩ = some (.int .u32 (S.getD i default).2.2.2)) :
    Calls Try.prog 6 #[.int .i64 n, .slice a S.length c, .int .i64 own] W fun e w' => e = .returned (.bool true) ∧ Below W.heap.size W w' := by
  have HS := Lib.hid hS
  obtain ⟨m, hmS⟩ : ∃ m, m = S.length := ⟨_, rfl⟩
  rw [← hmS] at hm ⊢
  have HmS := Lib.hid hmS
  clear hS hmS
  have d3 : decide ((100 : Int) < (m : Int)) = false := decide_eq_false (by omega)
  have d4 : decide (100 < m) = false := decide_eq_false (by omega)
  have d5 : decide ((n : Int) ≤ own) = false := decide_eq_false (by omega)
  have d6 : decide (n ≤ own) = false := decide_eq_false (by omega)
  have hmk := make_32
  go_enter Try.func6, Try.ntmps6
  go_wp2_with fail
  refine (new_ok n W h1 (by omega)).mono ?_
  rintro e w1 hp
  obtain ⟨mp, fb, rfl, ho⟩ := OwnMem.new hp
  have O1 := Lib.hid ho
  clear hp ho
  go_wp2_with fail
  go_loopw [9] (fun i wr => ZeroRel W mp fb n m own i wr) (fun i _ => (m - (intOf i).toNat))
  case atStart => exact ⟨0, _, rfl, Nat.zero_le _, O1.out, fun q _ => replicate_get _ _⟩
  case round =>
    obtain ⟨k, L, rfl, hk, ho, hz⟩ := hrel
    have O2 := Lib.hid ho
    have HZ := Lib.hid hz
    clear ho hz
    by_cases hlt : k < m
    · obtain ⟨b, o, rfl, hbW, hc⟩ := HS.out.resolve_left (by intro e; have := HmS.out; rw [e] at this; simp at this; omega)
      obtain ⟨c0, c1, c2, c3⟩ := hc k (by have := HmS.out; omega)
      have e : ∀ j, wr.cell? ⟨b, j, none⟩ = W.cell? ⟨b, j, none⟩ := fun j => O2.out.below.cell (p := ⟨b, j, none⟩) hbW
      rw [← e] at c1 c2 c3
      clear c0 e hc
      generalize S.getD k default = op at *
      obtain ⟨d, x, y, z⟩ := op
      simp only at c1 c2 c3
      have hlt' : (k : Int) < m := by omega
      by_cases hx : x = own
      · subst hx
        go_wp2
        go_roundw
        case rel => exact ⟨k + 1, L, by go_num, by omega, O2.out, HZ.out⟩
        case measure => simp [intOf]; omega
      · obtain ⟨r, L', hw, hL'⟩ := write_other mp fb n own L x y z hx O2.out.st.len
        have HW := Lib.hid hw
        have HL := Lib.hid hL'
        have hne : (x != (own : Int)) = true := by simpa using hx
        clear hw hL' hx
        go_wp2
        go_still_tail 16, (by kernel_rfl)
        go_wp2_with fail
        refine (HW.out _ (by exact (O2.out.step (Below.refl _ _).drew).st)).mono ?_
        rintro e w3 ⟨rfl, hp⟩
        have O3 := Lib.hid ((O2.out.step (Below.refl _ _).drew).put hp)
        clear hp c1 c2 c3
        go_wp2
        go_roundw
        case rel => exact ⟨k + 1, L', by go_num, by omega, O3.out, fun q hq => (HL.out q hq).trans (HZ.out q hq)⟩
        case measure => simp [intOf]; omega
    · obtain rfl : k = m := by omega
      clear hlt
      have G0 : Hid (okFQ n own 0) := Lib.hid (by unfold okFQ; omega)
      have hz := row_zeros O2.out.st.len h3 HZ.out
      go_wp2_with fail
      have C := page_ok mp fb n own L wr O2.out.st h3
      rw [hz] at C
      refine C.mono ?_
      clear C hz
      rintro e w3 ⟨v, rfl, hr, hb⟩
      have O3 := Lib.hid (O2.out.step hb)
      have X3 := Lib.hid (hr.rowX (lt_of_block O2.out.st.row))
      clear hr hb
      go_wp2_with fail
      obtain ⟨wo, rfl⟩ : ∃ wo : World, wo = wr := ⟨_, rfl⟩
      go_loopw [12] (fun i wr => ZeroRel2 W mp fb n L v i wr) (fun i _ => (n - (intOf i).toNat))
      case atStart => exact ⟨0, rfl, Nat.zero_le _, O3.out, X3.out⟩
      case round =>
        obtain ⟨j, rfl, hj, ho, hx⟩ := hrel
        have O4 := Lib.hid ho
        have X4 := Lib.hid hx
        clear ho hx
        by_cases hlt : j < n
        · go_wp2_with fail
          refine (page_ok mp fb n j L wr O4.out.st hlt).mono ?_
          rintro e w4 ⟨v4, rfl, hr, hb⟩
          have O5 := Lib.hid (O4.out.step hb)
          have X5 := Lib.hid (X4.out.below hb)
          have Y5 := Lib.hid (hr.rowX (lt_of_block O4.out.st.row))
          clear hr hb
          go_wp2_with fail
          have C := copy_ok mp fb n j j L w4 O5.out.st hlt hlt
          rw [put_same O5.out.st.len hlt] at C
          refine C.mono ?_
          clear C
          rintro e w5 ⟨rfl, hp⟩
          have O6 := Lib.hid (O5.out.put hp)
          have X6 := Lib.hid (X5.out.grown hp.grown)
          have Y6 := Lib.hid (Y5.out.grown hp.grown)
          clear hp
          go_wp2_with fail
          refine (page_ok mp fb n j L w5 O6.out.st hlt).mono ?_
          rintro e w6 ⟨v6, rfl, hr, hb⟩
          have O7 := Lib.hid (O6.out.step hb)
          have X7 := Lib.hid (X6.out.below hb)
          have Y7 := Lib.hid (Y6.out.below hb)
          have Z7 := Lib.hid hr.rowAt
          have hlen := Lib.hid (rowOf_length O6.out.st.len hlt)
          clear hr hb
          go_wp2_with fail
          refine (same_yes v4 v6 (rowOf L j) w6 (by rw [hlen.out]; decide) Y7.out.rowAt Z7.out).mono ?_
          rintro e w7 ⟨rfl, hb⟩
          have O8 := Lib.hid (O7.out.step hb)
          have X8 := Lib.hid (X7.out.below hb)
          clear hb
          go_wp2
          go_roundw
          case rel => exact ⟨j + 1, by go_num, by omega, O8.out, X8.out⟩
          case measure => simp [intOf]; omega
        · go_wp2_with fail
          refine (same_yes v _ zeros _ (by decide) (X4.out.rowAt.below ((Below.refl _ _).alloc (Nat.le_refl _) _)) (made_rowAt wr)).mono ?_
          rintro e w4 ⟨rfl, hb⟩
          have O5 := Lib.hid ((O4.out.step ((Below.refl _ _).alloc (Nat.le_refl _) (.cells (wordsV (List.replicate 32 0)) 36))).step hb)
          clear hb
          go_wp2_with fail
          refine (awake_any w4).mono ?_
          rintro e w5 ⟨rfl, hb⟩
          have O6 := Lib.hid (O5.out.step hb)
          clear hb
          go_wp2
          go_ret
          exact ⟨rfl, O6.out.below⟩
theorem memZero_walk (n : Int) (v : Value) (S : List OpD) (own : Int) (W : World) (_hn : -9223372036854775808 ≤ n ∧ n ≤ 9223372036854775807) (hS : OpsAt W v S) (_ho : -9223372036854775808 ≤ own ∧ own ≤ 9223372036854775807) :
    Calls Try.prog 6 #[.int .i64 n, v, .int .i64 own] W fun e w' => e = .returned (.bool true) ∧ Below W.heap.size W w' := by
  obtain ⟨a, c, rfl, hS⟩ := hS
  by_cases h : 1 ≤ n ∧ n ≤ 20 ∧ S.length ≤ 100 ∧ 0 ≤ own ∧ own < n
  · obtain ⟨k, rfl⟩ := Int.eq_ofNat_of_zero_le (show 0 ≤ n by omega)
    obtain ⟨o, rfl⟩ := Int.eq_ofNat_of_zero_le h.2.2.2.1
    exact zero_in k o a c S W (by omega) (by omega) (by omega) (by omega) hS
  · exact zero_out n a S.length c own W (by omega)
end Go.Proofs.Ytknihmpdghanfaa
