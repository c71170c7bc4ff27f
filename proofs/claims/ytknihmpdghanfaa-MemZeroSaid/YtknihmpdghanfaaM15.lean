/- The contract of the document's own New, layer 2, and the walk of MemPlays. Conditions: the script lies as its slice says. -/
import Derived.Test.YtknihmpdghanfaaM14
namespace Go.Proofs.Ytknihmpdghanfaa
open Go.RowKit

theorem made_words (n : Nat) : madeCells #[.int .u32 0] n = wordsV (List.replicate n 0) := by
  apply Array.ext
  · rw [size_madeCells, wordsV_size, List.length_replicate]
  · intro i h1 h2
    have h3 : i % 1 = 0 := Nat.mod_one i
    simp [madeCells, wordsV, h3]
theorem make_words (n : Nat) (hn : n ≤ 1000000) (w : World) : (Instr.makeSlice 28 (.int .i64 (n : Int)) (.int .i64 (n : Int))).run Try.prog w = .ok (.slice (some ⟨w.heap.size, 0, none⟩) n n) (w.alloc (.cells (wordsV (List.replicate n 0)) 36)) := by
  obtain ⟨i, hi, h1, h2, h3⟩ := info_parts wordInfo
  have := run_make (P := Try.prog) w 28 36 i _ Try.underlying28 hi h1 .i64 .i64 n n (by omega) (by omega) (by rw [h3]; omega) (by omega)
  rw [h2] at this
  simpa [Value.cells, made_words] using this

set_option maxHeartbeats 400000 in
theorem rnew_bad (n : Int) (w : World) (hn : n < 1 ∨ 1024 < n) : Calls Try.prog 11 #[.int .i64 n] w fun e w' => e = .returned (.tuple #[.agg #[.slice none 0 0], .int .i64 2]) ∧ Below w.heap.size w w' := by
  rcases hn with hn | hn
  all_goals
    go_enter Try.func11, Try.ntmps11
    go_wp2
    exact bodyPost_ret (v := .tuple #[.agg #[.slice none 0 0], .int .i64 2]) (by simp [results, Try.results11, go_sem]) rfl ⟨rfl, (Below.refl _ _).alloc (Nat.le_refl _) _⟩
def RNewPost (n : Nat) (w : World) (e : Ending) (w' : World) : Prop := ∃ rb, e = .returned (.tuple #[.agg #[.slice (some ⟨rb, 0, none⟩) (n * 32) (n * 32)], .int .i64 0]) ∧ w'.heap[rb]? = some (.cells (wordsV (List.replicate (n * 32) 0)) 36 (0, 0)) ∧ w.heap.size ≤ rb ∧ Below w.heap.size w w'
set_option maxHeartbeats 400000 in
theorem rnew_ok (n : Nat) (w : World) (h0 : 1 ≤ n) (h1 : n ≤ 1024) : Calls Try.prog 11 #[.int .i64 n] w (RNewPost n w) := by
  have hmk := make_words (n * 32) (by omega)
  rw [show ((n * 32 : Nat) : Int) = (n : Int) * 32 by omega] at hmk
  have a1 : ¬ (n : Int) < 1 := by omega
  have a2 : ¬ (1024 : Int) < n := by omega
  go_enter Try.func11, Try.ntmps11
  go_wp2
  refine bodyPost_ret (v := .tuple #[.agg #[.slice (some ⟨w.heap.size + 1, 0, none⟩) (n * 32) (n * 32)], .int .i64 0]) (by simp [results, Try.results11, go_sem]) rfl ?_
  exact ⟨w.heap.size + 1, rfl, heap_alloc2_new _ _ _, by omega, below_two _ _ _⟩

/-- A slice of calls: each one's four cells. -/
abbrev OpD := Int × Int × Int × Int
def OpsAt (w : World) (v : Value) (S : List OpD) : Prop := ∃ a c, v = .slice a S.length c ∧ (S = [] ∨ ∃ b o, a = some ⟨b, o, none⟩ ∧ b < w.heap.size ∧ ∀ i, i < S.length →
  w.cell? ⟨b, o + i * 4, none⟩ = some (.int .i64 (S.getD i default).1) ∧ w.cell? ⟨b, o + i * 4 + 1, none⟩ = some (.int .i64 (S.getD i default).2.1) ∧ w.cell? ⟨b, o + i * 4 + 2, none⟩ = some (.int .i64 (S.getD i default).2.2.1) ∧ w.cell? ⟨b, o + i * 4 + 3, none⟩ = some (.int .u32 (S.getD i default).2.2.2))
theorem OpsAt.below {w w' : World} {v : Value} {S : List OpD} (h : OpsAt w v S) (hb : Below w.heap.size w w') : OpsAt w' v S := by
  obtain ⟨a, c, rfl, h | ⟨b, o, rfl, hlt, hc⟩⟩ := h
  · exact ⟨a, c, rfl, Or.inl h⟩
  · have e : ∀ j, w'.cell? ⟨b, j, none⟩ = w.cell? ⟨b, j, none⟩ := fun j => hb.cell (p := ⟨b, j, none⟩) hlt
    exact ⟨_, c, rfl, Or.inr ⟨b, o, rfl, Nat.lt_of_lt_of_le hlt hb.size, fun i hi => by rw [e, e, e, e]; exact hc i hi⟩⟩

set_option maxRecDepth 100000 in
set_option maxHeartbeats 2000000 in
theorem plays_long (n : Int) (a : Option Addr) (m c : Nat) (W : World) (hm : 300 < m) : Calls Try.prog 3 #[.int .i64 n, .slice a m c] W fun e w' => e = .returned (.bool true) ∧ Below W.heap.size W w' := by
  go_enter Try.func3, Try.ntmps3
  go_wp2_with (go_at_call 9; refine (awake_any _).mono ?_; rintro e w2 ⟨rfl, hb⟩; have B := Lib.hid hb; clear hb)
  go_ret
  exact ⟨rfl, Hid.out (by assumption)⟩
set_option maxRecDepth 100000 in
set_option maxHeartbeats 2000000 in
theorem plays_wide (n : Int) (a : Option Addr) (m c : Nat) (W : World) (hm : m ≤ 300) (h1 : 40 < n) (h2 : n ≤ 1024) : Calls Try.prog 3 #[.int .i64 n, .slice a m c] W fun e w' => e = .returned (.bool true) ∧ Below W.heap.size W w' := by
  have d2 : decide (n ≤ 1024) = true := decide_eq_true h2
  have d3 : decide ((300 : Int) < (m : Int)) = false := decide_eq_false (by omega)
  have d4 : decide (300 < m) = false := decide_eq_false (by omega)
  go_enter Try.func3, Try.ntmps3
  go_wp2_with (go_at_call 9; refine (awake_any _).mono ?_; rintro e w2 ⟨rfl, hb⟩; have B := Lib.hid hb; clear hb)
  go_ret
  exact ⟨rfl, Hid.out (by assumption)⟩
set_option maxRecDepth 100000 in
set_option maxHeartbeats 2000000 in
theorem plays_none (n : Int) (a : Option Addr) (m c : Nat) (W : World) (hm : m ≤ 300) (hn : n < 1 ∨ 1024 < n) : Calls Try.prog 3 #[.int .i64 n, .slice a m c] W fun e w' => e = .returned (.bool true) ∧ Below W.heap.size W w' := by
  have HN := Lib.hid hn
  have d3 : decide ((300 : Int) < (m : Int)) = false := decide_eq_false (by omega)
  have d4 : decide (300 < m) = false := decide_eq_false (by omega)
  rcases hn with hn | hn
  all_goals
    try have d1 : decide (n ≤ 1024) = false := decide_eq_false (by omega)
    go_enter Try.func3, Try.ntmps3
    go_wp2_with fail
    refine (new_bad n W HN.out).mono ?_
    rintro e w1 ⟨rfl, rfl⟩
    go_wp2_with fail
    refine (rnew_bad n W HN.out).mono ?_
    rintro e w2 ⟨rfl, hb⟩
    have B1 := Lib.hid (hb.alloc hb.size (.cells #[.slice none 0 0] 30))
    clear hb
    go_wp2_with fail
    refine (awake_any _).mono ?_
    rintro e w3 ⟨rfl, hb⟩
    have B2 := Lib.hid (B1.out.trans (hb.mono B1.out.size))
    clear hb
    go_wp2
    go_ret
    exact ⟨rfl, B2.out⟩

def PlaysRel (W : World) (mp fb rp rb n m : Nat) (i : Value) (wr : World) : Prop := ∃ (k : Nat) (L : List Int), i = .int .i64 k ∧ k ≤ m ∧ Duo W mp fb rp rb n L L wr
set_option maxRecDepth 100000 in
set_option maxHeartbeats 4000000 in
theorem plays_in (n : Nat) (a : Option Addr) (c : Nat) (S : List OpD) (W : World) (hm : S.length ≤ 300) (h1 : 1 ≤ n) (h2 : n ≤ 40) (hS : S = [] ∨ ∃ b o, a = some ⟨b, o, none⟩ ∧ b < W.heap.size ∧ ∀ i, i < S.length →
    W.cell? ⟨b, o + i * 4, none⟩ = some (.int .i64 (S.getD i default).1) ∧ W.cell? ⟨b, o + i * 4 + 1, none⟩ = some (.int .i64 (S.getD i default).2.1) ∧ W.cell? ⟨b, o + i * 4 + 2, none⟩ = some (.int .i64 (S.getD i default).2.2.1) ∧ W.cell? ⟨b, o + i * 4 + 3, none⟩ = some (.int .u32 (S.getD i default).2.2.2)) :
    Calls Try.prog 3 #[.int .i64 n, .slice a S.length c] W fun e w' => e = .returned (.bool true) ∧ Below W.heap.size W w' := by
  have HS := Lib.hid hS
  obtain ⟨m, hmS⟩ : ∃ m, m = S.length := ⟨_, rfl⟩
  rw [← hmS] at hm ⊢
  have HmS := Lib.hid hmS
  clear hS hmS
  have d3 : decide ((300 : Int) < (m : Int)) = false := decide_eq_false (by omega)
  have d4 : decide (300 < m) = false := decide_eq_false (by omega)
  go_enter Try.func3, Try.ntmps3
  go_wp2_with fail
  refine (new_ok n W h1 (by omega)).mono ?_
  rintro e w1 hp
  obtain ⟨mp, fb, rfl, ho⟩ := OwnMem.new hp
  have O1 := Lib.hid ho
  clear hp ho
  go_wp2_with fail
  refine (rnew_ok n w1 h1 (by omega)).mono ?_
  rintro e w2 ⟨rb, rfl, hrb, hlb, hb⟩
  have hf1 := lt_of_block O1.out.st.row
  have hm1 := lt_of_block O1.out.st.box
  have hr1 := lt_of_block hrb
  have hz1 := hb.size
  have hz0 := O1.out.below.size
  have D : Duo W mp fb w2.heap.size rb n (List.replicate (n * 32) 0) (List.replicate (n * 32) 0) (w2.alloc (.cells #[.slice (some ⟨rb, 0, none⟩) (n * 32) (n * 32)] 30)) :=
    have hb2 := (Below.refl w2.heap.size w2).alloc (Nat.le_refl _) (.cells #[.slice (some ⟨rb, 0, none⟩) (n * 32) (n * 32)] 30)
    have O2 := (O1.out.step hb).step hb2
    ⟨O2.st, ⟨heap_alloc_new _ _, below_block hb2 hrb, List.length_replicate, by omega, by omega⟩, O2.below, O2.lf, by omega, by omega, by omega, by omega⟩
  have D1 := Lib.hid D
  clear D hrb hlb hb hf1 hm1 hr1 hz1 hz0 O1
  go_wp2_with fail
  generalize w2.heap.size = rp at *
  go_loopw [9] (fun i wr => PlaysRel W mp fb rp rb n m i wr) (fun i _ => (m - (intOf i).toNat))
  case atStart => exact ⟨0, _, rfl, Nat.zero_le _, D1.out⟩
  case round =>
    obtain ⟨k, L, rfl, hk, hd⟩ := hrel
    have D2 := Lib.hid hd
    clear hd
    by_cases hlt : k < m
    · obtain ⟨b, o, rfl, hbW, hc⟩ := HS.out.resolve_left (by intro e; have := HmS.out; rw [e] at this; simp at this; omega)
      obtain ⟨c0, c1, c2, c3⟩ := hc k (by have := HmS.out; omega)
      have e : ∀ j, wr.cell? ⟨b, j, none⟩ = W.cell? ⟨b, j, none⟩ := fun j => D2.out.below.cell (p := ⟨b, j, none⟩) hbW
      rw [← e] at c0 c1 c2 c3
      generalize S.getD k default = op at *
      obtain ⟨d, x, y, z⟩ := op
      simp only at c0 c1 c2 c3
      clear e hc
      go_wp2_with fail
      refine (play_any W mp fb rp rb n L d x y z wr D2.out).mono ?_
      rintro e w3 ⟨L', rfl, hd⟩
      have D3 := Lib.hid hd
      clear hd c0 c1 c2 c3
      go_wp2_with fail
      refine (frames_some mp _ n n w3 D3.out.m.cellM).mono ?_
      rintro e w4 ⟨rfl, rfl⟩
      go_wp2
      go_roundw
      case rel => exact ⟨k + 1, L', by go_num, by omega, D3.out⟩
      case measure => simp [intOf]; omega
    · obtain rfl : k = m := by omega
      clear hlt
      go_wp2_with fail
      obtain ⟨wo, rfl⟩ : ∃ wo : World, wo = wr := ⟨_, rfl⟩
      go_loopw [10] (fun i wr => PlaysRel W mp fb rp rb n n i wr) (fun i _ => (n - (intOf i).toNat))
      case atStart => exact ⟨0, L, rfl, Nat.zero_le _, D2.out⟩
      case round =>
        obtain ⟨j, K, rfl, hj, hd⟩ := hrel
        have D3 := Lib.hid hd
        clear hd
        by_cases hlt : j < n
        · go_wp2_with fail
          refine (play_any W mp fb rp rb n K 5 j 0 0 wr D3.out).mono ?_
          rintro e w3 ⟨L', rfl, hd⟩
          have D4 := Lib.hid hd
          clear hd
          go_wp2
          go_roundw
          case rel => exact ⟨j + 1, L', by go_num, by omega, D4.out⟩
          case measure => simp [intOf]; omega
        · go_wp2_with fail
          refine (awake_any wr).mono ?_
          rintro e w3 ⟨rfl, hb⟩
          have D4 := Lib.hid (D3.out.step hb)
          clear hb
          go_wp2
          go_ret
          exact ⟨rfl, D4.out.below⟩
theorem memPlays_walk (n : Int) (v : Value) (S : List OpD) (W : World) (_hn : -9223372036854775808 ≤ n ∧ n ≤ 9223372036854775807) (hS : OpsAt W v S) :
    Calls Try.prog 3 #[.int .i64 n, v] W fun e w' => e = .returned (.bool true) ∧ Below W.heap.size W w' := by
  obtain ⟨a, c, rfl, hS⟩ := hS
  by_cases h1 : 300 < S.length
  · exact plays_long n a S.length c W h1
  by_cases h2 : n < 1 ∨ 1024 < n
  · exact plays_none n a S.length c W (by omega) h2
  by_cases h3 : 40 < n
  · exact plays_wide n a S.length c W (by omega) h3 (by omega)
  obtain ⟨k, rfl⟩ := Int.eq_ofNat_of_zero_le (show 0 ≤ n by omega)
  exact plays_in k a c S W (by omega) (by omega) (by omega) hS
end Go.Proofs.Ytknihmpdghanfaa
