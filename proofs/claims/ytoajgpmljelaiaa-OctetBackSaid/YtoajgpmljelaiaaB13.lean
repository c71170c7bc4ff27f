/- The walk of OctetReads. Condition: the script lies as its slice says. -/
import Derived.Test.YtoajgpmljelaiaaB12
namespace Go.Proofs.Ytoajgpmljelaiaa
open Go.RowKit
set_option maxRecDepth 100000

set_option maxHeartbeats 400000 in
theorem reads_long (s : ByteArray) (a : Option Addr) (m c : Nat) (W : World) (hs : s.size ≤ maxLen) (h : 2000 < s.size ∨ (s.size ≤ 2000 ∧ 100 < m)) : Calls Try.prog 4 #[.string s, .slice a m c] W fun e w' => e = .returned (.bool true) ∧ Below W.heap.size W w' := by
  unfold maxLen at hs
  rcases h with h | ⟨h, h2⟩
  all_goals
    go_enter Try.func4, Try.ntmps4
    go_wp2_with (go_at_call 10; refine (awake_ok _).mono ?_; rintro e w1 ⟨rfl, hb⟩)
    go_ret
    exact ⟨rfl, hb⟩

/-- Both sides' calls, as one. -/
theorem left_pair (S : List UInt8) (at_ : Nat) (f : Bool) (hl : at_ ≤ S.length) (ht : S.length ≤ 2000) (b : Nat) : ∃ x : Nat, (∀ w, Rd w b (stateOf S at_ f) → Calls Try.prog 16 #[.pointer (some ⟨b, 0, none⟩)] w fun e w' => e = .returned (.int .i64 (x : Int)) ∧ w = w') ∧
    (∀ w, Rd w b (stateOf S at_ f) → Calls Try.prog 18 #[.pointer (some ⟨b, 0, none⟩)] w fun e w' => e = .returned (.bool f) ∧ w = w') ∧
    ∀ w, Calls Try.prog 17 #[.agg #[strV S, .int .i64 (at_ : Int), .bool f]] w fun e w' => e = .returned (.int .i64 (x : Int)) ∧ Below w.heap.size w w' :=
  ⟨leftN (stateOf S at_ f), fun w h => left_ok b _ w h, fun w h => (fine_ok b _ w h).mono fun e w' ⟨he, hw⟩ => ⟨by rw [he]; cases f <;> rfl, hw⟩, fun w => rleft_ok S at_ f hl ht w⟩

theorem RRdAt.below {w w' : World} {r a : Nat} {S : List UInt8} {f : Bool} (h : RRdAt w r S a f) (hb : Below w.heap.size w w') : RRdAt w' r S a f := ⟨below_block hb h.box, h.le, h.top⟩
def ReadsRel (W : World) (b r m : Nat) (i : Value) (wr : World) : Prop := ∃ (k : Nat) (s : RdS), i = .int .i64 k ∧ k ≤ m ∧ Duo5 W b r s wr
set_option maxHeartbeats 8000000 in
theorem reads_in (l : List UInt8) (a : Option Addr) (c : Nat) (S : List Op5) (W : World) (hl : l.length ≤ 2000) (hm : S.length ≤ 100) (hq : ∀ q ∈ S, (-9223372036854775808 ≤ q.1 ∧ q.1 ≤ 9223372036854775807) ∧ q.2.length ≤ maxLen) (hS : S = [] ∨ ∃ b o, a = some ⟨b, o, none⟩ ∧ b < W.heap.size ∧
    ∀ i, i < S.length → W.cell? ⟨b, o + i * 2, none⟩ = some (.int .i64 (S.getD i default).1) ∧ W.cell? ⟨b, o + i * 2 + 1, none⟩ = some (strV (S.getD i default).2)) :
    Calls Try.prog 4 #[strV l, .slice a S.length c] W fun e w' => e = .returned (.bool true) ∧ Below W.heap.size W w' := by
  have HS := Lib.hid hS
  have HQ := Lib.hid hq
  obtain ⟨m, hmS⟩ : ∃ m, m = S.length := ⟨_, rfl⟩
  rw [← hmS] at hm ⊢
  have HmS := Lib.hid hmS
  have hs : (ByteArray.mk l.toArray).size = l.length := by simp [ByteArray.size]
  clear hS hmS hq
  go_enter Try.func4, Try.ntmps4
  go_wp2_with fail
  refine (new5_ok l (by unfold maxLen; omega) W).mono ?_
  rintro e w1 ⟨b, rfl, hR, hle, hb⟩
  have D : Duo5 W b w1.heap.size (some l) (w1.alloc (.cells #[strV l, .int .i64 0, .bool true] 32)) :=
    have hb2 := (Below.refl w1.heap.size w1).alloc (Nat.le_refl _) (.cells #[strV l, .int .i64 0, .bool true] 32)
    ⟨hR.below hb2, ⟨l, 0, true, ⟨heap_alloc_new w1 _, by omega, hl⟩, rfl⟩, hb.trans (hb2.mono hb.size), hle, hb.size, Nat.ne_of_lt hR.lt⟩
  have D1 := Lib.hid D
  clear D hR hle hb hs hl
  go_wp2_with fail
  generalize w1.heap.size = r at *
  go_loopw [7] (fun i wr => ReadsRel W b r m i wr) (fun i _ => (m - (intOf i).toNat))
  case atStart => exact ⟨0, _, rfl, Nat.zero_le _, D1.out⟩
  case round =>
    obtain ⟨k, s, rfl, hk, hd⟩ := hrel
    have D2 := Lib.hid hd
    clear hd
    by_cases hlt : k < m
    · obtain ⟨g, o, rfl, hbW, hc⟩ := HS.out.resolve_left (by intro e; have := HmS.out; rw [e] at this; simp at this; omega)
      obtain ⟨c0, c1⟩ := hc k (by have := HmS.out; omega)
      have e : ∀ j, wr.cell? ⟨g, j, none⟩ = W.cell? ⟨g, j, none⟩ := fun j => D2.out.below.cell (p := ⟨g, j, none⟩) hbW
      rw [← e] at c0 c1
      obtain ⟨⟨hd1, hd2⟩, ht⟩ := HQ.out (S.getD k default) (by
        rw [List.getD_eq_getElem?_getD, List.getElem?_eq_getElem (by have := HmS.out; omega)]; exact List.getElem_mem _)
      generalize S.getD k default = op at *
      obtain ⟨d, t⟩ := op
      simp only at c0 c1 hd1 hd2 ht
      unfold maxLen at ht
      have hs2 : (ByteArray.mk t.toArray).size = t.length := by simp [ByteArray.size]
      clear e hc
      by_cases h100 : 100 < t.length
      · go_wp2_with fail
        refine (awake_ok _).mono ?_
        rintro e w3 ⟨rfl, hb⟩
        have B3 := Lib.hid (D2.out.below.trans ((((Below.refl _ _).alloc (Nat.le_refl _) _).trans (hb.mono (by simp))).mono D2.out.below.size))
        clear hb
        go_wp2
        go_ret
        exact ⟨rfl, B3.out⟩
      have S0 := Lib.hid (Step5.start D2.out d t)
      obtain ⟨bx, hbx⟩ : ∃ bx, bx = wr.heap.size := ⟨_, rfl⟩
      by_cases h1 : d = 1
      · subst h1
        obtain ⟨x, s2, hx⟩ : ∃ x s2, textS s t = (x, s2) := ⟨_, _, rfl⟩
        have HX := Lib.hid hx
        clear hx
        go_wp2_with fail
        obtain ⟨w0, hw0⟩ : ∃ w0, w0 = wr.alloc (.cells #[.int .i64 1, strV t] 34) := ⟨_, rfl⟩
        rw [← hw0] at S0 ⊢
        clear hw0
        have c1 := S0.out.c1
        go_region_held3 (fun w' => w'.cell? ⟨wr.heap.size, 1, none⟩ = some (strV t)) (go_keep)
          (first
            | (go_at_call 12; refine (text_ok b s t x s2 HX.out _ (by exact S0.out.drew.p)).mono ?_; rintro e w4 ⟨rfl, hp, hg⟩; have S1 := Lib.hid (S0.out.drew.put hp hg); clear hp hg; have c1 := S1.out.c1)
            | (go_at_call 13; refine (rtext_ok r s t x s2 HX.out _ (by exact S1.out.q)).mono ?_; rintro e w5 ⟨rfl, hp, hg⟩; have S2 := Lib.hid (S1.out.rput hp hg); clear hp hg; have c1 := S2.out.c1))
        go_wp2_with fail
        obtain ⟨S', at', f, hA, rfl⟩ := S2.out.q
        obtain ⟨y, hl1, hl2, hl3⟩ := left_pair S' at' f hA.le hA.top b
        have L1 := Lib.hid hl1
        have L2 := Lib.hid hl2
        have L3 := Lib.hid hl3
        have R2 := Lib.hid hA
        have r0 := hA.c0
        have r1 := hA.c1
        have r2 := hA.c2
        clear hl1 hl2 hl3 hA
        go_region_held3 (fun w' => w'.cell? ⟨r, 0, none⟩ = some (strV S') ∧ w'.cell? ⟨r, 1, none⟩ = some (.int .i64 (at' : Int)) ∧ w'.cell? ⟨r, 2, none⟩ = some (.bool f)) (go_keep)
          (first
            | (go_at_call 16; refine (L1.out _ (by exact S2.out.drew.p)).mono ?_; rintro e w6 ⟨rfl, rfl⟩)
            | (go_at_call 17; refine (L3.out _).mono ?_; rintro e w6 ⟨rfl, hb⟩; have S3 := Lib.hid (S2.out.drew.step hb); have R3 := Lib.hid ((R2.out.heap (w' := w5.drew) rfl).below hb); clear hb; have r0 := R3.out.c0; have r1 := R3.out.c1; have r2 := R3.out.c2)
            | (go_at_call 18; refine (L2.out _ (by exact S3.out.p)).mono ?_; rintro e w7 ⟨rfl, rfl⟩))
        go_wp2
        go_roundw
        case rel => exact ⟨k + 1, _, by go_num, by omega, S3.out.duo⟩
        case measure => simp [intOf]; omega
      have e1 : (d == 1) = false := by simpa using h1
      clear h1
      by_cases h0 : d < 0
      · obtain ⟨x, s2, hx⟩ : ∃ x s2, numS s (-1) = (x, s2) := ⟨_, _, rfl⟩
        have HX := Lib.hid hx
        clear hx
        go_wp2_with fail
        obtain ⟨w0, hw0⟩ : ∃ w0, w0 = wr.alloc (.cells #[.int .i64 d, strV t] 34) := ⟨_, rfl⟩
        rw [← hw0] at S0 ⊢
        clear hw0
        refine (num_ok b s (-1) x s2 HX.out _ (by exact S0.out.p)).mono ?_
        rintro e w4 ⟨rfl, hp, hg⟩
        have S1 := Lib.hid (S0.out.put hp hg)
        clear hp hg
        go_wp2_with fail
        refine (rnum_ok r s (-1) x s2 HX.out _ (by exact S1.out.q)).mono ?_
        rintro e w5 ⟨rfl, hp, hg⟩
        have S2 := Lib.hid (S1.out.rput hp hg)
        clear hp hg
        go_wp2_with fail
        obtain ⟨S', at', f, hA, rfl⟩ := S2.out.q
        obtain ⟨y, hl1, hl2, hl3⟩ := left_pair S' at' f hA.le hA.top b
        have L1 := Lib.hid hl1
        have L2 := Lib.hid hl2
        have L3 := Lib.hid hl3
        have R2 := Lib.hid hA
        have r0 := hA.c0
        have r1 := hA.c1
        have r2 := hA.c2
        clear hl1 hl2 hl3 hA
        go_region_held3 (fun w' => w'.cell? ⟨r, 0, none⟩ = some (strV S') ∧ w'.cell? ⟨r, 1, none⟩ = some (.int .i64 (at' : Int)) ∧ w'.cell? ⟨r, 2, none⟩ = some (.bool f)) (go_keep)
          (first
            | (go_at_call 16; refine (L1.out _ (by exact S2.out.drew.p)).mono ?_; rintro e w6 ⟨rfl, rfl⟩)
            | (go_at_call 17; refine (L3.out _).mono ?_; rintro e w6 ⟨rfl, hb⟩; have S3 := Lib.hid (S2.out.drew.step hb); have R3 := Lib.hid ((R2.out.heap (w' := w5.drew) rfl).below hb); clear hb; have r0 := R3.out.c0; have r1 := R3.out.c1; have r2 := R3.out.c2)
            | (go_at_call 18; refine (L2.out _ (by exact S3.out.p)).mono ?_; rintro e w7 ⟨rfl, rfl⟩))
        go_wp2
        go_roundw
        case rel => exact ⟨k + 1, _, by go_num, by omega, S3.out.duo⟩
        case measure => simp [intOf]; omega
      · obtain ⟨x, s2, hx⟩ : ∃ x s2, numS s (d - 2) = (x, s2) := ⟨_, _, rfl⟩
        have HX := Lib.hid hx
        clear hx
        go_wp2_with fail
        obtain ⟨w0, hw0⟩ : ∃ w0, w0 = wr.alloc (.cells #[.int .i64 d, strV t] 34) := ⟨_, rfl⟩
        rw [← hw0] at S0 ⊢
        clear hw0
        refine (num_ok b s (d - 2) x s2 HX.out _ (by exact S0.out.p)).mono ?_
        rintro e w4 ⟨rfl, hp, hg⟩
        have S1 := Lib.hid (S0.out.put hp hg)
        clear hp hg
        go_wp2_with fail
        refine (rnum_ok r s (d - 2) x s2 HX.out _ (by exact S1.out.q)).mono ?_
        rintro e w5 ⟨rfl, hp, hg⟩
        have S2 := Lib.hid (S1.out.rput hp hg)
        clear hp hg
        go_wp2_with fail
        obtain ⟨S', at', f, hA, rfl⟩ := S2.out.q
        obtain ⟨y, hl1, hl2, hl3⟩ := left_pair S' at' f hA.le hA.top b
        have L1 := Lib.hid hl1
        have L2 := Lib.hid hl2
        have L3 := Lib.hid hl3
        have R2 := Lib.hid hA
        have r0 := hA.c0
        have r1 := hA.c1
        have r2 := hA.c2
        clear hl1 hl2 hl3 hA
        go_region_held3 (fun w' => w'.cell? ⟨r, 0, none⟩ = some (strV S') ∧ w'.cell? ⟨r, 1, none⟩ = some (.int .i64 (at' : Int)) ∧ w'.cell? ⟨r, 2, none⟩ = some (.bool f)) (go_keep)
          (first
            | (go_at_call 16; refine (L1.out _ (by exact S2.out.drew.p)).mono ?_; rintro e w6 ⟨rfl, rfl⟩)
            | (go_at_call 17; refine (L3.out _).mono ?_; rintro e w6 ⟨rfl, hb⟩; have S3 := Lib.hid (S2.out.drew.step hb); have R3 := Lib.hid ((R2.out.heap (w' := w5.drew) rfl).below hb); clear hb; have r0 := R3.out.c0; have r1 := R3.out.c1; have r2 := R3.out.c2)
            | (go_at_call 18; refine (L2.out _ (by exact S3.out.p)).mono ?_; rintro e w7 ⟨rfl, rfl⟩))
        go_wp2
        go_roundw
        case rel => exact ⟨k + 1, _, by go_num, by omega, S3.out.duo⟩
        case measure => simp [intOf]; omega
    · go_wp2_with fail
      refine (fine_nil wr).mono ?_
      rintro e w3 ⟨rfl, rfl⟩
      go_wp2_with fail
      refine (left_nil wr).mono ?_
      rintro e w3 ⟨rfl, rfl⟩
      go_wp2_with fail
      refine (num_nil 1 wr).mono ?_
      rintro e w3 ⟨rfl, rfl⟩
      go_wp2_with fail
      refine (text_nil [] wr).mono ?_
      rintro e w3 ⟨rfl, rfl⟩
      go_wp2_with fail
      refine (awake_ok wr).mono ?_
      rintro e w3 ⟨rfl, hb⟩
      have B3 := Lib.hid (D2.out.below.trans (hb.mono D2.out.below.size))
      clear hb
      go_wp2
      go_ret
      exact ⟨rfl, B3.out⟩
theorem octetReads_walk (s : ByteArray) (v : Value) (S : List Op5) (W : World) (hs : s.size ≤ maxLen) (hS : Ops5At W v S) : Calls Try.prog 4 #[.string s, v] W fun e w' => e = .returned (.bool true) ∧ Below W.heap.size W w' := by
  obtain ⟨a, c, rfl, hq, hc⟩ := hS
  by_cases h1 : s.size ≤ 2000
  · by_cases h2 : S.length ≤ 100
    · obtain ⟨l, rfl⟩ : ∃ l : List UInt8, s = ⟨l.toArray⟩ := ⟨s.data.toList, by cases s; simp⟩
      exact reads_in l a c S W (by simpa [ByteArray.size] using h1) h2 hq hc
    · exact reads_long s a _ c W hs (Or.inr ⟨h1, by omega⟩)
  · exact reads_long s a _ c W hs (Or.inl (by omega))
end Go.Proofs.Ytoajgpmljelaiaa