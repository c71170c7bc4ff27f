/- The walk of RingOne. Condition: the arguments are as wide as their types, the slice lies in memory. -/
import Derived.Test.YtolefcbhiajbbaaG11
namespace Go.Proofs.Ytolefcbhiajbbaa
open Go.RowKit
set_option maxRecDepth 100000

theorem msgF_at (g : Nat → Int) (at_ : Nat) (L : List Int) (i : Nat) : msgF g at_ L i at_ = (L.length : Int) := by simp [msgF]
theorem msgF_of (g : Nat → Int) (at_ : Nat) (L : List Int) (n : Nat) (h : L.length = n) : msgOf (msgF g at_ L n) at_ n = L := by
  subst h
  refine List.ext_getElem (by simp [msgOf]) fun i h1 h2 => ?_
  simp only [msgOf, List.getElem_map, List.getElem_range]
  unfold msgF
  rw [if_neg (by omega), if_pos (by omega), show at_ + (1 + i) - at_ - 1 = i by omega]
  simp [List.getD_eq_getElem?_getD, h2]
theorem msgF_far (g : Nat → Int) (at_ : Nat) (L : List Int) (i j : Nat) (h : at_ + i < j) : msgF g at_ L i j = g j := by
  unfold msgF
  rw [if_neg (by omega), if_neg (by omega)]
theorem ringOne_bad (c d t : Int) (n cl : Nat) (a : Option Addr) (h : ¬ (1 ≤ c ∧ c ≤ 8 ∧ 1 ≤ d ∧ d ≤ 8)) (W : World) : Calls Try.prog 6 #[.int .i64 c, .int .i64 d, .int .i64 t, .slice a n cl] W fun e w' => e = .returned (.bool true) ∧ Below W.heap.size W w' := by
  have NB := Lib.hid (new_badG c d h W)
  clear h
  go_enter Try.func6, Try.ntmps6
  go_wp2_with (first
    | (go_at_call 9; refine NB.out.mono ?_; rintro e w1 ⟨rfl, rfl⟩)
    | (go_at_call 8; refine (awake19 _).mono ?_; rintro e w2 ⟨rfl, hb⟩; have B := Lib.hid hb; clear hb))
  go_ret
  exact ⟨rfl, B.out⟩
theorem ringOne_far (c d : Nat) (t : Int) (n cl : Nat) (a : Option Addr) (hc : 1 ≤ c ∧ c ≤ 8) (hd : 1 ≤ d ∧ d ≤ 8) (h : n < 1 ∨ (1 ≤ n ∧ d < n) ∨ (1 ≤ n ∧ n ≤ d ∧ 100 < t)) (W : World) : Calls Try.prog 6 #[.int .i64 (c : Int), .int .i64 (d : Int), .int .i64 t, .slice a n cl] W fun e w' => e = .returned (.bool true) ∧ Below W.heap.size W w' := by
  have NW := Lib.hid (LawG.new (Below.refl W.heap.size W) c d hc hd)
  clear hc hd
  rcases h with h | ⟨h1, h2⟩ | ⟨h1, h2, h3⟩
  · obtain rfl : n = 0 := by omega
    go_enter Try.func6, Try.ntmps6
    go_wp2_with (first
      | (go_at_call 9; refine NW.out.mono ?_; rintro e w1 ⟨b, rfl, -, -, -, -, hb⟩; have B1 := Lib.hid hb; clear hb)
      | (go_at_call 8; refine (awake19 _).mono ?_; rintro e w2 ⟨rfl, hb⟩; have B := Lib.hid (B1.out.trans (hb.mono B1.out.size)); clear hb))
    go_ret
    exact ⟨rfl, B.out⟩
  · have d0 : decide (n < 1) = false := decide_eq_false (by omega)
    have d1 : decide ((n : Int) < 1) = false := decide_eq_false (by omega)
    have d2 : decide (d < n) = true := decide_eq_true h2
    go_enter Try.func6, Try.ntmps6
    go_wp2_with (first
      | (go_at_call 9; refine NW.out.mono ?_; rintro e w1 ⟨b, rfl, -, -, -, -, hb⟩; have B1 := Lib.hid hb; clear hb)
      | (go_at_call 8; refine (awake19 _).mono ?_; rintro e w2 ⟨rfl, hb⟩; have B := Lib.hid (B1.out.trans (hb.mono B1.out.size)); clear hb))
    go_ret
    exact ⟨rfl, B.out⟩
  · have d0 : decide (n < 1) = false := decide_eq_false (by omega)
    have d1 : decide ((n : Int) < 1) = false := decide_eq_false (by omega)
    have d2 : decide (d < n) = false := decide_eq_false (by omega)
    have d3 : decide (100 < t) = true := decide_eq_true h3
    go_enter Try.func6, Try.ntmps6
    go_wp2_with (first
      | (go_at_call 9; refine NW.out.mono ?_; rintro e w1 ⟨b, rfl, -, -, -, -, hb⟩; have B1 := Lib.hid hb; clear hb)
      | (go_at_call 8; refine (awake19 _).mono ?_; rintro e w2 ⟨rfl, hb⟩; have B := Lib.hid (B1.out.trans (hb.mono B1.out.size)); clear hb))
    go_ret
    exact ⟨rfl, B.out⟩
theorem slice_tailG (b o k c : Nat) (h : k + 1 ≤ c) (hc : c ≤ maxLen) : ∃ ad cr, (∀ w : World, (Instr.sliceAt 38 (.slice (some ⟨b, o, none⟩) (k + 1) c) (some (.int .i64 1)) none none).run Try.prog w = .ok (.slice (some ad) k cr) w) ∧ (k = 0 ∨ ad = ⟨b, o + 1, none⟩) := by
  have hm : c ≤ 9223372036854775807 := by unfold maxLen at hc; omega
  by_cases hcc : c = 1
  · subst hcc
    obtain rfl : k = 0 := by omega
    refine ⟨⟨b, o, none⟩, 0, fun w => ?_, Or.inl rfl⟩
    simp [Instr.sliceAt, Try.underlying38, go_sem]
  · refine ⟨⟨b, o + 1, none⟩, c - 1, fun w => ?_, Or.inr rfl⟩
    simp [Instr.sliceAt, Try.underlying38, go_sem, hcc]
    intro h'
    omega
/-- What the loop keeps. -/
def OneG (W : World) (b kb c d : Nat) (wr : World) : Prop := ∃ f g, LawG W wr b kb c d f 0 g ∧ ∀ i, wdsG c d ≤ i → g i = 0
set_option maxHeartbeats 1000000 in
theorem ringOne_ok (c d : Nat) (t : Int) (k cl ab ao : Nat) (L : List Int) (hc : 1 ≤ c ∧ c ≤ 8) (hd : 1 ≤ d ∧ d ≤ 8) (hL : L.length = k + 1) (hk : k + 1 ≤ d) (hcl : k + 1 ≤ cl ∧ cl ≤ maxLen) (ht : t ≤ 100) (W : World) (hw : ∀ x ∈ L, 0 ≤ x ∧ x ≤ 4294967295) (hab : ab < W.heap.size) (hx : ∀ i, i < L.length → W.cell? ⟨ab, ao + i, none⟩ = some (.int .u32 (L.getD i 0))) :
    Calls Try.prog 6 #[.int .i64 (c : Int), .int .i64 (d : Int), .int .i64 t, .slice (some ⟨ab, ao, none⟩) (k + 1) cl] W fun e w' => e = .returned (.bool true) ∧ Below W.heap.size W w' := by
  have hz := kepZero
  have hmf : ∀ (fn : Fn) (first cap : Array Value) (w : World), (Instr.makeFunc fn first cap).run Try.prog w = .ok (.func fn first cap) w := fun _ _ _ _ => rfl
  obtain ⟨ii, hi, hi0, hi1, hi2⟩ := info_parts wordInfoG
  have NW := Lib.hid (LawG.new (Below.refl W.heap.size W) c d hc hd)
  have HC := Lib.hid hc
  have HD := Lib.hid hd
  have HW := Lib.hid hw
  have HX := Lib.hid hx
  have HL := Lib.hid hL
  have HAB := Lib.hid hab
  have c8 := hc.2
  have d8 := hd.2
  have k8 : k ≤ 7 := by omega
  have d2 : decide (d < k + 1) = false := decide_eq_false (by omega)
  have d2' : decide ((d : Int) < (k : Int) + 1) = false := decide_eq_false (by omega)
  have d3 : decide (100 < t) = false := decide_eq_false (by omega)
  have cmx : cl ≤ 9223372036854775807 := by have := hcl.2; unfold maxLen at this; omega
  have ck : k + 1 ≤ cl := hcl.1
  obtain ⟨ad, cr, sl, had⟩ := slice_tailG ab ao k cl hcl.1 hcl.2
  have AD := Lib.hid had
  clear hc hd hw hx hL hab hcl had
  go_enter Try.func6, Try.ntmps6
  go_wp2_with fail
  refine NW.out.mono ?_
  rintro e w1 ⟨b, rfl, h0, -, -, hr, hb⟩
  have L1 := Lib.hid (LawG.start hr hb h0)
  obtain ⟨kb, hkb⟩ : ∃ kb, kb = w1.heap.size := ⟨_, rfl⟩
  rw [← hkb] at L1
  clear hr hb
  go_wp2_with fail
  rw [← hkb]
  clear hkb
  go_loopw [12] (fun i wr => ∃ j : Nat, i = .int .i64 (j : Int) ∧ (j : Int) ≤ max t 0 ∧ OneG W b kb c d wr) (fun i _ => (max t 0 - intOf i).toNat)
  case atStart => exact ⟨0, rfl, by omega, _, _, L1.out, fun _ _ => rfl⟩
  case round =>
    obtain ⟨j, rfl, hj, f, g, hl, hg⟩ := hrel
    have LL := Lib.hid hl
    have HG := Lib.hid hg
    clear hl hg
    by_cases hlt : (j : Int) < t
    · have wj : IntKind.u32.wrap (j : Int) = (j : Int) := IntWalk.u32_in _ (by omega)
      have CX : Hid (∀ V, Below W.heap.size W V → ∀ i, i < L.length → V.cell? ⟨ab, ao + i, none⟩ = some (.int .u32 (L.getD i 0))) := Lib.hid fun V hV i hi => (hV.cell (p := ⟨ab, ao + i, none⟩) HAB.out).trans (HX.out i hi)
      have b1 := below_step1 wr (.cells #[.int .u32 (j : Int)] 34)
      have OM := Lib.hid (World.ownsRow_lit (base := wr.heap.size) (e := 34) (size := 1) wr #[.int .u32 (j : Int)] 1 (Nat.le_refl _) (by decide) rfl)
      have LN : Hid ((wdsL (L.drop 1)).length = k * 1) := Lib.hid (by simp [wdsL]; have := HL.out; omega)
      have SC : Hid (∀ i u, (wdsL (L.drop 1))[i]? = some u → (wr.alloc (.cells #[.int .u32 (j : Int)] 34)).cell? (ad.add i) = some u) := Lib.hid fun i u hu => by
        have hi : i < (L.drop 1).length := by have := (List.getElem?_eq_some_iff.1 hu).1; simpa [wdsL] using this
        rcases AD.out with h0 | h0
        · rw [List.length_drop, HL.out, h0] at hi; omega
        rw [wdsL_get _ i hi] at hu
        rw [h0, Addr.add_mid, ← Option.some.inj hu, Nat.add_assoc]
        have := CX.out _ (LL.out.bel.trans (b1.mono LL.out.bel.size)) (1 + i) (by rw [List.length_drop] at hi; omega)
        rw [this]
        simp [List.getD_eq_getElem?_getD, Nat.add_comm]
      have W1 := Lib.hid (wdsL_one (L.drop 1))
      obtain ⟨M, hM⟩ : ∃ M, M = (j : Int) :: L.drop 1 := ⟨_, rfl⟩
      have ML : Hid (M.length = k + 1) := Lib.hid (by rw [hM]; simp; have := HL.out; omega)
      have MW : Hid (∀ x ∈ M, 0 ≤ x ∧ x < 4294967296) := Lib.hid fun x hx => by
        rw [hM] at hx
        rcases List.mem_cons.1 hx with rfl | hx
        · omega
        · have := HW.out x (List.mem_of_mem_drop hx); omega
      have OU : Hid (∀ v V, V.ownsRow wr.heap.size 34 1 v (1 + k) (#[.int .u32 (j : Int)].toList ++ wdsL (L.drop 1)) → ∃ g c, v = .slice (some ⟨g, 0, none⟩) (k + 1) c ∧ wr.heap.size ≤ g ∧ MsgG V g M) := Lib.hid fun v V ho => by
        have h2 : OwnW V wr.heap.size v M := by
          unfold OwnW
          rw [ML.out, Nat.add_comm k 1, hM]
          exact ho
        obtain ⟨g, c, h3, h4, h5⟩ := OwnW.msg h2 (by rw [ML.out]; omega)
        rw [ML.out] at h3
        exact ⟨g, c, h3, h4, h5⟩
      have B1 := Lib.hid b1
      generalize wdsL (L.drop 1) = xs at LN SC W1 OU
      clear b1 hM CX
      go_wp2_with (first
        | (at_builtin; refine wpList_append_own _ rfl (.tmp 50) (.tmp 52) 38 rfl wr.heap.size 34 ii (.int .u32 0) 1 4 Try.underlying38 hi hi0 hi1 hi2 rfl (by decide) _ 1 _ rfl OM.out ad k cr xs rfl LN.out SC.out W1.out (by unfold maxLen; omega) (by omega) (by simp) ?_; intro v5 w5 ho hg' _; have B5 : Hid (Below wr.heap.size wr w5) := Lib.hid (B1.out.grown hg' (by simp) (fun g h => (World.ownsRow.lt OM.out g h).1)); obtain ⟨g5, c5, rfl, h5, m5⟩ := OU.out _ _ ho; have M5 := Lib.hid m5; clear ho hg' h5 m5))
      have L5 := Lib.hid (LL.out.step B5.out)
      have SM := Lib.hid (L5.out.send M (.slice (some ⟨g5, 0, none⟩) (k + 1) c5) (by have := M5.out.rowAt (c := c5); rwa [ML.out] at this) MW.out (by have := ML.out; omega) (by have := HC.out; omega))
      go_wp2_with fail
      refine SM.out.mono ?_
      rintro e w6 ⟨rfl, hl, ho⟩
      obtain ⟨at_, hat⟩ : ∃ a, a = begG c d f 0 := ⟨_, rfl⟩
      obtain ⟨g6, hg6⟩ : ∃ g6, g6 = msgF g (begG c d f 0) M M.length := ⟨_, rfl⟩
      have G1 : g6 at_ = (k : Int) + 1 := by rw [hg6, hat, msgF_at, ML.out]; push_cast; rfl
      have G2 : msgOf g6 at_ (k + 1) = M := by rw [hg6, hat, ML.out]; exact msgF_of _ _ _ _ ML.out
      have G3 : Hid (∀ i, wdsG c d ≤ i → g6 i = 0) := Lib.hid fun i hi => by
        have hb := begG_lt (c := c) (d := d) (f := f) (i := 0) (by have := HC.out; omega)
        rw [hg6, msgF_far _ _ _ _ _ (by rw [ML.out]; omega)]
        exact HG.out i hi
      have G4 : lenG d ((k : Int) + 1) = k + 1 := by have := lenG_is (d := d) (x := (k : Int) + 1) (by omega); omega
      have M6 := Lib.hid (M5.out.only ho (fun h => by
        obtain ⟨cs, hc, _⟩ := M5.out
        rcases h with e | e
        · exact kind_ne hc L5.out.r.box (by simp only [kindOf]; decide) e
        · obtain ⟨K', hk', _⟩ := L5.out.k
          exact kind_ne hc hk'.box (by simp only [kindOf]; decide) e))
      rw [← hg6] at hl
      have L6 := Lib.hid hl
      have NX := L6.out.next
      rw [← hat, G1, G4] at NX
      rw [show ((k + 1 : Nat) : Int) = (k : Int) + 1 by push_cast; rfl] at NX
      have NX := Lib.hid NX
      have GG := Lib.hid (And.intro G1 (And.intro G2 (And.intro G4 hat)))
      clear hl ho hat hg6 G1 G2 G4
      go_wp2_with fail
      refine NX.out.mono ?_
      rintro e w7 ⟨rfl, hb⟩
      have M7 := Lib.hid (M6.out.below hb)
      have X7 := Lib.hid (L6.out.r.below hb)
      have RV := (L6.out.step hb).recv
      rw [← GG.out.2.2.2, GG.out.1, GG.out.2.2.1, GG.out.2.1] at RV
      have RV := Lib.hid RV
      clear hb
      go_wp2_with fail
      refine RV.out.mono ?_
      rintro e w8 ⟨r, rfl, -, hm, hl, ho⟩
      have L8 := Lib.hid hl
      have M8 := Lib.hid (M7.out.only ho (fun e => by
        obtain ⟨cs, hc, _⟩ := M7.out
        exact kind_ne hc X7.out.box (by simp only [kindOf]; decide) e))
      have SA := Lib.hid (same_yes (.slice (some ⟨r, 0, none⟩) (k + 1) (k + 1)) (.slice (some ⟨g5, 0, none⟩) (k + 1) c5) M w8 (by have := ML.out; omega) (by have := hm.rowAt (c := k + 1); rwa [ML.out] at this) (by have := M8.out.rowAt (c := c5); rwa [ML.out] at this))
      clear hm hl ho
      go_wp2_with (first
        | (go_at_call 17; refine SA.out.mono ?_; rintro e w9 ⟨rfl, hb⟩; have L9 := Lib.hid (L8.out.step hb); clear hb)
        | (go_at_call 18; refine (len_okG L9.out.r).mono ?_; rintro e w10 ⟨rfl, rfl⟩))
      go_roundw
      case rel => exact ⟨j + 1, by go_num, by omega, _, _, L9.out, G3.out⟩
      case measure => simp [intOf]; omega
    · have L0 := Lib.hid LL.out.r
      have KS := Lib.hid LL.out.k
      have WO := Lib.hid (words_okG LL.out.r)
      obtain ⟨n, hn⟩ : ∃ n, n = wdsG c d := ⟨_, rfl⟩
      have n72 : n ≤ 72 := by rw [hn]; exact wdsG_le c8 d8
      rw [← hn] at WO
      have HG2 : Hid (∀ i, n ≤ i → g i = 0) := Lib.hid (by rw [hn]; exact HG.out)
      clear hn hi hi0 hi1 hi2
      go_wp2_with fail
      refine WO.out.mono ?_
      rintro e w2 ⟨rfl, q, hq⟩
      have B2 : Hid (Below wr.heap.size wr w2) := Lib.hid (by rw [hq]; exact below_drewN (Below.refl _ _) q)
      have L2 := Lib.hid (LL.out.step B2.out)
      clear hq
      go_wp2_with fail
      go_loopw [18] (fun i v => ∃ j : Nat, i = .int .i64 (j : Int) ∧ n ≤ j ∧ j ≤ 72 ∧ v = w2) (fun i _ => (72 - intOf i).toNat)
      case atStart => exact ⟨n, rfl, Nat.le_refl _, n72, rfl⟩
      case round =>
        obtain ⟨i, rfl, hi1, hi2, rfl⟩ := hrel
        by_cases hlt : i < 72
        · have ck := L2.out.k.cell i hlt
          rw [HG2.out i hi1] at ck
          go_wp2
          go_roundw
          case rel => exact ⟨i + 1, by go_num, by omega, by omega, trivial⟩
          case measure => simp [intOf]; omega
        · obtain rfl : i = 72 := by omega
          have cb := L2.out.k.bad
          go_wp2_with (go_at_call 8; refine (awake19 _).mono ?_; rintro e w8 ⟨rfl, hb⟩; have B8 := Lib.hid (L2.out.bel.trans (hb.mono L2.out.bel.size)); clear hb)
          go_ret
          exact ⟨rfl, B8.out⟩
theorem ringOne_walk (c d t : Int) (v : Value) (L : List Int) (W : World) (_hc : -9223372036854775808 ≤ c ∧ c ≤ 9223372036854775807) (_hd : -9223372036854775808 ≤ d ∧ d ≤ 9223372036854775807) (_ht : -9223372036854775808 ≤ t ∧ t ≤ 9223372036854775807) (h : ArgMs W v L) : Calls Try.prog 6 #[.int .i64 c, .int .i64 d, .int .i64 t, v] W fun e w' => e = .returned (.bool true) ∧ Below W.heap.size W w' := by
  obtain ⟨a, cl, rfl, h1, h2, _, h3, h4⟩ := h
  by_cases h : 1 ≤ c ∧ c ≤ 8 ∧ 1 ≤ d ∧ d ≤ 8
  · obtain ⟨c', rfl⟩ : ∃ c' : Nat, c = (c' : Int) := ⟨c.toNat, by omega⟩
    obtain ⟨d', rfl⟩ : ∃ d' : Nat, d = (d' : Int) := ⟨d.toNat, by omega⟩
    by_cases h5 : 1 ≤ L.length ∧ L.length ≤ d' ∧ t ≤ 100
    · obtain ⟨k, hk⟩ : ∃ k, L.length = k + 1 := ⟨L.length - 1, by omega⟩
      obtain ⟨b, o, rfl, hb, hx⟩ := h4.resolve_left (by rintro rfl; simp at hk)
      rw [hk] at h1 h5 ⊢
      exact ringOne_ok c' d' t k cl b o L (by omega) (by omega) hk (by omega) ⟨h1, h2⟩ h5.2.2 W h3 hb hx
    · exact ringOne_far c' d' t L.length cl a (by omega) (by omega) (by omega) W
  · exact ringOne_bad c d t L.length cl a h W
end Go.Proofs.Ytolefcbhiajbbaa
