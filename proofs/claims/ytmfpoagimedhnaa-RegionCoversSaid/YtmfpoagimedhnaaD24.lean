/- The walk of the law RegionCovers. Condition: the slice lies in memory. Written by gen/gen_d24.py. -/
import Derived.Test.YtmfpoagimedhnaaD22
namespace Go.Proofs.Ytmfpoagimedhnaa
open Go.RowKit Go.Maps
set_option maxRecDepth 100000

theorem CutD.okay {L : List Ar} {f m : Int} {M : List Ar} (h : CutD L f m 0 M) : OkD M ∧ CovD L f m ∧ FitD f m ∧ ∀ p, atD M p = lessD f m (atD L) p := by
  obtain ⟨⟨h1, h2⟩, h3, h4⟩ := two_okD (by decide) (by decide) h
  obtain ⟨h5, h6⟩ := h4.ok
  exact ⟨h5, h3, h2, h6⟩
theorem CutD.pages {L : List Ar} {f m : Int} {M : List Ar} (h : CutD L f m 0 M) : pagesD L = pagesD M + m := by
  obtain ⟨-, h3, h2, h5⟩ := h.okay
  have hh := cntD_has (f, m, true) h2
  simp only at hh
  rw [← hh]
  refine cntD_or (fun p => ?_) (fun p hp => ?_) 0 1024
  · rw [h5]
    unfold lessD
    by_cases hp : f ≤ p ∧ p < f + m
    · rw [if_pos hp]
      have : HasD (f, m, true) p := hp
      cases ha : atD L p with
      | none => exact absurd ha (h3 p hp.1 hp.2)
      | some d => simp [this]
    · rw [if_neg hp]
      have : ¬ HasD (f, m, true) p := hp
      simp [this]
  · rw [h5] at hp
    unfold lessD at hp
    by_cases hh : f ≤ p ∧ p < f + m
    · rw [if_pos hh] at hp; simp at hp
    · have : ¬ HasD (f, m, true) p := hh
      simp [this]
theorem CutD.bad {L : List Ar} {f m : Int} {M : List Ar} {er : Int} (h : CutD L f m er M) (ok : OkD L ∧ FitD f m) (n : er ≠ 0) : (¬ CovD L f m ∧ er = 4 ∨ CovD L f m ∧ er = 3) := by
  rcases h with ⟨h, _⟩ | ⟨_, ⟨h1, h2, _⟩ | ⟨h1, h2⟩⟩
  · exact absurd ok h
  · exact Or.inl ⟨h1, h2⟩
  · rcases h2.er with e | ⟨e, _⟩
    · exact absurd e n
    · exact Or.inr ⟨h1, e⟩
theorem cov_next {L : List Ar} {f : Int} {j : Nat} : CovD L f (j + 1 : Nat) ↔ CovD L f j ∧ atD L (f + j) ≠ none := by
  constructor
  · intro h
    exact ⟨fun p h1 h2 => h p h1 (by omega), h _ (by omega) (by omega)⟩
  · rintro ⟨h1, h2⟩ p p1 p2
    by_cases e : p = f + j
    · rw [e]; exact h2
    · exact h1 p p1 (by omega)
theorem covers_of {L : List Ar} {f m : Int} (ok : OkD L ∧ FitD f m) {o : Bool} (h : o = true ↔ CovD L f m) : CoversD L f m o := by
  unfold CoversD
  rw [h]
  exact ⟨fun c => ⟨ok.1, ok.2, c⟩, fun c => c.2.2⟩
theorem regionCovers_far (n c : Nat) (a : Option Addr) (f m : Int) (W : World) (hn : 100 < n) : Calls Try.prog 9 #[.slice a n c, .int .i64 f, .int .i64 m] W fun e w' => e = .returned (.bool true) ∧ Below W.heap.size W w' := by
  go_enter Try.func9, Try.ntmps9
  go_wp2_with (go_at_call 10; refine (awake14 _).mono ?_; rintro e w2 ⟨rfl, hb⟩; have B := Lib.hid hb; clear hb)
  go_ret
  exact ⟨rfl, B.out⟩
set_option maxHeartbeats 16000000 in
theorem regionCovers_near (L : List Ar) (v : Value) (f g : Int) (hf : I64 f) (hg : I64 g) (W : World) (hl : L.length ≤ 100) (h : ArAt W v L) : Calls Try.prog 9 #[v, .int .i64 f, .int .i64 g] W fun e w' => e = .returned (.bool true) ∧ Below W.heap.size W w' := by
  obtain ⟨k, hk⟩ := chk_ex L
  have CK := Lib.hid (check_okD L v W h hk)
  have AP := Lib.hid (fun V => fits14 f g hf hg V)
  have A0 := Lib.hid h
  have HF := Lib.hid (And.intro hf hg)
  obtain ⟨a, c, rfl⟩ := h.form
  obtain ⟨n, hn⟩ : ∃ n, n = L.length := ⟨_, rfl⟩
  rw [← hn] at A0 CK hl ⊢
  have HN := Lib.hid hn
  clear h hn hf hg
  rcases hk with ⟨hok, rfl⟩ | ⟨hok, rfl⟩
  · by_cases hfm : FitD f g
    · rw [show decide (FitD f g) = true from decide_eq_true hfm] at AP
      have OKS : Hid (OkD L ∧ FitD f g) := Lib.hid ⟨hok, hfm⟩
      have FL := Lib.hid (fun p V (hV : ArAt V (.slice a n c) L) => Find_okD L _ p V hV (Or.inl ⟨hok, rfl⟩))
      have PL := Lib.hid (fun V (hV : ArAt V (.slice a n c) L) => Pages_okD L _ V hV (pages_ok hok))
      have CU := Lib.hid (fun V (hV : ArAt V (.slice a n c) L) => Cut_okD L _ f g HF.out.1 HF.out.2 V hV)
      have CO := Lib.hid (fun o (ho : o = true ↔ CovD L f g) V (hV : ArAt V (.slice a n c) L) => Covers_okD L _ f g HF.out.1 HF.out.2 V hV (covers_of OKS.out ho))
      obtain ⟨z1, z2, z3⟩ := hfm
      obtain ⟨q, rfl⟩ : ∃ q : Nat, g = (q : Int) := ⟨g.toNat, by omega⟩
      clear hok
      go_enter Try.func9, Try.ntmps9
      go_wp2_with fail
      refine CK.out.mono ?_
      rintro e w1 ⟨rfl, hb⟩
      have B1 := Lib.hid hb
      clear hb
      go_wp2_with (first
        | (go_at_call 26; refine (AP.out _).mono ?_; rintro e w2 ⟨rfl, rfl⟩))
      go_loopw [7, 8] (fun t i wr => ∃ (j : Nat) (o : Bool), i = .int .i64 (f + (j : Int)) ∧ j ≤ q ∧ Below W.heap.size W wr ∧ t = .bool o ∧ (o = true ↔ CovD L f j)) (fun _ i _ => ((f + q) - intOf i).toNat)
      case atStart => exact ⟨0, true, by simp, Nat.zero_le _, B1.out, rfl, ⟨fun _ p h1 h2 => by omega, fun _ => rfl⟩⟩
      case round =>
        obtain ⟨j, o, rfl, hj, hB, rfl, hone⟩ := hrel
        have B := Lib.hid hB
        have ONE := Lib.hid hone
        clear hB hone
        by_cases hlt : j < q
        · have hlt2 : f + (j : Int) < f + (q : Int) := by omega
          have FF := Lib.hid (FL.out (f + (j : Int)) _ (A0.out.below B.out))
          cases hp : atD L (f + (j : Int)) with
          | none =>
            have NX : Hid (False ↔ CovD L f (j + 1 : Nat)) := Lib.hid (by rw [cov_next, hp]; simp)
            rw [hp, says_none] at FF
            clear hp
            cases o with
            | true =>
              go_wp2_with fail
              refine FF.out.mono ?_
              rintro e w3 ⟨rfl, hb3⟩
              have B3 := Lib.hid (B.out.trans (hb3.mono B.out.size))
              clear hb3
              go_wp2
              go_roundw
              case rel => exact ⟨j + 1, false, by rw [show (((j + 1 : Nat) : Int)) = (j : Int) + 1 by omega, Int.add_assoc], by omega, B3.out, rfl, ⟨(fun h => by cases h), fun h => (NX.out.2 h).elim⟩⟩
              case measure => simp [intOf]; omega
            | false =>
              go_wp2_with fail
              refine FF.out.mono ?_
              rintro e w3 ⟨rfl, hb3⟩
              have B3 := Lib.hid (B.out.trans (hb3.mono B.out.size))
              clear hb3
              go_wp2
              go_roundw
              case rel => exact ⟨j + 1, false, by rw [show (((j + 1 : Nat) : Int)) = (j : Int) + 1 by omega, Int.add_assoc], by omega, B3.out, rfl, ⟨(fun h => by cases h), fun h => (NX.out.2 h).elim⟩⟩
              case measure => simp [intOf]; omega
          | some d =>
            have NX : Hid (o = true ↔ CovD L f (j + 1 : Nat)) := Lib.hid (by rw [cov_next, hp, ONE.out]; simp)
            rw [hp, says_some] at FF
            clear hp
            cases o with
            | true =>
              have NX2 : Hid (True ↔ CovD L f (j + 1 : Nat)) := Lib.hid (by rw [← NX.out]; simp)
              clear NX
              go_wp2_with fail
              refine FF.out.mono ?_
              rintro e w3 ⟨rfl, hb3⟩
              have B3 := Lib.hid (B.out.trans (hb3.mono B.out.size))
              clear hb3
              go_wp2
              go_roundw
              case rel => exact ⟨j + 1, true, by rw [show (((j + 1 : Nat) : Int)) = (j : Int) + 1 by omega, Int.add_assoc], by omega, B3.out, rfl, ⟨fun _ => NX2.out.1 trivial, fun _ => rfl⟩⟩
              case measure => simp [intOf]; omega
            | false =>
              have NX2 : Hid (False ↔ CovD L f (j + 1 : Nat)) := Lib.hid (by rw [← NX.out]; simp)
              clear NX
              go_wp2_with fail
              refine FF.out.mono ?_
              rintro e w3 ⟨rfl, hb3⟩
              have B3 := Lib.hid (B.out.trans (hb3.mono B.out.size))
              clear hb3
              go_wp2
              go_roundw
              case rel => exact ⟨j + 1, false, by rw [show (((j + 1 : Nat) : Int)) = (j : Int) + 1 by omega, Int.add_assoc], by omega, B3.out, rfl, ⟨(fun h => by cases h), fun h => (NX2.out.2 h).elim⟩⟩
              case measure => simp [intOf]; omega
        · obtain rfl : j = q := by omega
          have CV := Lib.hid (CO.out o ONE.out)
          clear hlt
          go_wp2_with fail
          refine (CV.out _ (A0.out.below B.out)).mono ?_
          rintro e w3 ⟨rfl, hb⟩
          have B3 := Lib.hid (B.out.trans (hb.mono B.out.size))
          clear hb
          go_wp2_with fail
          refine (CU.out _ (A0.out.below B3.out)).mono ?_
          rintro e w4 ⟨v4, er, K, rfl, hk, hat, hb⟩
          have B4 := Lib.hid (B3.out.trans (hb.mono B3.out.size))
          have K4 := Lib.hid hat
          have HK := Lib.hid hk
          obtain ⟨a4, c4, rfl⟩ := hat.form
          clear hk hat hb
          by_cases hz : er = 0
          · subst hz
            obtain ⟨k1, k2, k3, k4⟩ := HK.out.okay
            obtain rfl : o = true := ONE.out.2 k2
            have hpg := HK.out.pages
            obtain ⟨l1, l2⟩ := pages_lim L
            obtain ⟨l3, l4⟩ := pages_lim K
            obtain ⟨m, hm⟩ : ∃ m, m = K.length := ⟨_, rfl⟩
            rw [← hm] at K4 ⊢
            have PK := Lib.hid (fun V (hV : ArAt V (.slice a4 m c4) K) => Pages_okD K _ V hV (pages_ok k1))
            have FK := Lib.hid (fun p V (hV : ArAt V (.slice a4 m c4) K) => Find_okD K _ p V hV (Or.inl ⟨k1, rfl⟩))
            have K2 := Lib.hid k2
            have KE := Lib.hid k4
            generalize pagesD L = pl at PL hpg l1 l2
            generalize pagesD K = pk at PK hpg l3 l4
            have HPG := Lib.hid hpg
            have LIM : Hid ((0 ≤ pl ∧ pl ≤ 1024) ∧ 0 ≤ pk ∧ pk ≤ 1024) := Lib.hid ⟨⟨l1, l2⟩, l3, l4⟩
            clear k1 k2 k3 k4 hpg hm l1 l2 l3 l4
            go_wp2_with fail
            go_loopw [13] (fun i wr => ∃ i' : Nat, i = .int .i64 (i' : Int) ∧ i' ≤ 1024 ∧ Below w4.heap.size w4 wr) (fun i _ => (1024 - (intOf i).toNat))
            case atStart => exact ⟨0, rfl, Nat.zero_le _, Below.refl _ _⟩
            case round =>
              obtain ⟨t, rfl, ht, hB⟩ := hrel
              have BB := Lib.hid hB
              clear hB
              by_cases hlt : t < 1024
              · have F1 := Lib.hid (fun V (hV : Below W.heap.size W V) => FL.out (t : Int) V (A0.out.below hV))
                have F2 := Lib.hid (fun V (hV : Below w4.heap.size w4 V) => FK.out (t : Int) V (K4.out.below hV))
                have e5 := KE.out (t : Int)
                rw [e5] at F2
                clear e5
                unfold lessD at F2
                by_cases hp : f ≤ (t : Int) ∧ (t : Int) < f + (j : Int)
                · rw [if_pos hp, says_none] at F2
                  obtain ⟨d, hd⟩ : ∃ d, atD L (t : Int) = some d := by
                    cases hh : atD L (t : Int) with
                    | none => exact absurd hh (K2.out _ hp.1 hp.2)
                    | some d => exact ⟨d, rfl⟩
                  rw [hd, says_some] at F1
                  obtain ⟨p1, p2⟩ := hp
                  clear hd
                  go_wp2_with fail
                  refine (F1.out _ (B4.out.trans (BB.out.mono B4.out.size))).mono ?_
                  rintro e w6 ⟨rfl, hb⟩
                  have B6 := Lib.hid (BB.out.trans (hb.mono BB.out.size))
                  clear hb
                  go_wp2_with fail
                  refine (F2.out _ B6.out).mono ?_
                  rintro e w7 ⟨rfl, hb⟩
                  have B7 := Lib.hid (B6.out.trans (hb.mono B6.out.size))
                  clear hb
                  go_wp2
                  go_roundw
                  case rel => exact ⟨t + 1, by go_num, by omega, B7.out⟩
                  case measure => simp [intOf]; omega
                · rw [if_neg hp] at F2
                  cases hf : atD L (t : Int) with
                  | none =>
                    rw [hf, says_none] at F1 F2
                    clear hf
                    by_cases p1 : f ≤ (t : Int)
                    · have p2 : ¬ (t : Int) < f + (j : Int) := fun h => hp ⟨p1, h⟩
                      clear hp
                      go_wp2_with fail
                      refine (F1.out _ (B4.out.trans (BB.out.mono B4.out.size))).mono ?_
                      rintro e w6 ⟨rfl, hb⟩
                      have B6 := Lib.hid (BB.out.trans (hb.mono BB.out.size))
                      clear hb
                      go_wp2_with fail
                      refine (F2.out _ B6.out).mono ?_
                      rintro e w7 ⟨rfl, hb⟩
                      have B7 := Lib.hid (B6.out.trans (hb.mono B6.out.size))
                      clear hb
                      go_wp2
                      go_roundw
                      case rel => exact ⟨t + 1, by go_num, by omega, B7.out⟩
                      case measure => simp [intOf]; omega
                    · clear hp
                      go_wp2_with fail
                      refine (F1.out _ (B4.out.trans (BB.out.mono B4.out.size))).mono ?_
                      rintro e w6 ⟨rfl, hb⟩
                      have B6 := Lib.hid (BB.out.trans (hb.mono BB.out.size))
                      clear hb
                      go_wp2_with fail
                      refine (F2.out _ B6.out).mono ?_
                      rintro e w7 ⟨rfl, hb⟩
                      have B7 := Lib.hid (B6.out.trans (hb.mono B6.out.size))
                      clear hb
                      go_wp2
                      go_roundw
                      case rel => exact ⟨t + 1, by go_num, by omega, B7.out⟩
                      case measure => simp [intOf]; omega
                  | some d =>
                    rw [hf, says_some] at F1 F2
                    clear hf
                    by_cases p1 : f ≤ (t : Int)
                    · have p2 : ¬ (t : Int) < f + (j : Int) := fun h => hp ⟨p1, h⟩
                      clear hp
                      go_wp2_with fail
                      refine (F1.out _ (B4.out.trans (BB.out.mono B4.out.size))).mono ?_
                      rintro e w6 ⟨rfl, hb⟩
                      have B6 := Lib.hid (BB.out.trans (hb.mono BB.out.size))
                      clear hb
                      go_wp2_with fail
                      refine (F2.out _ B6.out).mono ?_
                      rintro e w7 ⟨rfl, hb⟩
                      have B7 := Lib.hid (B6.out.trans (hb.mono B6.out.size))
                      clear hb
                      go_wp2
                      go_roundw
                      case rel => exact ⟨t + 1, by go_num, by omega, B7.out⟩
                      case measure => simp [intOf]; omega
                    · clear hp
                      go_wp2_with fail
                      refine (F1.out _ (B4.out.trans (BB.out.mono B4.out.size))).mono ?_
                      rintro e w6 ⟨rfl, hb⟩
                      have B6 := Lib.hid (BB.out.trans (hb.mono BB.out.size))
                      clear hb
                      go_wp2_with fail
                      refine (F2.out _ B6.out).mono ?_
                      rintro e w7 ⟨rfl, hb⟩
                      have B7 := Lib.hid (B6.out.trans (hb.mono B6.out.size))
                      clear hb
                      go_wp2
                      go_roundw
                      case rel => exact ⟨t + 1, by go_num, by omega, B7.out⟩
                      case measure => simp [intOf]; omega
              · obtain rfl : t = 1024 := by omega
                have hw : IntKind.i64.wrap (pl - (j : Int)) = pk := (IntWalk.i64_in _ (by have := LIM.out; omega)).trans (by have := HPG.out; omega)
                clear hlt
                go_wp2_with fail
                refine (PK.out _ (K4.out.below BB.out)).mono ?_
                rintro e w5 ⟨rfl, hb⟩
                have B5 := Lib.hid (BB.out.trans (hb.mono BB.out.size))
                clear hb
                have G5 := Lib.hid (B4.out.trans (B5.out.mono B4.out.size))
                go_wp2_with fail
                refine (PL.out _ (A0.out.below G5.out)).mono ?_
                rintro e w6 ⟨rfl, hb⟩
                have B6 := Lib.hid (G5.out.trans (hb.mono G5.out.size))
                clear hb
                go_wp2_with fail
                refine (awake14 _).mono ?_
                rintro e w7 ⟨rfl, hb⟩
                have B7 := Lib.hid (B6.out.trans (hb.mono B6.out.size))
                clear hb
                go_wp2
                go_ret
                exact ⟨rfl, B7.out⟩
          · have hne : (er != 0) = true := by simpa using hz
            rcases HK.out.bad OKS.out hz with ⟨hc, rfl⟩ | ⟨hc, rfl⟩
            · obtain rfl : o = false := by
                cases o with
                | false => rfl
                | true => exact absurd (ONE.out.1 rfl) hc
              clear hc hz
              go_wp2_with fail
              refine (awake14 _).mono ?_
              rintro e w7 ⟨rfl, hb⟩
              have B7 := Lib.hid (B4.out.trans (hb.mono B4.out.size))
              clear hb
              go_wp2
              go_ret
              exact ⟨rfl, B7.out⟩
            · obtain rfl : o = true := ONE.out.2 hc
              clear hc hz
              go_wp2_with fail
              refine (awake14 _).mono ?_
              rintro e w7 ⟨rfl, hb⟩
              have B7 := Lib.hid (B4.out.trans (hb.mono B4.out.size))
              clear hb
              go_wp2
              go_ret
              exact ⟨rfl, B7.out⟩
    · rw [show decide (FitD f g) = false from decide_eq_false hfm] at AP
      clear hok hfm
      go_enter Try.func9, Try.ntmps9
      go_wp2_with fail
      refine CK.out.mono ?_
      rintro e w1 ⟨rfl, hb⟩
      have B1 := Lib.hid hb
      clear hb
      go_wp2_with (first
        | (go_at_call 26; refine (AP.out _).mono ?_; rintro e w2 ⟨rfl, rfl⟩)
        | (go_at_call 10; refine (awake14 _).mono ?_; rintro e w7 ⟨rfl, hb⟩; have B7 := Lib.hid (B1.out.trans (hb.mono B1.out.size)); clear hb))
      go_ret
      exact ⟨rfl, B7.out⟩
  · clear hok
    go_enter Try.func9, Try.ntmps9
    go_wp2_with fail
    refine CK.out.mono ?_
    rintro e w1 ⟨rfl, hb⟩
    have B1 := Lib.hid hb
    clear hb
    go_wp2_with (first
      | (go_at_call 10; refine (awake14 _).mono ?_; rintro e w7 ⟨rfl, hb⟩; have B7 := Lib.hid (B1.out.trans (hb.mono B1.out.size)); clear hb))
    go_ret
    exact ⟨rfl, B7.out⟩
theorem regionCovers_walk (v : Value) (L : List Ar) (f m : Int) (W : World) (h : ArgAr W v L) (hf : I64 f) (hm : I64 m) : Calls Try.prog 9 #[v, .int .i64 f, .int .i64 m] W fun e w' => e = .returned (.bool true) ∧ Below W.heap.size W w' := by
  by_cases hl : L.length ≤ 100
  · exact regionCovers_near L v f m hf hm W hl (h.near hl)
  · obtain ⟨a, c, rfl⟩ := h.form
    exact regionCovers_far _ c a f m W (by omega)
end Go.Proofs.Ytmfpoagimedhnaa
