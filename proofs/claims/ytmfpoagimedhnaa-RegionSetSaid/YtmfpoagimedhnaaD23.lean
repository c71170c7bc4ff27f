/- The walk of the law RegionSet. Condition: the slice lies in memory. Written by gen/gen_d23.py. -/
import Derived.Test.YtmfpoagimedhnaaD22
namespace Go.Proofs.Ytmfpoagimedhnaa
open Go.RowKit Go.Maps
set_option maxRecDepth 100000

theorem SetD.okay {L : List Ar} {f m : Int} {w : Bool} {M : List Ar} (h : SetD L f m w 0 M) : OkD L ∧ FitD f m ∧ CovD L f m ∧ OkD M ∧ ∀ p, atD M p = withD (f, m, w) (atD L) p := by
  obtain ⟨⟨h1, h2⟩, h3, h4⟩ := two_okD (by decide) (by decide) h
  obtain ⟨h5, h6⟩ := h4.ok
  exact ⟨h1, h2, h3, h5, h6⟩
theorem SetD.pages {L : List Ar} {f m : Int} {w : Bool} {M : List Ar} (h : SetD L f m w 0 M) : pagesD M = pagesD L := by
  obtain ⟨-, -, h3, -, h5⟩ := h.okay
  refine cntD_congr (fun p => ?_) 0 1024
  rw [h5]
  unfold withD
  by_cases hp : HasD (f, m, w) p
  · rw [if_pos hp]
    cases ha : atD L p with
    | none => exact absurd ha (h3 p hp.1 hp.2)
    | some d => rfl
  · rw [if_neg hp]
theorem SetD.cov {L : List Ar} {f m : Int} {w : Bool} {M : List Ar} (h : SetD L f m w 0 M) : CovD M f m := fun p p1 p2 => by
  obtain ⟨-, -, -, -, h5⟩ := h.okay
  rw [h5]
  unfold withD
  rw [if_pos ⟨p1, p2⟩]
  simp
theorem SetD.undo {L : List Ar} {f m : Int} {w u : Bool} {M K : List Ar} {er : Int} (h : SetD L f m w 0 M) (k : SetD M f m u er K) (ha : ∀ p, f ≤ p → p < f + m → atD L p = some u) : er = 0 ∧ K = L := by
  obtain ⟨h1, h2, h3, h4, h5⟩ := h.okay
  refine k.uniq (Or.inr ⟨⟨h4, h2⟩, Or.inr ⟨h.cov, AnsD.few h1.up (fun p => ?_) h1.few⟩⟩)
  unfold withD
  by_cases hp : HasD (f, m, u) p
  · rw [if_pos hp]; exact ha p hp.1 hp.2
  · rw [if_neg hp, h5]
    exact (if_neg hp).symm
theorem regionSet_far (n c : Nat) (a : Option Addr) (f m : Int) (d : Bool) (W : World) (hn : 100 < n) : Calls Try.prog 7 #[.slice a n c, .int .i64 f, .int .i64 m, .bool d] W fun e w' => e = .returned (.bool true) ∧ Below W.heap.size W w' := by
  go_enter Try.func7, Try.ntmps7
  go_wp2_with (go_at_call 10; refine (awake14 _).mono ?_; rintro e w2 ⟨rfl, hb⟩; have B := Lib.hid hb; clear hb)
  go_ret
  exact ⟨rfl, B.out⟩
set_option maxHeartbeats 16000000 in
theorem regionSet_near (L : List Ar) (v : Value) (f g : Int) (w : Bool) (hf : I64 f) (hg : I64 g) (W : World) (hl : L.length ≤ 100) (h : ArAt W v L) : Calls Try.prog 7 #[v, .int .i64 f, .int .i64 g, .bool w] W fun e w' => e = .returned (.bool true) ∧ Below W.heap.size W w' := by
  have A0 := Lib.hid h
  have SE := Lib.hid (Set_okD L v f g w hf hg W h)
  obtain ⟨a, c, rfl⟩ := h.form
  obtain ⟨n, hn⟩ : ∃ n, n = L.length := ⟨_, rfl⟩
  rw [← hn] at A0 SE hl ⊢
  have HN := Lib.hid hn
  have HF := Lib.hid (And.intro hf hg)
  clear h hn hf hg
  go_enter Try.func7, Try.ntmps7
  go_wp2_with fail
  refine SE.out.mono ?_
  rintro e w1 ⟨v1, er, M, rfl, ha, hat, hb⟩
  have HA := Lib.hid ha
  have B1 := Lib.hid hb
  have M1 := Lib.hid hat
  clear ha hat hb
  obtain ⟨a1, c1, rfl⟩ := M1.out.form
  obtain ⟨m, hm⟩ : ∃ m, m = M.length := ⟨_, rfl⟩
  rw [← hm] at M1 ⊢
  have HM := Lib.hid hm
  clear hm
  by_cases hz : er = 0
  · subst hz
    obtain ⟨o1, o2, o3, o4, o5⟩ := HA.out.okay
    have PM := Lib.hid (fun V (hV : ArAt V (.slice a1 m c1) M) => Pages_okD M _ V hV (pages_ok o4))
    have PL := Lib.hid (fun V (hV : ArAt V (.slice a n c) L) => Pages_okD L _ V hV (pages_ok o1))
    rw [HA.out.pages] at PM
    have CM := Lib.hid (fun V (hV : ArAt V (.slice a1 m c1) M) => check_okD M _ V hV (Or.inl ⟨o4, rfl⟩))
    have FM := Lib.hid (fun p V (hV : ArAt V (.slice a1 m c1) M) => Find_okD M _ p V hV (Or.inl ⟨o4, rfl⟩))
    have FL := Lib.hid (fun p V (hV : ArAt V (.slice a n c) L) => Find_okD L _ p V hV (Or.inl ⟨o1, rfl⟩))
    have SM := Lib.hid (fun u V (hV : ArAt V (.slice a1 m c1) M) => Set_okD M _ f g u HF.out.1 HF.out.2 V hV)
    have O3 := Lib.hid o3
    have O5 := Lib.hid o5
    obtain ⟨z1, z2, z3⟩ := o2
    generalize pagesD L = pl at PM PL
    obtain ⟨u, hu⟩ : ∃ u, atD L f = some u := by
      cases hh : atD L f with
      | none => exact absurd hh (o3 f (by omega) (by omega))
      | some u => exact ⟨u, rfl⟩
    have F0 := Lib.hid (fun V (hV : ArAt V (.slice a n c) L) => FL.out f V hV)
    rw [hu, says_some] at F0
    have HU := Lib.hid hu
    clear o1 o3 o4 o5 hu
    go_wp2_with fail
    refine (CM.out _ M1.out).mono ?_
    rintro e w2 ⟨rfl, hb⟩
    have B2 := Lib.hid (B1.out.trans (hb.mono B1.out.size))
    have M2 := Lib.hid (M1.out.below hb)
    clear hb
    go_wp2_with fail
    refine (PM.out _ M2.out).mono ?_
    rintro e w3 ⟨rfl, hb⟩
    have B3 := Lib.hid (B2.out.trans (hb.mono B2.out.size))
    have M3 := Lib.hid (M2.out.below hb)
    clear hb
    go_wp2_with fail
    refine (PL.out _ (A0.out.below B3.out)).mono ?_
    rintro e w4 ⟨rfl, hb⟩
    have B4 := Lib.hid (B3.out.trans (hb.mono B3.out.size))
    have M4 := Lib.hid (M3.out.below hb)
    clear hb
    go_wp2_with fail
    refine (F0.out _ (A0.out.below B4.out)).mono ?_
    rintro e w5 ⟨rfl, hb⟩
    have B5 := Lib.hid (B4.out.trans (hb.mono B4.out.size))
    have M5 := Lib.hid (M4.out.below hb)
    clear hb
    go_wp2_with fail
    go_loopw [11, 14] (fun q i wr => ∃ (j : Nat) (o : Bool), i = .int .i64 (j : Int) ∧ j ≤ 1024 ∧ Below w5.heap.size w5 wr ∧ q = .bool o ∧ (o = true → ∀ p, f ≤ p → p < f + g → p < (j : Int) → atD L p = some u)) (fun _ i _ => (1024 - (intOf i).toNat))
    case atStart => exact ⟨0, true, rfl, Nat.zero_le _, Below.refl _ _, rfl, fun _ p h1 h2 h3 => by omega⟩
    case round =>
      obtain ⟨j, o, rfl, hj, hB, rfl, hone⟩ := hrel
      have B := Lib.hid hB
      have ONE := Lib.hid hone
      clear hB hone
      by_cases hlt : j < 1024
      · have F1 := Lib.hid (FM.out (j : Int) _ (M5.out.below B.out))
        have F2 := Lib.hid (fun V (hV : Below W.heap.size W V) => FL.out (j : Int) V (A0.out.below hV))
        have e5 := O5.out (j : Int)
        rw [e5] at F1
        clear e5
        unfold withD at F1
        have OUT : Hid (¬ HasD (f, g, w) (j : Int) → o = true → ∀ p, f ≤ p → p < f + g → p < ((j + 1 : Nat) : Int) → atD L p = some u) := Lib.hid fun hn ho p p1 p2 p3 => ONE.out ho p p1 p2 (by
          by_cases e : p = (j : Int)
          · exact absurd ⟨e ▸ p1, e ▸ p2⟩ hn
          · omega)
        have INN : Hid (atD L (j : Int) = some u → o = true → ∀ p, f ≤ p → p < f + g → p < ((j + 1 : Nat) : Int) → atD L p = some u) := Lib.hid fun hj ho p p1 p2 p3 => by
          by_cases e : p = (j : Int)
          · rw [e]; exact hj
          · exact ONE.out ho p p1 p2 (by omega)
        by_cases hp : HasD (f, g, w) (j : Int)
        · rw [if_pos hp, says_some] at F1
          obtain ⟨d, hd⟩ : ∃ d, atD L (j : Int) = some d := by
            cases hh : atD L (j : Int) with
            | none => exact absurd hh (O3.out _ hp.1 hp.2)
            | some d => exact ⟨d, rfl⟩
          rw [hd, says_some] at F2
          obtain ⟨p1, p2⟩ := hp
          simp only at p1 p2
          cases hdu : (d == u) with
          | true =>
            have IN2 := Lib.hid (INN.out (by rw [hd, show d = u by simpa using hdu]))
            clear hd
            cases o with
            | true =>
              go_wp2_with fail
              refine F1.out.mono ?_
              rintro e w6 ⟨rfl, hb⟩
              have B6 := Lib.hid (B.out.trans (hb.mono B.out.size))
              clear hb
              go_wp2_with fail
              refine (F2.out _ (B5.out.trans (B6.out.mono B5.out.size))).mono ?_
              rintro e w7 ⟨rfl, hb⟩
              have B7 := Lib.hid (B6.out.trans (hb.mono B6.out.size))
              clear hb
              go_wp2
              go_roundw
              case rel => exact ⟨j + 1, true, by go_num, by omega, B7.out, rfl, fun _ => IN2.out (by trivial)⟩
              case measure => simp [intOf]; omega
            | false =>
              go_wp2_with fail
              refine F1.out.mono ?_
              rintro e w6 ⟨rfl, hb⟩
              have B6 := Lib.hid (B.out.trans (hb.mono B.out.size))
              clear hb
              go_wp2_with fail
              refine (F2.out _ (B5.out.trans (B6.out.mono B5.out.size))).mono ?_
              rintro e w7 ⟨rfl, hb⟩
              have B7 := Lib.hid (B6.out.trans (hb.mono B6.out.size))
              clear hb
              go_wp2
              go_roundw
              case rel => exact ⟨j + 1, false, by go_num, by omega, B7.out, rfl, fun h => by cases h⟩
              case measure => simp [intOf]; omega
          | false =>
            clear hd
            cases o with
            | true =>
              go_wp2_with fail
              refine F1.out.mono ?_
              rintro e w6 ⟨rfl, hb⟩
              have B6 := Lib.hid (B.out.trans (hb.mono B.out.size))
              clear hb
              go_wp2_with fail
              refine (F2.out _ (B5.out.trans (B6.out.mono B5.out.size))).mono ?_
              rintro e w7 ⟨rfl, hb⟩
              have B7 := Lib.hid (B6.out.trans (hb.mono B6.out.size))
              clear hb
              go_wp2
              go_roundw
              case rel => exact ⟨j + 1, false, by go_num, by omega, B7.out, rfl, fun h => by cases h⟩
              case measure => simp [intOf]; omega
            | false =>
              go_wp2_with fail
              refine F1.out.mono ?_
              rintro e w6 ⟨rfl, hb⟩
              have B6 := Lib.hid (B.out.trans (hb.mono B.out.size))
              clear hb
              go_wp2_with fail
              refine (F2.out _ (B5.out.trans (B6.out.mono B5.out.size))).mono ?_
              rintro e w7 ⟨rfl, hb⟩
              have B7 := Lib.hid (B6.out.trans (hb.mono B6.out.size))
              clear hb
              go_wp2
              go_roundw
              case rel => exact ⟨j + 1, false, by go_num, by omega, B7.out, rfl, fun h => by cases h⟩
              case measure => simp [intOf]; omega
        · rw [if_neg hp] at F1
          have OU2 := Lib.hid (OUT.out hp)
          cases hf : atD L (j : Int) with
          | none =>
            rw [hf, says_none] at F1 F2
            clear hf
            by_cases p1 : f ≤ (j : Int)
            · have p2 : ¬ (j : Int) < f + g := fun h => hp ⟨p1, h⟩
              clear hp
              cases o with
              | true =>
                go_wp2_with fail
                refine F1.out.mono ?_
                rintro e w6 ⟨rfl, hb⟩
                have B6 := Lib.hid (B.out.trans (hb.mono B.out.size))
                clear hb
                go_wp2_with fail
                refine (F2.out _ (B5.out.trans (B6.out.mono B5.out.size))).mono ?_
                rintro e w7 ⟨rfl, hb⟩
                have B7 := Lib.hid (B6.out.trans (hb.mono B6.out.size))
                clear hb
                go_wp2
                go_roundw
                case rel => exact ⟨j + 1, true, by go_num, by omega, B7.out, rfl, fun _ => OU2.out (by trivial)⟩
                case measure => simp [intOf]; omega
              | false =>
                go_wp2_with fail
                refine F1.out.mono ?_
                rintro e w6 ⟨rfl, hb⟩
                have B6 := Lib.hid (B.out.trans (hb.mono B.out.size))
                clear hb
                go_wp2_with fail
                refine (F2.out _ (B5.out.trans (B6.out.mono B5.out.size))).mono ?_
                rintro e w7 ⟨rfl, hb⟩
                have B7 := Lib.hid (B6.out.trans (hb.mono B6.out.size))
                clear hb
                go_wp2
                go_roundw
                case rel => exact ⟨j + 1, false, by go_num, by omega, B7.out, rfl, fun h => by cases h⟩
                case measure => simp [intOf]; omega
            · clear hp
              cases o with
              | true =>
                go_wp2_with fail
                refine F1.out.mono ?_
                rintro e w6 ⟨rfl, hb⟩
                have B6 := Lib.hid (B.out.trans (hb.mono B.out.size))
                clear hb
                go_wp2_with fail
                refine (F2.out _ (B5.out.trans (B6.out.mono B5.out.size))).mono ?_
                rintro e w7 ⟨rfl, hb⟩
                have B7 := Lib.hid (B6.out.trans (hb.mono B6.out.size))
                clear hb
                go_wp2
                go_roundw
                case rel => exact ⟨j + 1, true, by go_num, by omega, B7.out, rfl, fun _ => OU2.out (by trivial)⟩
                case measure => simp [intOf]; omega
              | false =>
                go_wp2_with fail
                refine F1.out.mono ?_
                rintro e w6 ⟨rfl, hb⟩
                have B6 := Lib.hid (B.out.trans (hb.mono B.out.size))
                clear hb
                go_wp2_with fail
                refine (F2.out _ (B5.out.trans (B6.out.mono B5.out.size))).mono ?_
                rintro e w7 ⟨rfl, hb⟩
                have B7 := Lib.hid (B6.out.trans (hb.mono B6.out.size))
                clear hb
                go_wp2
                go_roundw
                case rel => exact ⟨j + 1, false, by go_num, by omega, B7.out, rfl, fun h => by cases h⟩
                case measure => simp [intOf]; omega
          | some d =>
            rw [hf, says_some] at F1 F2
            clear hf
            by_cases p1 : f ≤ (j : Int)
            · have p2 : ¬ (j : Int) < f + g := fun h => hp ⟨p1, h⟩
              clear hp
              cases o with
              | true =>
                go_wp2_with fail
                refine F1.out.mono ?_
                rintro e w6 ⟨rfl, hb⟩
                have B6 := Lib.hid (B.out.trans (hb.mono B.out.size))
                clear hb
                go_wp2_with fail
                refine (F2.out _ (B5.out.trans (B6.out.mono B5.out.size))).mono ?_
                rintro e w7 ⟨rfl, hb⟩
                have B7 := Lib.hid (B6.out.trans (hb.mono B6.out.size))
                clear hb
                go_wp2
                go_roundw
                case rel => exact ⟨j + 1, true, by go_num, by omega, B7.out, rfl, fun _ => OU2.out (by trivial)⟩
                case measure => simp [intOf]; omega
              | false =>
                go_wp2_with fail
                refine F1.out.mono ?_
                rintro e w6 ⟨rfl, hb⟩
                have B6 := Lib.hid (B.out.trans (hb.mono B.out.size))
                clear hb
                go_wp2_with fail
                refine (F2.out _ (B5.out.trans (B6.out.mono B5.out.size))).mono ?_
                rintro e w7 ⟨rfl, hb⟩
                have B7 := Lib.hid (B6.out.trans (hb.mono B6.out.size))
                clear hb
                go_wp2
                go_roundw
                case rel => exact ⟨j + 1, false, by go_num, by omega, B7.out, rfl, fun h => by cases h⟩
                case measure => simp [intOf]; omega
            · clear hp
              cases o with
              | true =>
                go_wp2_with fail
                refine F1.out.mono ?_
                rintro e w6 ⟨rfl, hb⟩
                have B6 := Lib.hid (B.out.trans (hb.mono B.out.size))
                clear hb
                go_wp2_with fail
                refine (F2.out _ (B5.out.trans (B6.out.mono B5.out.size))).mono ?_
                rintro e w7 ⟨rfl, hb⟩
                have B7 := Lib.hid (B6.out.trans (hb.mono B6.out.size))
                clear hb
                go_wp2
                go_roundw
                case rel => exact ⟨j + 1, true, by go_num, by omega, B7.out, rfl, fun _ => OU2.out (by trivial)⟩
                case measure => simp [intOf]; omega
              | false =>
                go_wp2_with fail
                refine F1.out.mono ?_
                rintro e w6 ⟨rfl, hb⟩
                have B6 := Lib.hid (B.out.trans (hb.mono B.out.size))
                clear hb
                go_wp2_with fail
                refine (F2.out _ (B5.out.trans (B6.out.mono B5.out.size))).mono ?_
                rintro e w7 ⟨rfl, hb⟩
                have B7 := Lib.hid (B6.out.trans (hb.mono B6.out.size))
                clear hb
                go_wp2
                go_roundw
                case rel => exact ⟨j + 1, false, by go_num, by omega, B7.out, rfl, fun h => by cases h⟩
                case measure => simp [intOf]; omega
      · obtain rfl : j = 1024 := by omega
        clear hlt
        go_wp2_with fail
        refine (SM.out u _ (M5.out.below B.out)).mono ?_
        rintro e w6 ⟨v6, er6, K, rfl, hk, hat, hb⟩
        have B6 := Lib.hid (B.out.trans (hb.mono B.out.size))
        have K6 := Lib.hid hat
        have HK := Lib.hid hk
        have G6 := Lib.hid (B5.out.trans (B6.out.mono B5.out.size))
        obtain ⟨a6, c6, rfl⟩ := hat.form
        clear hk hat hb
        cases o with
        | true =>
          have UN := HA.out.undo HK.out (fun p p1 p2 => ONE.out rfl p p1 p2 (by omega))
          obtain ⟨rfl, rfl⟩ := UN
          go_wp2_with fail
          refine (sameD _ _ _ _ K6.out (A0.out.below G6.out)).mono ?_
          rintro e w7 ⟨rfl, hb⟩
          have B7 := Lib.hid (G6.out.trans (hb.mono G6.out.size))
          clear hb
          go_wp2_with fail
          refine (awake14 _).mono ?_
          rintro e w8 ⟨rfl, hb⟩
          have B8 := Lib.hid (B7.out.trans (hb.mono B7.out.size))
          clear hb
          go_wp2
          go_ret
          exact ⟨rfl, B8.out⟩
        | false =>
          go_wp2_with fail
          refine (awake14 _).mono ?_
          rintro e w8 ⟨rfl, hb⟩
          have B8 := Lib.hid (G6.out.trans (hb.mono G6.out.size))
          clear hb
          go_wp2
          go_ret
          exact ⟨rfl, B8.out⟩
  · have hne : (er != 0) = true := by simpa using hz
    obtain rfl : M = [] := two_bad HA.out hz
    obtain rfl : m = 0 := HM.out
    clear hz
    go_wp2_with fail
    refine (awake14 _).mono ?_
    rintro e w2 ⟨rfl, hb⟩
    have B2 := Lib.hid (B1.out.trans (hb.mono B1.out.size))
    clear hb
    go_wp2
    go_ret
    exact ⟨rfl, B2.out⟩
theorem regionSet_walk (v : Value) (L : List Ar) (f m : Int) (d : Bool) (W : World) (h : ArgAr W v L) (hf : I64 f) (hm : I64 m) : Calls Try.prog 7 #[v, .int .i64 f, .int .i64 m, .bool d] W fun e w' => e = .returned (.bool true) ∧ Below W.heap.size W w' := by
  by_cases hl : L.length ≤ 100
  · exact regionSet_near L v f m d hf hm W hl (h.near hl)
  · obtain ⟨a, c, rfl⟩ := h.form
    exact regionSet_far _ c a f m d W (by omega)
end Go.Proofs.Ytmfpoagimedhnaa
