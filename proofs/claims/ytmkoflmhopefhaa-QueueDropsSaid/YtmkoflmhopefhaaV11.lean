/- The walk of QueueDrops. Condition: the slices lie as they say. -/
import Derived.Test.YtmkoflmhopefhaaV10
namespace Go.Proofs.Ytmkoflmhopefhaa
open Go.RowKit
set_option maxRecDepth 100000

theorem dropAllV {R : List Int} (h : GoodV R) (D : List Int) (k : Nat) (hk : k < D.length) : dropLV (R.filter fun x => !decide (x ∈ D.take k)) (D.getD k 0) = R.filter fun x => !decide (x ∈ D.take (k + 1)) := by
  have hm := fun x => take_succV D k x hk
  generalize D.getD k 0 = n at hm ⊢
  unfold dropLV
  split
  · rw [List.filter_filter]
    refine List.filter_congr fun x _ => ?_
    by_cases h1 : x ∈ D.take k
    · simp [hm x, h1]
    · by_cases h2 : n = x
      · simp [hm x, h2]
      · have h3 : ¬ x = n := fun e => h2 e.symm
        simp [hm x, h1, h2, h3]
  · rename_i hn
    refine List.filter_congr fun x hx => ?_
    have h2 : ¬ n = x := fun e => hn (by rw [e]; exact h.isNum hx)
    simp [hm x, h2]
theorem GoodV.headDrop {x : Int} {r : List Int} (h : GoodV (x :: r)) : dropEV (x :: r) x = 0 ∧ dropLV (x :: r) x = r := by
  have hn : numV x = true := h.isNum (by simp)
  have hx := h.head
  refine ⟨by simp [dropEV, hn], ?_⟩
  rw [dropLV, if_pos hn, List.filter_cons_of_neg (by simp)]
  exact List.filter_eq_self.2 fun y hy => by simp; rintro rfl; exact hx hy
theorem GoodV.headPush {x : Int} {r : List Int} (h : GoodV (x :: r)) : pushE r x = 0 ∧ pushL r x = r ++ [x] := by
  have hn : numV x = true := h.isNum (by simp)
  have hx := h.head
  simp [pushE, pushL, hn, hx]
theorem last_getD (r : List Int) (x : Int) : (r ++ [x]).getD r.length 0 = x := by simp [List.getD_eq_getElem?_getD]
/-- A row's cell, whatever comes that leaves the row there. -/
theorem ZRow.each {a : Option Addr} {n c : Nat} {R : List Int} {k : Nat} {w : World} (h : ZRow w (.slice a n c) R) (hk : k < R.length) : ∃ g o, a = some ⟨g, o, none⟩ ∧ ∀ V, ZRow V (.slice a n c) R → V.cell? ⟨g, o + k, none⟩ = some (.int .i64 (R.getD k 0)) := by
  obtain ⟨g, o, rfl, -⟩ := h.get hk
  refine ⟨g, o, rfl, fun V hV => ?_⟩
  obtain ⟨g', o', he, hc⟩ := hV.get hk
  cases he
  exact hc

theorem queueDrops_far (q q2 c c2 : Nat) (a a2 : Option Addr) (W : World) (hq : 100 < q ∨ (q ≤ 100 ∧ 100 < q2)) : Calls Try.prog 6 #[.slice a q c, .slice a2 q2 c2] W fun e w' => e = .returned (.bool true) ∧ Below W.heap.size W w' := by
  rcases hq with hq | ⟨hq, hq2⟩
  · go_enter Try.func6, Try.ntmps6
    go_wp2_with (go_at_call 8; refine (awake12 _).mono ?_; rintro e w2 ⟨rfl, hb⟩; have B := Lib.hid hb; clear hb)
    go_ret
    exact ⟨rfl, B.out⟩
  · have hd : decide (100 < q) = false := decide_eq_false (by omega)
    go_enter Try.func6, Try.ntmps6
    go_wp2_with (go_at_call 8; refine (awake12 _).mono ?_; rintro e w2 ⟨rfl, hb⟩; have B := Lib.hid hb; clear hb)
    go_ret
    exact ⟨rfl, B.out⟩
set_option maxHeartbeats 8000000 in
theorem queueDrops_in (L D : List Int) (a a2 : Option Addr) (c c2 : Nat) (W : World) (hl : L.length ≤ 100) (hl2 : D.length ≤ 100) (h : RRow W (.slice a L.length c) L) (h2 : RRow W (.slice a2 D.length c2) D) :
    Calls Try.prog 6 #[.slice a L.length c, .slice a2 D.length c2] W fun e w' => e = .returned (.bool true) ∧ Below W.heap.size W w' := by
  obtain ⟨ii, hi, hi0, hi1, hi2⟩ := info_parts intInfoV
  have RD := Lib.hid h2
  obtain ⟨a', c', ha, hc⟩ := h.open_
  cases ha
  obtain ⟨a', c', ha, hc2⟩ := h2.open_
  cases ha
  have HC := Lib.hid hc
  have HC2 := Lib.hid hc2
  obtain ⟨m, hm⟩ : ∃ m, m = L.length := ⟨_, rfl⟩
  obtain ⟨m2, hm2⟩ : ∃ m2, m2 = D.length := ⟨_, rfl⟩
  rw [← hm] at hl ⊢
  rw [← hm2] at hl2 RD ⊢
  have HM := Lib.hid hm
  have HM2 := Lib.hid hm2
  have hd : decide (100 < m) = false := decide_eq_false (by omega)
  have hd2 : decide (100 < m2) = false := decide_eq_false (by omega)
  clear hc hm h hc2 hm2 h2
  go_enter Try.func6, Try.ntmps6
  go_wp2_with fail
  refine (OwnQ.new (Below.refl _ _)).mono ?_
  rintro e w1 ⟨b, rfl, ho, -⟩
  have O1 := Lib.hid ho
  clear ho
  go_wp2_with fail
  go_loopw [6] (fun i wr => ∃ (k : Nat) (R : List Int), i = .int .i64 (k : Int) ∧ k ≤ m ∧ OwnQ W wr b R) (fun i _ => m - (intOf i).toNat)
  case atStart => exact ⟨0, [], rfl, Nat.zero_le _, O1.out⟩
  case round =>
    obtain ⟨k, R, rfl, hk, ho⟩ := hrel
    have O := Lib.hid ho
    clear ho
    by_cases hlt : k < m
    · obtain ⟨g, o, rfl, hbW, hcell⟩ := HC.out k (by have := HM.out; omega)
      generalize L.getD k 0 = x at hcell
      have ck := hcell _ O.out.below
      have PU := Lib.hid (push_okV b R x _ O.out.st)
      generalize pushE R x = er at PU
      generalize pushL R x = R' at PU
      clear hcell
      go_wp2_with fail
      refine PU.out.mono ?_
      rintro e w3 ⟨rfl, ht⟩
      have O3 := Lib.hid (O.out.to ht)
      clear ht
      go_wp2
      go_roundw
      case rel => exact ⟨k + 1, _, by go_num, by omega, O3.out⟩
      case measure => simp [intOf]; omega
    · obtain rfl : k = m := by omega
      clear hlt
      go_wp2_with fail
      refine (all_okV b _ _ O.out.st).mono ?_
      rintro e w3 ⟨v3, rfl, hown, hb⟩
      have O3 := Lib.hid (O.out.step hb)
      have V3 := Lib.hid (own_zrow hown)
      obtain ⟨a3, c3, rfl⟩ := owns_slice hown
      have GR := Lib.hid O.out.st.good
      have hR8 : R.length ≤ 8 := O.out.st.good.length
      obtain ⟨n, hn⟩ : ∃ n, n = R.length := ⟨_, rfl⟩
      rw [← hn] at V3 hR8 ⊢
      have HN := Lib.hid hn
      clear hown hb hn O
      go_wp2_with fail
      go_loopw [7, 9] (fun l i wr => ∃ j : Nat, i = .int .i64 (j : Int) ∧ j ≤ n ∧ OwnI wr w3.heap.size l ((R.take j).filter fun x => !decide (x ∈ D)) ∧ Below w3.heap.size w3 wr) (fun _ i _ => n - (intOf i).toNat)
      case atStart => exact ⟨0, rfl, Nat.zero_le _, World.ownsRow_nil _ _ _ _, Below.refl _ _⟩
      case round =>
        obtain ⟨j, rfl, hj, ho, hb⟩ := hrel
        have I4 := Lib.hid ho
        have B4 := Lib.hid hb
        have O4 := Lib.hid (O3.out.step hb)
        have V4 := Lib.hid (V3.out.below hb)
        clear ho
        by_cases hlt : j < n
        · obtain ⟨g, o, rfl, hcell⟩ := V4.out.each (k := j) (by have := HN.out; omega)
          have ck := hcell _ V4.out
          have TS := take_snocV R j (by have := HN.out; omega)
          have htl : ((R.take j).filter fun x => !decide (x ∈ D)).length ≤ 8 := Nat.le_trans (List.length_filter_le _ _) (by rw [List.length_take]; omega)
          obtain ⟨x, hx⟩ : ∃ x, x = R.getD j 0 := ⟨_, rfl⟩
          rw [← hx] at ck TS
          have RDr := Lib.hid (RD.out.below O4.out.below)
          clear hcell hx hb
          by_cases hin : x ∈ D
          · have HY := Lib.hid (decide_eq_true hin)
            have E : Hid ((R.take (j + 1)).filter (fun x => !decide (x ∈ D)) = (R.take j).filter fun x => !decide (x ∈ D)) := Lib.hid (by rw [TS, List.filter_append]; simp [hin])
            clear hin TS
            go_wp2_with fail
            refine (rhasV D _ x _ RDr.out (by have := HM2.out; omega) HY.out).mono ?_
            rintro e w4 ⟨rfl, rfl⟩
            go_wp2
            go_roundw
            case rel => exact ⟨j + 1, by go_num, by omega, by rw [E.out]; exact I4.out, B4.out⟩
            case measure => simp [intOf]; omega
          · have HY := Lib.hid (decide_eq_false hin)
            have E : Hid ((R.take (j + 1)).filter (fun x => !decide (x ∈ D)) = ((R.take j).filter fun x => !decide (x ∈ D)) ++ [x]) := Lib.hid (by rw [TS, List.filter_append]; simp [hin])
            clear hin TS
            go_wp2_with fail
            refine (rhasV D _ x _ RDr.out (by have := HM2.out; omega) HY.out).mono ?_
            rintro e w4 ⟨rfl, hww⟩
            rw [hww] at I4 B4 ck
            have hb5 := (Below.refl w4.heap.size w4).alloc (Nat.le_refl _) (.cells #[.int .i64 x] 3)
            have I5 := Lib.hid (own_step I4.out hb5)
            have B5 := Lib.hid (B4.out.trans (hb5.mono B4.out.size))
            clear hb5 hww
            go_wp2_with (at_builtin; refine wpList_append_own _ rfl (.tmp 53) (.tmp 58) 26 rfl w3.heap.size 3 ii (.int .i64 0) 1 8 Try.underlying26 hi hi0 hi1 hi2 rfl (by decide) _ ((R.take j).filter fun x => !decide (x ∈ D)).length _ rfl I5.out ⟨w4.heap.size, 0, none⟩ 1 1 [.int .i64 x] rfl rfl (one_atV w4 _ _) (by simp [Value.oneCell']) (by unfold maxLen; omega) (by omega) B5.out.size ?_; intro v6 w6 ho hg _)
            have I6 : Hid (OwnI w6 w3.heap.size v6 ((R.take (j + 1)).filter fun x => !decide (x ∈ D))) := Lib.hid (by unfold OwnI; rw [E.out, intsV_snoc, List.length_append]; exact ho)
            have B6 := Lib.hid (B5.out.grown hg B5.out.size (fun k hk => (I5.out.lt k hk).1))
            clear ho hg
            go_wp2
            go_roundw
            case rel => exact ⟨j + 1, by go_num, by omega, I6.out, B6.out⟩
            case measure => simp [intOf]; omega
        · obtain rfl : j = n := by omega
          have hI := I4.out
          rw [HN.out, List.take_length] at hI
          have M4 := Lib.hid (own_zrow hI)
          obtain ⟨aw, cw, rfl⟩ := owns_slice hI
          have DA : Hid (∀ k, k < D.length → dropLV (R.filter fun x => !decide (x ∈ D.take k)) (D.getD k 0) = R.filter fun x => !decide (x ∈ D.take (k + 1))) := Lib.hid fun k hk => dropAllV GR.out D k hk
          obtain ⟨M, hM⟩ : ∃ M, M = R.filter fun x => !decide (x ∈ D) := ⟨_, rfl⟩
          rw [← hM] at M4 ⊢
          have HMM := Lib.hid hM
          obtain ⟨p, hp⟩ : ∃ p, p = M.length := ⟨_, rfl⟩
          rw [← hp] at M4 ⊢
          have HP := Lib.hid hp
          have hp8 : p ≤ 8 := by rw [hp, hM]; exact Nat.le_trans (List.length_filter_le _ _) (by have := HN.out; omega)
          clear hI hM hp hb hlt I4 B4 V4
          go_wp2_with fail
          go_loopw [10] (fun i wr => ∃ k : Nat, i = .int .i64 (k : Int) ∧ k ≤ m2 ∧ OwnQ W wr b (R.filter fun x => !decide (x ∈ D.take k)) ∧ ZRow wr (.slice aw p cw) M) (fun i _ => m2 - (intOf i).toNat)
          case atStart => exact ⟨0, rfl, Nat.zero_le _, by rw [show (R.filter fun x => !decide (x ∈ D.take 0)) = R from List.filter_eq_self.2 (by simp)]; exact O4.out, M4.out⟩
          case round =>
            obtain ⟨s, rfl, hs, ho, hz⟩ := hrel
            have O5 := Lib.hid ho
            have M5 := Lib.hid hz
            clear ho hz
            by_cases hlt : s < m2
            · obtain ⟨g, o, rfl, hbW, hcell⟩ := HC2.out s (by have := HM2.out; omega)
              have ck := hcell _ O5.out.below
              have DR := Lib.hid (drop_okV b _ (D.getD s 0) _ O5.out.st)
              rw [DA.out s (by have := HM2.out; omega)] at DR
              generalize dropEV (R.filter fun x => !decide (x ∈ D.take s)) (D.getD s 0) = er at DR
              generalize D.getD s 0 = x at DR ck
              clear hcell
              go_wp2_with fail
              refine DR.out.mono ?_
              rintro e w6 ⟨rfl, ht⟩
              have M6 := Lib.hid (M5.out.to O5.out.st ht)
              have O6 := Lib.hid (O5.out.to ht)
              clear ht
              go_wp2
              go_roundw
              case rel => exact ⟨s + 1, by go_num, by omega, O6.out, M6.out⟩
              case measure => simp [intOf]; omega
            · obtain rfl : s = m2 := by omega
              have hO := O5.out
              rw [HM2.out, List.take_length, ← HMM.out] at hO
              have O6 := Lib.hid hO
              have GM := Lib.hid hO.st.good
              clear hO hlt O5 DA HC HC2
              go_wp2_with fail
              refine (all_okV b _ _ O6.out.st).mono ?_
              rintro e w7 ⟨v7, rfl, hown, hb⟩
              have O7 := Lib.hid (O6.out.step hb)
              have M7 := Lib.hid (M5.out.below hb)
              have V7 := Lib.hid (own_zrow hown)
              clear hown hb
              go_wp2_with fail
              refine (rsameV M _ _ _ V7.out.read M7.out.read (Nat.le_trans GM.out.length (by decide))).mono ?_
              rintro e w8 ⟨rfl, nq, hw8⟩
              have O8 := Lib.hid (O7.out.drawsE hw8)
              have M8 := Lib.hid (M7.out.drawsE hw8)
              clear hw8
              go_wp2_with fail
              go_loopw [11] (fun i wr => ∃ k : Nat, i = .int .i64 (k : Int) ∧ k ≤ p ∧ OwnQ W wr b (M.drop k ++ M.take k) ∧ ZRow wr (.slice aw p cw) M) (fun i _ => p - (intOf i).toNat)
              case atStart => exact ⟨0, rfl, Nat.zero_le _, by simpa using O8.out, M8.out⟩
              case round =>
                obtain ⟨t, rfl, ht, ho, hz⟩ := hrel
                have N5 := Lib.hid hz
                by_cases hlt : t < p
                · rw [rotV M t (by have := HP.out; omega)] at ho
                  obtain ⟨g, o, rfl, hcell⟩ := hz.each (k := t) (by have := HP.out; omega)
                  have ck := hcell _ hz
                  have TS := take_snocV M t (by have := HP.out; omega)
                  obtain ⟨x, hx⟩ : ∃ x, x = M.getD t 0 := ⟨_, rfl⟩
                  obtain ⟨r, hr⟩ : ∃ r, r = M.drop (t + 1) ++ M.take t := ⟨_, rfl⟩
                  rw [← hx] at ho ck TS
                  rw [← hr] at ho
                  have E : Hid (r ++ [x] = M.drop (t + 1) ++ M.take (t + 1)) := Lib.hid (by rw [hr, TS, List.append_assoc])
                  obtain ⟨z, hz2⟩ : ∃ z, z = r.length := ⟨_, rfl⟩
                  have hzp : z + 1 = p := by rw [hz2, hr, List.length_append, List.length_drop, List.length_take]; have := HP.out; omega
                  have P5 := Lib.hid ho
                  have DR := Lib.hid (drop_okV b _ x _ P5.out.st)
                  rw [ho.st.good.headDrop.1, ho.st.good.headDrop.2] at DR
                  have PU : Hid (∀ V, QAt V b r → Calls Try.prog 15 #[.pointer (some ⟨b, 0, none⟩), .int .i64 x] V fun e w' => e = .returned (.int .i64 0) ∧ ToV V w' b (r ++ [x])) := Lib.hid fun V hV => push_isV ho.st.good.headPush.1 ho.st.good.headPush.2 hV
                  have HZ := Lib.hid hz2
                  clear hcell hx hr TS ho hz hz2
                  go_wp2_with fail
                  refine DR.out.mono ?_
                  rintro e w9 ⟨rfl, ht⟩
                  have N6 := Lib.hid (N5.out.to P5.out.st ht)
                  have P6 := Lib.hid (P5.out.to ht)
                  clear ht ck
                  go_wp2_with fail
                  refine (PU.out _ P6.out.st).mono ?_
                  rintro e w10 ⟨rfl, ht⟩
                  have N7 := Lib.hid (N6.out.to P6.out.st ht)
                  have P7 := Lib.hid (P6.out.to ht)
                  clear ht
                  go_wp2_with fail
                  refine (all_okV b _ _ P7.out.st).mono ?_
                  rintro e w11 ⟨v11, rfl, hown, hb⟩
                  have N8 := Lib.hid (N7.out.below hb)
                  have P8 := Lib.hid (P7.out.step hb)
                  have hz11 := own_zrow hown
                  obtain ⟨a11, c11, rfl⟩ := owns_slice hown
                  have hl11 : (r ++ [x]).length = p := by rw [List.length_append, ← HZ.out]; simpa using hzp
                  rw [hl11] at hz11 ⊢
                  obtain ⟨g2, o2, rfl, c9⟩ := hz11.get (k := z) (by omega)
                  rw [HZ.out, last_getD, ← HZ.out] at c9
                  rw [E.out] at P8
                  have hpz : (p : Int) - 1 = (z : Int) := by omega
                  have hzl : z < p := by omega
                  clear hown hb hz11 hl11 hzp
                  go_wp2
                  go_roundw
                  case rel => exact ⟨t + 1, by go_num, by omega, P8.out, N8.out⟩
                  case measure => simp [intOf]; omega
                · obtain rfl : t = p := by omega
                  rw [HP.out, List.drop_length, List.take_length, List.nil_append] at ho
                  have P5 := Lib.hid ho
                  clear ho hz hlt
                  go_wp2_with fail
                  refine (all_okV b _ _ P5.out.st).mono ?_
                  rintro e w9 ⟨v9, rfl, hown, hb⟩
                  have P6 := Lib.hid (P5.out.step hb)
                  have N6 := Lib.hid (N5.out.below hb)
                  have V6 := Lib.hid (own_zrow hown)
                  clear hown hb
                  go_wp2_with fail
                  refine (rsameV M _ _ _ V6.out.read N6.out.read (Nat.le_trans GM.out.length (by decide))).mono ?_
                  rintro e w10 ⟨rfl, nq, hw10⟩
                  have P7 := Lib.hid (P6.out.drawsE hw10)
                  clear hw10
                  go_wp2_with (go_at_call 8; refine (awake12 _).mono ?_; rintro e w11 ⟨rfl, hb⟩; have B11 := Lib.hid (P7.out.step hb); clear hb)
                  go_ret
                  exact ⟨rfl, B11.out.below⟩
theorem queueDrops_walk (v : Value) (L : List Int) (v2 : Value) (D : List Int) (W : World) (h : ArgIntsV W v L) (h2 : ArgIntsV W v2 D) : Calls Try.prog 6 #[v, v2] W fun e w' => e = .returned (.bool true) ∧ Below W.heap.size W w' := by
  have h' := h.read
  have h2' := h2.read
  obtain ⟨a, c, rfl, _, _⟩ := h
  obtain ⟨a2, c2, rfl, _, _⟩ := h2
  by_cases hq : 100 < L.length ∨ (L.length ≤ 100 ∧ 100 < D.length)
  · exact queueDrops_far L.length D.length c c2 a a2 W hq
  · exact queueDrops_in L D a a2 c c2 W (by omega) (by omega) h' h2'
end Go.Proofs.Ytmkoflmhopefhaa
