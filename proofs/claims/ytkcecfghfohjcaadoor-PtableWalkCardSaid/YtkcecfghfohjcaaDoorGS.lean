/- Texts of mine, joined: N45 N46 N47. What each says and under which conditions stands at its head, below. -/
import Derived.Test.YtkcecfghfohjcaaDoorGQ
import Derived.Laws.AppendOwnNone
import Derived.Deep.DeepCutAuto
/- The contract of the document's Map. No condition. -/
namespace Go.Proofs.YtkcecfghfohjcaaDoor
open Go.RowKit Go.Maps
set_option maxRecDepth 100000
attribute [local irreducible] allF tabF plF mapB hasB segN

theorem five_at (w : World) (a b c d e : Value) (t : TypeId) : ∀ j u, [a, b, c, d, e][j]? = some u → (w.alloc (.cells #[a, b, c, d, e] t)).cell? ((⟨w.heap.size, 0, none⟩ : Addr).add j) = some u := fun j u hu => by
  rw [Addr.add_mid, Nat.zero_add, cell_of_row _ _ _ _ _ _ (heap_alloc_new w _)]
  simpa using hu
/-- What the document's Map, Unmap, Set leave. -/
structure RDone (base : Nat) (w w' : World) (wb n m : Nat) (a : Option Addr) (c : Nat) (K : List Rec) (W' : Nat → Option Sp) (c' : Nat) : Prop where
  ex : ∃ K', RefW base w' wb n m a c K' ∧ Match W' K' ∧ c' + usedK K' = m ∧ K'.length = K.length
  only : Only w w' (fun y => (Value.slice a K.length c).ownBlock = some y)
theorem RDone.stay {base : Nat} {w w' : World} {wb n m c c0 : Nat} {a : Option Addr} {K : List Rec} {W : Nat → Option Sp} (h : RefW base w wb n m a c K) (hm : Match W K) (hc : c0 + usedK K = m) (hb : Below w.heap.size w w') : RDone base w w' wb n m a c K W c0 :=
  ⟨⟨K, h.step hb, hm, hc, rfl⟩, Only.below hb⟩
theorem RDone.put {base : Nat} {w w' : World} {wb n m c c0 c1 b j k : Nat} {K : List Rec} {W : Nat → Option Sp} {F F' : Sp} {u u' : Value} (h : RefW base w wb n m (some ⟨b, 0, none⟩) c K) (hm : Match W K) (hb : Below w.heap.size w w') (hj : j < K.length) (hy : K.getD j default = (k, F, u)) (hu : w'.ownsRow base 75 5 u' (allF F').length (mapsV (allF F'))) (hc : c0 + usedK K = m) (hc1 : c1 + tabF F' = c0 + tabF F) :
    RDone base w (w'.setCell ⟨b, j * 2 + 1, none⟩ u') wb n m (some ⟨b, 0, none⟩) c K (updW W k (some F')) c1 := by
  obtain ⟨h1, h2⟩ := (h.step hb).put hj hy hu
  have h3 := usedK_set (k, F', u') hj hy
  simp only at h3
  exact ⟨⟨_, h1, hm.put hj hy, by omega, List.length_set⟩, (Only.below hb).trans (h2.mono fun y e => by rw [e]; rfl)⟩
set_option maxHeartbeats 4000000 in
theorem rmap_ok {base : Nat} {w : World} {wb n m c c0 : Nat} {a : Option Addr} {K : List Rec} {W : Nat → Option Sp} (h : RefW base w wb n m a c K) (hbs : base ≤ w.heap.size) (hm : Match W K) (hl : K.length ≤ 100) (hc0 : c0 + usedK K = m) (r pg : Int) (p x k : Bool) (g : Int) :
    Calls Tryd.prog 32 #[.pointer (some ⟨wb, 0, none⟩), .int .i64 r, .int .i64 pg, ent p x k g] w fun e w' => e = .returned (.int .i64 (mapErr n W c0 r pg (p, x, k, g))) ∧ RDone base w w' wb n m a c K (mapW n c0 W r pg (p, x, k, g)) (mapC n c0 W r pg (p, x, k, g)) := by
  obtain ⟨ii, hi, hi0, hi1, hi2⟩ := info_parts mapInfo
  obtain ⟨q, hq⟩ : ∃ q, q = K.length := ⟨_, rfl⟩
  have HQ := Lib.hid hq
  have hl' : q ≤ 100 := by omega
  have H := Lib.hid h
  have HM := Lib.hid hm
  have HC := Lib.hid hc0
  have HBS := Lib.hid hbs
  obtain ⟨w0, hw0⟩ : ∃ w0, w0 = w.alloc (.cells #[.bool p, .bool x, .bool k, .int .i64 g] 37) := ⟨_, rfl⟩
  have B0 : Hid (Below w.heap.size w w0) := Lib.hid (by rw [hw0]; exact (Below.refl _ _).alloc (Nat.le_refl _) _)
  have E0 : Hid (w0.heap[w.heap.size]? = some (entO (p, x, k, g))) := Lib.hid (by rw [hw0]; exact heap_alloc_new w _)
  have CB : Hid (∀ V, Below w0.heap.size w0 V → (V.cell? ⟨wb, 0, none⟩ = some (.slice a q c) ∧ V.cell? ⟨wb, 1, none⟩ = some (.int .i64 (n : Int)) ∧ V.cell? ⟨wb, 2, none⟩ = some (.int .i64 (m : Int))) ∧ (V.cell? ⟨w.heap.size, 0, none⟩ = some (.bool p) ∧ V.cell? ⟨w.heap.size, 1, none⟩ = some (.bool x) ∧ V.cell? ⟨w.heap.size, 2, none⟩ = some (.bool k) ∧ V.cell? ⟨w.heap.size, 3, none⟩ = some (.int .i64 g))  ∧ SpV V (.slice a q c) K) := Lib.hid fun V hV => by
    have h1 := h.step (B0.out.trans (hV.mono B0.out.size))
    have h2 := cells3 h1.box
    have h3 := h1.spv
    rw [← hq] at h2 h3
    exact ⟨h2, cells4 (below_block hV E0.out), h3⟩
  obtain ⟨er, her⟩ : ∃ er, askErr W r pg (fitV n (p, x, k, g)) = er := ⟨_, rfl⟩
  have HER := Lib.hid her
  obtain ⟨z0', z1', -⟩ := CB.out w0 (Below.refl _ _)
  obtain ⟨y0, y1, y2⟩ := z0'
  obtain ⟨x0, x1, x2, x3⟩ := z1'
  have hwe := Lib.hid hw0
  clear h hm hbs her hl hq hw0
  by_cases hz : er = 0
  · subst hz
    obtain ⟨k', pn, F, rfl, rfl, hpn, hw, hfit, hs⟩ := askErr_zero HER.out
    have HS := Lib.hid hs
    have HFIT := Lib.hid hfit
    have HPN := Lib.hid hpn
    clear hw hfit hs hpn
    go_enter Tryd.func32, Tryd.ntmps32
    go_wp2_with fail
    rw [← hwe.out]
    clear hwe
    go_region_held3 (fun V => (V.cell? ⟨wb, 0, none⟩ = some (.slice a q c) ∧ V.cell? ⟨wb, 1, none⟩ = some (.int .i64 (n : Int)) ∧ V.cell? ⟨wb, 2, none⟩ = some (.int .i64 (m : Int))) ∧ (V.cell? ⟨w.heap.size, 0, none⟩ = some (.bool p) ∧ V.cell? ⟨w.heap.size, 1, none⟩ = some (.bool x) ∧ V.cell? ⟨w.heap.size, 2, none⟩ = some (.bool k) ∧ V.cell? ⟨w.heap.size, 3, none⟩ = some (.int .i64 g))) (first | exact ⟨(CB.out _ (Below.refl _ _).drew).1, (CB.out _ (Below.refl _ _).drew).2.1⟩ | go_keep | exact ⟨(CB.out w2 B2.out).1, (CB.out w2 B2.out).2.1⟩ | exact ⟨(CB.out w1 B1.out).1, (CB.out w1 B1.out).2.1⟩)
      (first
        | (go_at_call 60; refine (rfits_ok a q c n m p x k g _).mono ?_; rintro e w1 ⟨rfl, hb⟩; have B1 : Hid (Below w0.heap.size w0 w1) := Lib.hid ((Below.refl _ _).drew.trans hb); clear hb)
        | (go_at_call 59; refine (rasked_ok W K a q c n m _ _ _ w1 HQ.out hl' (CB.out w1 B1.out).2.2 HM.out).mono ?_; rw [HER.out]; rintro e w2 ⟨rfl, hb⟩; have B2 : Hid (Below w0.heap.size w0 w2) := Lib.hid (B1.out.trans (hb.mono B1.out.size)); clear hb))
    clear y0 y1 y2 x0 x1 x2 x3
    obtain ⟨J, hJ, hJ2⟩ := AtIs.of HM.out (k' : Int)
    obtain ⟨j, k2, F2, u, rfl, hk2, hj, hy, hs2, -⟩ := hJ2.resolve_left (by rintro ⟨-, h0⟩; rw [HS.out] at h0; cases h0)
    obtain rfl : k' = k2 := by omega
    obtain rfl : F = F2 := by have := hs2; rw [HS.out] at this; exact Option.some.inj this
    have HJ := Lib.hid hJ
    have HY := Lib.hid hy
    clear hJ hs2 hk2
    have hjq : j < q := by rw [HQ.out]; exact hj
    have hjq2 : (j : Int) < (q : Int) := by omega
    obtain ⟨y, -, -⟩ := CB.out w2 B2.out
    obtain ⟨y0, y1, y2⟩ := y
    go_wp2_with fail
    have D2 : Hid (Below w0.heap.size w0 w2.drew) := Lib.hid B2.out.drew
    obtain ⟨bL, rfl, hbl, -, hu, hmp⟩ := (CB.out w2 B2.out).2.2.at_ HQ.out hjq hy
    have CC : Hid (∀ V, Below w2.heap.size w2 V → V.cell? ⟨bL, j * 2 + 1, none⟩ = some u ∧ MapsAt V u (allF F)) := Lib.hid fun V hV => ⟨(hV.cell (p := ⟨bL, _, none⟩) hbl).trans hu, hmp.below hV⟩
    have HR : Hid (w.ownsRow base 75 5 u (allF F).length (mapsV (allF F))) := Lib.hid (by have := H.out.maps j hj; rw [hy] at this; exact this)
    clear hu hmp hj hy
    go_region_held3 (fun V => V.cell? ⟨wb, 0, none⟩ = some (.slice (some ⟨bL, 0, none⟩) q c) ∧ V.cell? ⟨wb, 1, none⟩ = some (.int .i64 (n : Int)) ∧ V.cell? ⟨wb, 2, none⟩ = some (.int .i64 (m : Int))) (first | exact (CB.out _ D2.out).1 | go_keep | exact (CB.out w3 B3.out).1)
      ((go_at_call 31; refine (rat_ok K _ q c n m _ _ _ HQ.out hl' (CB.out _ D2.out).2.2 HJ.out).mono ?_; rintro e w3 ⟨rfl, hb⟩; have B3 : Hid (Below w0.heap.size w0 w3) := Lib.hid (D2.out.trans (hb.mono D2.out.size)); have C3 : Hid (Below w2.heap.size w2 w3) := Lib.hid ((Below.refl _ _).drew.trans hb); clear hb))
    clear y0 y1 y2
    obtain ⟨y0, hmp⟩ := CC.out w3 C3.out
    have MP := Lib.hid hmp
    obtain ⟨au, cu, rfl, -⟩ := id hmp
    clear hmp
    obtain ⟨fm, hfm⟩ : ∃ fm, mapB F (pn : Int) = fm := ⟨_, rfl⟩
    have HFM := Lib.hid hfm
    obtain ⟨P, hP⟩ : ∃ P, plF F (pn : Int) = P := ⟨_, rfl⟩
    have HP := Lib.hid hP
    clear hfm hP
    go_wp2_with fail
    refine (rplace_ok F _ (pn : Int) w3 MP.out).mono ?_
    rw [HFM.out, HP.out]
    rintro e w4 ⟨rfl, hb⟩
    have B4 : Hid (Below w0.heap.size w0 w4) := Lib.hid (B3.out.trans (hb.mono B3.out.size))
    have C4 : Hid (Below w2.heap.size w2 w4) := Lib.hid (C3.out.trans (hb.mono C3.out.size))
    clear hb y0
    have hme : Hid (mapErr n W c0 (k' : Int) (pn : Int) (p, x, k, g) = if fm = true then 5 else if hasB F (pn / 32) = false ∧ c0 = 0 then 3 else 0) := Lib.hid (by rw [mapErr_in HS.out HPN.out, HFIT.out, if_pos rfl, ← HFM.out, mapB_of HPN.out])
    cases fm with
    | true =>
      have e5 : Hid (mapErr n W c0 (k' : Int) (pn : Int) (p, x, k, g) = 5) := Lib.hid (by rw [hme.out]; rfl)
      clear hme
      go_wp2_with fail
      go_ret
      refine ⟨by rw [e5.out]; rfl, ?_⟩
      unfold mapW mapC
      rw [e5.out, if_neg (by decide), if_neg (by decide)]
      exact RDone.stay H.out HM.out HC.out (B0.out.trans (B4.out.mono B0.out.size))
    | false =>
      have hf : (F pn).1 = false := by rw [← mapB_of HPN.out]; exact HFM.out
      obtain ⟨F', hF'⟩ : ∃ F', F' = updF F pn (p, x, k, g) := ⟨_, rfl⟩
      have hPle : P ≤ (allF F).length := by rw [← HP.out]; exact plF_le _ _
      have hlen := allF_len F
      have hp1 : p = true := ((fitV_iff n (p, x, k, g)).1 HFIT.out).1
      have hsp : allF F' = (allF F).take P ++ [((pn : Int), p, x, k, g)] ++ (allF F).drop P := by
        rw [hF', allF_put F pn _ HPN.out, if_pos hp1, ← HP.out, plF_take HPN.out, plF_drop HPN.out hf]
      have FE : Hid (mapsV (allF F') = mapsV ((allF F).take P) ++ [.int .i64 (pn : Int), .bool p, .bool x, .bool k, .int .i64 g] ++ mapsV ((allF F).drop P) ∧ (allF F').length = P + 1 + ((allF F).length - P)) := Lib.hid ⟨by rw [hsp, mapsV_append, mapsV_append]; rfl, by rw [hsp, List.length_append, List.length_append, List.length_take, List.length_drop]; simp; omega⟩
      have R4 : Hid (w4.ownsRow base 75 5 (.slice au (allF F).length cu) (allF F).length (mapsV (allF F))) := Lib.hid (own_step HR.out (B0.out.trans (B4.out.mono B0.out.size)))
      have lt1 : ((allF F).take P).length = P := by rw [List.length_take]; omega
      have lt2 : ((allF F).drop P).length = (allF F).length - P := by rw [List.length_drop]
      have HP1 := Lib.hid hp1
      have HF2 := Lib.hid hF'
      clear hsp hp1 hF'
      go_upto_region 8 with fail
      go_cut [13] (fun v wx => ∃ a1 c1, v = .slice a1 P c1 ∧ wx.ownsRow w4.heap.size 75 5 (.slice a1 P c1) P (mapsV ((allF F).take P)) ∧ Below w4.heap.size w4 wx)
      case first =>
        have OM := Lib.hid (World.ownsRow_made (base := w4.heap.size) (e := 75) (size := 5) w4 #[] 0 (Nat.le_refl _) (by decide) rfl)
        have AM : Hid (Below w4.heap.size w4 (w4.alloc (.cells #[] 75))) := Lib.hid ((Below.refl _ _).alloc (Nat.le_refl _) _)
        have y0 := (CC.out _ (C4.out.trans (AM.out.mono C4.out.size))).1
        rcases row_cut R4.out P with ⟨hu0, hn0⟩ | ⟨b', c', hu1, hnc, hcm, hb', htk, hdr⟩
        · injection hu0 with e1 e2 e3
          subst e1
          subst e3
          obtain rfl : P = 0 := by omega
          rw [hn0] at y0
          have hl0 : (allF F).take 0 = [] := rfl
          go_wp2_with (at_builtin; refine wpList_append_own_none rfl (.tmp 48) (.tmp 54) 47 rfl w4.heap.size 75 ii 5 Tryd.underlying47 hi _ 0 [] rfl OM.out rfl ?_)
          go_meet
          case rel => exact ⟨_, _, rfl, OM.out, AM.out⟩
        · injection hu1 with e1 e2 e3
          subst e1
          subst e3
          rw [mapsV_take _ _ hPle] at htk
          have T1 : Hid (∀ j u, (mapsV ((allF F).take P))[j]? = some u → (w4.alloc (.cells #[] 75)).cell? ((⟨b', 0, none⟩ : Addr).add j) = some u) := Lib.hid fun j u hu => by
            rw [Addr.add_mid, AM.out.cell (p := ⟨b', 0 + j, none⟩) hb', ← Addr.add_mid]; exact htk j u hu
          clear htk hdr
          have i1 : (P : Int) ≤ (cu : Int) := by omega
          have i2 : P ≤ cu := by omega
          go_wp2_with (at_builtin; refine wpList_append_own _ rfl (.tmp 48) (.tmp 54) 47 rfl w4.heap.size 75 ii (.agg #[.int .i64 0, .bool false, .bool false, .bool false, .int .i64 0]) 5 24 Tryd.underlying47 hi hi0 hi1 hi2 rfl (by decide) _ 0 [] rfl OM.out ⟨b', 0, none⟩ _ _ (mapsV ((allF F).take P)) rfl (by rw [mapsV_length, lt1]) T1.out mapsV_one' (by unfold maxLen; omega) (by omega) AM.out.size ?_; intro v1 w5 ho hg _; rw [Nat.zero_add, List.nil_append] at ho; have A5 := Lib.hid (AM.out.grown hg AM.out.size (fun k hk => (OM.out.lt k hk).1)); obtain ⟨a1, c1, rfl⟩ := owns_slice ho; have O5 := Lib.hid ho; clear ho hg)
          go_meet
          case rel => exact ⟨_, _, rfl, O5.out, A5.out⟩
      case rest =>
        obtain ⟨a1, c1, rfl, ho, hb⟩ := hcut
        have O5 := Lib.hid (ho.alloc (.cells #[.int .i64 (pn : Int), .bool p, .bool x, .bool k, .int .i64 g] 75))
        have A5 : Hid (Below w4.heap.size w4 (wc.alloc (.cells #[.int .i64 (pn : Int), .bool p, .bool x, .bool k, .int .i64 g] 75))) := Lib.hid (hb.alloc hb.size _)
        obtain ⟨x0, x1, x2, x3⟩ := (CB.out wc (B4.out.trans (hb.mono B4.out.size))).2.1
        clear ho hb
        go_upto_region 10 with (at_builtin; refine wpList_append_own _ rfl (.tmp 56) (.tmp 60) 47 rfl w4.heap.size 75 ii (.agg #[.int .i64 0, .bool false, .bool false, .bool false, .int .i64 0]) 5 24 Tryd.underlying47 hi hi0 hi1 hi2 rfl (by decide) _ P _ rfl O5.out ⟨wc.heap.size, 0, none⟩ 1 1 [.int .i64 (pn : Int), .bool p, .bool x, .bool k, .int .i64 g] rfl rfl (five_at _ _ _ _ _ _ _) (by simp [Value.oneCell']) (by unfold maxLen; omega) (by omega) A5.out.size ?_; intro v2 w6 ho hg _; have A6 := Lib.hid (A5.out.grown hg A5.out.size (fun k hk => (O5.out.lt k hk).1)); have O6 := Lib.hid ho; clear ho hg)
        clear x0 x1 x2 x3
        go_cut [13] (fun v wx => ∃ a3 c3, v = .slice a3 (allF F').length c3 ∧ wx.ownsRow w4.heap.size 75 5 (.slice a3 (allF F').length c3) (allF F').length (mapsV (allF F')) ∧ Below w4.heap.size w4 wx)
        case first =>
          have y0 := (CC.out _ (C4.out.trans (A6.out.mono C4.out.size))).1
          have done : ∀ (v : Value) (wx : World), wx.ownsRow w4.heap.size 75 5 v (P + 1 + ((allF F).length - P)) (mapsV ((allF F).take P) ++ [.int .i64 (pn : Int), .bool p, .bool x, .bool k, .int .i64 g] ++ mapsV ((allF F).drop P)) → Below w4.heap.size w4 wx → ∃ a3 c3, v = .slice a3 (allF F').length c3 ∧ wx.ownsRow w4.heap.size 75 5 (.slice a3 (allF F').length c3) (allF F').length (mapsV (allF F')) ∧ Below w4.heap.size w4 wx := fun v wx h1 h2 => by
            rw [← FE.out.1, ← FE.out.2] at h1
            obtain ⟨a3, c3, rfl⟩ := owns_slice h1
            exact ⟨a3, c3, rfl, h1, h2⟩
          have DONE := Lib.hid done
          clear done
          rcases row_cut R4.out P with ⟨hu0, hn0⟩ | ⟨b', c', hu1, hnc, hcm, hb', htk, hdr⟩
          · injection hu0 with e1 e2 e3
            subst e1
            subst e3
            obtain rfl : P = 0 := by omega
            have hd0 : (allF F).drop 0 = [] := List.eq_nil_of_length_eq_zero hn0
            have DONE2 : Hid (∀ (v : Value) (wx : World), wx.ownsRow w4.heap.size 75 5 v (0 + 1) (mapsV ((allF F).take 0) ++ [.int .i64 (pn : Int), .bool p, .bool x, .bool k, .int .i64 g]) → Below w4.heap.size w4 wx → ∃ a3 c3, v = .slice a3 (allF F').length c3 ∧ wx.ownsRow w4.heap.size 75 5 (.slice a3 (allF F').length c3) (allF F').length (mapsV (allF F')) ∧ Below w4.heap.size w4 wx) := Lib.hid fun v wx h1 h2 => DONE.out v wx (by rw [hn0, hd0]; simpa [mapsV] using h1) h2
            rw [hn0] at y0
            clear DONE
            go_wp2_with (at_builtin; refine wpList_append_own_none rfl (.tmp 62) (.tmp 68) 47 rfl w4.heap.size 75 ii 5 Tryd.underlying47 hi _ _ _ rfl O6.out rfl ?_)
            go_meet
            case rel => exact DONE2.out _ _ O6.out A6.out
          · injection hu1 with e1 e2 e3
            subst e1
            subst e3
            rw [mapsV_drop _ _ hPle] at hdr
            have T1 : Hid (∀ j u, (mapsV ((allF F).drop P))[j]? = some u → w6.cell? ((⟨b', P * 5, none⟩ : Addr).add j) = some u) := Lib.hid fun j u hu => by
              rw [Addr.add_mid, A6.out.cell (p := ⟨b', P * 5 + j, none⟩) hb', ← Addr.add_mid]; exact hdr j u hu
            clear htk hdr
            by_cases hcp : cu = P
            · have hd0 : (allF F).drop P = [] := List.drop_of_length_le (by omega)
              have i1 : (P : Int) ≤ ((allF F).length : Int) := by omega
              have i2 : ((allF F).length : Int) ≤ (cu : Int) := by omega
              have i3 : (allF F).length = P := by omega
              have DONE2 : Hid (∀ (v : Value) (wx : World), wx.ownsRow w4.heap.size 75 5 v (P + 1 + 0) (mapsV ((allF F).take P) ++ [.int .i64 (pn : Int), .bool p, .bool x, .bool k, .int .i64 g] ++ []) → Below w4.heap.size w4 wx → ∃ a3 c3, v = .slice a3 (allF F').length c3 ∧ wx.ownsRow w4.heap.size 75 5 (.slice a3 (allF F').length c3) (allF F').length (mapsV (allF F')) ∧ Below w4.heap.size w4 wx) := Lib.hid fun v wx h1 h2 => DONE.out v wx (by rw [hd0, i3, Nat.sub_self]; exact h1) h2
              subst hcp
              rw [i3] at y0
              clear DONE i1 i2
              go_wp2_with (at_builtin; refine wpList_append_own _ rfl (.tmp 62) (.tmp 68) 47 rfl w4.heap.size 75 ii (.agg #[.int .i64 0, .bool false, .bool false, .bool false, .int .i64 0]) 5 24 Tryd.underlying47 hi hi0 hi1 hi2 rfl (by decide) _ _ _ rfl O6.out ⟨b', 0, none⟩ 0 _ [] rfl rfl (fun j u hu => by cases hu) (fun u hu => by cases hu) (by unfold maxLen; omega) (by omega) A6.out.size ?_; intro v3 w7 ho hg _; have A7 := Lib.hid (A6.out.grown hg A6.out.size (fun k hk => (O6.out.lt k hk).1)); have O7 := Lib.hid ho; clear ho hg)
              go_meet
              case rel => exact DONE2.out _ _ O7.out A7.out
            · have i1 : (P : Int) ≤ ((allF F).length : Int) := by omega
              have i2 : ((allF F).length : Int) ≤ (cu : Int) := by omega
              have i3 : P ≤ cu := by omega
              go_wp2_with (at_builtin; refine wpList_append_own _ rfl (.tmp 62) (.tmp 68) 47 rfl w4.heap.size 75 ii (.agg #[.int .i64 0, .bool false, .bool false, .bool false, .int .i64 0]) 5 24 Tryd.underlying47 hi hi0 hi1 hi2 rfl (by decide) _ _ _ rfl O6.out ⟨b', P * 5, none⟩ ((allF F).length - P) _ (mapsV ((allF F).drop P)) rfl (by rw [mapsV_length, lt2]) T1.out mapsV_one' (by unfold maxLen; omega) (by omega) A6.out.size ?_; intro v3 w7 ho hg _; have A7 := Lib.hid (A6.out.grown hg A6.out.size (fun k hk => (O6.out.lt k hk).1)); have O7 := Lib.hid ho; clear ho hg)
              go_meet
              case rel => exact DONE.out _ _ O7.out A7.out
        case rest =>
          obtain ⟨a3, c3, rfl, ho, hb⟩ := hcut
          obtain ⟨w7, hw7⟩ : ∃ w7, w7 = wc := ⟨_, rfl⟩
          rw [← hw7] at ho hb ⊢
          clear hw7
          have O7 := Lib.hid ho
          have A7 := Lib.hid hb
          have CD : Hid (∀ V, Below w7.heap.size w7 V → (V.cell? ⟨bL, j * 2 + 1, none⟩ = some (.slice au (allF F).length cu) ∧ V.cell? ⟨wb, 0, none⟩ = some (.slice (some ⟨bL, 0, none⟩) q c) ∧ V.cell? ⟨wb, 1, none⟩ = some (.int .i64 (n : Int)) ∧ V.cell? ⟨wb, 2, none⟩ = some (.int .i64 (m : Int))) ∧ MapsAt V (.slice au (allF F).length cu) (allF F) ∧ MapsAt V (.slice a3 (allF F').length c3) (allF F') ∧ SpV V (.slice (some ⟨bL, 0, none⟩) q c) K) := Lib.hid fun V hV => by
            have h1 := A7.out.trans (hV.mono A7.out.size)
            have h2 := CC.out V (C4.out.trans (h1.mono C4.out.size))
            have h3 := CB.out V (B4.out.trans (h1.mono B4.out.size))
            exact ⟨⟨h2.1, h3.1⟩, h2.2, MapsAt.of_row (own_step O7.out hV), h3.2.2⟩
          have ht : tabF F' = tabF F + (if hasB F (pn / 32) = true then 0 else 1) := by rw [HF2.out]; exact tabF_needs HPN.out HP1.out
          obtain ⟨t1, ht1⟩ : ∃ t1, tabF F = t1 := ⟨_, rfl⟩
          obtain ⟨t2, ht2⟩ : ∃ t2, tabF F' = t2 := ⟨_, rfl⟩
          obtain ⟨U, hU⟩ : ∃ U, usedK K = U := ⟨_, rfl⟩
          rw [ht1, ht2] at ht
          have HT1 := Lib.hid ht1
          have HT2 := Lib.hid ht2
          have HU := Lib.hid hU
          have hcu : c0 + U = m := by rw [← HU.out]; exact HC.out
          clear ho hb ht1 ht2 hU lt1 lt2
          cases hh : hasB F (pn / 32) with
          | true =>
            rw [hh] at ht
            obtain rfl : t1 = t2 := by rw [ht]; rfl
            clear ht
            have d0 : decide ((t1 : Int) < (t1 : Int)) = false := decide_eq_false (by omega)
            have e5 : Hid (mapErr n W c0 (k' : Int) (pn : Int) (p, x, k, g) = 0) := Lib.hid (by rw [hme.out, hh]; simp)
            obtain ⟨y0, y1, y2, y3⟩ := (CD.out w7 (Below.refl _ _)).1
            clear hme
            go_wp2_with fail
            refine wp_region_noPanic ?_
            refine wp_region_held_drew (S := (fun V => V.cell? ⟨bL, j * 2 + 1, none⟩ = some (.slice au (allF F).length cu) ∧ V.cell? ⟨wb, 0, none⟩ = some (.slice (some ⟨bL, 0, none⟩) q c) ∧ V.cell? ⟨wb, 1, none⟩ = some (.int .i64 (n : Int)) ∧ V.cell? ⟨wb, 2, none⟩ = some (.int .i64 (m : Int)))) (by kernel_rfl) (by exact (CD.out _ (Below.refl _ _).drew).1) (fun hHeld => ?_)
            refine wpAnyH_take (i := 0) (oi := _) (v := .slice a3 (allF F').length c3) rfl (by kernel_rfl) (by kernel_rfl) (by kernel_rfl) (fun _ _ _ h => h) (Or.inl ⟨by rfl, ?_⟩) (by assumption) ?_
            · intro w hSw
              try dsimp only at hSw
              go_split_ands
              go_simp
            try simp only [Act.put, List.getElem_toArray, List.getElem_cons_zero, List.setIfInBounds_toArray, List.set_cons_zero, List.set_cons_succ]
            refine wpAnyH_take (i := 2) (oi := _) (v := .pointer (some ⟨bL, j * 2, none⟩)) rfl (by kernel_rfl) (by kernel_rfl) (by kernel_rfl) (fun _ _ _ h => h) (Or.inl ⟨by rfl, ?_⟩) (by assumption) ?_
            · intro w hSw
              try dsimp only at hSw
              go_split_ands
              go_simp
            try simp only [Act.put, List.getElem_toArray, List.getElem_cons_zero, List.getElem_cons_succ, List.setIfInBounds_toArray, List.set_cons_zero, List.set_cons_succ]
            refine wpAnyH_take (i := 3) (oi := _) (v := .pointer (some ⟨bL, j * 2, none⟩)) rfl (by kernel_rfl) (by kernel_rfl) (by kernel_rfl) (fun _ _ _ h => h) (Or.inl ⟨by rfl, ?_⟩) (by assumption) ?_
            · intro w hSw
              try dsimp only at hSw
              go_split_ands
              go_simp
            try simp only [Act.put, List.getElem_toArray, List.getElem_cons_zero, List.getElem_cons_succ, List.setIfInBounds_toArray, List.set_cons_zero, List.set_cons_succ]
            refine wpAnyH_take (i := 4) (oi := _) (v := .pointer (some ⟨bL, j * 2 + 1, none⟩)) rfl (by kernel_rfl) (by kernel_rfl) (by kernel_rfl) (fun _ _ _ h => h) (Or.inl ⟨by rfl, ?_⟩) (by assumption) ?_
            · intro w hSw
              try dsimp only at hSw
              go_split_ands
              go_simp
            try simp only [Act.put, List.getElem_toArray, List.getElem_cons_zero, List.getElem_cons_succ, List.setIfInBounds_toArray, List.set_cons_zero, List.set_cons_succ]
            refine wpAnyH_take (i := 5) (oi := _) (v := .slice au (allF F).length cu) rfl (by kernel_rfl) (by kernel_rfl) (by kernel_rfl) (fun _ _ _ h => h) (Or.inl ⟨by rfl, ?_⟩) (by assumption) ?_
            · intro w hSw
              try dsimp only at hSw
              go_split_ands
              go_simp
            try simp only [Act.put, List.getElem_toArray, List.getElem_cons_zero, List.getElem_cons_succ, List.setIfInBounds_toArray, List.set_cons_zero, List.set_cons_succ]
            refine wpAnyH_ready (rs := [1]) (by kernel_rfl) (by simp) ?_
            refine AllReadyH.cons (o := _) rfl (fun K1 hK => ?_) AllReadyH.nil
            clear hHeld
            go_simp
            refine (rtables_ok F' (.slice a3 (allF F').length c3) _ (CD.out _ (Below.refl _ _).drew).2.2.1).mono ?_
            rw [HT2.out]
            rintro e wd ⟨rfl, hb⟩
            have BD : Hid (Below w7.heap.size w7 wd) := Lib.hid ((Below.refl _ _).drew.trans hb)
            clear hb
            refine hK.out _ _ (by exact (CD.out wd BD.out).1) (fun hHeld => ?_)
            clear hK K1
            try simp only [Act.put, List.getElem_toArray, List.getElem_cons_zero, List.getElem_cons_succ, List.setIfInBounds_toArray, List.set_cons_zero, List.set_cons_succ]
            refine wpAnyH_ready (rs := [6]) (by kernel_rfl) (by simp) ?_
            refine AllReadyH.cons (o := _) rfl (fun K1 hK => ?_) AllReadyH.nil
            clear hHeld
            go_simp
            refine (rtables_ok F (.slice au (allF F).length cu) wd (CD.out wd BD.out).2.1).mono ?_
            rw [HT1.out]
            rintro e we ⟨rfl, hb⟩
            have BE : Hid (Below w7.heap.size w7 we) := Lib.hid (BD.out.trans (hb.mono BD.out.size))
            clear hb
            refine hK.out _ _ (by exact (CD.out we BE.out).1) (fun hHeld => ?_)
            clear hK K1
            try simp only [Act.put, List.getElem_toArray, List.getElem_cons_zero, List.getElem_cons_succ, List.setIfInBounds_toArray, List.set_cons_zero, List.set_cons_succ]
            refine wpAnyH_take (i := 7) (oi := _) (v := .bool false) rfl (by kernel_rfl) (by kernel_rfl) (by kernel_rfl) (fun _ _ _ h => h) (Or.inl ⟨by rfl, ?_⟩) (by assumption) ?_
            · intro w hSw
              try dsimp only at hSw
              go_split_ands
              go_simp
            try simp only [Act.put, List.getElem_toArray, List.getElem_cons_zero, List.getElem_cons_succ, List.setIfInBounds_toArray, List.set_cons_zero, List.set_cons_succ]
            refine wpAnyH_take (i := 8) (oi := _) (v := .bool false) rfl (by kernel_rfl) (by kernel_rfl) (by kernel_rfl) (fun _ _ _ h => h) (Or.inl ⟨by rfl, ?_⟩) (by assumption) ?_
            · intro w hSw
              try dsimp only at hSw
              go_split_ands
              go_simp
            try simp only [Act.put, List.getElem_toArray, List.getElem_cons_zero, List.getElem_cons_succ, List.setIfInBounds_toArray, List.set_cons_zero, List.set_cons_succ]
            refine wpAnyH_take (i := 9) (oi := _) (v := undef) rfl (by kernel_rfl) (by kernel_rfl) (by kernel_rfl) (fun _ _ _ h => h) (Or.inr ⟨by rfl, rfl⟩) (by assumption) ?_
            try simp only [Act.put, List.getElem_toArray, List.getElem_cons_zero, List.getElem_cons_succ, List.setIfInBounds_toArray, List.set_cons_zero, List.set_cons_succ]
            refine wpAnyH_take (i := 10) (oi := _) (v := undef) rfl (by kernel_rfl) (by kernel_rfl) (by kernel_rfl) (fun _ _ _ h => h) (Or.inr ⟨by rfl, rfl⟩) (by assumption) ?_
            try simp only [Act.put, List.getElem_toArray, List.getElem_cons_zero, List.getElem_cons_succ, List.setIfInBounds_toArray, List.set_cons_zero, List.set_cons_succ]
            refine wpAnyH_take (i := 11) (oi := _) (v := undef) rfl (by kernel_rfl) (by kernel_rfl) (by kernel_rfl) (fun _ _ _ h => h) (Or.inr ⟨by rfl, rfl⟩) (by assumption) ?_
            try simp only [Act.put, List.getElem_toArray, List.getElem_cons_zero, List.getElem_cons_succ, List.setIfInBounds_toArray, List.set_cons_zero, List.set_cons_succ]
            refine wpAnyH_take (i := 12) (oi := _) (v := undef) rfl (by kernel_rfl) (by kernel_rfl) (by kernel_rfl) (fun _ _ _ h => h) (Or.inr ⟨by rfl, rfl⟩) (by assumption) ?_
            try simp only [Act.put, List.getElem_toArray, List.getElem_cons_zero, List.getElem_cons_succ, List.setIfInBounds_toArray, List.set_cons_zero, List.set_cons_succ]
            refine wpAnyH_take (i := 13) (oi := _) (v := undef) rfl (by kernel_rfl) (by kernel_rfl) (by kernel_rfl) (fun _ _ _ h => h) (Or.inr ⟨by rfl, rfl⟩) (by assumption) ?_
            try simp only [Act.put, List.getElem_toArray, List.getElem_cons_zero, List.getElem_cons_succ, List.setIfInBounds_toArray, List.set_cons_zero, List.set_cons_succ]
            refine wpAnyH_take (i := 14) (oi := _) (v := undef) rfl (by kernel_rfl) (by kernel_rfl) (by kernel_rfl) (fun _ _ _ h => h) (Or.inr ⟨by rfl, rfl⟩) (by assumption) ?_
            try simp only [Act.put, List.getElem_toArray, List.getElem_cons_zero, List.getElem_cons_succ, List.setIfInBounds_toArray, List.set_cons_zero, List.set_cons_succ]
            refine wpAnyH_take (i := 15) (oi := _) (v := undef) rfl (by kernel_rfl) (by kernel_rfl) (by kernel_rfl) (fun _ _ _ h => h) (Or.inr ⟨by rfl, rfl⟩) (by assumption) ?_
            try simp only [Act.put, List.getElem_toArray, List.getElem_cons_zero, List.getElem_cons_succ, List.setIfInBounds_toArray, List.set_cons_zero, List.set_cons_succ]
            refine wpAnyH_take (i := 16) (oi := _) (v := undef) rfl (by kernel_rfl) (by kernel_rfl) (by kernel_rfl) (fun _ _ _ h => h) (Or.inr ⟨by rfl, rfl⟩) (by assumption) ?_
            try simp only [Act.put, List.getElem_toArray, List.getElem_cons_zero, List.getElem_cons_succ, List.setIfInBounds_toArray, List.set_cons_zero, List.set_cons_succ]
            refine wpAnyH_take (i := 17) (oi := _) (v := undef) rfl (by kernel_rfl) (by kernel_rfl) (by kernel_rfl) (fun _ _ _ h => h) (Or.inr ⟨by rfl, rfl⟩) (by assumption) ?_
            try simp only [Act.put, List.getElem_toArray, List.getElem_cons_zero, List.getElem_cons_succ, List.setIfInBounds_toArray, List.set_cons_zero, List.set_cons_succ]
            refine wpAnyH_take (i := 18) (oi := _) (v := .bool false) rfl (by kernel_rfl) (by kernel_rfl) (by kernel_rfl) (fun _ _ _ h => h) (Or.inl ⟨by rfl, ?_⟩) (by assumption) ?_
            · intro w hSw
              try dsimp only at hSw
              go_split_ands
              go_simp
            try simp only [Act.put, List.getElem_toArray, List.getElem_cons_zero, List.getElem_cons_succ, List.setIfInBounds_toArray, List.set_cons_zero, List.set_cons_succ]
            refine wpAnyH_done (by kernel_rfl) ?_ _
            refine NoPanic.normal ?_
            clear y0 y1 y2 y3
            have z0' := (CD.out we BE.out).1.1
            have hw9 : Below w.heap.size w we := B0.out.trans ((B4.out.trans ((A7.out.trans (BE.out.mono A7.out.size)).mono B4.out.size)).mono B0.out.size)
            have fz := (own_step H.out.row hw9).frozenAt (j * 2 + 1)
            have HW9 := Lib.hid hw9
            have HZ9 := Lib.hid (own_step O7.out BE.out)
            clear hw9
            go_wp2_with fail
            go_ret
            refine ⟨by rw [e5.out]; rfl, ?_⟩
            have ew : mapW n c0 W (k' : Int) (pn : Int) (p, x, k, g) = updW W k' (some F') := by unfold mapW; rw [e5.out, if_pos rfl, putW_in HS.out, HF2.out]
            have ec : mapC n c0 W (k' : Int) (pn : Int) (p, x, k, g) = c0 := by unfold mapC; rw [e5.out, if_pos rfl, needs_in HS.out, hh]; rfl
            rw [ew, ec]
            exact RDone.put H.out HM.out HW9.out (by have := HQ.out; omega) HY.out (own_base HZ9.out (Nat.le_trans HBS.out (Nat.le_trans B0.out.size B4.out.size))) HC.out (by have := HT1.out; have := HT2.out; omega)
          | false =>
            rw [hh] at ht
            have T21 : Hid (t2 = t1 + 1) := Lib.hid (by rw [ht]; rfl)
            have d0 : decide ((t1 : Int) < (t2 : Int)) = true := decide_eq_true (by have := T21.out; omega)
            have d0' : decide (t1 < t2) = true := decide_eq_true (by have := T21.out; omega)
            clear ht
            by_cases hz0 : c0 = 0
            · have e5 : Hid (mapErr n W c0 (k' : Int) (pn : Int) (p, x, k, g) = 3) := Lib.hid (by rw [hme.out, hh, hz0]; simp)
              have d1 : decide ((m : Int) ≤ (U : Int)) = true := decide_eq_true (by omega)
              have d1' : decide (m ≤ U) = true := decide_eq_true (by omega)
              obtain ⟨y0, y1, y2, y3⟩ := (CD.out w7 (Below.refl _ _)).1
              clear hme
              go_wp2_with fail
              go_region_held3 (fun V => V.cell? ⟨bL, j * 2 + 1, none⟩ = some (.slice au (allF F).length cu) ∧ V.cell? ⟨wb, 0, none⟩ = some (.slice (some ⟨bL, 0, none⟩) q c) ∧ V.cell? ⟨wb, 1, none⟩ = some (.int .i64 (n : Int)) ∧ V.cell? ⟨wb, 2, none⟩ = some (.int .i64 (m : Int))) (first | exact (CD.out _ (Below.refl _ _).drew).1 | go_keep | exact (CD.out wf BF.out).1 | exact (CD.out we BE.out).1 | exact (CD.out wd BD.out).1)
                (first
                  | (go_at_call 20; first
                      | (have hbd := BD.out; clear hbd; refine (rtables_ok F (.slice au (allF F).length cu) wd (CD.out wd BD.out).2.1).mono ?_; rw [HT1.out]; rintro e we ⟨rfl, hb⟩; have BE : Hid (Below w7.heap.size w7 we) := Lib.hid (BD.out.trans (hb.mono BD.out.size)); clear hb)
                      | (refine (rtables_ok F' (.slice a3 (allF F').length c3) _ (CD.out _ (Below.refl _ _).drew).2.2.1).mono ?_; rw [HT2.out]; rintro e wd ⟨rfl, hb⟩; have BD : Hid (Below w7.heap.size w7 wd) := Lib.hid ((Below.refl _ _).drew.trans hb); clear hb))
                  | (go_at_call 13; refine (rused_ok K _ q c n m we HQ.out hl' (CD.out we BE.out).2.2.2).mono ?_; rw [HU.out]; rintro e wf ⟨rfl, hb⟩; have BF : Hid (Below w7.heap.size w7 wf) := Lib.hid (BE.out.trans (hb.mono BE.out.size)); clear hb))
              clear y0 y1 y2 y3
              go_wp2_with fail
              go_ret
              refine ⟨by rw [e5.out]; rfl, ?_⟩
              unfold mapW mapC
              rw [e5.out, if_neg (by decide), if_neg (by decide)]
              exact RDone.stay H.out HM.out HC.out (B0.out.trans ((B4.out.trans ((A7.out.trans (BF.out.mono A7.out.size)).mono B4.out.size)).mono B0.out.size))
            · have e5 : Hid (mapErr n W c0 (k' : Int) (pn : Int) (p, x, k, g) = 0) := Lib.hid (by rw [hme.out, hh]; simp [hz0])
              have d1 : decide ((m : Int) ≤ (U : Int)) = false := decide_eq_false (by omega)
              have d1' : decide (m ≤ U) = false := decide_eq_false (by omega)
              obtain ⟨y0, y1, y2, y3⟩ := (CD.out w7 (Below.refl _ _)).1
              clear hme
              go_wp2_with fail
              go_region_held3 (fun V => V.cell? ⟨bL, j * 2 + 1, none⟩ = some (.slice au (allF F).length cu) ∧ V.cell? ⟨wb, 0, none⟩ = some (.slice (some ⟨bL, 0, none⟩) q c) ∧ V.cell? ⟨wb, 1, none⟩ = some (.int .i64 (n : Int)) ∧ V.cell? ⟨wb, 2, none⟩ = some (.int .i64 (m : Int))) (first | exact (CD.out _ (Below.refl _ _).drew).1 | go_keep | exact (CD.out wf BF.out).1 | exact (CD.out we BE.out).1 | exact (CD.out wd BD.out).1)
                (first
                  | (go_at_call 20; first
                      | (have hbd := BD.out; clear hbd; refine (rtables_ok F (.slice au (allF F).length cu) wd (CD.out wd BD.out).2.1).mono ?_; rw [HT1.out]; rintro e we ⟨rfl, hb⟩; have BE : Hid (Below w7.heap.size w7 we) := Lib.hid (BD.out.trans (hb.mono BD.out.size)); clear hb)
                      | (refine (rtables_ok F' (.slice a3 (allF F').length c3) _ (CD.out _ (Below.refl _ _).drew).2.2.1).mono ?_; rw [HT2.out]; rintro e wd ⟨rfl, hb⟩; have BD : Hid (Below w7.heap.size w7 wd) := Lib.hid ((Below.refl _ _).drew.trans hb); clear hb))
                  | (go_at_call 13; refine (rused_ok K _ q c n m we HQ.out hl' (CD.out we BE.out).2.2.2).mono ?_; rw [HU.out]; rintro e wf ⟨rfl, hb⟩; have BF : Hid (Below w7.heap.size w7 wf) := Lib.hid (BE.out.trans (hb.mono BE.out.size)); clear hb))
              clear y0 y1 y2 y3
              have z0' := (CD.out wf BF.out).1.1
              have hw9 : Below w.heap.size w wf := B0.out.trans ((B4.out.trans ((A7.out.trans (BF.out.mono A7.out.size)).mono B4.out.size)).mono B0.out.size)
              have fz := (own_step H.out.row hw9).frozenAt (j * 2 + 1)
              have HW9 := Lib.hid hw9
              have HZ9 := Lib.hid (own_step O7.out BF.out)
              clear hw9
              go_wp2_with fail
              go_ret
              refine ⟨by rw [e5.out]; rfl, ?_⟩
              have ew : mapW n c0 W (k' : Int) (pn : Int) (p, x, k, g) = updW W k' (some F') := by unfold mapW; rw [e5.out, if_pos rfl, putW_in HS.out, HF2.out]
              have ec : mapC n c0 W (k' : Int) (pn : Int) (p, x, k, g) = c0 - 1 := by unfold mapC; rw [e5.out, if_pos rfl, needs_in HS.out, hh]; rfl
              rw [ew, ec]
              exact RDone.put H.out HM.out HW9.out (by have := HQ.out; omega) HY.out (own_base HZ9.out (Nat.le_trans HBS.out (Nat.le_trans B0.out.size B4.out.size))) HC.out (by have := HT1.out; have := HT2.out; have := T21.out; omega)
  · have hne : (er != 0) = true := by simpa using hz
    go_enter Tryd.func32, Tryd.ntmps32
    go_wp2_with fail
    rw [← hwe.out]
    clear hwe
    go_region_held3 (fun V => (V.cell? ⟨wb, 0, none⟩ = some (.slice a q c) ∧ V.cell? ⟨wb, 1, none⟩ = some (.int .i64 (n : Int)) ∧ V.cell? ⟨wb, 2, none⟩ = some (.int .i64 (m : Int))) ∧ (V.cell? ⟨w.heap.size, 0, none⟩ = some (.bool p) ∧ V.cell? ⟨w.heap.size, 1, none⟩ = some (.bool x) ∧ V.cell? ⟨w.heap.size, 2, none⟩ = some (.bool k) ∧ V.cell? ⟨w.heap.size, 3, none⟩ = some (.int .i64 g))) (first | exact ⟨(CB.out _ (Below.refl _ _).drew).1, (CB.out _ (Below.refl _ _).drew).2.1⟩ | go_keep | exact ⟨(CB.out w2 B2.out).1, (CB.out w2 B2.out).2.1⟩ | exact ⟨(CB.out w1 B1.out).1, (CB.out w1 B1.out).2.1⟩)
      (first
        | (go_at_call 60; refine (rfits_ok a q c n m p x k g _).mono ?_; rintro e w1 ⟨rfl, hb⟩; have B1 : Hid (Below w0.heap.size w0 w1) := Lib.hid ((Below.refl _ _).drew.trans hb); clear hb)
        | (go_at_call 59; refine (rasked_ok W K a q c n m r pg _ w1 HQ.out hl' (CB.out w1 B1.out).2.2 HM.out).mono ?_; rw [HER.out]; rintro e w2 ⟨rfl, hb⟩; have B2 : Hid (Below w0.heap.size w0 w2) := Lib.hid (B1.out.trans (hb.mono B1.out.size)); clear hb))
    clear y0 y1 y2 x0 x1 x2 x3
    go_wp2_with fail
    go_ret
    have hme : mapErr n W c0 r pg (p, x, k, g) = er := by unfold mapErr; rw [HER.out, if_neg hz]
    refine ⟨by rw [hme]; rfl, ?_⟩
    unfold mapW mapC
    rw [hme, if_neg hz, if_neg hz]
    exact RDone.stay H.out HM.out HC.out (B0.out.trans (B2.out.mono B0.out.size))
end Go.Proofs.YtkcecfghfohjcaaDoor

/- The contract of the document's Unmap. No condition. Written by tpl/gen_n46.py. -/
namespace Go.Proofs.YtkcecfghfohjcaaDoor
open Go.RowKit Go.Maps
set_option maxRecDepth 100000
attribute [local irreducible] allF tabF plF mapB hasB segN

theorem Only.put4b (w : World) (b : Nat) (e : Ent) : Only w (put4b w b e) (fun y => y = b) :=
  let h := put4b_below (e' := e) (Below.refl 0 w) (Nat.zero_le b)
  ⟨h.os, h.tape, h.output, h.size, fun _ _ hk => put4b_other hk⟩
/-- The answer's box, of the call's own, is written to. -/
theorem RDone.entry {base : Nat} {w w' : World} {wb n m c c0 b : Nat} {a : Option Addr} {K : List Rec} {W : Nat → Option Sp} {e e' : Ent} (h : RDone base w w' wb n m a c K W c0) (hb : w'.heap[b]? = some (entO e)) (hs : w.heap.size ≤ b) : RDone base w (put4b w' b e') wb n m a c K W c0 := by
  obtain ⟨K', h1, h2, h3, h4⟩ := h.ex
  have ho := Only.put4b w' b e'
  refine ⟨⟨K', h1.only ho fun k cs t hk ht hkb => ?_, h2, h3, h4⟩, h.only.os, ?_, ?_, ?_, fun k hk hB => ?_⟩
  · rw [hkb, hb] at hk
    cases hk
    rcases ht with h | h | h <;> exact absurd h (by decide)
  · exact ho.tape.trans h.only.tape
  · exact ho.output.trans h.only.output
  · exact Nat.le_trans h.only.size ho.size
  · exact (put4b_other (by omega)).trans (h.only.block k hk hB)
theorem drop_split {F : Sp} {p : Nat} {P : Nat} (hp : p < 1024) (hf : (F p).1 = true) (hP : plF F (p : Int) = P) : allF (updF F p z0) = (allF F).take P ++ (allF F).drop (P + 1) := by
  rw [allF_put F p z0 hp, ← hP, plF_take hp, plF_drop1 hp hf]
  simp [z0]
set_option maxHeartbeats 4000000 in
theorem runmap_ok {base : Nat} {w : World} {wb n m c c0 : Nat} {a : Option Addr} {K : List Rec} {W : Nat → Option Sp} (h : RefW base w wb n m a c K) (hbs : base ≤ w.heap.size) (hm : Match W K) (hl : K.length ≤ 100) (hc0 : c0 + usedK K = m) (r pg : Int) {p x k : Bool} {g : Int} (he : unmE' W r pg = (p, x, k, g)) :
    Calls Tryd.prog 33 #[.pointer (some ⟨wb, 0, none⟩), .int .i64 r, .int .i64 pg] w fun e w' => e = .returned (.tuple #[ent p x k g, .int .i64 (unmErr W r pg)]) ∧ RDone base w w' wb n m a c K (unmW W r pg) (unmC c0 W r pg) := by
  obtain ⟨ii, hi, hi0, hi1, hi2⟩ := info_parts mapInfo
  obtain ⟨q, hq⟩ : ∃ q, q = K.length := ⟨_, rfl⟩
  have HQ := Lib.hid hq
  have hl' : q ≤ 100 := by omega
  have H := Lib.hid h
  have HM := Lib.hid hm
  have HC := Lib.hid hc0
  have HBS := Lib.hid hbs
  have HE := Lib.hid he
  obtain ⟨w0, hw0⟩ : ∃ w0, w0 = w.alloc (.cells #[.bool false, .bool false, .bool false, .int .i64 0] 37) := ⟨_, rfl⟩
  have B0 : Hid (Below w.heap.size w w0) := Lib.hid (by rw [hw0]; exact (Below.refl _ _).alloc (Nat.le_refl _) _)
  have E0 : Hid (w0.heap[w.heap.size]? = some (entO z0)) := Lib.hid (by rw [hw0]; exact heap_alloc_new w _)
  have CB : Hid (∀ V, Below w0.heap.size w0 V → (V.cell? ⟨wb, 0, none⟩ = some (.slice a q c) ∧ V.cell? ⟨wb, 1, none⟩ = some (.int .i64 (n : Int)) ∧ V.cell? ⟨wb, 2, none⟩ = some (.int .i64 (m : Int))) ∧ V.heap[w.heap.size]? = some (entO z0) ∧ SpV V (.slice a q c) K) := Lib.hid fun V hV => by
    have h1 := h.step (B0.out.trans (hV.mono B0.out.size))
    have h2 := cells3 h1.box
    have h3 := h1.spv
    rw [← hq] at h2 h3
    exact ⟨h2, below_block hV E0.out, h3⟩
  obtain ⟨er, her⟩ : ∃ er, askErr W r pg true = er := ⟨_, rfl⟩
  have HER := Lib.hid her
  obtain ⟨z0', -, -⟩ := CB.out w0 (Below.refl _ _)
  obtain ⟨y0, y1, y2⟩ := z0'
  have hwe := Lib.hid hw0
  rw [hw0] at y0 y1 y2
  clear h hm hbs her hl hq hw0 hc0 he
  by_cases hz : er = 0
  · subst hz
    obtain ⟨k', pn, F, rfl, rfl, hpn, hw, -, hs⟩ := askErr_zero HER.out
    have HS := Lib.hid hs
    have HPN := Lib.hid hpn
    clear hw hs hpn
    go_enter Tryd.func33, Tryd.ntmps33
    go_wp2_with fail
    rw [← hwe.out]
    clear hwe
    refine (rasked_ok W K a q c n m _ _ _ w0 HQ.out hl' (CB.out w0 (Below.refl _ _)).2.2 HM.out).mono ?_
    rw [HER.out]
    rintro e w2 ⟨rfl, hb⟩
    have B2 : Hid (Below w0.heap.size w0 w2) := Lib.hid hb
    clear hb y0 y1 y2
    obtain ⟨J, hJ, hJ2⟩ := AtIs.of HM.out (k' : Int)
    obtain ⟨j, k2, F2, u, rfl, hk2, hj, hy, hs2, -⟩ := hJ2.resolve_left (by rintro ⟨-, h0⟩; rw [HS.out] at h0; cases h0)
    obtain rfl : k' = k2 := by omega
    obtain rfl : F = F2 := by have := hs2; rw [HS.out] at this; exact Option.some.inj this
    have HJ := Lib.hid hJ
    have HY := Lib.hid hy
    clear hJ hs2 hk2
    have hjq : j < q := by rw [HQ.out]; exact hj
    have hjq2 : (j : Int) < (q : Int) := by omega
    obtain ⟨y, -, -⟩ := CB.out w2 B2.out
    obtain ⟨y0, y1, y2⟩ := y
    go_wp2_with fail
    have D2 : Hid (Below w0.heap.size w0 w2.drew) := Lib.hid B2.out.drew
    obtain ⟨bL, rfl, hbl, -, hu, hmp⟩ := (CB.out w2 B2.out).2.2.at_ HQ.out hjq hy
    have CC : Hid (∀ V, Below w2.heap.size w2 V → V.cell? ⟨bL, j * 2 + 1, none⟩ = some u ∧ MapsAt V u (allF F)) := Lib.hid fun V hV => ⟨(hV.cell (p := ⟨bL, _, none⟩) hbl).trans hu, hmp.below hV⟩
    have HR : Hid (w.ownsRow base 75 5 u (allF F).length (mapsV (allF F))) := Lib.hid (by have := H.out.maps j hj; rw [hy] at this; exact this)
    clear hu hmp hj hy
    go_region_held3 (fun V => V.cell? ⟨wb, 0, none⟩ = some (.slice (some ⟨bL, 0, none⟩) q c) ∧ V.cell? ⟨wb, 1, none⟩ = some (.int .i64 (n : Int)) ∧ V.cell? ⟨wb, 2, none⟩ = some (.int .i64 (m : Int))) (first | exact (CB.out _ D2.out).1 | go_keep | exact (CB.out w3 B3.out).1)
      ((go_at_call 31; refine (rat_ok K _ q c n m _ _ _ HQ.out hl' (CB.out _ D2.out).2.2 HJ.out).mono ?_; rintro e w3 ⟨rfl, hb⟩; have B3 : Hid (Below w0.heap.size w0 w3) := Lib.hid (D2.out.trans (hb.mono D2.out.size)); have C3 : Hid (Below w2.heap.size w2 w3) := Lib.hid ((Below.refl _ _).drew.trans hb); clear hb))
    clear y0 y1 y2
    obtain ⟨y0, hmp⟩ := CC.out w3 C3.out
    have MP := Lib.hid hmp
    obtain ⟨au, cu, rfl, -⟩ := id hmp
    clear hmp
    obtain ⟨fm, hfm⟩ : ∃ fm, mapB F (pn : Int) = fm := ⟨_, rfl⟩
    have HFM := Lib.hid hfm
    obtain ⟨P, hP⟩ : ∃ P, plF F (pn : Int) = P := ⟨_, rfl⟩
    have HP := Lib.hid hP
    clear hfm hP
    go_wp2_with fail
    refine (rplace_ok F _ (pn : Int) w3 MP.out).mono ?_
    rw [HFM.out, HP.out]
    rintro e w4 ⟨rfl, hb⟩
    have B4 : Hid (Below w0.heap.size w0 w4) := Lib.hid (B3.out.trans (hb.mono B3.out.size))
    have C4 : Hid (Below w2.heap.size w2 w4) := Lib.hid (C3.out.trans (hb.mono C3.out.size))
    clear hb y0
    cases fm with
    | false =>
      have U2 : Hid (unmE' W (k' : Int) (pn : Int) = z0) := Lib.hid (unm_far HS.out HFM.out).2
      have UE : Hid (unmErr W (k' : Int) (pn : Int) = 4) := Lib.hid (by rw [unmErr_in HS.out HPN.out, ← mapB_of HPN.out, HFM.out]; rfl)
      obtain ⟨rfl, rfl, rfl, rfl⟩ : false = p ∧ false = x ∧ false = k ∧ (0 : Int) = g := by
        have := HE.out
        rw [U2.out] at this
        simp only [z0, Prod.mk.injEq] at this
        exact this
      have E9 := Lib.hid (CB.out w4 B4.out).2.1
      have f0 := frozen_of_row _ w.heap.size 0 _ _ E9.out
      have f1 := frozen_of_row _ w.heap.size 1 _ _ E9.out
      have f2 := frozen_of_row _ w.heap.size 2 _ _ E9.out
      have f3 := frozen_of_row _ w.heap.size 3 _ _ E9.out
      obtain ⟨d0, d1, d2, d3⟩ := cells4 (e := z0) E9.out
      go_wp2
      have Q5 := put4b_same (e := z0) (e' := z0) E9.out
      obtain ⟨e0, e1, e2, e3⟩ := cells4 Q5
      simp only [put4b, z0] at e0 e1 e2 e3
      refine bodyPost_ret (v := .tuple #[entV z0, .int .i64 4]) ?_ rfl ⟨?_, ?_⟩
      · simp [results, Tryd.results33, go_sem, e0, e1, e2, e3, entV, z0]
      · rw [UE.out]; rfl
      · unfold unmW unmC
        rw [UE.out, if_neg (by decide), if_neg (by decide)]
        exact (RDone.stay H.out HM.out HC.out (B0.out.trans (B4.out.mono B0.out.size))).entry (e := z0) (e' := z0) E9.out (Nat.le_refl _)
    | true =>
      have hf : (F pn).1 = true := by rw [← mapB_of HPN.out]; exact HFM.out
      have U2 : Hid (F pn = (p, x, k, g)) := Lib.hid ((unm_in HS.out HPN.out hf).2.symm.trans HE.out)
      have UE : Hid (unmErr W (k' : Int) (pn : Int) = 0) := Lib.hid (unm_in HS.out HPN.out hf).1
      obtain ⟨hlt, hget⟩ := plF_get HPN.out hf
      rw [HP.out] at hlt hget
      rw [U2.out] at hget
      obtain ⟨F', hF'⟩ : ∃ F', F' = updF F pn z0 := ⟨_, rfl⟩
      have hsp : allF F' = (allF F).take P ++ (allF F).drop (P + 1) := by rw [hF']; exact drop_split HPN.out hf HP.out
      have lt1 : ((allF F).take P).length = P := by rw [List.length_take]; omega
      have lt2 : ((allF F).drop (P + 1)).length = (allF F).length - (P + 1) := by rw [List.length_drop]
      have FE : Hid (mapsV (allF F') = mapsV ((allF F).take P) ++ mapsV ((allF F).drop (P + 1)) ∧ (allF F').length = P + ((allF F).length - (P + 1))) := Lib.hid ⟨by rw [hsp, mapsV_append], by rw [hsp, List.length_append, lt1, lt2]⟩
      have hlen := allF_len F
      have HF := Lib.hid hf
      have HF2 := Lib.hid hF'
      clear hsp hf hF' hJ2
      obtain ⟨y0, hmp4⟩ := CC.out w4 C4.out
      obtain ⟨bU, rfl, hbU, m0, m1, m2, m3, m4⟩ := hmp4.row_ rfl hlt hget
      clear hmp4 hget
      have hltI : (P : Int) < ((allF F).length : Int) := by omega
      go_upto_region 9 with fail
      obtain ⟨w5, hw5⟩ : ∃ w5, w5 = w4.alloc (.cells #[.bool p, .bool x, .bool k, .int .i64 g] 37) := ⟨_, rfl⟩
      rw [← hw5]
      obtain ⟨bN, hbN⟩ : ∃ bN, bN = w4.heap.size := ⟨_, rfl⟩
      have A0 : Hid (Below w4.heap.size w4 w5) := Lib.hid (by rw [hw5]; exact (Below.refl _ _).alloc (Nat.le_refl _) _)
      have N5 : Hid (w5.heap[bN]? = some (entO (p, x, k, g))) := Lib.hid (by rw [hw5, hbN]; exact heap_alloc_new w4 _)
      rw [← hbN]
      have B5 : Hid (Below w0.heap.size w0 w5) := Lib.hid (B4.out.trans (A0.out.mono B4.out.size))
      have C5 : Hid (Below w2.heap.size w2 w5) := Lib.hid (C4.out.trans (A0.out.mono C4.out.size))
      have HBN : Hid (w.heap.size < bN) := Lib.hid (by have := B4.out.size; have := lt_of_block E0.out; omega)
      have R5 : Hid (w5.ownsRow base 75 5 (.slice (some ⟨bU, 0, none⟩) (allF F).length cu) (allF F).length (mapsV (allF F))) := Lib.hid (own_step HR.out (B0.out.trans (B5.out.mono B0.out.size)))
      clear hw5 hbN m0 m1 m2 m3 m4 y0
      have hPle : P ≤ (allF F).length := by omega
      have hPle1 : P + 1 ≤ (allF F).length := by omega
      obtain ⟨b', c', hu1, hnc, hcm, hb', htk, hdr⟩ := (row_cut R5.out P).resolve_left (by rintro ⟨h0, -⟩; cases h0)
      obtain ⟨b'', c'', hu2, -, -, -, -, hdr1⟩ := (row_cut R5.out (P + 1)).resolve_left (by rintro ⟨h0, -⟩; cases h0)
      injection hu1 with e1 e2 e3
      injection hu2 with e4 e5 e6
      injection e1 with e1
      injection e1 with e1
      injection e4 with e4
      injection e4 with e4
      subst e1
      subst e3
      subst e4
      subst e6
      clear e2 e5 hdr
      rw [mapsV_take _ _ hPle] at htk
      rw [mapsV_drop _ _ hPle1] at hdr1
      have HTK := Lib.hid htk
      have HDR := Lib.hid hdr1
      clear htk hdr1
      go_cut [13] (fun v wx => ∃ a1 c1, v = .slice a1 P c1 ∧ wx.ownsRow w5.heap.size 75 5 (.slice a1 P c1) P (mapsV ((allF F).take P)) ∧ Below w5.heap.size w5 wx)
      case first =>
        have OM := Lib.hid (World.ownsRow_made (base := w5.heap.size) (e := 75) (size := 5) w5 #[] 0 (Nat.le_refl _) (by decide) rfl)
        have AM : Hid (Below w5.heap.size w5 (w5.alloc (.cells #[] 75))) := Lib.hid ((Below.refl _ _).alloc (Nat.le_refl _) _)
        have y0 := (CC.out _ (C5.out.trans (AM.out.mono C5.out.size))).1
        have T1 : Hid (∀ j u, (mapsV ((allF F).take P))[j]? = some u → (w5.alloc (.cells #[] 75)).cell? ((⟨bU, 0, none⟩ : Addr).add j) = some u) := Lib.hid fun j u hu => by
          rw [Addr.add_mid, AM.out.cell (p := ⟨bU, 0 + j, none⟩) hb', ← Addr.add_mid]; exact HTK.out j u hu
        have i1 : (P : Int) ≤ (cu : Int) := by omega
        have i2 : P ≤ cu := by omega
        go_wp2_with (at_builtin; refine wpList_append_own _ rfl (.tmp 54) (.tmp 60) 47 rfl w5.heap.size 75 ii (.agg #[.int .i64 0, .bool false, .bool false, .bool false, .int .i64 0]) 5 24 Tryd.underlying47 hi hi0 hi1 hi2 rfl (by decide) _ 0 [] rfl OM.out ⟨bU, 0, none⟩ _ _ (mapsV ((allF F).take P)) rfl (by rw [mapsV_length, lt1]) T1.out mapsV_one' (by unfold maxLen; omega) (by omega) AM.out.size ?_; intro v1 w6 ho hg _; rw [Nat.zero_add, List.nil_append] at ho; have A5 := Lib.hid (AM.out.grown hg AM.out.size (fun k hk => (OM.out.lt k hk).1)); obtain ⟨a1, c1, rfl⟩ := owns_slice ho; have O5 := Lib.hid ho; clear ho hg)
        go_meet
        case rel => exact ⟨_, _, rfl, O5.out, A5.out⟩
      case rest =>
        obtain ⟨a1, c1, rfl, ho, hb⟩ := hcut
        obtain ⟨w6, hw6⟩ : ∃ w6, w6 = wc := ⟨_, rfl⟩
        rw [← hw6] at ho hb ⊢
        clear hw6
        have O6 := Lib.hid ho
        have A6 := Lib.hid hb
        have fzA : Hid (∀ V, Below w5.heap.size w5 V → V.frozen? ⟨bL, j * 2 + 1, none⟩ = false) := Lib.hid fun V hV => (own_step H.out.row (B0.out.trans ((B5.out.trans (hV.mono B5.out.size)).mono B0.out.size))).frozenAt (j * 2 + 1)
        have CD : Hid (∀ V, Below w5.heap.size w5 V → V.cell? ⟨bL, j * 2 + 1, none⟩ = some (.slice (some ⟨bU, 0, none⟩) (allF F).length cu)) := Lib.hid fun V hV => (CC.out _ (C5.out.trans (hV.mono C5.out.size))).1
        clear ho hb
        go_upto_region 10 with fail
        go_cut [] (fun wx => ∃ w7 a3 c3, w7.ownsRow w5.heap.size 75 5 (.slice a3 (allF F').length c3) (allF F').length (mapsV (allF F')) ∧ Below w5.heap.size w5 w7 ∧ wx = w7.setCell ⟨bL, j * 2 + 1, none⟩ (.slice a3 (allF F').length c3))
        case first =>
          have y0 := CD.out _ A6.out
          have done : ∀ (v : Value) (wx : World), wx.ownsRow w5.heap.size 75 5 v (P + ((allF F).length - (P + 1))) (mapsV ((allF F).take P) ++ mapsV ((allF F).drop (P + 1))) → ∃ a3 c3, v = .slice a3 (allF F').length c3 ∧ wx.ownsRow w5.heap.size 75 5 (.slice a3 (allF F').length c3) (allF F').length (mapsV (allF F')) := fun v wx h1 => by
            rw [← FE.out.1, ← FE.out.2] at h1
            obtain ⟨a3, c3, rfl⟩ := owns_slice h1
            exact ⟨a3, c3, rfl, h1⟩
          have DONE := Lib.hid done
          clear done
          have T1 : Hid (∀ j u, (mapsV ((allF F).drop (P + 1)))[j]? = some u → w6.cell? ((⟨bU, (P + 1) * 5, none⟩ : Addr).add j) = some u) := Lib.hid fun j u hu => by
            rw [Addr.add_mid, A6.out.cell (p := ⟨bU, (P + 1) * 5 + j, none⟩) hb', ← Addr.add_mid]; exact HDR.out j u hu
          have wadd : IntKind.i64.wrap ((P : Int) + 1) = ((P + 1 : Nat) : Int) := (IntWalk.i64_in _ (by omega)).trans (by omega)
          have i1 : ((P + 1 : Nat) : Int) ≤ ((allF F).length : Int) := by omega
          have i2 : ((allF F).length : Int) ≤ (cu : Int) := by omega
          by_cases hcp : cu = P + 1
          · have hd0 : (allF F).drop (P + 1) = [] := List.drop_of_length_le (by omega)
            have i3 : (allF F).length = P + 1 := by omega
            have DONE2 : Hid (∀ (v : Value) (wx : World), wx.ownsRow w5.heap.size 75 5 v (P + 0) (mapsV ((allF F).take P) ++ []) → ∃ a3 c3, v = .slice a3 (allF F').length c3 ∧ wx.ownsRow w5.heap.size 75 5 (.slice a3 (allF F').length c3) (allF F').length (mapsV (allF F'))) := Lib.hid fun v wx h1 => DONE.out v wx (by rw [hd0, i3, Nat.sub_self]; exact h1)
            subst hcp
            rw [i3] at y0
            clear DONE i1 i2 hltI
            go_wp2_with (at_builtin; refine wpList_append_own _ rfl (.tmp 63) (.tmp 70) 47 rfl w5.heap.size 75 ii (.agg #[.int .i64 0, .bool false, .bool false, .bool false, .int .i64 0]) 5 24 Tryd.underlying47 hi hi0 hi1 hi2 rfl (by decide) _ _ _ rfl O6.out ⟨bU, 0, none⟩ 0 _ [] rfl rfl (fun j u hu => by cases hu) (fun u hu => by cases hu) (by unfold maxLen; omega) (by omega) A6.out.size ?_; intro v3 w7 ho hg _; have A7 := Lib.hid (A6.out.grown hg A6.out.size (fun k hk => (O6.out.lt k hk).1)); obtain ⟨a3, c3, rfl, h8⟩ := DONE2.out v3 w7 ho; have O8 := Lib.hid h8; have fz := fzA.out w7 A7.out; have y7 := CD.out w7 A7.out; clear ho hg h8)
            go_meet
            case rel => exact ⟨w7, a3, c3, O8.out, A7.out, rfl⟩
          · have i3 : P + 1 ≤ cu := by omega
            go_wp2_with (at_builtin; refine wpList_append_own _ rfl (.tmp 63) (.tmp 70) 47 rfl w5.heap.size 75 ii (.agg #[.int .i64 0, .bool false, .bool false, .bool false, .int .i64 0]) 5 24 Tryd.underlying47 hi hi0 hi1 hi2 rfl (by decide) _ _ _ rfl O6.out ⟨bU, (P + 1) * 5, none⟩ ((allF F).length - (P + 1)) _ (mapsV ((allF F).drop (P + 1))) rfl (by rw [mapsV_length, lt2]) T1.out mapsV_one' (by unfold maxLen; omega) (by omega) A6.out.size ?_; intro v3 w7 ho hg _; have A7 := Lib.hid (A6.out.grown hg A6.out.size (fun k hk => (O6.out.lt k hk).1)); obtain ⟨a3, c3, rfl, h8⟩ := DONE.out v3 w7 ho; have O8 := Lib.hid h8; have fz := fzA.out w7 A7.out; have y7 := CD.out w7 A7.out; clear ho hg h8)
            go_meet
            case rel => exact ⟨w7, a3, c3, O8.out, A7.out, rfl⟩
        case rest =>
          obtain ⟨w7, a3, c3, ho, hb, hwc⟩ := hcut
          have A7 := Lib.hid hb
          have hw7 : Below w.heap.size w w7 := B0.out.trans ((B5.out.trans (hb.mono B5.out.size)).mono B0.out.size)
          have hRD : RDone base w wc wb n m (some ⟨bL, 0, none⟩) c K (updW W k' (some F')) (unmC c0 W (k' : Int) (pn : Int)) := by
            rw [hwc]
            refine RDone.put H.out HM.out hw7 (by have := HQ.out; omega) HY.out (own_base ho (Nat.le_trans HBS.out (Nat.le_trans B0.out.size B5.out.size))) HC.out ?_
            have ht := tabF_frees HPN.out HF.out
            rw [← HF2.out] at ht
            unfold unmC
            rw [UE.out, if_pos rfl]
            have hfr : frees W (k' : Int) (pn : Int) = if hasB F' (pn / 32) = true then 0 else 1 := by unfold frees; rw [HS.out]; simp [HF2.out]
            rw [hfr]
            omega
          have hbL : bL < w.heap.size := by
            obtain ⟨cs, hcs⟩ := own_block H.out.row (g := bL) rfl
            exact lt_of_block hcs
          have hsz := HBN.out
          have hE : wc.heap[w.heap.size]? = some (entO z0) := by rw [hwc]; exact (Below.heap_setCell _ _ _ _ (show w.heap.size ≠ bL by omega)).trans (below_block A7.out (CB.out w5 B5.out).2.1)
          have hN : wc.heap[bN]? = some (entO (p, x, k, g)) := by rw [hwc]; exact (Below.heap_setCell _ _ _ _ (show bN ≠ bL by omega)).trans (below_block A7.out N5.out)
          have RD := Lib.hid hRD
          have E9 := Lib.hid hE
          have N9 := Lib.hid hN
          clear hRD hE hN ho hb hw7 hwc hbL hsz
          have f0 := frozen_of_row _ w.heap.size 0 _ _ E9.out
          have f1 := frozen_of_row _ w.heap.size 1 _ _ E9.out
          have f2 := frozen_of_row _ w.heap.size 2 _ _ E9.out
          have f3 := frozen_of_row _ w.heap.size 3 _ _ E9.out
          obtain ⟨d0, d1, d2, d3⟩ := cells4 (e := z0) E9.out
          obtain ⟨n0, n1, n2, n3⟩ := cells4 (e := (p, x, k, g)) N9.out
          simp only at n0 n1 n2 n3
          go_wp2
          have Q5 := put4b_same (e := z0) (e' := (p, x, k, g)) E9.out
          obtain ⟨e0, e1, e2, e3⟩ := cells4 Q5
          simp only [put4b] at e0 e1 e2 e3
          refine bodyPost_ret (v := .tuple #[entV (p, x, k, g), .int .i64 0]) ?_ rfl ⟨?_, ?_⟩
          · simp [results, Tryd.results33, go_sem, e0, e1, e2, e3, entV]
          · rw [UE.out]; rfl
          · have ew : unmW W (k' : Int) (pn : Int) = updW W k' (some F') := by unfold unmW; rw [UE.out, if_pos rfl, putW_in HS.out, HF2.out]
            rw [ew]
            exact RD.out.entry (e := z0) (e' := (p, x, k, g)) E9.out (Nat.le_refl _)
  · have hne : (er != 0) = true := by simpa using hz
    have UE : Hid (unmErr W r pg = er) := Lib.hid (by unfold unmErr; rw [HER.out, if_neg hz])
    have U2 : Hid (unmE' W r pg = z0) := Lib.hid (by unfold unmE'; rw [UE.out, if_neg hz])
    obtain ⟨rfl, rfl, rfl, rfl⟩ : false = p ∧ false = x ∧ false = k ∧ (0 : Int) = g := by
      have := HE.out
      rw [U2.out] at this
      simp only [z0, Prod.mk.injEq] at this
      exact this
    go_enter Tryd.func33, Tryd.ntmps33
    go_wp2_with fail
    rw [← hwe.out]
    clear hwe
    refine (rasked_ok W K a q c n m _ _ _ w0 HQ.out hl' (CB.out w0 (Below.refl _ _)).2.2 HM.out).mono ?_
    rw [HER.out]
    rintro e w2 ⟨rfl, hb⟩
    have B2 : Hid (Below w0.heap.size w0 w2) := Lib.hid hb
    clear hb y0 y1 y2
    have E9 := Lib.hid (CB.out w2 B2.out).2.1
    have f0 := frozen_of_row _ w.heap.size 0 _ _ E9.out
    have f1 := frozen_of_row _ w.heap.size 1 _ _ E9.out
    have f2 := frozen_of_row _ w.heap.size 2 _ _ E9.out
    have f3 := frozen_of_row _ w.heap.size 3 _ _ E9.out
    obtain ⟨d0, d1, d2, d3⟩ := cells4 (e := z0) E9.out
    go_wp2
    have Q5 := put4b_same (e := z0) (e' := z0) E9.out
    obtain ⟨e0, e1, e2, e3⟩ := cells4 Q5
    simp only [put4b, z0] at e0 e1 e2 e3
    refine bodyPost_ret (v := .tuple #[entV z0, .int .i64 er]) ?_ rfl ⟨?_, ?_⟩
    · simp [results, Tryd.results33, go_sem, e0, e1, e2, e3, entV, z0]
    · rw [UE.out]; rfl
    · unfold unmW unmC
      rw [UE.out, if_neg hz, if_neg hz]
      exact (RDone.stay H.out HM.out HC.out (B0.out.trans (B2.out.mono B0.out.size))).entry (e := z0) (e' := z0) E9.out (Nat.le_refl _)
end Go.Proofs.YtkcecfghfohjcaaDoor

/- The contract of the document's Set. No condition. Written by tpl/gen_n47.py. -/
namespace Go.Proofs.YtkcecfghfohjcaaDoor
open Go.RowKit Go.Maps
set_option maxRecDepth 100000
attribute [local irreducible] allF tabF plF mapB hasB segN

theorem set_mid {α : Type} (A B : List α) (y z : α) : (A ++ ([y] ++ B)).set A.length z = A ++ ([z] ++ B) := by
  rw [List.set_append_right _ _ (Nat.le_refl _), Nat.sub_self]; rfl
theorem allF_setP {F : Sp} {p P : Nat} {e : Ent} (hp : p < 1024) (hf : (F p).1 = true) (he : e.1 = true) (hP : plF F (p : Int) = P) : allF (updF F p e) = (allF F).set P ((p : Int), e) := by
  rw [allF_put F p e hp, allF_split F p hp, if_pos hf, if_pos he, ← hP, List.append_assoc, List.append_assoc]
  have : plF F (p : Int) = (segN F 0 p).length := by unfold plF; rw [qOf_in hp]
  rw [this, set_mid]
theorem mapsV_poke {l : List MapE} {i : Nat} {pg : Int} {e0 : Ent} (e : Ent) (hi : i < l.length) (hy : l.getD i default = (pg, e0)) : ((((mapsV l).set (i * 5 + 1) (.bool e.1)).set (i * 5 + 2) (.bool e.2.1)).set (i * 5 + 3) (.bool e.2.2.1)).set (i * 5 + 4) (.int .i64 e.2.2.2) = mapsV (l.set i (pg, e)) := by
  have e1 : l[i] = (pg, e0) := by rw [← hy, List.getD_eq_getElem?_getD, List.getElem?_eq_getElem hi]; rfl
  have e2 : l = l.take i ++ ([(pg, e0)] ++ l.drop (i + 1)) := by rw [List.singleton_append, ← e1, List.getElem_cons_drop hi, List.take_append_drop]
  have e3 : l.set i (pg, e) = l.take i ++ ([(pg, e)] ++ l.drop (i + 1)) := by rw [List.set_eq_take_append_cons_drop, if_pos hi]; simp
  have hl : (mapsV (l.take i)).length = i * 5 := by rw [mapsV_length, List.length_take]; omega
  rw [e3]
  conv => lhs; rw [e2]
  rw [mapsV_append, mapsV_append, mapsV_append, mapsV_append]
  rw [List.set_append_right _ _ (by omega), List.set_append_right _ _ (by omega), List.set_append_right _ _ (by omega), List.set_append_right _ _ (by omega), hl]
  rw [show i * 5 + 1 - i * 5 = 1 by omega, show i * 5 + 2 - i * 5 = 2 by omega, show i * 5 + 3 - i * 5 = 3 by omega, show i * 5 + 4 - i * 5 = 4 by omega]
  rfl
theorem RDone.drew {base : Nat} {w w' : World} {wb n m c c0 : Nat} {a : Option Addr} {K : List Rec} {W : Nat → Option Sp} (h : RDone base w w' wb n m a c K W c0) : RDone base w w'.drew wb n m a c K W c0 := by
  obtain ⟨K', h1, h2, h3, h4⟩ := h.ex
  exact ⟨⟨K', h1.step (Below.refl _ _).drew, h2, h3, h4⟩, h.only.trans (Only.below (Below.refl _ _).drew)⟩
/-- A space's list is made anew, and then written to in place. -/
theorem RDone.poke {base : Nat} {w w7 w9 : World} {wb n m c c0 b j k : Nat} {K : List Rec} {W : Nat → Option Sp} {F F' : Sp} {u u' : Value} (h : RefW base w wb n m (some ⟨b, 0, none⟩) c K) (hm : Match W K) (hb : Below w.heap.size w w7) (hj : j < K.length) (hy : K.getD j default = (k, F, u)) (ho : Only (w7.setCell ⟨b, j * 2 + 1, none⟩ u') w9 (fun y => w.heap.size ≤ y)) (hu : w9.ownsRow base 75 5 u' (allF F').length (mapsV (allF F'))) (hc : c0 + usedK K = m) (ht : tabF F' = tabF F) :
    RDone base w w9 wb n m (some ⟨b, 0, none⟩) c K (updW W k (some F')) c0 := by
  obtain ⟨cs, hcs⟩ := own_block h.row (g := b) rfl
  have hbl := lt_of_block hcs
  obtain ⟨h1, h2⟩ := (h.step hb).row.stored (j * 2 + 1) u'
  have hA : Only w (w7.setCell ⟨b, j * 2 + 1, none⟩ u') (fun x => x = b) := (Only.below hb).trans (Only.grown h2 rfl)
  have hall : Only w w9 (fun x => x = b) := ⟨ho.os.trans hA.os, ho.tape.trans hA.tape, ho.output.trans hA.output, Nat.le_trans hA.size ho.size, fun y hy hB => (ho.block y (Nat.lt_of_lt_of_le hy hA.size) (by omega)).trans (hA.block y hy hB)⟩
  have hne : ∀ x cs' t, w.heap[x]? = some (.cells cs' t (0, 0)) → t ≠ 50 → ¬ x = b := fun x cs' t hx ht e => by
    rw [e, hcs] at hx
    cases hx
    exact ht rfl
  have h3 := usedK_set (k, F', u') hj hy
  simp only at h3
  refine ⟨⟨K.set j (k, F', u'), ⟨h.low, ?_, ?_, fun i hi => ?_⟩, hm.put hj hy, by omega, List.length_set⟩, hall.mono fun y e => by rw [e]; rfl⟩
  · rw [List.length_set]; exact hall.kept h.box (hne _ _ _ h.box (by decide))
  · rw [List.length_set, ← spcV_set u' hj hy]
    refine ownsRow_only h1 ho fun g hg => ?_
    have : b = g := by simpa [Value.ownBlock] using hg
    omega
  · rw [List.length_set] at hi
    have g : (K.set j (k, F', u')).getD i default = if i = j then (k, F', u') else K.getD i default := by
      rw [List.getD_eq_getElem?_getD, List.getElem?_set]
      by_cases e : i = j
      · subst e; simp [hj]
      · rw [if_neg (Ne.symm e), if_neg e, List.getD_eq_getElem?_getD]
    rw [g]
    by_cases e : i = j
    · rw [if_pos e]; exact hu
    · rw [if_neg e]
      exact ownsRow_only (h.maps i hi) hall fun g hg => by
        obtain ⟨cs', hcs'⟩ := own_block (h.maps i hi) hg
        exact hne _ _ _ hcs' (by decide)
set_option maxHeartbeats 4000000 in
theorem rset_ok {base : Nat} {w : World} {wb n m c c0 : Nat} {a : Option Addr} {K : List Rec} {W : Nat → Option Sp} (h : RefW base w wb n m a c K) (hbs : base ≤ w.heap.size) (hm : Match W K) (hl : K.length ≤ 100) (hc0 : c0 + usedK K = m) (r pg : Int) (p x k : Bool) (g : Int) :
    Calls Tryd.prog 34 #[.pointer (some ⟨wb, 0, none⟩), .int .i64 r, .int .i64 pg, ent p x k g] w fun e w' => e = .returned (.int .i64 (setErr n W r pg (p, x, k, g))) ∧ RDone base w w' wb n m a c K (setW n W r pg (p, x, k, g)) c0 := by
  obtain ⟨ii, hi, hi0, hi1, hi2⟩ := info_parts mapInfo
  obtain ⟨q, hq⟩ : ∃ q, q = K.length := ⟨_, rfl⟩
  have HQ := Lib.hid hq
  have hl' : q ≤ 100 := by omega
  have H := Lib.hid h
  have HM := Lib.hid hm
  have HC := Lib.hid hc0
  have HBS := Lib.hid hbs
  obtain ⟨w0, hw0⟩ : ∃ w0, w0 = w.alloc (.cells #[.bool p, .bool x, .bool k, .int .i64 g] 37) := ⟨_, rfl⟩
  have B0 : Hid (Below w.heap.size w w0) := Lib.hid (by rw [hw0]; exact (Below.refl _ _).alloc (Nat.le_refl _) _)
  have E0 : Hid (w0.heap[w.heap.size]? = some (entO (p, x, k, g))) := Lib.hid (by rw [hw0]; exact heap_alloc_new w _)
  have CB : Hid (∀ V, Below w0.heap.size w0 V → (V.cell? ⟨wb, 0, none⟩ = some (.slice a q c) ∧ V.cell? ⟨wb, 1, none⟩ = some (.int .i64 (n : Int)) ∧ V.cell? ⟨wb, 2, none⟩ = some (.int .i64 (m : Int))) ∧ (V.cell? ⟨w.heap.size, 0, none⟩ = some (.bool p) ∧ V.cell? ⟨w.heap.size, 1, none⟩ = some (.bool x) ∧ V.cell? ⟨w.heap.size, 2, none⟩ = some (.bool k) ∧ V.cell? ⟨w.heap.size, 3, none⟩ = some (.int .i64 g))  ∧ SpV V (.slice a q c) K) := Lib.hid fun V hV => by
    have h1 := h.step (B0.out.trans (hV.mono B0.out.size))
    have h2 := cells3 h1.box
    have h3 := h1.spv
    rw [← hq] at h2 h3
    exact ⟨h2, cells4 (below_block hV E0.out), h3⟩
  obtain ⟨er, her⟩ : ∃ er, askErr W r pg (fitV n (p, x, k, g)) = er := ⟨_, rfl⟩
  have HER := Lib.hid her
  obtain ⟨z0', z1', -⟩ := CB.out w0 (Below.refl _ _)
  obtain ⟨y0, y1, y2⟩ := z0'
  obtain ⟨x0, x1, x2, x3⟩ := z1'
  have hwe := Lib.hid hw0
  clear h hm hbs her hl hq hw0
  by_cases hz : er = 0
  · subst hz
    obtain ⟨k', pn, F, rfl, rfl, hpn, hw, hfit, hs⟩ := askErr_zero HER.out
    have HS := Lib.hid hs
    have HFIT := Lib.hid hfit
    have HPN := Lib.hid hpn
    clear hw hfit hs hpn
    go_enter Tryd.func34, Tryd.ntmps34
    go_wp2_with fail
    rw [← hwe.out]
    clear hwe
    go_region_held3 (fun V => (V.cell? ⟨wb, 0, none⟩ = some (.slice a q c) ∧ V.cell? ⟨wb, 1, none⟩ = some (.int .i64 (n : Int)) ∧ V.cell? ⟨wb, 2, none⟩ = some (.int .i64 (m : Int))) ∧ (V.cell? ⟨w.heap.size, 0, none⟩ = some (.bool p) ∧ V.cell? ⟨w.heap.size, 1, none⟩ = some (.bool x) ∧ V.cell? ⟨w.heap.size, 2, none⟩ = some (.bool k) ∧ V.cell? ⟨w.heap.size, 3, none⟩ = some (.int .i64 g))) (first | exact ⟨(CB.out _ (Below.refl _ _).drew).1, (CB.out _ (Below.refl _ _).drew).2.1⟩ | go_keep | exact ⟨(CB.out w2 B2.out).1, (CB.out w2 B2.out).2.1⟩ | exact ⟨(CB.out w1 B1.out).1, (CB.out w1 B1.out).2.1⟩)
      (first
        | (go_at_call 60; refine (rfits_ok a q c n m p x k g _).mono ?_; rintro e w1 ⟨rfl, hb⟩; have B1 : Hid (Below w0.heap.size w0 w1) := Lib.hid ((Below.refl _ _).drew.trans hb); clear hb)
        | (go_at_call 59; refine (rasked_ok W K a q c n m _ _ _ w1 HQ.out hl' (CB.out w1 B1.out).2.2 HM.out).mono ?_; rw [HER.out]; rintro e w2 ⟨rfl, hb⟩; have B2 : Hid (Below w0.heap.size w0 w2) := Lib.hid (B1.out.trans (hb.mono B1.out.size)); clear hb))
    clear y0 y1 y2 x0 x1 x2 x3
    obtain ⟨J, hJ, hJ2⟩ := AtIs.of HM.out (k' : Int)
    obtain ⟨j, k2, F2, u, rfl, hk2, hj, hy, hs2, -⟩ := hJ2.resolve_left (by rintro ⟨-, h0⟩; rw [HS.out] at h0; cases h0)
    obtain rfl : k' = k2 := by omega
    obtain rfl : F = F2 := by have := hs2; rw [HS.out] at this; exact Option.some.inj this
    have HJ := Lib.hid hJ
    have HY := Lib.hid hy
    clear hJ hs2 hk2
    have hjq : j < q := by rw [HQ.out]; exact hj
    have hjq2 : (j : Int) < (q : Int) := by omega
    obtain ⟨y, -, -⟩ := CB.out w2 B2.out
    obtain ⟨y0, y1, y2⟩ := y
    go_wp2_with fail
    have D2 : Hid (Below w0.heap.size w0 w2.drew) := Lib.hid B2.out.drew
    obtain ⟨bL, rfl, hbl, -, hu, hmp⟩ := (CB.out w2 B2.out).2.2.at_ HQ.out hjq hy
    have CC : Hid (∀ V, Below w2.heap.size w2 V → V.cell? ⟨bL, j * 2 + 1, none⟩ = some u ∧ MapsAt V u (allF F)) := Lib.hid fun V hV => ⟨(hV.cell (p := ⟨bL, _, none⟩) hbl).trans hu, hmp.below hV⟩
    have HR : Hid (w.ownsRow base 75 5 u (allF F).length (mapsV (allF F))) := Lib.hid (by have := H.out.maps j hj; rw [hy] at this; exact this)
    clear hu hmp hj hy
    go_region_held3 (fun V => V.cell? ⟨wb, 0, none⟩ = some (.slice (some ⟨bL, 0, none⟩) q c) ∧ V.cell? ⟨wb, 1, none⟩ = some (.int .i64 (n : Int)) ∧ V.cell? ⟨wb, 2, none⟩ = some (.int .i64 (m : Int))) (first | exact (CB.out _ D2.out).1 | go_keep | exact (CB.out w3 B3.out).1)
      ((go_at_call 31; refine (rat_ok K _ q c n m _ _ _ HQ.out hl' (CB.out _ D2.out).2.2 HJ.out).mono ?_; rintro e w3 ⟨rfl, hb⟩; have B3 : Hid (Below w0.heap.size w0 w3) := Lib.hid (D2.out.trans (hb.mono D2.out.size)); have C3 : Hid (Below w2.heap.size w2 w3) := Lib.hid ((Below.refl _ _).drew.trans hb); clear hb))
    clear y0 y1 y2
    obtain ⟨y0, hmp⟩ := CC.out w3 C3.out
    have MP := Lib.hid hmp
    obtain ⟨au, cu, rfl, -⟩ := id hmp
    clear hmp
    obtain ⟨fm, hfm⟩ : ∃ fm, mapB F (pn : Int) = fm := ⟨_, rfl⟩
    have HFM := Lib.hid hfm
    obtain ⟨P, hP⟩ : ∃ P, plF F (pn : Int) = P := ⟨_, rfl⟩
    have HP := Lib.hid hP
    clear hfm hP
    go_wp2_with fail
    refine (rplace_ok F _ (pn : Int) w3 MP.out).mono ?_
    rw [HFM.out, HP.out]
    rintro e w4 ⟨rfl, hb⟩
    have B4 : Hid (Below w0.heap.size w0 w4) := Lib.hid (B3.out.trans (hb.mono B3.out.size))
    have C4 : Hid (Below w2.heap.size w2 w4) := Lib.hid (C3.out.trans (hb.mono C3.out.size))
    clear hb y0
    have hse : Hid (setErr n W (k' : Int) (pn : Int) (p, x, k, g) = if fm = true then 0 else 4) := Lib.hid (by rw [setErr_in HS.out HPN.out, HFIT.out, if_pos rfl, ← HFM.out, mapB_of HPN.out])
    cases fm with
    | false =>
      have e5 : Hid (setErr n W (k' : Int) (pn : Int) (p, x, k, g) = 4) := Lib.hid (by rw [hse.out]; rfl)
      clear hse
      go_wp2_with fail
      go_ret
      refine ⟨by rw [e5.out]; rfl, ?_⟩
      unfold setW
      rw [e5.out, if_neg (by decide)]
      exact RDone.stay H.out HM.out HC.out (B0.out.trans (B4.out.mono B0.out.size))
    | true =>
      have hf : (F pn).1 = true := by rw [← mapB_of HPN.out]; exact HFM.out
      have e5 : Hid (setErr n W (k' : Int) (pn : Int) (p, x, k, g) = 0) := Lib.hid (by rw [hse.out]; rfl)
      obtain ⟨hlt, hget⟩ := plF_get HPN.out hf
      rw [HP.out] at hlt hget
      have hp1 : p = true := ((fitV_iff n (p, x, k, g)).1 HFIT.out).1
      obtain ⟨F', hF'⟩ : ∃ F', F' = updF F pn (p, x, k, g) := ⟨_, rfl⟩
      have hsp : allF F' = (allF F).set P ((pn : Int), p, x, k, g) := by rw [hF']; exact allF_setP HPN.out hf hp1 HP.out
      obtain ⟨N, hN⟩ : ∃ N, (allF F).length = N := ⟨_, rfl⟩
      have FE : Hid (((((mapsV (allF F)).set (P * 5 + 1) (.bool p)).set (P * 5 + 2) (.bool x)).set (P * 5 + 3) (.bool k)).set (P * 5 + 4) (.int .i64 g) = mapsV (allF F') ∧ (allF F').length = N) := Lib.hid ⟨by rw [hsp]; exact mapsV_poke (p, x, k, g) hlt hget, by rw [hsp, List.length_set, hN]⟩
      have hlen := allF_len F
      have HF := Lib.hid hf
      have HF2 := Lib.hid hF'
      have HP1 := Lib.hid hp1
      have HN := Lib.hid hN
      rw [hN] at hlt hlen
      rw [hN] at CC HR MP
      have R4 : Hid (w4.ownsRow base 75 5 (.slice au N cu) N (mapsV (allF F))) := Lib.hid (own_step HR.out (B0.out.trans (B4.out.mono B0.out.size)))
      clear hsp hf hF' hp1 hse hJ2 hget hN
      obtain ⟨b', c', hu1, hnc, hcm, hb', -, hdr⟩ := (row_cut R4.out 0).resolve_left (by rintro ⟨-, h0⟩; omega)
      injection hu1 with e1 e2 e3
      subst e1
      subst e3
      clear e2
      have HTK : Hid (∀ j u, (mapsV (allF F))[j]? = some u → w4.cell? ((⟨b', 0, none⟩ : Addr).add j) = some u) := Lib.hid fun j u hu => by
        have := hdr j u (by rw [Nat.zero_mul, List.drop_zero]; exact hu)
        rw [Nat.zero_mul] at this; exact this
      clear hdr
      have fzA : Hid (∀ V, Below w4.heap.size w4 V → V.frozen? ⟨bL, j * 2 + 1, none⟩ = false) := Lib.hid fun V hV => (own_step H.out.row (B0.out.trans ((B4.out.trans (hV.mono B4.out.size)).mono B0.out.size))).frozenAt (j * 2 + 1)
      have CD : Hid (∀ V, Below w4.heap.size w4 V → V.cell? ⟨bL, j * 2 + 1, none⟩ = some (.slice (some ⟨b', 0, none⟩) N cu)) := Lib.hid fun V hV => (CC.out _ (C4.out.trans (hV.mono C4.out.size))).1
      go_upto_region 8 with fail
      go_cut [] (fun wx => ∃ w7 a3 c3, w7.ownsRow w4.heap.size 75 5 (.slice a3 N c3) N (mapsV (allF F)) ∧ Below w4.heap.size w4 w7 ∧ wx = w7.setCell ⟨bL, j * 2 + 1, none⟩ (.slice a3 N c3))
      case first =>
        have OM := Lib.hid (World.ownsRow_made (base := w4.heap.size) (e := 75) (size := 5) w4 #[] 0 (Nat.le_refl _) (by decide) rfl)
        have AM : Hid (Below w4.heap.size w4 (w4.alloc (.cells #[] 75))) := Lib.hid ((Below.refl _ _).alloc (Nat.le_refl _) _)
        have y0 := CD.out _ AM.out
        have T1 : Hid (∀ j u, (mapsV (allF F))[j]? = some u → (w4.alloc (.cells #[] 75)).cell? ((⟨b', 0, none⟩ : Addr).add j) = some u) := Lib.hid fun j u hu => by
          rw [Addr.add_mid, AM.out.cell (p := ⟨b', 0 + j, none⟩) hb', ← Addr.add_mid]; exact HTK.out j u hu
        go_wp2_with (at_builtin; refine wpList_append_own _ rfl (.tmp 49) (.tmp 53) 47 rfl w4.heap.size 75 ii (.agg #[.int .i64 0, .bool false, .bool false, .bool false, .int .i64 0]) 5 24 Tryd.underlying47 hi hi0 hi1 hi2 rfl (by decide) _ 0 [] rfl OM.out ⟨b', 0, none⟩ _ _ (mapsV (allF F)) rfl (by rw [mapsV_length, HN.out]) T1.out mapsV_one' (by unfold maxLen; omega) (by omega) AM.out.size ?_; intro v1 w7 ho hg _; rw [Nat.zero_add, List.nil_append] at ho; have A7 := Lib.hid (AM.out.grown hg AM.out.size (fun k hk => (OM.out.lt k hk).1)); obtain ⟨a3, c3, rfl⟩ := owns_slice ho; have O7 := Lib.hid ho; have fz := fzA.out w7 A7.out; have y7 := CD.out w7 A7.out; clear ho hg)
        go_meet
        case rel => exact ⟨w7, a3, c3, O7.out, A7.out, rfl⟩
      case rest =>
        obtain ⟨w7, a3, c3, ho, hb, hwc⟩ := hcut
        have A7 := Lib.hid hb
        obtain ⟨b3, c4, hu3, -, -, hb3, -, -⟩ := (row_cut ho 0).resolve_left (by rintro ⟨-, h0⟩; omega)
        injection hu3 with e1 e2 e3
        subst e1
        subst e3
        clear e2
        have hge : w4.heap.size ≤ b3 := own_ge ho (g := b3) rfl
        have hbL : bL < w.heap.size := by
          obtain ⟨cs, hcs⟩ := own_block H.out.row (g := bL) rfl
          exact lt_of_block hcs
        have hsz1 := B0.out.size
        have hsz2 := B4.out.size
        have hszE := lt_of_block E0.out
        have hw7 : Below w.heap.size w w7 := B0.out.trans ((B4.out.trans (hb.mono B4.out.size)).mono B0.out.size)
        have hO : wc.ownsRow w4.heap.size 75 5 (.slice (some ⟨b3, 0, none⟩) N c3) N (mapsV (allF F)) := by
          rw [hwc]
          obtain ⟨-, g2⟩ := (H.out.step hw7).row.stored (j * 2 + 1) (.slice (some ⟨b3, 0, none⟩) N c3)
          refine ownsRow_only ho (Only.grown g2 (B := fun y => y = bL) rfl) fun g hg => ?_
          have : b3 = g := by simpa [Value.ownBlock] using hg
          omega
        have hE : wc.heap[w.heap.size]? = some (entO (p, x, k, g)) := by rw [hwc]; exact (Below.heap_setCell _ _ _ _ (show w.heap.size ≠ bL by omega)).trans (below_block (B4.out.trans (hb.mono B4.out.size)) E0.out)
        have hcL : wc.cell? ⟨bL, j * 2 + 1, none⟩ = some (.slice (some ⟨b3, 0, none⟩) N c3) := by
          rw [hwc]
          have g1 := ((H.out.step hw7).row.stored (j * 2 + 1) (.slice (some ⟨b3, 0, none⟩) N c3)).1.cells (g := bL) rfl (j * 2 + 1) (.slice (some ⟨b3, 0, none⟩) N c3) (by
            rw [List.getElem?_set, if_pos rfl, if_pos]
            rw [spcV_length]; have := HQ.out; omega)
          rw [Addr.add_mid, Nat.zero_add] at g1; exact g1
        obtain ⟨W9, hW9⟩ : ∃ W9, W9 = (((wc.setCell ⟨b3, P * 5 + 1, none⟩ (.bool p)).setCell ⟨b3, P * 5 + 2, none⟩ (.bool x)).setCell ⟨b3, P * 5 + 3, none⟩ (.bool k)).setCell ⟨b3, P * 5 + 4, none⟩ (.int .i64 g) := ⟨_, rfl⟩
        have hRD : RDone base w W9 wb n m (some ⟨bL, 0, none⟩) c K (updW W k' (some F')) c0 := by
          obtain ⟨s1, t1⟩ := hO.stored (P * 5 + 1) (.bool p)
          obtain ⟨s2, t2⟩ := s1.stored (P * 5 + 2) (.bool x)
          obtain ⟨s3, t3⟩ := s2.stored (P * 5 + 3) (.bool k)
          obtain ⟨s4, t4⟩ := s3.stored (P * 5 + 4) (.int .i64 g)
          rw [FE.out.1] at s4
          rw [hW9]
          have hon : Only wc ((((wc.setCell ⟨b3, P * 5 + 1, none⟩ (.bool p)).setCell ⟨b3, P * 5 + 2, none⟩ (.bool x)).setCell ⟨b3, P * 5 + 3, none⟩ (.bool k)).setCell ⟨b3, P * 5 + 4, none⟩ (.int .i64 g)) (fun y => w.heap.size ≤ y) :=
            (((Only.grown t1 (B := fun y => w.heap.size ≤ y) (by omega)).trans (Only.grown t2 (by omega))).trans (Only.grown t3 (by omega))).trans (Only.grown t4 (by omega))
          rw [hwc] at hon s4
          rw [hwc]
          refine RDone.poke H.out HM.out hw7 (by have := HQ.out; omega) HY.out hon (own_base (by rw [FE.out.2]; exact s4) (Nat.le_trans HBS.out (by omega))) HC.out ?_
          rw [HF2.out]
          have ht := tabF_needs (F := F) (p := pn) (e := (p, x, k, g)) HPN.out HP1.out
          rw [hasB_of HF.out, if_pos rfl] at ht
          exact ht
        have cl := hO.cells (g := b3) rfl
        have fz := fun i => hO.frozenAt i
        have y7 : ∀ i u, (mapsV (allF F))[i]? = some u → wc.cell? ⟨b3, i, none⟩ = some u := fun i u hu => by
          have := cl i u hu
          rw [Addr.add_mid, Nat.zero_add] at this; exact this
        obtain ⟨-, m1, m2, m3, m4⟩ := mapsV_get (allF F) P (by rw [HN.out]; exact hlt)
        have k1 := y7 _ _ m1
        have k2 := y7 _ _ m2
        have k3 := y7 _ _ m3
        have k4 := y7 _ _ m4
        have z1 := fz (P * 5 + 1)
        have z2 := fz (P * 5 + 2)
        have z3 := fz (P * 5 + 3)
        have z4 := fz (P * 5 + 4)
        have RD := Lib.hid hRD
        obtain ⟨d0, d1, d2, d3⟩ := cells4 (e := (p, x, k, g)) hE
        simp only at d0 d1 d2 d3
        have hltI : (P : Int) < (N : Int) := by omega
        have W9E := Lib.hid hW9
        have hbc : b3 < wc.heap.size := lt_of_block (own_block hO (g := b3) rfl).choose_spec
        clear hRD hO hE ho hb hw7 hwc cl fz y7 m1 m2 m3 m4 hW9 hsz1 hsz2 hszE hge hbL
        go_upto_region 9 with fail
        go_still_tail 8, (by kernel_rfl)
        go_wp2
        go_ret
        refine ⟨by rw [e5.out]; rfl, ?_⟩
        have ew : setW n W (k' : Int) (pn : Int) (p, x, k, g) = updW W k' (some F') := by unfold setW; rw [e5.out, if_pos rfl, putW_in HS.out, HF2.out]
        rw [ew]
        have RD' := RD.out
        rw [W9E.out] at RD'
        exact RD'.drew
  · have hne : (er != 0) = true := by simpa using hz
    go_enter Tryd.func34, Tryd.ntmps34
    go_wp2_with fail
    rw [← hwe.out]
    clear hwe
    go_region_held3 (fun V => (V.cell? ⟨wb, 0, none⟩ = some (.slice a q c) ∧ V.cell? ⟨wb, 1, none⟩ = some (.int .i64 (n : Int)) ∧ V.cell? ⟨wb, 2, none⟩ = some (.int .i64 (m : Int))) ∧ (V.cell? ⟨w.heap.size, 0, none⟩ = some (.bool p) ∧ V.cell? ⟨w.heap.size, 1, none⟩ = some (.bool x) ∧ V.cell? ⟨w.heap.size, 2, none⟩ = some (.bool k) ∧ V.cell? ⟨w.heap.size, 3, none⟩ = some (.int .i64 g))) (first | exact ⟨(CB.out _ (Below.refl _ _).drew).1, (CB.out _ (Below.refl _ _).drew).2.1⟩ | go_keep | exact ⟨(CB.out w2 B2.out).1, (CB.out w2 B2.out).2.1⟩ | exact ⟨(CB.out w1 B1.out).1, (CB.out w1 B1.out).2.1⟩)
      (first
        | (go_at_call 60; refine (rfits_ok a q c n m p x k g _).mono ?_; rintro e w1 ⟨rfl, hb⟩; have B1 : Hid (Below w0.heap.size w0 w1) := Lib.hid ((Below.refl _ _).drew.trans hb); clear hb)
        | (go_at_call 59; refine (rasked_ok W K a q c n m r pg _ w1 HQ.out hl' (CB.out w1 B1.out).2.2 HM.out).mono ?_; rw [HER.out]; rintro e w2 ⟨rfl, hb⟩; have B2 : Hid (Below w0.heap.size w0 w2) := Lib.hid (B1.out.trans (hb.mono B1.out.size)); clear hb))
    clear y0 y1 y2 x0 x1 x2 x3
    go_wp2_with fail
    go_ret
    have hme : setErr n W r pg (p, x, k, g) = er := by unfold setErr; rw [HER.out, if_neg hz]
    refine ⟨by rw [hme]; rfl, ?_⟩
    unfold setW
    rw [hme, if_neg hz]
    exact RDone.stay H.out HM.out HC.out (B0.out.trans (B2.out.mono B0.out.size))
end Go.Proofs.YtkcecfghfohjcaaDoor
