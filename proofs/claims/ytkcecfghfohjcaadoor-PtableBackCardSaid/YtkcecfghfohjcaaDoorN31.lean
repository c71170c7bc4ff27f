/- The law PtableBack: its walk. Condition: the listed tables read as laid. -/
import Derived.Test.YtkcecfghfohjcaaDoorN30
namespace Go.Proofs.YtkcecfghfohjcaaDoor
open Go.RowKit Go.Maps
set_option maxRecDepth 100000

def Back1Rel (W0 W : World) (tb sb : Nat) (X : PIx) (r bx base : Nat) (p x k : Bool) (g : Int) (n : Nat) (d i : Value) (wr : World) : Prop :=
  ∃ (j : Nat) (D : List Nat), i = .int .i64 (j : Int) ∧ j ≤ n ∧ D.length ≤ j ∧ (allF (dF D (p, x, k, g))).length = D.length ∧ BackSt W0 W wr tb sb X r bx base p x k g d D D
def remB (turn : Bool) (j : Nat) (D : List Nat) : List Nat := if turn then D.take (D.length - j) else D.drop j
def Back2Rel (W0 W : World) (tb sb : Nat) (X : PIx) (r bx base : Nat) (p x k : Bool) (g : Int) (turn : Bool) (v : Value) (D : List Nat) (i : Value) (wr : World) : Prop :=
  ∃ j : Nat, i = .int .i64 (j : Int) ∧ j ≤ D.length ∧ BackSt W0 W wr tb sb X r bx base p x k g v D (remB turn j D)
/-- A page is mapped no more. -/
theorem BackSt.unmapped {W0 W V V' : World} {tb sb r bx base c : Nat} {X : PIx} {p x k : Bool} {g : Int} {v : Value} {D E E' : List Nat} {q : Nat} (h : BackSt W0 W V tb sb X r bx base p x k g v D E) (h1 : FullSt W0 V tb sb X 62 60 c (updW (fun _ => none) r (some (dF E (p, x, k, g)))) bx p x k g) (h2 : c + tabF (dF E (p, x, k, g)) = 60) (hW : Below W.heap.size W W0)
    (hq : q < 1024) (hp : p = true) (hqE : q ∈ E) (hE : updF (dF E (p, x, k, g)) q z0 = dF E' (p, x, k, g))
    (hg : Gone W0 V V' tb sb X 62 60 (unmC c (updW (fun _ => none) r (some (dF E (p, x, k, g)))) (r : Int) (q : Int)) (unmW (updW (fun _ => none) r (some (dF E (p, x, k, g)))) (r : Int) (q : Int))) : BackSt W0 W V' tb sb X r bx base p x k g v D E' := by
  have hsp : spOf (updW (fun _ => none) r (some (dF E (p, x, k, g)))) (r : Int) = some (dF E (p, x, k, g)) := by rw [spOf_nat, updW_same]
  have hin : (dF E (p, x, k, g) q).1 = true := by rw [dF_in hqE]; exact hp
  have h0 : unmErr (updW (fun _ => none) r (some (dF E (p, x, k, g)))) (r : Int) (q : Int) = 0 := by rw [unmErr_in hsp hq, if_pos hin]
  have hS := h1.gone hg
  unfold unmC unmW at hS
  rw [if_pos h0, if_pos h0, putW_in hsp, hE] at hS
  have e2 : updW (updW (fun _ => none) r (some (dF E (p, x, k, g)))) r (some (dF E' (p, x, k, g))) = updW (fun _ => none) r (some (dF E' (p, x, k, g))) := by
    funext y; by_cases hy : y = r <;> simp [updW, hy]
  rw [e2] at hS
  refine ⟨⟨_, hS, ?_⟩, row_gone h1.sys hg h.row ⟨by decide, by decide, by decide, by decide, by decide⟩, Nat.le_trans h.size hg.only.size, hW.trans (hg.st.below.mono hW.size), h.nodup, h.low, h.fits⟩
  have ht := tabF_frees (F := dF E (p, x, k, g)) hq hin
  have hfr : frees (updW (fun _ => none) r (some (dF E (p, x, k, g)))) (r : Int) (q : Int) = if hasB (updF (dF E (p, x, k, g)) q z0) (q / 32) = true then 0 else 1 := by unfold frees; rw [hsp]; simp
  rw [hfr]
  rw [hE] at ht ⊢
  omega
theorem remB_next (turn : Bool) (D : List Nat) (hD : D.Nodup) (j : Nat) (hj : j < D.length) (e : Ent) :
    ∃ q, D.getD (if turn then D.length - 1 - j else j) 0 = q ∧ q ∈ D ∧ q ∈ remB turn j D ∧ updF (dF (remB turn j D) e) q z0 = dF (remB turn (j + 1) D) e := by
  cases turn with
  | false =>
    have e1 : D.drop j = D[j] :: D.drop (j + 1) := List.drop_eq_getElem_cons hj
    have hn : D[j] ∉ D.drop (j + 1) := by
      have := hD.sublist (List.drop_sublist j D)
      rw [e1] at this
      exact (List.nodup_cons.1 this).1
    refine ⟨D[j], by simp [List.getD_eq_getElem?_getD, hj], List.getElem_mem hj, ?_, ?_⟩
    · unfold remB; simp only [Bool.false_eq_true, if_false]; rw [e1]; exact List.Mem.head _
    · unfold remB; simp only [Bool.false_eq_true, if_false]; rw [e1]; exact dF_cons _ _ _ hn
  | true =>
    have hl : D.length - 1 - j < D.length := by omega
    have e1 : D.take (D.length - j) = D.take (D.length - (j + 1)) ++ [D[D.length - 1 - j]] := by
      have := List.take_succ_eq_append_getElem hl
      rw [show D.length - 1 - j + 1 = D.length - j by omega] at this
      rw [this, show D.length - (j + 1) = D.length - 1 - j by omega]
    have hn : D[D.length - 1 - j] ∉ D.take (D.length - (j + 1)) := by
      have := hD.sublist (List.take_sublist (D.length - j) D)
      rw [e1, List.nodup_append] at this
      intro hm
      exact this.2.2 _ hm _ (by simp) rfl
    refine ⟨D[D.length - 1 - j], by simp [List.getD_eq_getElem?_getD, hl], List.getElem_mem hl, ?_, ?_⟩
    · unfold remB; simp only [if_true]; rw [e1]; simp
    · unfold remB; simp only [if_true]; rw [e1]; exact dF_last _ _ _ hn
set_option maxHeartbeats 1000000 in
theorem back_far (q c : Nat) (s : Option Addr) (p x k turn : Bool) (g : Int) (W : World) (hq : 40 < q) (hL : LaidN W) : Calls Tryd.prog 6 #[.slice s q c, ent p x k g, .bool turn] W fun e w' => e = .returned (.bool true) ∧ Below W.heap.size W w' := by
  have HL := Lib.hid hL
  have B0 : Hid (Below W.heap.size W (W.alloc (.cells #[.bool p, .bool x, .bool k, .int .i64 g] 37))) := Lib.hid ((Below.refl _ _).alloc (Nat.le_refl _) _)
  have d1 : decide (40 < (q : Int)) = true := decide_eq_true (by omega)
  clear hL
  go_enter Tryd.func6, Tryd.ntmps6
  go_wp2_with (go_at_call 9; refine (awake10 _ (HL.out.lq.below B0.out) (HL.out.lw.below B0.out)).mono ?_; rintro e w2 ⟨rfl, hb⟩; have B := Lib.hid (B0.out.trans (hb.mono B0.out.size)); clear hb)
  go_ret
  exact ⟨rfl, B.out⟩
set_option maxHeartbeats 500000 in
theorem back_in (L : List Int) (n cc : Nat) (aa : Option Addr) (p x k turn : Bool) (g : Int) (W : World) (hn : n = L.length) (hn40 : n ≤ 40) (hv : ArgInts10 W (.slice aa n cc) L) (hL : LaidN W) : Calls Tryd.prog 6 #[.slice aa n cc, ent p x k g, .bool turn] W fun e w' => e = .returned (.bool true) ∧ Below W.heap.size W w' := by
  obtain ⟨ii, hi, hi0, hi1, hi2⟩ := info_parts intInfoQ
  have HL := Lib.hid hL
  have HV := Lib.hid hv
  have HN := Lib.hid hn
  obtain ⟨w0, hw0⟩ : ∃ w0, w0 = W.alloc (.cells #[.bool p, .bool x, .bool k, .int .i64 g] 37) := ⟨_, rfl⟩
  have B0 : Hid (Below W.heap.size W w0) := Lib.hid (by rw [hw0]; exact (Below.refl _ _).alloc (Nat.le_refl _) _)
  have R0 : Hid (w0.heap[W.heap.size]? = some (entO (p, x, k, g))) := Lib.hid (by rw [hw0]; exact heap_alloc_new W _)
  have d1 : decide (40 < (n : Int)) = false := decide_eq_false (by omega)
  clear hL hv hn
  go_enter Tryd.func6, Tryd.ntmps6
  go_wp2_with fail
  rw [← hw0]
  clear hw0
  refine (made_sys 60 w0 (by decide) (by decide) (HL.out.lq.below B0.out) (HL.out.lw.below B0.out)).mono ?_
  rintro e w1 ⟨tb, sb, X, rfl, hs⟩
  have S1 : Hid (FullSt w0 w1 tb sb X 62 60 60 (fun _ => none) W.heap.size p x k g) := Lib.hid ⟨hs, below_block hs.below R0.out⟩
  clear hs d1
  go_wp2_with fail
  refine S1.out.sys.open_.mono ?_
  rintro e w2 (⟨h0, -, -⟩ | ⟨r, hr3, -, -, rfl, hg⟩)
  · omega
  have S2 := Lib.hid (S1.out.gone hg)
  have ir : Hid (I64 (r : Int)) := Lib.hid ⟨by omega, by omega⟩
  have K0 : Hid (BackSt w0 W w2 tb sb X r W.heap.size w2.heap.size p x k g (.slice none 0 0) [] []) := Lib.hid ⟨⟨59, by rw [dF_nil]; exact S2.out, by rw [dF_nil, zF_tab]⟩, World.ownsRow_nil _ _ _ _, Nat.le_refl _, B0.out.trans (S2.out.sys.below.mono B0.out.size), List.nodup_nil, by simp, Or.inl rfl⟩
  obtain ⟨base, hbase⟩ : ∃ base, base = w2.heap.size := ⟨_, rfl⟩
  rw [← hbase] at K0
  have hb0 : w0.heap.size ≤ base := by rw [hbase]; exact S2.out.sys.below.size
  clear hg S1 S2 hbase
  go_wp2_with fail
  go_loopw [13, 14] (fun d i wr => Back1Rel w0 W tb sb X r W.heap.size base p x k g n d i wr) (fun _ i _ => (n - (intOf i).toNat))
  case atStart => exact ⟨0, [], rfl, Nat.zero_le _, Nat.le_refl _, by rw [dF_nil, zF_all]; rfl, K0.out⟩
  case round =>
    obtain ⟨j, D, rfl, hj, hDl, hAll, hK⟩ := hrel
    have KK := Lib.hid hK
    have HA := Lib.hid hAll
    obtain ⟨c, hF, hc⟩ := hK.st
    have HC := Lib.hid hc
    clear hK hAll hc
    by_cases hlt : j < n
    · obtain ⟨a', c', hve, hbd, hcell⟩ := HV.out
      obtain ⟨b, o, rfl, hbl, hcells⟩ : ∃ b o, aa = some ⟨b, o, none⟩ ∧ b < W.heap.size ∧ ∀ i, i < L.length → W.cell? ⟨b, o + i, none⟩ = some (.int .i64 (L.getD i 0)) := by
        rcases hcell with h0 | ⟨b, o, h1, h2, h3⟩
        · have := HN.out; rw [h0] at this; simp at this; omega
        · cases hve; exact ⟨b, o, h1, h2, h3⟩
      obtain ⟨pg, hpg⟩ : ∃ pg, pg = L.getD j 0 := ⟨_, rfl⟩
      have hjl : j < L.length := by rw [← HN.out]; exact hlt
      have ipg : Hid (I64 pg) := Lib.hid (by
        have := hbd (L.getD j 0) (by rw [List.getD_eq_getElem?_getD, List.getElem?_eq_getElem hjl]; exact List.getElem_mem hjl)
        rw [hpg]; exact this)
      have PC : Hid (∀ w', Below W.heap.size W w' → w'.cell? ⟨b, o + j, none⟩ = some (.int .i64 pg)) := Lib.hid fun w' hb => by rw [hpg]; exact (hb.cell (p := ⟨b, o + j, none⟩) hbl).trans (hcells j hjl)
      have dr : Below wr.heap.size wr wr.drew := (Below.refl _ _).drew
      have F1 := Lib.hid (hF.step dr)
      have K1 := Lib.hid (KK.out.step dr)
      obtain ⟨er, her⟩ : ∃ er, er = mapErr 62 (updW (fun _ => none) r (some (dF D (p, x, k, g)))) c (r : Int) pg (p, x, k, g) := ⟨_, rfl⟩
      have HER := Lib.hid her
      obtain ⟨l0, l1, l2, l3⟩ := cells4 hF.box
      have q0 := PC.out wr KK.out.bel
      clear her hve hcell hcells hbd dr hF hpg
      by_cases h0 : er = 0
      · subst h0
        go_wp2_with fail
        go_region_held3 (fun w' => w'.cell? ⟨b, o + j, none⟩ = some (.int .i64 pg) ∧ w'.cell? ⟨W.heap.size, 0, none⟩ = some (.bool p) ∧ w'.cell? ⟨W.heap.size, 1, none⟩ = some (.bool x) ∧ w'.cell? ⟨W.heap.size, 2, none⟩ = some (.bool k) ∧ w'.cell? ⟨W.heap.size, 3, none⟩ = some (.int .i64 g)) (first | go_keep | exact ⟨q5, m0, m1, m2, m3⟩)
          (first | (go_at_call 24; refine (F1.out.sys.map (r : Int) pg p x k g ir.out ipg.out).mono ?_; rw [← HER.out]; rintro e w5 ⟨rfl, hg⟩; have G5 := Lib.hid hg; obtain ⟨m0, m1, m2, m3⟩ := cells4 (F1.out.gone hg).box; have q5 := PC.out w5 (B0.out.trans (hg.st.below.mono B0.out.size)); clear hg))
        obtain ⟨q, rfl, hq, hqD, hfits, c2, hF2, hc2⟩ := (K1.out.mapped F1.out HC.out B0.out G5.out).2 HER.out.symm
        have hrow5 := row_gone F1.out.sys G5.out K1.out.row ⟨by decide, by decide, by decide, by decide, by decide⟩
        have hsz5 : base ≤ w5.heap.size := Nat.le_trans K1.out.size G5.out.only.size
        have A6 := Lib.hid ((Below.refl w5.heap.size w5).alloc (Nat.le_refl _) (.cells #[.int .i64 (q : Int)] 3))
        have F6 := Lib.hid (hF2.step A6.out)
        have O6 := Lib.hid (own_step hrow5 A6.out)
        have hND : (D ++ [q]).Nodup := by
          rw [List.nodup_append]
          exact ⟨KK.out.nodup, by simp, fun a ha b' hb' => by simp at hb'; rw [hb']; rintro rfl; exact hqD ha⟩
        have hlowD : ∀ y ∈ D ++ [q], y < 1024 := fun y hy => by
          rcases List.mem_append.1 hy with h | h
          · exact KK.out.low y h
          · simp at h; omega
        have hAll2 := Lib.hid (show (allF (dF (D ++ [q]) (p, x, k, g))).length = (D ++ [q]).length by
          rw [← dF_snoc, allF_more hq (by rw [dF_out hqD]; rfl) hfits.1, HA.out]; simp)
        have FIT := Lib.hid hfits
        have HC2 := Lib.hid hc2
        have HND := Lib.hid hND
        have HLO := Lib.hid hlowD
        clear hc2 hF2 hrow5 hfits hND hlowD hqD m0 m1 m2 m3 q0 l0 l1 l2 l3
        have hD40 : D.length ≤ 40 := by omega
        go_wp2_with (at_builtin; refine wpList_append_own _ rfl (.tmp 53) (.tmp 58) 32 rfl base 3 ii (.int .i64 0) 1 8 Tryd.underlying32 hi hi0 hi1 hi2 rfl (by decide) _ D.length _ rfl O6.out ⟨w5.heap.size, 0, none⟩ 1 1 [.int .i64 (q : Int)] rfl rfl (one_atQ w5 _ _) (by simp [Value.oneCell']) (by unfold maxLen; omega) (by omega) (Nat.le_trans hsz5 A6.out.size) ?_; intro v7 w7 ho hg _; have O7 : Hid (w7.ownsRow base 3 1 v7 (D ++ [q]).length (natsV (D ++ [q]))) := Lib.hid (by rw [natsV_snoc, List.length_append]; exact ho); have F7 := Lib.hid (row_apart F6.out O6.out hg hb0 (by decide) (by decide) ⟨by decide, by decide, by decide, by decide, by decide⟩); have Z7 := Lib.hid (Nat.le_trans (Nat.le_trans hsz5 A6.out.size) hg.size); clear ho hg)
        go_roundw
        case rel => exact ⟨j + 1, D ++ [q], by go_num, by omega, by simp; omega, hAll2.out, ⟨⟨c2, F7.out, HC2.out⟩, O7.out, Z7.out, B0.out.trans (F7.out.sys.below.mono B0.out.size), HND.out, HLO.out, Or.inr FIT.out⟩⟩
        case measure => simp [intOf]; omega
      · have hne : (er == 0) = false := by simpa using h0
        have hne2 : decide (er = 0) = false := by simpa using h0
        go_wp2_with fail
        go_region_held3 (fun w' => w'.cell? ⟨b, o + j, none⟩ = some (.int .i64 pg) ∧ w'.cell? ⟨W.heap.size, 0, none⟩ = some (.bool p) ∧ w'.cell? ⟨W.heap.size, 1, none⟩ = some (.bool x) ∧ w'.cell? ⟨W.heap.size, 2, none⟩ = some (.bool k) ∧ w'.cell? ⟨W.heap.size, 3, none⟩ = some (.int .i64 g)) (first | go_keep | exact ⟨q5, m0, m1, m2, m3⟩)
          (first | (go_at_call 24; refine (F1.out.sys.map (r : Int) pg p x k g ir.out ipg.out).mono ?_; rw [← HER.out]; rintro e w5 ⟨rfl, hg⟩; have G5 := Lib.hid hg; obtain ⟨m0, m1, m2, m3⟩ := cells4 (F1.out.gone hg).box; have q5 := PC.out w5 (B0.out.trans (hg.st.below.mono B0.out.size)); clear hg))
        have K5 := Lib.hid ((K1.out.mapped F1.out HC.out B0.out G5.out).1 (by rw [← HER.out]; exact h0))
        clear q5 m0 m1 m2 m3 q0 l0 l1 l2 l3
        go_wp2_with fail
        go_roundw
        case rel => exact ⟨j + 1, D, by go_num, by omega, by omega, HA.out, K5.out⟩
        case measure => simp [intOf]; omega
    · obtain rfl : j = n := by omega
      obtain ⟨da, dc, rfl⟩ := owns_slice KK.out.row
      have F1 := Lib.hid hF
      have hallw : Hid ((allW (updW (fun _ => none) r (some (dF D (p, x, k, g)))) (r : Int)).length = D.length) := Lib.hid (by unfold allW; rw [spOf_nat, updW_same]; exact HA.out)
      obtain ⟨tt, htt⟩ : ∃ tt, tt = tabF (dF D (p, x, k, g)) := ⟨_, rfl⟩
      have htabw : Hid (tabW (updW (fun _ => none) r (some (dF D (p, x, k, g)))) (r : Int) = tt) := Lib.hid (by unfold tabW; rw [spOf_nat, updW_same, htt])
      have hct : c + tt = 60 := by rw [htt]; exact HC.out
      have hsub : (60 : Int) - (tt : Int) = (c : Int) := by omega
      have hD40 : D.length ≤ 40 := by omega
      clear htt hlt hF
      go_wp2_with (first
        | (go_at_call 18; refine (F1.out.sys.all (r : Int) ir.out).mono ?_; rintro e w6 ⟨v, rfl, ho, hb⟩; rw [hallw.out] at ho; obtain ⟨a6, c6, rfl⟩ := owns_slice ho; have K6 := Lib.hid (KK.out.step hb); have F6 := Lib.hid (F1.out.step hb); clear hb ho)
        | (go_at_call 12; refine F6.out.sys.left.mono ?_; rintro e w7 ⟨rfl, hb⟩; have K7 := Lib.hid (K6.out.step hb); have F7 := Lib.hid (F6.out.step hb); clear hb)
        | (go_at_call 19; refine (F7.out.sys.tables (r : Int) ir.out).mono ?_; rw [htabw.out]; rintro e w8 ⟨rfl, hb⟩; have K8 := Lib.hid (K7.out.step hb); clear hb))
      clear hallw htabw F1 F6 F7 K6 K7 HC HA hct hsub
      go_loopw [15] (fun i wr => Back2Rel w0 W tb sb X r W.heap.size base p x k g turn (.slice da D.length dc) D i wr) (fun i _ => (D.length - (intOf i).toNat))
      case atStart => exact ⟨0, rfl, Nat.zero_le _, by have := K8.out; unfold remB; cases turn <;> simpa using this⟩
      case round =>
        obtain ⟨j, rfl, hj, hK⟩ := hrel
        have KK := Lib.hid hK
        obtain ⟨c1, hF, hc⟩ := hK.st
        have HC := Lib.hid hc
        have F0 := Lib.hid hF
        clear hc hF
        by_cases hlt : j < D.length
        · obtain ⟨q, hqe, hqD, hq3, hq4⟩ := remB_next turn D hK.nodup j hlt (p, x, k, g)
          have hq1 := hK.low q hqD
          have hfit : fitsE 62 (p, x, k, g) := by
            rcases hK.fits with h | h
            · rw [h] at hlt; simp at hlt
            · exact h
          have HP : Hid (p = true) := Lib.hid hfit.1
          have iq : Hid (I64 (q : Int)) := Lib.hid ⟨by omega, by omega⟩
          have hsp : spOf (updW (fun _ => none) r (some (dF (remB turn j D) (p, x, k, g)))) (r : Int) = some (dF (remB turn j D) (p, x, k, g)) := by rw [spOf_nat, updW_same]
          have UZ : Hid (unmErr (updW (fun _ => none) r (some (dF (remB turn j D) (p, x, k, g)))) (r : Int) (q : Int) = 0) := Lib.hid (by rw [unmErr_in hsp hq1, if_pos (by rw [dF_in hq3]; exact hfit.1)])
          have UE : Hid (unmE' (updW (fun _ => none) r (some (dF (remB turn j D) (p, x, k, g)))) (r : Int) (q : Int) = (p, x, k, g)) := Lib.hid (by unfold unmE'; rw [UZ.out, if_pos rfl]; unfold entW; rw [hsp]; simp only [Int.toNat_natCast]; exact dF_in hq3)
          obtain ⟨gg, rfl⟩ : ∃ gg, da = some ⟨gg, 0, none⟩ := by
            rcases hK.row.2 with ⟨h, h0⟩ | ⟨gg, cap, cur, h, _⟩
            · omega
            · cases h; exact ⟨gg, rfl⟩
          have hel : ∀ i : Nat, i < D.length → wr.cell? ⟨gg, i, none⟩ = some (.int .i64 ((D.getD i 0 : Nat) : Int)) := fun i hi => by
            have := hK.row.cells (g := gg) rfl i (.int .i64 ((D.getD i 0 : Nat) : Int)) (by simp [natsV, List.getD_eq_getElem?_getD, hi])
            rw [Addr.add_mid, Nat.zero_add] at this
            exact this
          cases turn with
          | false =>
            simp only [Bool.false_eq_true, if_false] at hqe
            have e0 := hel j hlt
            rw [hqe] at e0
            clear hK hsp hfit hel
            go_wp2_with (first
              | (go_at_call 22; refine (F0.out.sys.unmap (r : Int) (q : Int) ir.out iq.out UE.out).mono ?_; rw [UZ.out]; rintro e w5 ⟨rfl, hg⟩; have A6 := Lib.hid ((Below.refl w5.heap.size w5).alloc (Nat.le_refl _) (.cells #[.bool p, .bool x, .bool k, .int .i64 g] 37)); have K6 := Lib.hid ((KK.out.unmapped F0.out HC.out B0.out hq1 HP.out hq3 hq4 hg).step A6.out); have BX := Lib.hid (below_block A6.out (F0.out.gone hg).box); have N6 := Lib.hid (heap_alloc_new w5 (.cells #[.bool p, .bool x, .bool k, .int .i64 g] 37)); clear hg; obtain ⟨m0, m1, m2, m3⟩ := cells4 BX.out; obtain ⟨n0, n1, n2, n3⟩ := cells4 (e := (p, x, k, g)) N6.out))
            go_roundw
            case rel => exact ⟨j + 1, by go_num, by omega, K6.out⟩
            case measure => simp [intOf]; omega
          | true =>
            simp only [if_true] at hqe
            have e0 := hel (D.length - 1 - j) (by omega)
            rw [hqe] at e0
            have hix : (D.length : Int) - 1 - (j : Int) = ((D.length - 1 - j : Nat) : Int) := by omega
            have hix2 : D.length - 1 - j < D.length := by omega
            have d1 : IntKind.i64.wrap ((D.length : Int) - 1) = (D.length : Int) - 1 := IntWalk.i64_in _ (by omega)
            have d2 : IntKind.i64.wrap ((D.length : Int) - 1 - (j : Int)) = ((D.length - 1 - j : Nat) : Int) := (IntWalk.i64_in _ (by omega)).trans hix
            clear hK hsp hfit hel hqe
            go_wp2_with (first
              | (go_at_call 22; refine (F0.out.sys.unmap (r : Int) (q : Int) ir.out iq.out UE.out).mono ?_; rw [UZ.out]; rintro e w5 ⟨rfl, hg⟩; have A6 := Lib.hid ((Below.refl w5.heap.size w5).alloc (Nat.le_refl _) (.cells #[.bool p, .bool x, .bool k, .int .i64 g] 37)); have K6 := Lib.hid ((KK.out.unmapped F0.out HC.out B0.out hq1 HP.out hq3 hq4 hg).step A6.out); have BX := Lib.hid (below_block A6.out (F0.out.gone hg).box); have N6 := Lib.hid (heap_alloc_new w5 (.cells #[.bool p, .bool x, .bool k, .int .i64 g] 37)); clear hg; obtain ⟨m0, m1, m2, m3⟩ := cells4 BX.out; obtain ⟨n0, n1, n2, n3⟩ := cells4 (e := (p, x, k, g)) N6.out))
            go_roundw
            case rel => exact ⟨j + 1, by go_num, by omega, K6.out⟩
            case measure => simp [intOf]; omega
        · obtain rfl : j = D.length := by omega
          have hE : remB turn D.length D = [] := by unfold remB; cases turn <;> simp
          rw [hE, dF_nil] at F0 HC
          obtain rfl : c1 = 59 := by have := HC.out; rw [zF_tab] at this; omega
          obtain ⟨Wz, hWz⟩ : ∃ Wz : Nat → Option Sp, Wz = updW (fun _ => none) r (some zF) := ⟨_, rfl⟩
          rw [← hWz] at F0
          have hsp : spOf Wz (r : Int) = some zF := by rw [spOf_nat, hWz, updW_same]
          have hallw : Hid ((allW Wz (r : Int)).length = 0) := Lib.hid (by unfold allW; rw [hsp]; simp only; rw [zF_all]; rfl)
          have htabw : Hid (tabW Wz (r : Int) = 1) := Lib.hid (by unfold tabW; rw [hsp]; exact zF_tab)
          have hcls : Hid (clsErr Wz (r : Int) = 0) := Lib.hid (by unfold clsErr; rw [hsp]; simp only; rw [zF_empty]; rfl)
          have hclc : Hid (clsC 59 Wz (r : Int) = 60) := Lib.hid (by unfold clsC; rw [hcls.out, if_pos rfl])
          clear hK hlt HC hsp hWz
          go_wp2_with (first
            | (go_at_call 18; refine (F0.out.sys.all (r : Int) ir.out).mono ?_; rintro e w6 ⟨v, rfl, ho, hb⟩; rw [hallw.out] at ho; obtain ⟨a6, c6, rfl⟩ := owns_slice ho; have F6 := Lib.hid (F0.out.step hb); clear hb ho)
            | (go_at_call 19; refine (F6.out.sys.tables (r : Int) ir.out).mono ?_; rw [htabw.out]; rintro e w7 ⟨rfl, hb⟩; have F7 := Lib.hid (F6.out.step hb); clear hb)
            | (go_at_call 12; first | (refine F9.out.sys.left.mono ?_; rintro e w10 ⟨rfl, hb⟩; have F10 := Lib.hid (F9.out.step hb); clear hb) | (refine F7.out.sys.left.mono ?_; rintro e w8 ⟨rfl, hb⟩; have F8 := Lib.hid (F7.out.step hb); clear hb))
            | (go_at_call 23; refine (F8.out.sys.close (r : Int) ir.out).mono ?_; rw [hcls.out, hclc.out]; rintro e w9 ⟨rfl, hg⟩; have F9 := Lib.hid (F8.out.gone hg); clear hg)
            | (go_at_call 28; refine (other_ok F10.out.sys (by decide) (by decide)).mono ?_; rintro e w11 ⟨rfl, hb⟩; have B11 := Lib.hid (B0.out.trans (hb.mono B0.out.size)); clear hb)
            | (go_at_call 9; refine (awake10 _ (HL.out.lq.below B11.out) (HL.out.lw.below B11.out)).mono ?_; rintro e w12 ⟨rfl, hb⟩; have B12 := Lib.hid (B11.out.trans (hb.mono B11.out.size)); clear hb))
          go_ret
          exact ⟨rfl, B12.out⟩
theorem ptableBack_walk (v : Value) (L : List Int) (p x k : Bool) (g : Int) (turn : Bool) (W : World) (hv : ArgInts10 W v L) (_ : I64 g) (hL : LaidN W) : Calls Tryd.prog 6 #[v, ent p x k g, .bool turn] W fun e w' => e = .returned (.bool true) ∧ Below W.heap.size W w' := by
  have hv' := hv
  obtain ⟨a, c, rfl, _⟩ := hv
  by_cases h : L.length ≤ 40
  · exact back_in L L.length c a p x k turn g W rfl h hv' hL
  · exact back_far L.length c a p x k turn g W (by omega) hL
end Go.Proofs.YtkcecfghfohjcaaDoor
