/- The law PtableTwo: its walk. Condition: the listed tables read as laid. Written by tpl/gen_n33.py. -/
import Derived.Test.YtkcecfghfohjcaaDoorN32
import Derived.Test.YtkcecfghfohjcaaDoorN30
namespace Go.Proofs.YtkcecfghfohjcaaDoor
open Go.RowKit Go.Maps
set_option maxRecDepth 100000

def TwoRel (W0 : World) (tb sb : Nat) (X : PIx) (m a b bx : Nat) (p x k : Bool) (g : Int) (q : Nat) (i : Value) (wr : World) : Prop :=
  ∃ (j c : Nat) (Wf : Nat → Option Sp), i = .int .i64 (j : Int) ∧ j ≤ q ∧ FullSt W0 wr tb sb X (m + 2) m c Wf bx p x k g ∧ (Wf a).isSome = true ∧ (Wf b).isSome = true
/-- What Set leaves of the list of all mappings. -/
def setF (ser pg : Int) (e : Ent) (y : MapE) : MapE := if ser = 0 ∧ y.1 = pg then (y.1, e) else y
theorem allW_setW {n : Nat} {W : Nat → Option Sp} {a : Nat} {pg : Int} {e : Ent} (ha : (W a).isSome = true) : allW (setW n W (a : Int) pg e) (a : Int) = (allW W (a : Int)).map (setF (setErr n W (a : Int) pg e) pg e) := by
  by_cases h : setErr n W (a : Int) pg e = 0
  · obtain ⟨F, hF⟩ := Option.isSome_iff_exists.1 ha
    have hs : spOf W (a : Int) = some F := by rw [spOf_nat]; exact hF
    have h' := h
    unfold setErr at h'
    split at h'
    · rename_i h0
      rw [hs] at h'
      simp only at h'
      obtain ⟨k, p, F', hk, rfl, hp, hw, hfit, -⟩ := askErr_zero h0
      have hf : (F p).1 = true := by
        rw [Int.toNat_natCast] at h'
        by_cases hf : (F p).1 = true
        · exact hf
        · rw [if_neg hf] at h'; cases h'
      have he : e.1 = true := ((fitV_iff n e).1 hfit).1
      have e1 : allW (setW n W (a : Int) (p : Int) e) (a : Int) = allF (updF F p e) := by
        unfold setW allW
        rw [if_pos h, putW_in hs, spOf_nat, updW_same]
      have e2 : allW W (a : Int) = allF F := by unfold allW; rw [hs]
      rw [e1, e2, allF_set hf he, h]
      apply List.map_congr_left
      intro y _
      simp [oneF, setF]
    · exact absurd h' (by assumption)
  · unfold setW
    rw [if_neg h]
    have : setF (setErr n W (a : Int) pg e) pg e = id := by funext y; simp [setF, h]
    rw [this, List.map_id]
theorem getD_map {α : Type} (f : α → α) (l : List α) (d : α) (i : Nat) (h : i < l.length) : (l.map f).getD i d = f (l.getD i d) := by simp [List.getD_eq_getElem?_getD, h]
def TwoRel2 (W7 : World) (q : Nat) (i : Value) (wr : World) : Prop := ∃ j : Nat, i = .int .i64 (j : Int) ∧ j ≤ q ∧ Below W7.heap.size W7 wr
set_option maxHeartbeats 1000000 in
theorem two_far (n pg : Int) (q c : Nat) (s : Option Addr) (p x k : Bool) (g : Int) (W : World) (h : n < 4 ∨ (4 ≤ n ∧ 30 < n) ∨ (4 ≤ n ∧ n ≤ 30 ∧ 60 < q)) (hL : LaidN W) : Calls Tryd.prog 7 #[.int .i64 n, .slice s q c, .int .i64 pg, ent p x k g] W fun e w' => e = .returned (.bool true) ∧ Below W.heap.size W w' := by
  have HL := Lib.hid hL
  have B0 : Hid (Below W.heap.size W (W.alloc (.cells #[.bool p, .bool x, .bool k, .int .i64 g] 37))) := Lib.hid ((Below.refl _ _).alloc (Nat.le_refl _) _)
  clear hL
  rcases h with h | ⟨h1, h⟩ | ⟨h1, h2, h⟩
  · have d0 : decide (n < 4) = true := decide_eq_true h
    go_enter Tryd.func7, Tryd.ntmps7
    go_wp2_with (go_at_call 9; refine (awake10 _ (HL.out.lq.below B0.out) (HL.out.lw.below B0.out)).mono ?_; rintro e w2 ⟨rfl, hb⟩; have B := Lib.hid (B0.out.trans (hb.mono B0.out.size)); clear hb)
    go_ret
    exact ⟨rfl, B.out⟩
  · have d0 : decide (n < 4) = false := decide_eq_false (by omega)
    have d1 : decide (30 < n) = true := decide_eq_true h
    go_enter Tryd.func7, Tryd.ntmps7
    go_wp2_with (go_at_call 9; refine (awake10 _ (HL.out.lq.below B0.out) (HL.out.lw.below B0.out)).mono ?_; rintro e w2 ⟨rfl, hb⟩; have B := Lib.hid (B0.out.trans (hb.mono B0.out.size)); clear hb)
    go_ret
    exact ⟨rfl, B.out⟩
  · have d0 : decide (n < 4) = false := decide_eq_false (by omega)
    have d1 : decide (30 < n) = false := decide_eq_false (by omega)
    have d2 : decide (60 < (q : Int)) = true := decide_eq_true (by omega)
    go_enter Tryd.func7, Tryd.ntmps7
    go_wp2_with (go_at_call 9; refine (awake10 _ (HL.out.lq.below B0.out) (HL.out.lw.below B0.out)).mono ?_; rintro e w2 ⟨rfl, hb⟩; have B := Lib.hid (B0.out.trans (hb.mono B0.out.size)); clear hb)
    go_ret
    exact ⟨rfl, B.out⟩
set_option maxHeartbeats 4000000 in
theorem two_in (m : Nat) (L : List Op10) (n cc : Nat) (aa : Option Addr) (page : Int) (p x k : Bool) (g : Int) (W : World) (hm4 : 4 ≤ m) (hm30 : m ≤ 30) (hn : n = L.length) (hn60 : n ≤ 60) (hv : ArgOps10 W (.slice aa n cc) L) (hp : I64 page) (hL : LaidN W) : Calls Tryd.prog 7 #[.int .i64 (m : Int), .slice aa n cc, .int .i64 page, ent p x k g] W fun e w' => e = .returned (.bool true) ∧ Below W.heap.size W w' := by
  have HL := Lib.hid hL
  have HV := Lib.hid hv
  have HN := Lib.hid hn
  have HPG := Lib.hid hp
  obtain ⟨w0, hw0⟩ : ∃ w0, w0 = W.alloc (.cells #[.bool p, .bool x, .bool k, .int .i64 g] 37) := ⟨_, rfl⟩
  have B0 : Hid (Below W.heap.size W w0) := Lib.hid (by rw [hw0]; exact (Below.refl _ _).alloc (Nat.le_refl _) _)
  have R0 : Hid (w0.heap[W.heap.size]? = some (entO (p, x, k, g))) := Lib.hid (by rw [hw0]; exact heap_alloc_new W _)
  have d0 : decide ((m : Int) < 4) = false := decide_eq_false (by omega)
  have d1 : decide (30 < (m : Int)) = false := decide_eq_false (by omega)
  have d2 : decide (60 < (n : Int)) = false := decide_eq_false (by omega)
  clear hL hv hn hp
  go_enter Tryd.func7, Tryd.ntmps7
  go_wp2_with fail
  rw [← hw0]
  clear hw0
  refine (made_sys m w0 (by omega) (by omega) (HL.out.lq.below B0.out) (HL.out.lw.below B0.out)).mono ?_
  rintro e w1 ⟨tb, sb, X, rfl, hs⟩
  have S1 : Hid (FullSt w0 w1 tb sb X (m + 2) m m (fun _ => none) W.heap.size p x k g) := Lib.hid ⟨hs, below_block hs.below R0.out⟩
  clear hs d0 d1 d2
  go_wp2_with fail
  refine S1.out.sys.open_.mono ?_
  rintro e w2 (⟨h0, -, -⟩ | ⟨a, ha, -, -, rfl, hg⟩)
  · omega
  obtain ⟨W1, hW1⟩ : ∃ W1 : Nat → Option Sp, W1 = updW (fun _ => none) a (some fun _ => z0) := ⟨_, rfl⟩
  rw [← hW1] at hg
  have S2 := Lib.hid (S1.out.gone hg)
  clear hg S1
  go_wp2_with fail
  refine S2.out.sys.open_.mono ?_
  rintro e w3 (⟨h0, -, -⟩ | ⟨b, hb', hbn, -, rfl, hg⟩)
  · omega
  have hba : b ≠ a := by rintro rfl; rw [hW1, updW_same] at hbn; cases hbn
  have hab : a ≠ b := Ne.symm hba
  obtain ⟨W2, hW2⟩ : ∃ W2 : Nat → Option Sp, W2 = updW W1 b (some fun _ => z0) := ⟨_, rfl⟩
  rw [← hW2] at hg
  have s1 : (W2 a).isSome = true := by rw [hW2, updW_other _ _ _ _ hab, hW1, updW_same]; rfl
  have s2 : (W2 b).isSome = true := by rw [hW2, updW_same]; rfl
  have S3 := Lib.hid (S2.out.gone hg)
  have K0 : Hid (TwoRel w0 tb sb X m a b W.heap.size p x k g n (.int .i64 0) w3) := Lib.hid ⟨0, _, W2, rfl, Nat.zero_le _, S3.out, s1, s2⟩
  have ia : Hid (I64 (a : Int)) := Lib.hid ⟨by omega, by omega⟩
  have ib : Hid (I64 (b : Int)) := Lib.hid ⟨by omega, by omega⟩
  clear hg S2 S3 s1 s2 hW2 hW1 hbn
  go_wp2_with fail
  go_loopw [17] (fun i wr => TwoRel w0 tb sb X m a b W.heap.size p x k g n i wr) (fun i _ => (n - (intOf i).toNat))
  case atStart => exact K0.out
  case round =>
    obtain ⟨j, c, Wf, rfl, hj, hF, hA1, hA2⟩ := hrel
    have F0 := Lib.hid hF
    have HA1 := Lib.hid hA1
    have HA2 := Lib.hid hA2
    clear hF hA1 hA2 K0
    by_cases hlt : j < n
    · obtain ⟨a', c', hve, hbd, hcell⟩ := HV.out
      obtain ⟨bb, o, rfl, hbl, hcells⟩ : ∃ b o, aa = some ⟨b, o, none⟩ ∧ b < W.heap.size ∧ ∀ i, i < L.length → W.cell? ⟨b, o + i * 7, none⟩ = some (.int .i64 (L.getD i default).1) ∧ W.cell? ⟨b, o + i * 7 + 1, none⟩ = some (.int .i64 (L.getD i default).2.1) ∧ W.cell? ⟨b, o + i * 7 + 2, none⟩ = some (.int .i64 (L.getD i default).2.2.1) ∧ W.cell? ⟨b, o + i * 7 + 3, none⟩ = some (.bool (L.getD i default).2.2.2.1) ∧ W.cell? ⟨b, o + i * 7 + 4, none⟩ = some (.bool (L.getD i default).2.2.2.2.1) ∧ W.cell? ⟨b, o + i * 7 + 5, none⟩ = some (.bool (L.getD i default).2.2.2.2.2.1) ∧ W.cell? ⟨b, o + i * 7 + 6, none⟩ = some (.int .i64 (L.getD i default).2.2.2.2.2.2) := by
        rcases hcell with h0 | ⟨b, o, h1, h2, h3⟩
        · have := HN.out; rw [h0] at this; simp at this; omega
        · cases hve; exact ⟨b, o, h1, h2, h3⟩
      have hjl : j < L.length := by rw [← HN.out]; exact hlt
      obtain ⟨⟨d, s, pg, ep, ex, ek, eg⟩, hop⟩ : ∃ y, y = L.getD j default := ⟨_, rfl⟩
      have hmem : (d, s, pg, ep, ex, ek, eg) ∈ L := by rw [hop, List.getD_eq_getElem?_getD, List.getElem?_eq_getElem hjl]; exact List.getElem_mem hjl
      obtain ⟨-, ws, wp, -⟩ := hbd _ hmem
      have ipg : Hid (I64 pg) := Lib.hid wp
      have hcj := hcells j hjl
      rw [← hop] at hcj
      simp only at hcj ws
      have CB : Hid (∀ w', Below W.heap.size W w' → w'.cell? ⟨bb, o + j * 7, none⟩ = some (.int .i64 d) ∧ w'.cell? ⟨bb, o + j * 7 + 1, none⟩ = some (.int .i64 s) ∧ w'.cell? ⟨bb, o + j * 7 + 2, none⟩ = some (.int .i64 pg) ∧ w'.cell? ⟨bb, o + j * 7 + 3, none⟩ = some (.bool ep) ∧ w'.cell? ⟨bb, o + j * 7 + 4, none⟩ = some (.bool ex) ∧ w'.cell? ⟨bb, o + j * 7 + 5, none⟩ = some (.bool ek) ∧ w'.cell? ⟨bb, o + j * 7 + 6, none⟩ = some (.int .i64 eg)) := Lib.hid fun w' hb => by
        have kk : ∀ q, w'.cell? ⟨bb, q, none⟩ = W.cell? ⟨bb, q, none⟩ := fun q => hb.cell (p := ⟨bb, q, none⟩) hbl
        exact ⟨(kk _).trans hcj.1, (kk _).trans hcj.2.1, (kk _).trans hcj.2.2.1, (kk _).trans hcj.2.2.2.1, (kk _).trans hcj.2.2.2.2.1, (kk _).trans hcj.2.2.2.2.2.1, (kk _).trans hcj.2.2.2.2.2.2⟩
      obtain ⟨c0, c1, -⟩ := CB.out wr (B0.out.trans (F0.out.sys.below.mono B0.out.size))
      have sr : s.tmod 2 = 0 ∨ s.tmod 2 ≠ 0 := by omega
      have t1 : (a : Int) + (b : Int) - (a : Int) = (b : Int) := by omega
      have t2 : (a : Int) + (b : Int) - (b : Int) = (a : Int) := by omega
      clear hve hbd hcell hcells hmem hop hcj wp
      obtain ⟨rem, hrem⟩ : ∃ rem, rem = s.tmod 2 := ⟨_, rfl⟩
      rw [← hrem] at sr
      have hrem2 : s.tmod 2 = rem := hrem.symm
      clear hrem
      rcases sr with h0 | h0
      · subst h0
        rcases (show d = 3 ∨ d = 4 ∨ d = 5 ∨ (d ≠ 3 ∧ d ≠ 4 ∧ d ≠ 5) by omega) with rfl | rfl | rfl | ⟨e3, e4, e5⟩
        · go_wp2_with (go_at_call 18; refine (F0.out.sys.all (b : Int) ib.out).mono ?_; rintro e w5 ⟨v5, rfl, ho5, hb⟩; have F5 := Lib.hid (F0.out.step hb); have O5 := Lib.hid (own_base ho5 (F0.out.sys.below.size)); have B5 := Lib.hid (B0.out.trans (F5.out.sys.below.mono B0.out.size)); clear hb ho5; obtain ⟨z0', z1', z2', z3', z4', z5', z6'⟩ := CB.out w5 B5.out)
          have FD := Lib.hid (F5.out.step (Below.refl w5.heap.size w5).drew)
          have OD := Lib.hid (own_step O5.out (Below.refl w5.heap.size w5).drew)
          go_wp2_with fail
          go_region_held3 (fun w' => w'.cell? ⟨bb, o + j * 7 + 2, none⟩ = some (.int .i64 pg) ∧ w'.cell? ⟨bb, o + j * 7 + 3, none⟩ = some (.bool ep) ∧ w'.cell? ⟨bb, o + j * 7 + 4, none⟩ = some (.bool ex) ∧ w'.cell? ⟨bb, o + j * 7 + 5, none⟩ = some (.bool ek) ∧ w'.cell? ⟨bb, o + j * 7 + 6, none⟩ = some (.int .i64 eg)) (first | exact ⟨(CB.out _ B5.out.drew).2.2.1, (CB.out _ B5.out.drew).2.2.2⟩ | go_keep | exact ⟨(CB.out w6 B6.out).2.2.1, (CB.out w6 B6.out).2.2.2⟩)
            (first | (go_at_call 24; refine (FD.out.sys.map (a : Int) pg ep ex ek eg ia.out ipg.out).mono ?_; rintro e w6 ⟨rfl, hg⟩; have F6 := Lib.hid (FD.out.gone hg); have O6 := Lib.hid (row_gone FD.out.sys hg OD.out ⟨by decide, by decide, by decide, by decide, by decide⟩); have B6 := Lib.hid (B0.out.trans (F6.out.sys.below.mono B0.out.size)); have T6 : Hid (TwoW Wf (mapW (m + 2) c Wf (a : Int) pg (ep, ex, ek, eg)) a b) := Lib.hid (TwoW.map hba); clear hg))
          clear z0' z1' z2' z3' z4' z5' z6'
          go_wp2_with (first
            | (go_at_call 18; refine (F6.out.sys.all (b : Int) ib.out).mono ?_; rw [allW_far T6.out.far]; rintro e w7 ⟨v7, rfl, ho7, hb⟩; have F7 := Lib.hid (F6.out.step hb); have O7 := Lib.hid (own_step O6.out hb); have P7 := Lib.hid (MapsAt.of_row ho7); clear hb ho7)
            | (go_at_call 17; refine (same_yes (allW Wf (b : Int)) _ _ _ (allW_length _ _) P7.out (MapsAt.of_row O7.out)).mono ?_; rintro e w8 ⟨rfl, hb⟩; have F8 := Lib.hid (F7.out.step hb); clear hb))
          go_roundw
          case rel => exact ⟨j + 1, _, _, by go_num, by omega, F8.out, T6.out.near HA1.out, by rw [T6.out.far]; exact HA2.out⟩
          case measure => simp [intOf]; omega
        · go_wp2_with (go_at_call 18; refine (F0.out.sys.all (b : Int) ib.out).mono ?_; rintro e w5 ⟨v5, rfl, ho5, hb⟩; have F5 := Lib.hid (F0.out.step hb); have O5 := Lib.hid (own_base ho5 (F0.out.sys.below.size)); have B5 := Lib.hid (B0.out.trans (F5.out.sys.below.mono B0.out.size)); clear hb ho5; obtain ⟨z0', z1', z2', z3', z4', z5', z6'⟩ := CB.out w5 B5.out)
          obtain ⟨⟨up, ux, uk, ug⟩, hue⟩ : ∃ u, unmE' Wf (a : Int) pg = u := ⟨_, rfl⟩
          have HUE := Lib.hid hue
          clear hue
          go_wp2_with (go_at_call 22; refine (F5.out.sys.unmap (a : Int) pg ia.out ipg.out HUE.out).mono ?_; rintro e w6 ⟨rfl, hg⟩; have F6 := Lib.hid (F5.out.gone hg); have O6 := Lib.hid (row_gone F5.out.sys hg O5.out ⟨by decide, by decide, by decide, by decide, by decide⟩); have B6 := Lib.hid (B0.out.trans (F6.out.sys.below.mono B0.out.size)); have T6 : Hid (TwoW Wf (unmW Wf (a : Int) pg) a b) := Lib.hid (TwoW.unmap hba); clear hg)
          clear z0' z1' z2' z3' z4' z5' z6'
          go_wp2_with (first
            | (go_at_call 18; refine (F6.out.sys.all (b : Int) ib.out).mono ?_; rw [allW_far T6.out.far]; rintro e w7 ⟨v7, rfl, ho7, hb⟩; have F7 := Lib.hid (F6.out.step hb); have O7 := Lib.hid (own_step O6.out hb); have P7 := Lib.hid (MapsAt.of_row ho7); clear hb ho7)
            | (go_at_call 17; refine (same_yes (allW Wf (b : Int)) _ _ _ (allW_length _ _) P7.out (MapsAt.of_row O7.out)).mono ?_; rintro e w8 ⟨rfl, hb⟩; have F8 := Lib.hid (F7.out.step hb); clear hb))
          go_roundw
          case rel => exact ⟨j + 1, _, _, by go_num, by omega, F8.out, T6.out.near HA1.out, by rw [T6.out.far]; exact HA2.out⟩
          case measure => simp [intOf]; omega
        · go_wp2_with (go_at_call 18; refine (F0.out.sys.all (b : Int) ib.out).mono ?_; rintro e w5 ⟨v5, rfl, ho5, hb⟩; have F5 := Lib.hid (F0.out.step hb); have O5 := Lib.hid (own_base ho5 (F0.out.sys.below.size)); have B5 := Lib.hid (B0.out.trans (F5.out.sys.below.mono B0.out.size)); clear hb ho5; obtain ⟨z0', z1', z2', z3', z4', z5', z6'⟩ := CB.out w5 B5.out)
          have FD := Lib.hid (F5.out.step (Below.refl w5.heap.size w5).drew)
          have OD := Lib.hid (own_step O5.out (Below.refl w5.heap.size w5).drew)
          go_wp2_with fail
          go_region_held3 (fun w' => w'.cell? ⟨bb, o + j * 7 + 2, none⟩ = some (.int .i64 pg) ∧ w'.cell? ⟨bb, o + j * 7 + 3, none⟩ = some (.bool ep) ∧ w'.cell? ⟨bb, o + j * 7 + 4, none⟩ = some (.bool ex) ∧ w'.cell? ⟨bb, o + j * 7 + 5, none⟩ = some (.bool ek) ∧ w'.cell? ⟨bb, o + j * 7 + 6, none⟩ = some (.int .i64 eg)) (first | exact ⟨(CB.out _ B5.out.drew).2.2.1, (CB.out _ B5.out.drew).2.2.2⟩ | go_keep | exact ⟨(CB.out w6 B6.out).2.2.1, (CB.out w6 B6.out).2.2.2⟩)
            (first | (go_at_call 25; refine (FD.out.sys.set (a : Int) pg ep ex ek eg ia.out ipg.out).mono ?_; rintro e w6 ⟨rfl, hg⟩; have F6 := Lib.hid (FD.out.gone hg); have O6 := Lib.hid (row_gone FD.out.sys hg OD.out ⟨by decide, by decide, by decide, by decide, by decide⟩); have B6 := Lib.hid (B0.out.trans (F6.out.sys.below.mono B0.out.size)); have T6 : Hid (TwoW Wf (setW (m + 2) Wf (a : Int) pg (ep, ex, ek, eg)) a b) := Lib.hid (TwoW.set hba); clear hg))
          clear z0' z1' z2' z3' z4' z5' z6'
          go_wp2_with (first
            | (go_at_call 18; refine (F6.out.sys.all (b : Int) ib.out).mono ?_; rw [allW_far T6.out.far]; rintro e w7 ⟨v7, rfl, ho7, hb⟩; have F7 := Lib.hid (F6.out.step hb); have O7 := Lib.hid (own_step O6.out hb); have P7 := Lib.hid (MapsAt.of_row ho7); clear hb ho7)
            | (go_at_call 17; refine (same_yes (allW Wf (b : Int)) _ _ _ (allW_length _ _) P7.out (MapsAt.of_row O7.out)).mono ?_; rintro e w8 ⟨rfl, hb⟩; have F8 := Lib.hid (F7.out.step hb); clear hb))
          go_roundw
          case rel => exact ⟨j + 1, _, _, by go_num, by omega, F8.out, T6.out.near HA1.out, by rw [T6.out.far]; exact HA2.out⟩
          case measure => simp [intOf]; omega
        · have f3 : (d == 3) = false := by simpa using e3
          have f4 : (d == 4) = false := by simpa using e4
          have f5 : (d == 5) = false := by simpa using e5
          go_wp2_with (go_at_call 18; refine (F0.out.sys.all (b : Int) ib.out).mono ?_; rintro e w5 ⟨v5, rfl, ho5, hb⟩; have F5 := Lib.hid (F0.out.step hb); have O5 := Lib.hid (own_base ho5 (F0.out.sys.below.size)); have B5 := Lib.hid (B0.out.trans (F5.out.sys.below.mono B0.out.size)); clear hb ho5; obtain ⟨z0', z1', z2', z3', z4', z5', z6'⟩ := CB.out w5 B5.out)
          have F6 := Lib.hid F5.out
          have O6 := Lib.hid O5.out
          have T6 : Hid (TwoW Wf Wf a b) := Lib.hid (TwoW.refl _ _ _)
          clear z0' z1' z2' z3' z4' z5' z6'
          go_wp2_with (first
            | (go_at_call 18; refine (F6.out.sys.all (b : Int) ib.out).mono ?_; rw [allW_far T6.out.far]; rintro e w7 ⟨v7, rfl, ho7, hb⟩; have F7 := Lib.hid (F6.out.step hb); have O7 := Lib.hid (own_step O6.out hb); have P7 := Lib.hid (MapsAt.of_row ho7); clear hb ho7)
            | (go_at_call 17; refine (same_yes (allW Wf (b : Int)) _ _ _ (allW_length _ _) P7.out (MapsAt.of_row O7.out)).mono ?_; rintro e w8 ⟨rfl, hb⟩; have F8 := Lib.hid (F7.out.step hb); clear hb))
          go_roundw
          case rel => exact ⟨j + 1, _, _, by go_num, by omega, F8.out, T6.out.near HA1.out, by rw [T6.out.far]; exact HA2.out⟩
          case measure => simp [intOf]; omega
      · have hne0 : (rem != 0) = true := by simpa using h0
        have hne1 : (rem == 0) = false := by simpa using h0
        rcases (show d = 3 ∨ d = 4 ∨ d = 5 ∨ (d ≠ 3 ∧ d ≠ 4 ∧ d ≠ 5) by omega) with rfl | rfl | rfl | ⟨e3, e4, e5⟩
        · go_wp2_with (go_at_call 18; refine (F0.out.sys.all (a : Int) ia.out).mono ?_; rintro e w5 ⟨v5, rfl, ho5, hb⟩; have F5 := Lib.hid (F0.out.step hb); have O5 := Lib.hid (own_base ho5 (F0.out.sys.below.size)); have B5 := Lib.hid (B0.out.trans (F5.out.sys.below.mono B0.out.size)); clear hb ho5; obtain ⟨z0', z1', z2', z3', z4', z5', z6'⟩ := CB.out w5 B5.out)
          have FD := Lib.hid (F5.out.step (Below.refl w5.heap.size w5).drew)
          have OD := Lib.hid (own_step O5.out (Below.refl w5.heap.size w5).drew)
          go_wp2_with fail
          go_region_held3 (fun w' => w'.cell? ⟨bb, o + j * 7 + 2, none⟩ = some (.int .i64 pg) ∧ w'.cell? ⟨bb, o + j * 7 + 3, none⟩ = some (.bool ep) ∧ w'.cell? ⟨bb, o + j * 7 + 4, none⟩ = some (.bool ex) ∧ w'.cell? ⟨bb, o + j * 7 + 5, none⟩ = some (.bool ek) ∧ w'.cell? ⟨bb, o + j * 7 + 6, none⟩ = some (.int .i64 eg)) (first | exact ⟨(CB.out _ B5.out.drew).2.2.1, (CB.out _ B5.out.drew).2.2.2⟩ | go_keep | exact ⟨(CB.out w6 B6.out).2.2.1, (CB.out w6 B6.out).2.2.2⟩)
            (first | (go_at_call 24; refine (FD.out.sys.map (b : Int) pg ep ex ek eg ib.out ipg.out).mono ?_; rintro e w6 ⟨rfl, hg⟩; have F6 := Lib.hid (FD.out.gone hg); have O6 := Lib.hid (row_gone FD.out.sys hg OD.out ⟨by decide, by decide, by decide, by decide, by decide⟩); have B6 := Lib.hid (B0.out.trans (F6.out.sys.below.mono B0.out.size)); have T6 : Hid (TwoW Wf (mapW (m + 2) c Wf (b : Int) pg (ep, ex, ek, eg)) b a) := Lib.hid (TwoW.map hab); clear hg))
          clear z0' z1' z2' z3' z4' z5' z6'
          go_wp2_with (first
            | (go_at_call 18; refine (F6.out.sys.all (a : Int) ia.out).mono ?_; rw [allW_far T6.out.far]; rintro e w7 ⟨v7, rfl, ho7, hb⟩; have F7 := Lib.hid (F6.out.step hb); have O7 := Lib.hid (own_step O6.out hb); have P7 := Lib.hid (MapsAt.of_row ho7); clear hb ho7)
            | (go_at_call 17; refine (same_yes (allW Wf (a : Int)) _ _ _ (allW_length _ _) P7.out (MapsAt.of_row O7.out)).mono ?_; rintro e w8 ⟨rfl, hb⟩; have F8 := Lib.hid (F7.out.step hb); clear hb))
          go_roundw
          case rel => exact ⟨j + 1, _, _, by go_num, by omega, F8.out, by rw [T6.out.far]; exact HA1.out, T6.out.near HA2.out⟩
          case measure => simp [intOf]; omega
        · go_wp2_with (go_at_call 18; refine (F0.out.sys.all (a : Int) ia.out).mono ?_; rintro e w5 ⟨v5, rfl, ho5, hb⟩; have F5 := Lib.hid (F0.out.step hb); have O5 := Lib.hid (own_base ho5 (F0.out.sys.below.size)); have B5 := Lib.hid (B0.out.trans (F5.out.sys.below.mono B0.out.size)); clear hb ho5; obtain ⟨z0', z1', z2', z3', z4', z5', z6'⟩ := CB.out w5 B5.out)
          obtain ⟨⟨up, ux, uk, ug⟩, hue⟩ : ∃ u, unmE' Wf (b : Int) pg = u := ⟨_, rfl⟩
          have HUE := Lib.hid hue
          clear hue
          go_wp2_with (go_at_call 22; refine (F5.out.sys.unmap (b : Int) pg ib.out ipg.out HUE.out).mono ?_; rintro e w6 ⟨rfl, hg⟩; have F6 := Lib.hid (F5.out.gone hg); have O6 := Lib.hid (row_gone F5.out.sys hg O5.out ⟨by decide, by decide, by decide, by decide, by decide⟩); have B6 := Lib.hid (B0.out.trans (F6.out.sys.below.mono B0.out.size)); have T6 : Hid (TwoW Wf (unmW Wf (b : Int) pg) b a) := Lib.hid (TwoW.unmap hab); clear hg)
          clear z0' z1' z2' z3' z4' z5' z6'
          go_wp2_with (first
            | (go_at_call 18; refine (F6.out.sys.all (a : Int) ia.out).mono ?_; rw [allW_far T6.out.far]; rintro e w7 ⟨v7, rfl, ho7, hb⟩; have F7 := Lib.hid (F6.out.step hb); have O7 := Lib.hid (own_step O6.out hb); have P7 := Lib.hid (MapsAt.of_row ho7); clear hb ho7)
            | (go_at_call 17; refine (same_yes (allW Wf (a : Int)) _ _ _ (allW_length _ _) P7.out (MapsAt.of_row O7.out)).mono ?_; rintro e w8 ⟨rfl, hb⟩; have F8 := Lib.hid (F7.out.step hb); clear hb))
          go_roundw
          case rel => exact ⟨j + 1, _, _, by go_num, by omega, F8.out, by rw [T6.out.far]; exact HA1.out, T6.out.near HA2.out⟩
          case measure => simp [intOf]; omega
        · go_wp2_with (go_at_call 18; refine (F0.out.sys.all (a : Int) ia.out).mono ?_; rintro e w5 ⟨v5, rfl, ho5, hb⟩; have F5 := Lib.hid (F0.out.step hb); have O5 := Lib.hid (own_base ho5 (F0.out.sys.below.size)); have B5 := Lib.hid (B0.out.trans (F5.out.sys.below.mono B0.out.size)); clear hb ho5; obtain ⟨z0', z1', z2', z3', z4', z5', z6'⟩ := CB.out w5 B5.out)
          have FD := Lib.hid (F5.out.step (Below.refl w5.heap.size w5).drew)
          have OD := Lib.hid (own_step O5.out (Below.refl w5.heap.size w5).drew)
          go_wp2_with fail
          go_region_held3 (fun w' => w'.cell? ⟨bb, o + j * 7 + 2, none⟩ = some (.int .i64 pg) ∧ w'.cell? ⟨bb, o + j * 7 + 3, none⟩ = some (.bool ep) ∧ w'.cell? ⟨bb, o + j * 7 + 4, none⟩ = some (.bool ex) ∧ w'.cell? ⟨bb, o + j * 7 + 5, none⟩ = some (.bool ek) ∧ w'.cell? ⟨bb, o + j * 7 + 6, none⟩ = some (.int .i64 eg)) (first | exact ⟨(CB.out _ B5.out.drew).2.2.1, (CB.out _ B5.out.drew).2.2.2⟩ | go_keep | exact ⟨(CB.out w6 B6.out).2.2.1, (CB.out w6 B6.out).2.2.2⟩)
            (first | (go_at_call 25; refine (FD.out.sys.set (b : Int) pg ep ex ek eg ib.out ipg.out).mono ?_; rintro e w6 ⟨rfl, hg⟩; have F6 := Lib.hid (FD.out.gone hg); have O6 := Lib.hid (row_gone FD.out.sys hg OD.out ⟨by decide, by decide, by decide, by decide, by decide⟩); have B6 := Lib.hid (B0.out.trans (F6.out.sys.below.mono B0.out.size)); have T6 : Hid (TwoW Wf (setW (m + 2) Wf (b : Int) pg (ep, ex, ek, eg)) b a) := Lib.hid (TwoW.set hab); clear hg))
          clear z0' z1' z2' z3' z4' z5' z6'
          go_wp2_with (first
            | (go_at_call 18; refine (F6.out.sys.all (a : Int) ia.out).mono ?_; rw [allW_far T6.out.far]; rintro e w7 ⟨v7, rfl, ho7, hb⟩; have F7 := Lib.hid (F6.out.step hb); have O7 := Lib.hid (own_step O6.out hb); have P7 := Lib.hid (MapsAt.of_row ho7); clear hb ho7)
            | (go_at_call 17; refine (same_yes (allW Wf (a : Int)) _ _ _ (allW_length _ _) P7.out (MapsAt.of_row O7.out)).mono ?_; rintro e w8 ⟨rfl, hb⟩; have F8 := Lib.hid (F7.out.step hb); clear hb))
          go_roundw
          case rel => exact ⟨j + 1, _, _, by go_num, by omega, F8.out, by rw [T6.out.far]; exact HA1.out, T6.out.near HA2.out⟩
          case measure => simp [intOf]; omega
        · have f3 : (d == 3) = false := by simpa using e3
          have f4 : (d == 4) = false := by simpa using e4
          have f5 : (d == 5) = false := by simpa using e5
          go_wp2_with (go_at_call 18; refine (F0.out.sys.all (a : Int) ia.out).mono ?_; rintro e w5 ⟨v5, rfl, ho5, hb⟩; have F5 := Lib.hid (F0.out.step hb); have O5 := Lib.hid (own_base ho5 (F0.out.sys.below.size)); have B5 := Lib.hid (B0.out.trans (F5.out.sys.below.mono B0.out.size)); clear hb ho5; obtain ⟨z0', z1', z2', z3', z4', z5', z6'⟩ := CB.out w5 B5.out)
          have F6 := Lib.hid F5.out
          have O6 := Lib.hid O5.out
          have T6 : Hid (TwoW Wf Wf b a) := Lib.hid (TwoW.refl _ _ _)
          clear z0' z1' z2' z3' z4' z5' z6'
          go_wp2_with (first
            | (go_at_call 18; refine (F6.out.sys.all (a : Int) ia.out).mono ?_; rw [allW_far T6.out.far]; rintro e w7 ⟨v7, rfl, ho7, hb⟩; have F7 := Lib.hid (F6.out.step hb); have O7 := Lib.hid (own_step O6.out hb); have P7 := Lib.hid (MapsAt.of_row ho7); clear hb ho7)
            | (go_at_call 17; refine (same_yes (allW Wf (a : Int)) _ _ _ (allW_length _ _) P7.out (MapsAt.of_row O7.out)).mono ?_; rintro e w8 ⟨rfl, hb⟩; have F8 := Lib.hid (F7.out.step hb); clear hb))
          go_roundw
          case rel => exact ⟨j + 1, _, _, by go_num, by omega, F8.out, by rw [T6.out.far]; exact HA1.out, T6.out.near HA2.out⟩
          case measure => simp [intOf]; omega
    · obtain rfl : j = n := by omega
      obtain ⟨ser, hser⟩ : ∃ s, setErr (m + 2) Wf (a : Int) page (p, x, k, g) = s := ⟨_, rfl⟩
      have HSER := Lib.hid hser
      obtain ⟨l1, hl1⟩ : ∃ l, allW Wf (a : Int) = l := ⟨_, rfl⟩
      have HL1 := Lib.hid hl1
      have HL2 : Hid (allW (setW (m + 2) Wf (a : Int) page (p, x, k, g)) (a : Int) = l1.map (setF ser page (p, x, k, g))) := Lib.hid (by rw [allW_setW HA1.out, hser, hl1])
      obtain ⟨q, hq⟩ : ∃ q, l1.length = q := ⟨_, rfl⟩
      have HQ := Lib.hid hq
      have hq1024 : q ≤ 1024 := by rw [← hq, ← hl1]; exact allW_length _ _
      have HQ2 : Hid ((l1.map (setF ser page (p, x, k, g))).length = q) := Lib.hid (by rw [List.length_map]; exact hq)
      clear hser hl1 hq
      go_wp2_with (first
        | (go_at_call 18; first
            | (refine (F6.out.sys.all (a : Int) ia.out).mono ?_; rw [HL2.out]; rintro e w7 ⟨v7, rfl, ho7, hb⟩; rw [HQ2.out] at ho7; have F7 := Lib.hid (F6.out.step hb); have O7 := Lib.hid (own_step O6.out hb); obtain ⟨a7, c7, rfl⟩ := owns_slice ho7; have P7 := Lib.hid ho7; clear hb ho7)
            | (refine (F0.out.sys.all (a : Int) ia.out).mono ?_; rw [HL1.out]; rintro e w5 ⟨v5, rfl, ho5, hb⟩; rw [HQ.out] at ho5; have F5 := Lib.hid (F0.out.step hb); obtain ⟨a5, c5, rfl⟩ := owns_slice ho5; have O5 := Lib.hid (own_base ho5 (F0.out.sys.below.size)); clear hb ho5; obtain ⟨x0, x1, x2, x3⟩ := cells4 F5.out.box))
        | (go_at_call 25; refine (F5.out.sys.set (a : Int) page p x k g ia.out HPG.out).mono ?_; rw [HSER.out]; rintro e w6 ⟨rfl, hg⟩; have F6 := Lib.hid (F5.out.gone hg); have O6 := Lib.hid (row_gone F5.out.sys hg O5.out ⟨by decide, by decide, by decide, by decide, by decide⟩); clear hg x0 x1 x2 x3))
      have M5 : Hid (MapsAt w7 (.slice a5 q c5) l1) := Lib.hid (MapsAt.of_row (by have := O7.out; rw [← HQ.out] at this ⊢; exact this))
      have M7 : Hid (MapsAt w7 (.slice a7 q c7) (l1.map (setF ser page (p, x, k, g)))) := Lib.hid (MapsAt.of_row (by have := P7.out; rw [← HQ2.out] at this ⊢; exact this))
      go_loopw [24] (fun i wr => TwoRel2 w7 q i wr) (fun i _ => (q - (intOf i).toNat))
      case atStart => exact ⟨0, rfl, Nat.zero_le _, Below.refl _ _⟩
      case round =>
        obtain ⟨i, rfl, hi, hB⟩ := hrel
        have BB := Lib.hid hB
        clear hB
        by_cases hlt2 : i < q
        · obtain ⟨aa5, cc5, hv5, hU⟩ := M5.out
          obtain ⟨aa7, cc7, hv7, hV⟩ := M7.out
          have hil : i < l1.length := by rw [HQ.out]; exact hlt2
          have hil2 : i < (l1.map (setF ser page (p, x, k, g))).length := by rw [HQ2.out]; exact hlt2
          obtain ⟨b5, rfl, hbl5, hc5⟩ := hU.resolve_left (by rintro rfl; simp at hil)
          obtain ⟨b7, rfl, hbl7, hc7⟩ := hV.resolve_left (by intro h0; rw [h0] at hil2; simp at hil2)
          injection hv5 with e5
          injection hv7 with e7
          subst e5 e7
          have g5 := hc5 i hil
          have g7 := hc7 i hil2
          rw [getD_map _ _ _ _ hil] at g7
          obtain ⟨⟨pg, ep, ex, ek, eg⟩, hy⟩ : ∃ y, y = l1.getD i default := ⟨_, rfl⟩
          rw [← hy] at g5 g7
          clear hU hV hc5 hc7 hy
          simp only at g5
          have y0 := getD_map (setF ser page (p, x, k, g)) l1 default i hil
          have CW : Hid (∀ V, Below w7.heap.size w7 V → V.heap[W.heap.size]? = some (entO (p, x, k, g)) ∧ V.cell? ⟨b7, i * 5, none⟩ = w7.cell? ⟨b7, i * 5, none⟩ ∧ V.cell? ⟨b7, i * 5 + 1, none⟩ = w7.cell? ⟨b7, i * 5 + 1, none⟩ ∧ V.cell? ⟨b7, i * 5 + 2, none⟩ = w7.cell? ⟨b7, i * 5 + 2, none⟩ ∧ V.cell? ⟨b7, i * 5 + 3, none⟩ = w7.cell? ⟨b7, i * 5 + 3, none⟩ ∧ V.cell? ⟨b7, i * 5 + 4, none⟩ = w7.cell? ⟨b7, i * 5 + 4, none⟩ ∧ V.cell? ⟨b5, i * 5, none⟩ = w7.cell? ⟨b5, i * 5, none⟩ ∧ V.cell? ⟨b5, i * 5 + 1, none⟩ = w7.cell? ⟨b5, i * 5 + 1, none⟩ ∧ V.cell? ⟨b5, i * 5 + 2, none⟩ = w7.cell? ⟨b5, i * 5 + 2, none⟩ ∧ V.cell? ⟨b5, i * 5 + 3, none⟩ = w7.cell? ⟨b5, i * 5 + 3, none⟩ ∧ V.cell? ⟨b5, i * 5 + 4, none⟩ = w7.cell? ⟨b5, i * 5 + 4, none⟩) := Lib.hid fun V hb =>
            ⟨below_block hb F7.out.box, hb.cell (p := ⟨b7, _, none⟩) hbl7, hb.cell (p := ⟨b7, _, none⟩) hbl7, hb.cell (p := ⟨b7, _, none⟩) hbl7, hb.cell (p := ⟨b7, _, none⟩) hbl7, hb.cell (p := ⟨b7, _, none⟩) hbl7, hb.cell (p := ⟨b5, _, none⟩) hbl5, hb.cell (p := ⟨b5, _, none⟩) hbl5, hb.cell (p := ⟨b5, _, none⟩) hbl5, hb.cell (p := ⟨b5, _, none⟩) hbl5, hb.cell (p := ⟨b5, _, none⟩) hbl5⟩
          obtain ⟨-, r0, r1, r2, r3, r4, q0, q1, q2, q3, q4⟩ := CW.out wr BB.out
          rw [g5.1] at q0
          rw [g5.2.1] at q1
          rw [g5.2.2.1] at q2
          rw [g5.2.2.2.1] at q3
          rw [g5.2.2.2.2] at q4
          have BA : Hid (Below w7.heap.size w7 (wr.alloc (.cells #[.bool ep, .bool ex, .bool ek, .int .i64 eg] 37))) := Lib.hid (BB.out.alloc BB.out.size _)
          have NA : Hid ((wr.alloc (.cells #[.bool ep, .bool ex, .bool ek, .int .i64 eg] 37)).heap[wr.heap.size]? = some (entO (ep, ex, ek, eg))) := Lib.hid (heap_alloc_new wr _)
          have f0 := frozen_of_row (wr.alloc (.cells #[.bool ep, .bool ex, .bool ek, .int .i64 eg] 37)) wr.heap.size 0 _ _ NA.out
          have f1 := frozen_of_row (wr.alloc (.cells #[.bool ep, .bool ex, .bool ek, .int .i64 eg] 37)) wr.heap.size 1 _ _ NA.out
          have f2 := frozen_of_row (wr.alloc (.cells #[.bool ep, .bool ex, .bool ek, .int .i64 eg] 37)) wr.heap.size 2 _ _ NA.out
          have f3 := frozen_of_row (wr.alloc (.cells #[.bool ep, .bool ex, .bool ek, .int .i64 eg] 37)) wr.heap.size 3 _ _ NA.out
          obtain ⟨hx, -, -, -, -, -, p0, -⟩ := CW.out _ BA.out
          obtain ⟨s0, s1, s2, s3⟩ := cells4 hx
          rw [g5.1] at p0
          rcases (show (ser = 0 ∧ pg = page) ∨ (ser = 0 ∧ pg ≠ page) ∨ ser ≠ 0 by omega) with ⟨hs, hp2⟩ | ⟨hs, hp2⟩ | hs
          · subst hs
            subst hp2
            have f9 : setF 0 pg (p, x, k, g) (pg, ep, ex, ek, eg) = (pg, p, x, k, g) := by simp [setF]
            rw [f9] at g7
            simp only at g7
            go_wp2_with fail
            clear q0 q1 q2 q3 q4 s0 s1 s2 s3 p0 f0 f1 f2 f3 hx
            have BW : Hid (Below w7.heap.size w7 (wr.alloc (.cells #[.bool p, .bool x, .bool k, .int .i64 g] 37))) := Lib.hid (BB.out.alloc BB.out.size _)
            have NW : Hid ((wr.alloc (.cells #[.bool p, .bool x, .bool k, .int .i64 g] 37)).heap[wr.heap.size]? = some (entO (p, x, k, g))) := Lib.hid (heap_alloc_new wr _)
            clear BA NA
            obtain ⟨hz, t0, t1, t2, t3, t4, u0, -⟩ := CW.out _ BW.out
            rw [g7.1] at t0
            rw [g7.2.1] at t1
            rw [g7.2.2.1] at t2
            rw [g7.2.2.2.1] at t3
            rw [g7.2.2.2.2] at t4
            rw [g5.1] at u0
            obtain ⟨m0, m1, m2, m3⟩ := cells4 NW.out
            clear hz
            have hbw : w7.heap.size ≤ wr.heap.size := BB.out.size
            obtain ⟨wb, hwb⟩ : ∃ wb, wb = (wr.alloc (.cells #[.bool p, .bool x, .bool k, .int .i64 g] 37)) := ⟨_, rfl⟩
            rw [← hwb] at BW NW t0 t1 t2 t3 t4 u0 m0 m1 m2 m3 ⊢
            clear hwb
            obtain ⟨bw, hbwe⟩ : ∃ bw, bw = wr.heap.size := ⟨_, rfl⟩
            rw [← hbwe] at NW m0 m1 m2 m3 hbw ⊢
            clear hbwe
            go_region_held3 (fun V : World => V.cell? ⟨b7, i * 5, none⟩ = some (.int .i64 pg) ∧ V.cell? ⟨b7, i * 5 + 1, none⟩ = some (.bool p) ∧ V.cell? ⟨b7, i * 5 + 2, none⟩ = some (.bool x) ∧ V.cell? ⟨b7, i * 5 + 3, none⟩ = some (.bool k) ∧ V.cell? ⟨b7, i * 5 + 4, none⟩ = some (.int .i64 g) ∧ V.cell? ⟨b5, i * 5, none⟩ = some (.int .i64 pg) ∧ V.cell? ⟨bw, 0, none⟩ = some (.bool p) ∧ V.cell? ⟨bw, 1, none⟩ = some (.bool x) ∧ V.cell? ⟨bw, 2, none⟩ = some (.bool k) ∧ V.cell? ⟨bw, 3, none⟩ = some (.int .i64 g)) (first | exact ⟨(CW.out _ BW.out.drew).2.1.trans g7.1, (CW.out _ BW.out.drew).2.2.1.trans g7.2.1, (CW.out _ BW.out.drew).2.2.2.1.trans g7.2.2.1, (CW.out _ BW.out.drew).2.2.2.2.1.trans g7.2.2.2.1, (CW.out _ BW.out.drew).2.2.2.2.2.1.trans g7.2.2.2.2, (CW.out _ BW.out.drew).2.2.2.2.2.2.1.trans g5.1, cells4 (below_block (Below.refl _ wb).drew NW.out)⟩ | go_keep)
              (fail)
            all_goals
              go_wp2_with fail
              go_roundw
              case rel => exact ⟨i + 1, by go_num, by omega, BW.out.drew⟩
              case measure => simp [intOf]; omega
          · subst hs
            have hne : (pg == page) = false := by simpa using hp2
            have f9 : setF 0 page (p, x, k, g) (pg, ep, ex, ek, eg) = (pg, ep, ex, ek, eg) := by simp [setF, hp2]
            rw [f9] at g7
            simp only at g7
            go_wp2_with fail
            clear q0 q1 q2 q3 q4 s0 s1 s2 s3 p0 f0 f1 f2 f3 hx
            have BW := BA
            have NW := NA
            clear BA NA
            obtain ⟨hz, t0, t1, t2, t3, t4, u0, -⟩ := CW.out _ BW.out
            rw [g7.1] at t0
            rw [g7.2.1] at t1
            rw [g7.2.2.1] at t2
            rw [g7.2.2.2.1] at t3
            rw [g7.2.2.2.2] at t4
            rw [g5.1] at u0
            obtain ⟨m0, m1, m2, m3⟩ := cells4 NW.out
            clear hz
            have hbw : w7.heap.size ≤ wr.heap.size := BB.out.size
            obtain ⟨wb, hwb⟩ : ∃ wb, wb = (wr.alloc (.cells #[.bool ep, .bool ex, .bool ek, .int .i64 eg] 37)) := ⟨_, rfl⟩
            rw [← hwb] at BW NW t0 t1 t2 t3 t4 u0 m0 m1 m2 m3 ⊢
            clear hwb
            obtain ⟨bw, hbwe⟩ : ∃ bw, bw = wr.heap.size := ⟨_, rfl⟩
            rw [← hbwe] at NW m0 m1 m2 m3 hbw ⊢
            clear hbwe
            go_region_held3 (fun V : World => V.cell? ⟨b7, i * 5, none⟩ = some (.int .i64 pg) ∧ V.cell? ⟨b7, i * 5 + 1, none⟩ = some (.bool ep) ∧ V.cell? ⟨b7, i * 5 + 2, none⟩ = some (.bool ex) ∧ V.cell? ⟨b7, i * 5 + 3, none⟩ = some (.bool ek) ∧ V.cell? ⟨b7, i * 5 + 4, none⟩ = some (.int .i64 eg) ∧ V.cell? ⟨b5, i * 5, none⟩ = some (.int .i64 pg) ∧ V.cell? ⟨bw, 0, none⟩ = some (.bool ep) ∧ V.cell? ⟨bw, 1, none⟩ = some (.bool ex) ∧ V.cell? ⟨bw, 2, none⟩ = some (.bool ek) ∧ V.cell? ⟨bw, 3, none⟩ = some (.int .i64 eg)) (first | exact ⟨(CW.out _ BW.out.drew).2.1.trans g7.1, (CW.out _ BW.out.drew).2.2.1.trans g7.2.1, (CW.out _ BW.out.drew).2.2.2.1.trans g7.2.2.1, (CW.out _ BW.out.drew).2.2.2.2.1.trans g7.2.2.2.1, (CW.out _ BW.out.drew).2.2.2.2.2.1.trans g7.2.2.2.2, (CW.out _ BW.out.drew).2.2.2.2.2.2.1.trans g5.1, cells4 (below_block (Below.refl _ wb).drew NW.out)⟩ | go_keep)
              (fail)
            all_goals
              go_wp2_with fail
              go_roundw
              case rel => exact ⟨i + 1, by go_num, by omega, BW.out.drew⟩
              case measure => simp [intOf]; omega
          · have hne : (ser == 0) = false := by simpa using hs
            have f9 : setF ser page (p, x, k, g) (pg, ep, ex, ek, eg) = (pg, ep, ex, ek, eg) := by simp [setF, hs]
            rw [f9] at g7
            simp only at g7
            go_wp2_with fail
            clear q0 q1 q2 q3 q4 s0 s1 s2 s3 p0 f0 f1 f2 f3 hx
            have BW := BA
            have NW := NA
            clear BA NA
            obtain ⟨hz, t0, t1, t2, t3, t4, u0, -⟩ := CW.out _ BW.out
            rw [g7.1] at t0
            rw [g7.2.1] at t1
            rw [g7.2.2.1] at t2
            rw [g7.2.2.2.1] at t3
            rw [g7.2.2.2.2] at t4
            rw [g5.1] at u0
            obtain ⟨m0, m1, m2, m3⟩ := cells4 NW.out
            clear hz
            have hbw : w7.heap.size ≤ wr.heap.size := BB.out.size
            obtain ⟨wb, hwb⟩ : ∃ wb, wb = (wr.alloc (.cells #[.bool ep, .bool ex, .bool ek, .int .i64 eg] 37)) := ⟨_, rfl⟩
            rw [← hwb] at BW NW t0 t1 t2 t3 t4 u0 m0 m1 m2 m3 ⊢
            clear hwb
            obtain ⟨bw, hbwe⟩ : ∃ bw, bw = wr.heap.size := ⟨_, rfl⟩
            rw [← hbwe] at NW m0 m1 m2 m3 hbw ⊢
            clear hbwe
            go_region_held3 (fun V : World => V.cell? ⟨b7, i * 5, none⟩ = some (.int .i64 pg) ∧ V.cell? ⟨b7, i * 5 + 1, none⟩ = some (.bool ep) ∧ V.cell? ⟨b7, i * 5 + 2, none⟩ = some (.bool ex) ∧ V.cell? ⟨b7, i * 5 + 3, none⟩ = some (.bool ek) ∧ V.cell? ⟨b7, i * 5 + 4, none⟩ = some (.int .i64 eg) ∧ V.cell? ⟨b5, i * 5, none⟩ = some (.int .i64 pg) ∧ V.cell? ⟨bw, 0, none⟩ = some (.bool ep) ∧ V.cell? ⟨bw, 1, none⟩ = some (.bool ex) ∧ V.cell? ⟨bw, 2, none⟩ = some (.bool ek) ∧ V.cell? ⟨bw, 3, none⟩ = some (.int .i64 eg)) (first | exact ⟨(CW.out _ BW.out.drew).2.1.trans g7.1, (CW.out _ BW.out.drew).2.2.1.trans g7.2.1, (CW.out _ BW.out.drew).2.2.2.1.trans g7.2.2.1, (CW.out _ BW.out.drew).2.2.2.2.1.trans g7.2.2.2.1, (CW.out _ BW.out.drew).2.2.2.2.2.1.trans g7.2.2.2.2, (CW.out _ BW.out.drew).2.2.2.2.2.2.1.trans g5.1, cells4 (below_block (Below.refl _ wb).drew NW.out)⟩ | go_keep)
              (fail)
            all_goals
              go_wp2_with fail
              go_roundw
              case rel => exact ⟨i + 1, by go_num, by omega, BW.out.drew⟩
              case measure => simp [intOf]; omega
        · obtain rfl : i = q := by omega
          clear M5 M7
          have B7 := Lib.hid (B0.out.trans ((F7.out.step BB.out).sys.below.mono B0.out.size))
          go_wp2_with (go_at_call 9; refine (awake10 _ (HL.out.lq.below B7.out) (HL.out.lw.below B7.out)).mono ?_; rintro e w8 ⟨rfl, hb⟩; have B8 := Lib.hid (B7.out.trans (hb.mono B7.out.size)); clear hb)
          go_ret
          exact ⟨rfl, B8.out⟩
theorem ptableTwo_walk (n : Int) (v : Value) (L : List Op10) (page : Int) (p x k : Bool) (g : Int) (W : World) (_ : I64 n) (hv : ArgOps10 W v L) (hp : I64 page) (_ : I64 g) (hL : LaidN W) : Calls Tryd.prog 7 #[.int .i64 n, v, .int .i64 page, ent p x k g] W fun e w' => e = .returned (.bool true) ∧ Below W.heap.size W w' := by
  have hv' := hv
  obtain ⟨a, c, rfl, _⟩ := hv
  by_cases h : 4 ≤ n ∧ n ≤ 30 ∧ L.length ≤ 60
  · obtain ⟨m, rfl⟩ := Int.eq_ofNat_of_zero_le (show 0 ≤ n by omega)
    exact two_in m L L.length c a page p x k g W (by omega) (by omega) rfl h.2.2 hv' hp hL
  · exact two_far n page L.length c a p x k g W (by omega) hL
end Go.Proofs.YtkcecfghfohjcaaDoor
