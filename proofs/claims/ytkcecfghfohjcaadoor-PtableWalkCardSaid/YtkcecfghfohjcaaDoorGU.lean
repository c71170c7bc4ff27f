/- Texts of mine, joined: N51 N52. What each says and under which conditions stands at its head, below. -/
import Derived.Test.YtkcecfghfohjcaaDoorGT
import Derived.Deep.AppendLies
import Derived.BigRegion
import Derived.Deep.RegionLaw
import Derived.Deep.CutRange
import Derived.Test.YtkcecfghfohjcaaDoorGON
/- The contract of the law's play: Close. No condition. Written by tpl/gen_n51.py. -/
namespace Go.Proofs.YtkcecfghfohjcaaDoor
open Go.RowKit Go.Maps
set_option maxRecDepth 100000
attribute [local irreducible] allF tabF plF mapB hasB segN

section
variable {P : Program} {w : World}
/-- append onto a row of the call's own, at a step of a region that draws its order. -/
theorem step_append_own3 {ops : Array Oper} {o : Oper} {a : Act} {K : Act → World → Prop} {Q : Exit → Act → World → Prop} {E : Prop} (hgd : o.guard = none) (s x : Operand) (t : TypeId)
    (ho : o.op = .call { callee := .builtin .append, args := #[s, x], argTypes := #[t, t] })
    (base : Nat) (e : TypeId) (i : TypeInfo) (z : Value) (size bytes : Nat) (ht : P.underlying t = some (.slice e)) (hi : P.info? e = some i) (hz : i.zero = some z)
    (hsize : i.size = size) (hby : i.bytes = bytes) (hzs : z.cells.size = size) (hsz : 0 < size)
    (v : Value) (n : Nat) (xs : List Value) (hs : a.eval s = v) (hown : w.ownsRow base e size v n xs)
    (ad : Addr) (m c : Nat) (news : List Value) (hx : a.eval x = .slice (some ad) m c) (hl : news.length = m * size) (hnews : ∀ j u, news[j]? = some u → w.cell? (ad.add j) = some u) (h1 : ∀ u ∈ news, u.oneCell' = true)
    (h63 : n + m ≤ maxLen) (hbytes : (n + m) * bytes ≤ 140737488355328) (hbase : base ≤ w.heap.size)
    (h : ∀ v' w', w'.ownsRow base e size v' (n + m) (xs ++ news) → w.grownBy w' v.ownBlock → K (a.put o.dst v') w') :
    if Region.wanted o (yielded ops a.tmps) = true then Oper.wp P o a w K Q else E := by
  have hw : Region.wanted o (yielded ops a.tmps) = true := by simp [Region.wanted, hgd]
  rw [if_pos hw]
  obtain ⟨v', w', hr, h2, h3, -, -⟩ := run_append_own_at (P := P) w base t o.type e i z size bytes ht hi hz hsize hby hzs hsz v n xs hown ad m c news hl hnews h1 h63 hbytes hbase
  unfold Oper.wp execOp
  simp only [ho, resolve, invoke, builtin, Sem.run_bind, Sem.run_pure, Result.andThen_ok, List.map_toArray, List.map_cons, List.map_nil, hs, hx, hr]
  exact h v' w' h2 h3
end
theorem emptyF_len (F : Sp) : emptyF F = decide ((allF F).length = 0) := by
  rw [Bool.eq_iff_iff, emptyF_iff, decide_eq_true_eq]
  constructor
  · intro h
    unfold allF
    rw [segN_none F 0 1024 fun j hj => ?_]
    · rfl
    · cases hf : (F (0 + j)).1 with
      | false => rfl
      | true =>
        have h1 := hasB_of hf
        rw [h ((0 + j) / 32) (by omega)] at h1; cases h1
  · intro h i hi
    cases hh : hasB F i with
    | false => rfl
    | true =>
      obtain ⟨j, h1, h2⟩ := (hasB_iff _ _).1 hh
      have := (plF_get (p := 32 * i + j) (by omega) h2).1
      omega
theorem tabF_empty {F : Sp} (h : emptyF F = true) : tabF F = 1 := by
  rw [emptyF_iff] at h
  unfold tabF
  have : (List.range 32).filter (hasB F) = [] := List.filter_eq_nil_iff.2 fun i hi => by rw [h i (List.mem_range.1 hi)]; decide
  rw [this]; rfl
theorem spcV_one' {K : List Rec} (h : ∀ y ∈ K, y.2.2.oneCell' = true) : ∀ u ∈ spcV K, u.oneCell' = true := fun u hu => by
  obtain ⟨y, hy, hy2⟩ := List.mem_flatMap.1 hu
  simp only [List.mem_cons, List.not_mem_nil, or_false] at hy2
  rcases hy2 with rfl | rfl
  · rfl
  · exact h y hy
theorem RefW.ones {base : Nat} {w : World} {wb n m c : Nat} {a : Option Addr} {K : List Rec} (h : RefW base w wb n m a c K) : ∀ y ∈ K, y.2.2.oneCell' = true := fun y hy => by
  obtain ⟨i, hi, e⟩ := List.getElem_of_mem hy
  obtain ⟨a', c', e2⟩ := owns_slice (h.maps i hi)
  have e3 : K.getD i default = y := by rw [List.getD_eq_getElem?_getD, List.getElem?_eq_getElem hi, e]; rfl
  rw [e3] at e2
  rw [e2]; rfl
theorem own_one {w : World} {base k n : Nat} {e : TypeId} {v : Value} {xs : List Value} (h : w.ownsRow base e k v n xs) : ∃ a c, v = .slice a n c := owns_slice h
/-- A space less, of the document's. -/
theorem RefW.closed {base : Nat} {w w6 : World} {wb n m c c6 j q1 : Nat} {a a6 : Option Addr} {K : List Rec} (h : RefW base w wb n m a c K) (hb : Below w.heap.size w w6) (hj : j < K.length) (hq : q1 = K.length - 1) (ho : w6.ownsRow base 50 2 (.slice a6 q1 c6) q1 (spcV (K.take j) ++ spcV (K.drop (j + 1)))) :
    RefW base (w6.setCell ⟨wb, 0, none⟩ (.slice a6 q1 c6)) wb n m a6 c6 (K.take j ++ K.drop (j + 1)) := by
  have h6 := h.step hb
  have hS := onlySet w6 wb 0 (.slice a6 q1 c6)
  have hl : (K.take j ++ K.drop (j + 1)).length = q1 := by rw [List.length_append, List.length_take, List.length_drop]; omega
  refine ⟨h.low, ?_, ?_, fun i hi => ?_⟩
  · rw [hl]; exact heap_setCell_same w6 wb 0 _ _ (.slice a6 q1 c6) h6.box
  · rw [hl, spcV_app]
    exact ownsRow_only ho hS fun g hg e => by
      subst e
      obtain ⟨cs, hcs⟩ := own_block ho hg
      rw [h6.box] at hcs
      cases hcs
  · rw [hl] at hi
    rw [getD_del hj]
    have h1 := h6.maps (if i < j then i else i + 1) (by split <;> omega)
    exact ownsRow_only h1 hS fun g hg e => by
      subst e
      obtain ⟨cs, hcs⟩ := own_block h1 hg
      rw [h6.box] at hcs
      cases hcs
theorem PlSt.closed {W0 w w6 : World} {tb sb m base wb lb c cr q c6 cc j q1 k : Nat} {X : PIx} {Wf Wr : Nat → Option Sp} {D : List Nat} {a a6 : Option Addr} {K : List Rec} {F : Sp} {u : Value} (h : PlSt W0 w tb sb X m base wb lb Wf c Wr cr q D) (hR : RefW base w wb (m + 2) m a cc K) (hM : Match Wr K) (hU : cr + usedK K = m) (hb : Below w.heap.size w w6) (hj : j < K.length) (hy : K.getD j default = (k, F, u)) (he : emptyF F = true) (hq : q1 = K.length - 1) (ho : w6.ownsRow base 50 2 (.slice a6 q1 c6) q1 (spcV (K.take j) ++ spcV (K.drop (j + 1)))) :
    PlSt W0 (w6.setCell ⟨wb, 0, none⟩ (.slice a6 q1 c6)) tb sb X m base wb lb Wf c (updW Wr k none) (cr + 1) q1 D := by
  have h6 := h.step hb
  have hS := onlySet w6 wb 0 (.slice a6 q1 c6)
  have hbx := (hR.step hb).box
  have hcl := hM.close hj
  rw [hy] at hcl
  refine ⟨h6.sys.apart hS fun y hy => ?_, ⟨a6, c6, K.take j ++ K.drop (j + 1), hR.closed hb hj hq ho, hcl, ?_, by rw [List.length_append, List.length_take, List.length_drop]; omega⟩, h6.row.only hS fun k cs t hk ht e => ?_, h.b0, Nat.le_trans h6.b1 hS.size, h.lbn, h.low⟩
  · subst hy
    exact ⟨Nat.le_trans h.b0 hR.low, _, _, hbx, by decide, by decide, by decide, by decide, by decide, by decide⟩
  · rw [usedK_app]
    have h1 := usedK_split hj hy
    have h2 := tabF_empty he
    simp only at h1
    omega
  · subst e
    rw [hk] at hbx
    cases hbx
    rcases ht with h | h <;> exact absurd h (by decide)
section
variable {W0 w : World} {tb sb m base wb lb c q : Nat} {X : PIx} {Wf : Nat → Option Sp} {D : List Nat}
set_option maxHeartbeats 2000000 in
theorem play_close (h : PlSt W0 w tb sb X m base wb lb Wf c Wf c q D) (hq : q ≤ 99) (hm : m ≤ 1000) (s pg : Int) (p x k : Bool) (g : Int)  :
    Calls Tryd.prog 11 #[.pointer (some ⟨tb, 0, none⟩), .pointer (some ⟨wb, 0, none⟩), .pointer (some ⟨lb, 0, none⟩), opV 2 s pg p x k g] w (PlPost W0 tb sb X m base wb lb q D) := by
  obtain ⟨w0, hw0⟩ : ∃ w0, w0 = w.alloc (.cells #[.int .i64 2, .int .i64 s, .int .i64 pg, .bool p, .bool x, .bool k, .int .i64 g] 39) := ⟨_, rfl⟩
  have S0 : Hid (OpSt W0 w0 tb sb X m base wb lb Wf c Wf c q D w.heap.size 2 s pg p x k g) := Lib.hid (by rw [hw0]; exact OpSt.start h 2 s pg p x k g)
  have HI : Hid (∀ s, I64 (rootD D s)) := Lib.hid fun s => rootD_I64 h.low hm s
  obtain ⟨al, cl, hl1, hl2⟩ := S0.out.st.row
  obtain ⟨n, hn⟩ : ∃ n, n = D.length := ⟨_, rfl⟩
  rw [← hn] at hl1 hl2
  have HN := Lib.hid hn
  have HL2 := Lib.hid hl2
  have y0 : w0.cell? ⟨lb, 0, none⟩ = some (.slice al n cl) := by rw [cell_of_row _ _ _ _ _ _ hl1]; rfl
  have y1 := S0.out.cells.2.1
  have YK : Hid (∀ V, Below w0.heap.size w0 V → V.cell? ⟨lb, 0, none⟩ = some (.slice al n cl) ∧ V.cell? ⟨w.heap.size, 1, none⟩ = some (.int .i64 s)) := Lib.hid fun V hV => by
    refine ⟨?_, (S0.out.step hV).cells.2.1⟩
    rw [cell_of_row _ _ _ _ _ _ (below_block hV hl1)]; rfl
  obtain ⟨r, hr⟩ : ∃ r, rootD D s = r := ⟨_, rfl⟩
  have HR := Lib.hid hr
  have IR : Hid (I64 r) := Lib.hid (by rw [← hr]; exact HI.out s)
  clear h hn hl1 hl2 hr
  go_enter Tryd.func11, Tryd.ntmps11
  go_wp2_with fail
  rw [← hw0]
  clear hw0
  go_region_held3 (fun V => V.cell? ⟨lb, 0, none⟩ = some (.slice al n cl) ∧ V.cell? ⟨w.heap.size, 1, none⟩ = some (.int .i64 s)) (first | exact YK.out _ (Below.refl _ _).drew | go_keep)
    (first
      | (go_at_call 14; refine (root_ok D al n cl base s _ HN.out (own_step HL2.out (Below.refl _ _).drew)).mono ?_; rw [HR.out]; rintro e w1 ⟨rfl, rfl⟩))
  have S1 := Lib.hid (S0.out.step (Below.refl _ _).drew)
  obtain ⟨w1, hw1⟩ : ∃ w1, w1 = w0.drew := ⟨_, rfl⟩
  rw [← hw1] at S1 ⊢
  clear y0 y1 hw1 YK HL2 S0
  obtain ⟨a, cc, K, hR1, hM1, hU1, hq1⟩ := S1.out.st.ref
  have HM1 := Lib.hid hM1
  have HU1 := Lib.hid hU1
  have HQ1 := Lib.hid hq1
  clear hR1 hM1 hU1 hq1
  obtain ⟨o0, o1, o2, o3, o4, o5, o6⟩ := S1.out.cells
  clear o1 o2 o3 o4 o5 o6
  obtain ⟨a6, cc6, K6, hR6, hM6, hU6, hq6⟩ := S1.out.st.ref
  obtain ⟨q6, hq6'⟩ : ∃ q6, q6 = K6.length := ⟨_, rfl⟩
  have CB : Hid (∀ V, Below w1.heap.size w1 V → (V.cell? ⟨wb, 0, none⟩ = some (.slice a6 q6 cc6) ∧ V.cell? ⟨wb, 1, none⟩ = some (.int .i64 ((m + 2 : Nat) : Int)) ∧ V.cell? ⟨wb, 2, none⟩ = some (.int .i64 (m : Int))) ∧ SpV V (.slice a6 q6 cc6) K6) := Lib.hid fun V hV => by
    have h1 := hR6.step hV
    have h2 := cells3 h1.box
    have h3 := h1.spv
    rw [← hq6'] at h2 h3
    exact ⟨h2, h3⟩
  have R6 := Lib.hid hR6
  have M6 := Lib.hid hM6
  have U6 := Lib.hid hU6
  have Q6 := Lib.hid hq6'
  have hq100 : q6 ≤ 100 := by omega
  have Q7 : Hid (q6 = q) := Lib.hid (by omega)
  clear hR6 hM6 hU6 hq6 hq6'
  obtain ⟨y0, y1, y2⟩ := (CB.out w1 (Below.refl _ _)).1
  obtain ⟨J, hJ, hJ2⟩ := AtIs.of M6.out r
  have HJ := Lib.hid hJ
  clear hJ
  rcases hJ2 with ⟨rfl, hs⟩ | ⟨j, k', F, u, rfl, rfl, hj, hy, hs, -⟩
  · have HCE : Hid (clsErr Wf r = 4) := Lib.hid (clsErr_none hs)
    have HCC : Hid (clsC c Wf r = c) := Lib.hid (by unfold clsC; rw [HCE.out, if_neg (by decide)])
    have HCW : Hid (clsW Wf r = Wf) := Lib.hid (by unfold clsW; rw [HCE.out, if_neg (by decide)])
    clear hs
    go_wp2_with fail
    refine (rat_ok K6 a6 q6 cc6 (m + 2) m _ _ _ Q6.out hq100 (CB.out w1 (Below.refl _ _)).2 HJ.out).mono ?_
    rintro e w2 ⟨rfl, hb⟩
    have B2 := Lib.hid hb
    have S2 := Lib.hid (S1.out.step hb)
    have R2 := Lib.hid (R6.out.step hb)
    clear hb o0 y0 y1 y2
    go_wp2_with fail
    refine (S2.out.st.sys.close _ IR.out).mono ?_
    rw [HCE.out, HCC.out, HCW.out]
    rintro e w3 ⟨rfl, hg⟩
    have S3 := Lib.hid (S2.out.gone hg)
    have R3 := Lib.hid (R2.out.gone S2.out.st.sys hg)
    clear hg
    go_wp2
    go_ret
    exact ⟨rfl, _, _, _, _, S3.out.st, Nat.le_succ _, Nat.le_succ _⟩
  · have HY := Lib.hid hy
    have HJK := Lib.hid hj
    have hjq : j < q6 := by rw [Q6.out]; exact hj
    obtain ⟨N, hN⟩ : ∃ N, (allF F).length = N := ⟨_, rfl⟩
    have HNN := Lib.hid hN
    have hem := emptyF_len F
    rw [hN] at hem
    obtain ⟨au, cu, hue⟩ := owns_slice (R6.out.maps j hj)
    rw [hy] at hue
    simp only at hue
    rw [hN] at hue
    subst hue
    clear hj hy
    cases he : emptyF F with
    | false =>
      have hN0 : 0 < N := by rw [he] at hem; have := of_decide_eq_false hem.symm; omega
      have HCE : Hid (clsErr Wf (k' : Int) = 9) := Lib.hid (by unfold clsErr; rw [hs]; simp only; rw [he]; rfl)
      have HCC : Hid (clsC c Wf (k' : Int) = c) := Lib.hid (by unfold clsC; rw [HCE.out, if_neg (by decide)])
      have HCW : Hid (clsW Wf (k' : Int) = Wf) := Lib.hid (by unfold clsW; rw [HCE.out, if_neg (by decide)])
      clear hs hem he hN
      go_wp2_with fail
      refine (rat_ok K6 a6 q6 cc6 (m + 2) m _ _ _ Q6.out hq100 (CB.out w1 (Below.refl _ _)).2 HJ.out).mono ?_
      rintro e w2 ⟨rfl, hb⟩
      have B2 := Lib.hid hb
      have S2 := Lib.hid (S1.out.step hb)
      have R2 := Lib.hid (R6.out.step hb)
      clear hb o0 y0 y1 y2
      go_wp2_with fail
      refine (S2.out.st.sys.close _ IR.out).mono ?_
      rw [HCE.out, HCC.out, HCW.out]
      rintro e w3 ⟨rfl, hg⟩
      have S3 := Lib.hid (S2.out.gone hg)
      have R3 := Lib.hid (R2.out.gone S2.out.st.sys hg)
      clear hg
      obtain ⟨bL, rfl, hbl, -, hu, -⟩ := (show SpV w3 (.slice a6 q6 cc6) K6 by rw [Q6.out]; exact R3.out.spv).at_ Q6.out hjq HY.out
      have y0 : w3.cell? ⟨wb, 0, none⟩ = some (.slice (some ⟨bL, 0, none⟩) q6 cc6) := by rw [Q6.out]; exact (cells3 R3.out.box).1
      have hjI : (j : Int) < (q6 : Int) := by omega
      have hNI : (0 : Int) < (N : Int) := by omega
      clear hbl
      go_wp2
      go_ret
      exact ⟨rfl, _, _, _, _, S3.out.st, Nat.le_succ _, Nat.le_succ _⟩
    | true =>
      obtain rfl : N = 0 := by rw [he] at hem; exact of_decide_eq_true hem.symm
      have HEM := Lib.hid he
      have HCE : Hid (clsErr Wf (k' : Int) = 0) := Lib.hid (by unfold clsErr; rw [hs]; simp only; rw [he]; rfl)
      have HCC : Hid (clsC c Wf (k' : Int) = c + 1) := Lib.hid (by unfold clsC; rw [HCE.out, if_pos rfl])
      have HCW : Hid (clsW Wf (k' : Int) = updW Wf k' none) := Lib.hid (by unfold clsW; rw [HCE.out, if_pos rfl, Int.toNat_natCast])
      clear hs hem he hN
      go_wp2_with fail
      refine (rat_ok K6 a6 q6 cc6 (m + 2) m _ _ _ Q6.out hq100 (CB.out w1 (Below.refl _ _)).2 HJ.out).mono ?_
      rintro e w2 ⟨rfl, hb⟩
      have B2 := Lib.hid hb
      have S2 := Lib.hid (S1.out.step hb)
      have R2 := Lib.hid (R6.out.step hb)
      clear hb o0 y0 y1 y2
      go_wp2_with fail
      refine (S2.out.st.sys.close _ IR.out).mono ?_
      rw [HCE.out, HCC.out, HCW.out]
      rintro e w3 ⟨rfl, hg⟩
      have S3 := Lib.hid (S2.out.gone hg)
      have R3 := Lib.hid (R2.out.gone S2.out.st.sys hg)
      clear hg
      obtain ⟨bL, rfl, hbl, -, hu, -⟩ := (show SpV w3 (.slice a6 q6 cc6) K6 by rw [Q6.out]; exact R3.out.spv).at_ Q6.out hjq HY.out
      have RW : Hid (w3.ownsRow base 50 2 (.slice (some ⟨bL, 0, none⟩) q6 cc6) q6 (spcV K6)) := Lib.hid (by rw [Q6.out]; exact R3.out.row)
      have y0 : w3.cell? ⟨wb, 0, none⟩ = some (.slice (some ⟨bL, 0, none⟩) q6 cc6) := by rw [Q6.out]; exact (cells3 R3.out.box).1
      have hjI : (j : Int) < (q6 : Int) := by omega
      go_upto_region 18 with fail
      clear hu
      obtain ⟨j1, hj1⟩ : ∃ j1, j1 = j + 1 := ⟨_, rfl⟩
      have HJ1 := Lib.hid hj1
      obtain ⟨b', c', hu1, hnc, hcm, hb', htk, -⟩ := (row_cut RW.out j).resolve_left (by rintro ⟨h0, -⟩; cases h0)
      obtain ⟨b'', c'', hu2, -, -, -, -, hdr⟩ := (row_cut RW.out j1).resolve_left (by rintro ⟨h0, -⟩; cases h0)
      injection hu1 with e1 e2 e3
      injection hu2 with e4 e5 e6
      injection e1 with e1
      injection e1 with e1
      injection e4 with e4
      injection e4 with e4
      subst e1
      subst e3
      subst e4
      subst e6
      clear e2 e5 hb'
      rw [spcV_take _ _ (by have := Q6.out; omega)] at htk
      rw [spcV_drop _ _ (by have := Q6.out; omega)] at hdr
      obtain ⟨ii, hi, hi0, hi1, hi2⟩ := info_parts spcInfo
      have SZ3 := Lib.hid S3.out.st.b1
      have AM : Hid (Below w3.heap.size w3 (w3.alloc (.cells #[] 50)).drew) := Lib.hid ((Below.refl _ _).alloc (Nat.le_refl _) _).drew
      have OM : Hid ((w3.alloc (.cells #[] 50)).drew.ownsRow w3.heap.size 50 2 (.slice (some ⟨w3.heap.size, 0, none⟩) 0 0) 0 []) := Lib.hid (own_step (World.ownsRow_made (base := w3.heap.size) (e := 50) (size := 2) w3 #[] 0 (Nat.le_refl _) (by decide) rfl) (Below.refl _ _).drew)
      have T1 : Hid (∀ j' u, (spcV (K6.take j))[j']? = some u → (w3.alloc (.cells #[] 50)).drew.cell? ((⟨bL, 0, none⟩ : Addr).add j') = some u) := Lib.hid fun j' u hu => by
        rw [Addr.add_mid, AM.out.cell (p := ⟨bL, 0 + j', none⟩) hbl, ← Addr.add_mid]; exact htk j' u hu
      have HDR := Lib.hid hdr
      have HBL := Lib.hid hbl
      have lt1 : (K6.take j).length = j := by rw [List.length_take]; have := Q6.out; omega
      have lt2 : (K6.drop j1).length = q6 - j1 := by rw [List.length_drop]; have := Q6.out; omega
      have LT1 : Hid ((spcV (K6.take j)).length = j * 2) := Lib.hid (by rw [spcV_length, lt1])
      have LT2 : Hid ((spcV (K6.drop j1)).length = (q6 - j1) * 2) := Lib.hid (by rw [spcV_length, lt2])
      have ON1 : Hid (∀ u ∈ spcV (K6.take j), u.oneCell' = true) := Lib.hid (spcV_one' fun y hy => R3.out.ones y (List.mem_of_mem_take hy))
      have ON2 : Hid (∀ u ∈ spcV (K6.drop j1), u.oneCell' = true) := Lib.hid (spcV_one' fun y hy => R3.out.ones y (List.mem_of_mem_drop hy))
      have YW : Hid (∀ V, Below w3.heap.size w3 V → V.cell? ⟨wb, 0, none⟩ = some (.slice (some ⟨bL, 0, none⟩) q6 cc6) ∧ V.frozen? ⟨wb, 0, none⟩ = false) := Lib.hid fun V hV => ⟨by rw [Q6.out]; exact (cells3 (R3.out.step hV).box).1, frozen_of_row V wb 0 _ _ (R3.out.step hV).box⟩
      have DN : Hid (∀ (v6 : Value) (w6 : World), w6.ownsRow w3.heap.size 50 2 v6 (j + (q6 - j1)) (spcV (K6.take j) ++ spcV (K6.drop j1)) → Below w3.heap.size w3 w6 → ∃ q1 a7 c7, v6 = .slice a7 q1 c7 ∧ PlSt W0 (w6.setCell ⟨wb, 0, none⟩ (.slice a7 q1 c7)) tb sb X m base wb lb (updW Wf k' none) (c + 1) (updW Wf k' none) (c + 1) q1 D ∧ q1 ≤ q + 1) := Lib.hid fun v6 w6 h1 h2 => by
        obtain ⟨a7, c7, rfl⟩ := owns_slice h1
        rw [HJ1.out] at h1 ⊢
        refine ⟨_, a7, c7, rfl, S3.out.st.closed R3.out M6.out U6.out h2 HJK.out HY.out HEM.out (by have := Q6.out; omega) (own_base h1 (SZ3.out)), by have := Q7.out; omega⟩
      have hjc : j ≤ cc6 := by omega
      have hjcI : (j : Int) ≤ (cc6 : Int) := by omega
      have wadd : IntKind.i64.wrap ((j : Int) + 1) = (j1 : Int) := (IntWalk.i64_in _ (by omega)).trans (by omega)
      have i1 : (j1 : Int) ≤ (q6 : Int) := by omega
      have i2 : (q6 : Int) ≤ (cc6 : Int) := by omega
      have i0 : (j : Int) ≤ (j1 : Int) := by omega
      have i4 : (0 : Int) ≤ (j1 : Int) := by omega
      clear htk hdr hbl lt1 lt2 y0 hj1
      have y0 := (YW.out w3 (Below.refl _ _)).1
      have yA := (YW.out (w3.alloc (.cells #[] 50)) ((Below.refl _ _).alloc (Nat.le_refl _) _)).1
      by_cases hcp : cc6 = j1
      · have hq1 : j1 = q6 := by omega
        have hcp1 : j1 = cc6 := hcp.symm
        clear hcp
        subst hq1
        subst hcp1
        have T2 : Hid (∀ V, Below w3.heap.size w3 V → ∀ j' u, ([] : List Value)[j']? = some u → V.cell? ((⟨bL, 0, none⟩ : Addr).add j') = some u) := Lib.hid fun V hV j' u hu => by cases hu
        have E2 : Hid (spcV (K6.drop j1) = []) := Lib.hid (List.eq_nil_of_length_eq_zero (by rw [LT2.out]; omega))
        clear i1 i2 hjcI
        go_region_law (first
          | (have hq5 := A5.out; clear hq5; refine step_append_own3 rfl (.tmp 111) (.tmp 118) 29 rfl w3.heap.size 50 ii (.agg #[.int .i64 0, .slice none 0 0]) 2 32 Tryd.underlying29 hi hi0 hi1 hi2 rfl (by decide) _ j _ (by rfl) O5.out ⟨bL, 0, none⟩ 0 0 [] (by rfl) rfl (T2.out w5 A5.out) (fun u hu => by cases hu) (by unfold maxLen; omega) (by omega) A5.out.size ?_
             intro v6 w6 ho hg
             have A6 := Lib.hid (A5.out.grown hg A5.out.size (fun k hk => (O5.out.lt k hk).1))
             obtain ⟨q1, a7, c7, rfl, h8, h9⟩ := DN.out v6 w6 (by rw [E2.out, Nat.sub_self]; exact ho) A6.out
             have S8 := Lib.hid h8
             have Q8 := Lib.hid h9
             obtain ⟨y6, f6⟩ := YW.out w6 A6.out
             clear ho hg h8 h9)
          | (refine step_append_own3 rfl (.tmp 104) (.tmp 110) 29 rfl w3.heap.size 50 ii (.agg #[.int .i64 0, .slice none 0 0]) 2 32 Tryd.underlying29 hi hi0 hi1 hi2 rfl (by decide) _ 0 [] (by rfl) OM.out ⟨bL, 0, none⟩ j j1 (spcV (K6.take j)) (by rfl) LT1.out T1.out ON1.out (by unfold maxLen; omega) (by omega) AM.out.size ?_
             intro v5 w5 ho hg
             rw [Nat.zero_add, List.nil_append] at ho
             have A5 := Lib.hid (AM.out.grown hg AM.out.size (fun k hk => (OM.out.lt k hk).1))
             have O5 := Lib.hid ho
             have y5 := (YW.out w5 A5.out).1
             clear ho hg))
        all_goals
          go_wp2
          go_ret
          exact ⟨rfl, _, _, _, _, S8.out, Q8.out, Nat.le_succ _⟩
      · have T2 : Hid (∀ V, Below w3.heap.size w3 V → ∀ j' u, (spcV (K6.drop j1))[j']? = some u → V.cell? ((⟨bL, j1 * 2, none⟩ : Addr).add j') = some u) := Lib.hid fun V hV j' u hu => by
          rw [Addr.add_mid, hV.cell (p := ⟨bL, j1 * 2 + j', none⟩) HBL.out, ← Addr.add_mid]; exact HDR.out j' u hu
        have i3 : j1 ≤ cc6 := by omega
        go_region_law (first
          | (have hq5 := A5.out; clear hq5; refine step_append_own3 rfl (.tmp 111) (.tmp 118) 29 rfl w3.heap.size 50 ii (.agg #[.int .i64 0, .slice none 0 0]) 2 32 Tryd.underlying29 hi hi0 hi1 hi2 rfl (by decide) _ j _ (by rfl) O5.out ⟨bL, j1 * 2, none⟩ (q6 - j1) (cc6 - j1) (spcV (K6.drop j1)) (by rfl) LT2.out (T2.out w5 A5.out) ON2.out (by unfold maxLen; omega) (by omega) A5.out.size ?_
             intro v6 w6 ho hg
             have A6 := Lib.hid (A5.out.grown hg A5.out.size (fun k hk => (O5.out.lt k hk).1))
             obtain ⟨q1, a7, c7, rfl, h8, h9⟩ := DN.out v6 w6 ho A6.out
             have S8 := Lib.hid h8
             have Q8 := Lib.hid h9
             obtain ⟨y6, f6⟩ := YW.out w6 A6.out
             clear ho hg h8 h9)
          | (refine step_append_own3 rfl (.tmp 104) (.tmp 110) 29 rfl w3.heap.size 50 ii (.agg #[.int .i64 0, .slice none 0 0]) 2 32 Tryd.underlying29 hi hi0 hi1 hi2 rfl (by decide) _ 0 [] (by rfl) OM.out ⟨bL, 0, none⟩ j cc6 (spcV (K6.take j)) (by rfl) LT1.out T1.out ON1.out (by unfold maxLen; omega) (by omega) AM.out.size ?_
             intro v5 w5 ho hg
             rw [Nat.zero_add, List.nil_append] at ho
             have A5 := Lib.hid (AM.out.grown hg AM.out.size (fun k hk => (OM.out.lt k hk).1))
             have O5 := Lib.hid ho
             have y5 := (YW.out w5 A5.out).1
             clear ho hg))
        all_goals
          go_wp2
          go_ret
          exact ⟨rfl, _, _, _, _, S8.out, Q8.out, Nat.le_succ _⟩
end
end Go.Proofs.YtkcecfghfohjcaaDoor

/- The contract of the law's play, whatever the call; where the law begins. No condition. -/
namespace Go.Proofs.YtkcecfghfohjcaaDoor
open Go.RowKit Go.Maps
set_option maxRecDepth 100000

theorem play_ok {W0 w : World} {tb sb m base wb lb c q : Nat} {X : PIx} {Wf : Nat → Option Sp} {D : List Nat} (h : PlSt W0 w tb sb X m base wb lb Wf c Wf c q D) (hq : q ≤ 99) (hm : m ≤ 1000) (hD : D.length ≤ 100) (d s pg : Int) (p x k : Bool) (g : Int) (hpg : I64 pg) :
    Calls Tryd.prog 11 #[.pointer (some ⟨tb, 0, none⟩), .pointer (some ⟨wb, 0, none⟩), .pointer (some ⟨lb, 0, none⟩), opV d s pg p x k g] w (PlPost W0 tb sb X m base wb lb q D) := by
  by_cases h1 : d = 1
  · subst h1; exact play_open h hq hm hD s pg p x k g hpg
  by_cases h2 : d = 2
  · subst h2; exact play_close h hq hm s pg p x k g
  by_cases h3 : d = 3
  · subst h3; exact play_map h hq hm s pg p x k g hpg
  by_cases h4 : d = 4
  · subst h4; exact play_unmap h hq hm s pg p x k g hpg
  by_cases h5 : d = 5
  · subst h5; exact play_set h hq hm s pg p x k g hpg
  exact play_else h hq hm d s pg p x k g hpg (by simp [h1]) (by simp [h2]) (by simp [h3]) (by simp [h4]) (by simp [h5])
/-- Where a law begins: no space, no root. -/
theorem Sys.begin_ {W0 w1 w2 : World} {tb sb m wb lb : Nat} {X : PIx} (h : Sys W0 w1 tb sb X (m + 2) m m (fun _ => none)) (hb : Below w1.heap.size w1 w2) (hw : w2.heap[wb]? = some (.cells #[.slice none 0 0, .int .i64 ((m + 2 : Nat) : Int), .int .i64 (m : Int)] 31 (0, 0))) (hl : w2.heap[lb]? = some (.cells #[.slice none 0 0] 32 (0, 0))) (h1 : w1.heap.size ≤ wb) (h2 : w1.heap.size ≤ lb) :
    PlSt W0 w2 tb sb X m w1.heap.size wb lb (fun _ => none) m (fun _ => none) m 0 [] :=
  ⟨h.step hb, ⟨none, 0, [], ⟨h1, hw, World.ownsRow_nil _ _ _ _, fun i hi => absurd hi (Nat.not_lt_zero _)⟩, Match.none_, rfl, rfl⟩, ⟨none, 0, hl, World.ownsRow_nil _ _ _ _⟩, h.below.size, hb.size, Nat.le_trans h.below.size h2, fun x hx => by cases hx⟩
/-- The script's calls, in a world where nothing that was there has changed. -/
theorem ArgOps10.at_ {W : World} {a : Option Addr} {n c : Nat} {S : List Op10} (h : ArgOps10 W (.slice a n c) S) (hn : n = S.length) {j : Nat} (hj : j < n) :
    ∃ (b o : Nat) (d s pg : Int) (p x k : Bool) (g : Int), a = some ⟨b, o, none⟩ ∧ b < W.heap.size ∧ I64 pg ∧ ∀ V, Below W.heap.size W V → V.cell? ⟨b, o + j * 7, none⟩ = some (.int .i64 d) ∧ V.cell? ⟨b, o + j * 7 + 1, none⟩ = some (.int .i64 s) ∧ V.cell? ⟨b, o + j * 7 + 2, none⟩ = some (.int .i64 pg) ∧ V.cell? ⟨b, o + j * 7 + 3, none⟩ = some (.bool p) ∧ V.cell? ⟨b, o + j * 7 + 4, none⟩ = some (.bool x) ∧ V.cell? ⟨b, o + j * 7 + 5, none⟩ = some (.bool k) ∧ V.cell? ⟨b, o + j * 7 + 6, none⟩ = some (.int .i64 g) := by
  obtain ⟨a', c', hve, hbd, hcell⟩ := h
  injection hve with e1
  subst e1
  rcases hcell with h0 | ⟨b, o, h1, hbl, hcells⟩
  · rw [h0] at hn; simp at hn; omega
  · have hjl : j < S.length := by omega
    obtain ⟨⟨d, s, pg, p, x, k, g⟩, hop⟩ : ∃ y, y = S.getD j default := ⟨_, rfl⟩
    have hmem : (d, s, pg, p, x, k, g) ∈ S := by rw [hop]; exact getD_in S default j hjl
    obtain ⟨-, -, wp, -⟩ := hbd _ hmem
    have hcj := hcells j hjl
    rw [← hop] at hcj
    simp only at hcj
    refine ⟨b, o, d, s, pg, p, x, k, g, h1, hbl, wp, fun V hV => ?_⟩
    have kk : ∀ q, V.cell? ⟨b, q, none⟩ = W.cell? ⟨b, q, none⟩ := fun q => hV.cell (p := ⟨b, q, none⟩) hbl
    exact ⟨(kk _).trans hcj.1, (kk _).trans hcj.2.1, (kk _).trans hcj.2.2.1, (kk _).trans hcj.2.2.2.1, (kk _).trans hcj.2.2.2.2.1, (kk _).trans hcj.2.2.2.2.2.1, (kk _).trans hcj.2.2.2.2.2.2⟩
end Go.Proofs.YtkcecfghfohjcaaDoor
