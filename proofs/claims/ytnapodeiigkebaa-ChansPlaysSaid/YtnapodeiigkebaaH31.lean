/- The contract of the document's Send, layer 20. Condition: its channels lie in memory, in a variable. -/
import Derived.Test.YtnapodeiigkebaaH30
namespace Go.Proofs.Ytnapodeiigkebaa
open Go.RowKit Go.Maps
set_option maxRecDepth 100000

/-- The document's channels in a variable. -/
structure RVar (W w : World) (xb : Nat) (H : List Row) (cv : Value) (T : Nat) (Q : Msgs) : Prop where
  st : ∃ lv lvs out, w.heap[xb]? = some (.cells #[cv, lv] 41 (0, 0)) ∧ RChAt W w H cv lv lvs out T Q
  lo : W.heap.size ≤ xb
theorem RVar.below {W w w' : World} {xb T : Nat} {H : List Row} {cv : Value} {Q : Msgs} (h : RVar W w xb H cv T Q) (hb : Below w.heap.size w w') : RVar W w' xb H cv T Q :=
  ⟨let ⟨lv, lvs, out, h1, h2⟩ := h.st; ⟨lv, lvs, out, below_block hb h1, h2.step hb⟩, h.lo⟩
theorem RVar.other {W w : World} {xb T : Nat} {H : List Row} {cv : Value} {Q : Msgs} (h : RVar W w xb H cv T Q) : OtherG w xb := let ⟨_, _, _, h1, _⟩ := h.st; ⟨_, _, h1, by decide, by decide⟩
/-- Behind the row's copy. -/
structure CopyAt (W w w3 : World) (xb : Nat) (H : List Row) (cv : Value) (g cap : Nat) (lvs : Nat → Value) (out : Nat → Nat) (T : Nat) (Q : Msgs) : Prop where
  st : RChAt W w3 H cv (.slice (some ⟨g, 0, none⟩) H.length cap) lvs out T Q
  box : w3.heap[xb]? = some (.cells #[cv, .slice (some ⟨g, 0, none⟩) H.length cap] 41 (0, 0))
  on : Only w w3 (fun j => j = xb)
  gl : w.heap.size ≤ g
  lt : g < w3.heap.size
theorem row_copied {W w w1 w2 : World} {xb T g cap : Nat} {H : List Row} {cv lv : Value} {lvs : Nat → Value} {out : Nat → Nat} {Q : Msgs} (R : RChAt W w H cv lv lvs out T Q) (hlo : W.heap.size ≤ xb) (hx : w.heap[xb]? = some (.cells #[cv, lv] 41 (0, 0))) (h1 : Below w.heap.size w w1) (h2 : Below w1.heap.size w1 w2)
    (ho : w2.ownsRow w1.heap.size 83 4 (.slice (some ⟨g, 0, none⟩) H.length cap) H.length (rrow H lvs out (H.length * 4))) : CopyAt W w (w2.setCell ⟨xb, 1, none⟩ (.slice (some ⟨g, 0, none⟩) H.length cap)) xb H cv g cap lvs out T Q := by
  have h12 := h1.trans (h2.mono h1.size)
  have hx2 := below_block h12 hx
  have hs := grownBy_setCell w2 xb 1 (.slice (some ⟨g, 0, none⟩) H.length cap)
  have on : Only w2 (w2.setCell ⟨xb, 1, none⟩ (.slice (some ⟨g, 0, none⟩) H.length cap)) (fun j => j = xb) := Only.grown hs rfl
  have gl : w1.heap.size ≤ g := by
    rcases ho.2 with ⟨h0, _⟩ | ⟨g', cap', cur, h0, hb, _⟩
    · simp at h0
    · simp at h0
      omega
  have gk : g < w2.heap.size := by obtain ⟨cs, hcs⟩ := own_block ho (g := g) rfl; exact lt_of_block hcs
  refine ⟨(R.step h12).copied on (fun k e => e ▸ ⟨_, _, hx2, by decide, by decide⟩) (fun k e => e ▸ hlo) (own_base (ownsRow_grown ho hs hx2 (by simp [kindOf])) (Nat.le_trans R.bel.size h1.size)), heap_setCell_same w2 xb 1 _ _ _ hx2, (Only.below h12).trans on, Nat.le_trans h1.size gl, Nat.lt_of_lt_of_le gk on.size⟩
theorem CopyAt.range {W w w3 V : World} {xb T g cap : Nat} {H : List Row} {cv : Value} {lvs : Nat → Value} {out : Nat → Nat} {Q : Msgs} (h : CopyAt W w w3 xb H cv g cap lvs out T Q) (hV : Below w3.heap.size w3 V) (i : Nat) (hi : i < H.length) {a b : Int} {c d : Nat} (hT : H.getD i [] = [a, b, (c : Int), (d : Int)]) : V.rangeAt g (i * 4) (refA c d (out i) (lvs i)).toList := fun j u hu => by
  obtain ⟨g', cap', e, hc⟩ := (h.st.step hV).ring i hi
  have e := (Value.slice.inj e).1
  injection e with e
  injection e with e
  subst e
  match j, hu with
  | 0, hu => rw [hc 0 (by decide), ← hu, show i * 4 + 0 = i * 4 from rfl, rcell_0, hT]; rfl
  | 1, hu => rw [hc 1 (by decide), ← hu, rcell_1, hT]; rfl
  | 2, hu => rw [hc 2 (by decide), ← hu, rcell_2]; rfl
  | 3, hu => rw [hc 3 (by decide), ← hu, rcell_3]; rfl
  | j + 4, hu => simp [refA] at hu
/-- A ring is put back: what there is ahead of it, and behind it. -/
structure BackAt (W w w5 : World) (xb : Nat) (H : List Row) (cv : Value) (g cap i c d : Nat) (lv' : Value) (o' T' : Nat) (Q' : Msgs) : Prop where
  box : w5.heap[xb]? = some (.cells #[cv, .slice (some ⟨g, 0, none⟩) H.length cap] 41 (0, 0))
  old : ∃ cs, w5.heap[g]? = some (.cells cs 83 (0, 0)) ∧ ∀ j, j < 4 → ∃ u, w5.cell? ⟨g, i * 4 + j, none⟩ = some u
  new : RVar W ((((w5.setCell ⟨g, i * 4, none⟩ (.int .i64 (c : Int))).setCell ⟨g, i * 4 + 1, none⟩ (.int .i64 (d : Int))).setCell ⟨g, i * 4 + 2, none⟩ lv').setCell ⟨g, i * 4 + 3, none⟩ (.int .i64 (o' : Int))) xb H cv T' Q'
  on : Only w ((((w5.setCell ⟨g, i * 4, none⟩ (.int .i64 (c : Int))).setCell ⟨g, i * 4 + 1, none⟩ (.int .i64 (d : Int))).setCell ⟨g, i * 4 + 2, none⟩ lv').setCell ⟨g, i * 4 + 3, none⟩ (.int .i64 (o' : Int))) (fun j => j = xb)
  msg : ∀ u M, MsgN w5 u M → MsgN ((((w5.setCell ⟨g, i * 4, none⟩ (.int .i64 (c : Int))).setCell ⟨g, i * 4 + 1, none⟩ (.int .i64 (d : Int))).setCell ⟨g, i * 4 + 2, none⟩ lv').setCell ⟨g, i * 4 + 3, none⟩ (.int .i64 (o' : Int))) u M
theorem CopyAt.back {W w w3 w5 : World} {xb T g cap : Nat} {H : List Row} {cv : Value} {lvs : Nat → Value} {out : Nat → Nat} {Q : Msgs} (K : CopyAt W w w3 xb H cv g cap lvs out T Q) (hlo : W.heap.size ≤ xb) (i : Nat) (hi : i < H.length) {a b : Int} {c d : Nat} (hT : H.getD i [] = [a, b, (c : Int), (d : Int)]) {A : Array Value} {lv' : Value} {o' T' : Nat} {Ls' : List (List Int)} (RF : RefAt w5 w3.heap.size c d o' lv' Ls') (on : Only (w3.alloc (.cells A 83)) w5 (fun j => j = w3.heap.size)) (hc : Ls'.length ≤ c) (ho : o' ≤ T') (hTT : T ≤ T') :
    BackAt W w w5 xb H cv g cap i c d lv' o' T' (updH Q i Ls') := by
  have b4 := below_step1 w3 (.cells A 83)
  have n4 := heap_alloc_new w3 (.cells A 83)
  have x4 := below_block b4 K.box
  have S5 : RChAt W w5 H cv (.slice (some ⟨g, 0, none⟩) H.length cap) lvs out T Q := (K.st.step b4).only on (fun k e => e ▸ ⟨_, _, n4, by decide, by decide⟩) (fun k e h => by
    have : g = k := by simpa [Value.ownBlock] using e
    have := K.lt
    omega) (fun k e => by have := K.st.bel.size; omega)
  have hxr : xb ≠ w3.heap.size := fun e => kind_ne x4 n4 (by simp only [kindOf]; decide) e
  have x5 := on.kept x4 hxr
  have o34 : Only w w5 (fun j => j = xb) := K.on.late ((Only.below b4).trans on) (fun j e h => by have := K.on.size; omega)
  have og := only_set4 w5 g (i * 4) (.int .i64 (c : Int)) (.int .i64 (d : Int)) lv' (.int .i64 (o' : Int))
  obtain ⟨⟨cs, hcs⟩, -⟩ := S5.block (g := g) rfl
  have hxg : xb ≠ g := fun e => kind_ne x5 hcs (by simp only [kindOf]; decide) e
  refine ⟨x5, ⟨cs, hcs, fun j hj => ?_⟩, ⟨⟨_, _, _, og.kept x5 hxg, S5.set i hi hT RF.ls hc ho hTT⟩, hlo⟩, o34.late og (fun j e h => by have := K.gl; omega), fun u M hm => hm.only og (fun k e => e ▸ ⟨cs, _, hcs, by decide, by decide⟩)⟩
  obtain ⟨g', cap', e, hc'⟩ := S5.ring i hi
  have e := (Value.slice.inj e).1
  injection e with e
  injection e with e
  subst e
  exact ⟨_, hc' j hj⟩
set_option maxHeartbeats 4000000 in
theorem rsendH20_in {W w : World} {xb g0 cap0 T : Nat} {H : List Row} {cv : Value} {lvs : Nat → Value} {out : Nat → Nat} {Q : Msgs} (i : Nat) (hi : i < H.length) (hx : w.heap[xb]? = some (.cells #[cv, .slice (some ⟨g0, 0, none⟩) H.length cap0] 41 (0, 0))) (hlo : W.heap.size ≤ xb) (R : RChAt W w H cv (.slice (some ⟨g0, 0, none⟩) H.length cap0) lvs out T Q) (hT300 : T ≤ 300) {part : Int} (hm : mayE H part (i : Int) true = 0) (M : List Int) (a : Option Addr) (cl : Nat) (hM : RowAt W (.slice a M.length cl) M) :
    Calls Try.prog 35 #[.pointer (some ⟨xb, 0, none⟩), .int .i64 part, .int .i64 (i : Int), .slice a M.length cl] w fun e w' => e = .returned (.int .i64 (sendE H Q part (i : Int) M.length)) ∧ RVar W w' xb H cv T (sendQ H Q part (i : Int) M) ∧ Only w w' (fun j => j = xb) := by
  obtain ⟨ii, hi1, hi2, hi3, hi4⟩ := info_parts ringInfo20
  obtain ⟨p, c, q, d, hT, hc, hd, hq⟩ : ∃ (p : Int) (c : Nat) (q : Int) (d : Nat), H.getD i [] = [p, q, (c : Int), (d : Int)] ∧ (1 ≤ c ∧ c ≤ 8) ∧ (1 ≤ d ∧ d ≤ 8) ∧ (Q i).length ≤ c := by
    obtain ⟨p, q, c, d, h1, h2, h3, h4⟩ := R.nums i hi; exact ⟨p, c, q, d, h1, h2, h3, h4⟩
  obtain ⟨er, Ls', he1, he2, he3, hS⟩ := rsend_all (d := d) (o := out i) hq M a cl
  have hE : sendE H Q part (i : Int) M.length = er := by
    rw [he1]
    unfold sendE
    rw [hm, if_pos rfl, show atH H (i : Int) 3 = (d : Int) by rw [atH_nat, hT]; rfl, show atH H (i : Int) 2 = (c : Int) by rw [atH_nat, hT]; rfl, Int.toNat_natCast]
    simp only [Int.ofNat_le, Int.ofNat_lt]
  have hQ : sendQ H Q part (i : Int) M = updH Q i Ls' := by
    unfold sendQ
    rw [hE, he2]
    split
    · rw [Int.toNat_natCast]
    · rw [updH_self]
  rw [hE, hQ]
  have MY := rmayH_ok R part (i : Int) true
  rw [hm] at MY
  have MY := Lib.hid MY
  have SS := Lib.hid hS
  have HT := Lib.hid hT
  have RH := Lib.hid R
  have LS3 := Lib.hid he3
  have X0 := Lib.hid hx
  have c0 : w.cell? ⟨xb, 0, none⟩ = some cv := (cell_of_row _ _ _ _ _ _ hx).trans rfl
  have c1 : w.cell? ⟨xb, 1, none⟩ = some (.slice (some ⟨g0, 0, none⟩) H.length cap0) := (cell_of_row _ _ _ _ _ _ hx).trans rfl
  have MR := Lib.hid hM
  have HL := Lib.hid hlo
  have H300 := Lib.hid hT300
  have few := R.few
  obtain ⟨m, hmm⟩ : ∃ m, m = M.length := ⟨_, rfl⟩
  obtain ⟨n, hn⟩ : ∃ n, n = H.length := ⟨_, rfl⟩
  rw [← hmm] at SS MR ⊢
  have RN := Lib.hid hn
  rw [← hn] at RH X0 c1 few hi MY
  have d2 : decide (n ≤ i) = false := decide_eq_false (by omega)
  clear hS hT R hx hM hlo hE hQ he1 he2 he3 hmm hn hm hq hT300
  go_enter Try.func35, Try.ntmps35
  go_wp2_with fail
  refine MY.out.mono ?_
  rintro e w1 ⟨rfl, hb⟩
  have B1 := Lib.hid hb
  have X1 := Lib.hid (below_block hb X0.out)
  have L1 := below_step1 w1 (.cells #[] 83)
  have c0 : (w1.alloc (.cells #[] 83)).cell? ⟨xb, 1, none⟩ = some (.slice (some ⟨g0, 0, none⟩) n cap0) := (cell_of_row _ _ _ _ _ _ (below_block L1 X1.out)).trans rfl
  have OM := Lib.hid (World.ownsRow_lit (base := w1.heap.size) (e := 83) (size := 4) w1 #[] 0 (Nat.le_refl _) (by decide) rfl)
  have LB := Lib.hid L1
  have SRC : Hid (SrcD (w1.alloc (.cells #[] 83)) (.slice (some ⟨g0, 0, none⟩) n cap0) n (rrow H lvs out (n * 4))) := Lib.hid (Or.inr ⟨_, _, rfl, fun j u hu => by
    have := (own_step RH.out.own (hb.trans (L1.mono hb.size))).cells (g := g0) rfl j u (by rw [← RN.out]; exact hu)
    exact this⟩)
  have ONE : Hid (∀ u ∈ rrow H lvs out (n * 4), u.oneCell' = true) := Lib.hid fun u hu => by
    obtain ⟨j, hj, rfl⟩ := List.mem_map.1 hu
    have hj := List.mem_range.1 hj
    have hd4 : j / 4 < H.length := by rw [← RN.out]; omega
    obtain ⟨la, lc, hl⟩ := (RH.out.ls (j / 4) hd4).form
    unfold rcell
    split
    · rfl
    · rfl
    · rw [hl]; rfl
    · rfl
  have COPY : Hid (∀ w2 g cap, Below w1.heap.size w1 w2 → w2.ownsRow w1.heap.size 83 4 (.slice (some ⟨g, 0, none⟩) n cap) n (rrow H lvs out (n * 4)) → CopyAt W w (w2.setCell ⟨xb, 1, none⟩ (.slice (some ⟨g, 0, none⟩) n cap)) xb H cv g cap lvs out T Q) := Lib.hid fun w2 g cap h2 ho => by
    have RH' := RH.out
    have X0' := X0.out
    rw [RN.out] at RH' X0' ho ⊢
    exact row_copied RH' HL.out X0' B1.out h2 ho
  have FORM : Hid (∀ (W' : World) (v : Value) (b : Nat) (xs : List Value), W'.ownsRow b 83 4 v n xs → ∃ g cap, v = .slice (some ⟨g, 0, none⟩) n cap) := Lib.hid fun W' v b xs ho => by
    rcases ho.2 with ⟨_, h0⟩ | ⟨g, cap, cur, rfl, _⟩
    · omega
    · exact ⟨g, cap, rfl⟩
  obtain ⟨la, lc, hlv⟩ := (RH.out.ls i (by rw [← RN.out]; exact hi)).form
  obtain ⟨q1, hq1⟩ : ∃ q1, q1 = (Q i).length := ⟨_, rfl⟩
  rw [← hq1] at hlv
  obtain ⟨o1, ho1⟩ : ∃ o1, o1 = out i := ⟨_, rfl⟩
  have HLV := Lib.hid hlv
  have HO1 := Lib.hid ho1
  obtain ⟨⟨dd, hu, hd'⟩, hs⟩ := refTy
  have HU := Lib.hid hu
  have HS := Lib.hid hs
  clear hb L1 hlv hq1 ho1 hu hs
  go_wp2_with (first
    | (at_builtin; refine wpList_append_src rfl (.tmp 22) (.tmp 26) 39 rfl w1.heap.size 83 ii (.agg #[.int .i64 0, .int .i64 0, .slice none 0 0, .int .i64 0]) 4 48 Try.underlying39 hi1 hi2 hi3 hi4 rfl (by decide) _ 0 [] rfl OM.out _ n (rrow H lvs out (n * 4)) rfl SRC.out (by rw [rrow_len]) ONE.out (by unfold maxLen; omega) (by omega) (by simp) ?_; intro v2 w2 ho hg; rw [Nat.zero_add, List.nil_append] at ho; obtain ⟨g, cap, rfl⟩ := FORM.out _ _ _ _ ho; have B2 := LB.out.grown hg (by simp) (fun g h => (World.ownsRow.lt OM.out g h).1); have K3 := Lib.hid (COPY.out _ _ _ B2 ho); have X2 := below_block B2 X1.out; have y1 : w2.cell? ⟨xb, 1, none⟩ = some (.slice (some ⟨g0, 0, none⟩) n cap0) := (cell_of_row _ _ _ _ _ _ X2).trans rfl; have f1 : w2.frozen? ⟨xb, 1, none⟩ = false := frozen_of_row w2 _ 1 _ _ X2; have RG := K3.out.range (Below.refl _ _) i (by rw [← RN.out]; exact hi) HT.out; rw [HLV.out, ← HO1.out] at RG; have RG : Hid ((w2.setCell ⟨xb, 1, none⟩ (.slice (some ⟨g, 0, none⟩) n cap)).rangeAt g (i * 4) [.int .i64 (c : Int), .int .i64 (d : Int), .slice la q1 lc, .int .i64 (o1 : Int)]) := Lib.hid RG; clear ho hg B2 X2)
    | (refine wpList_load_mid rfl 83 (.tmp 35) rfl g (i * 4) rfl [.int .i64 (c : Int), .int .i64 (d : Int), .slice la q1 lc, .int .i64 (o1 : Int)] dd RG.out HU.out hd' (by rw [HS.out]; rfl) ?_))
  obtain ⟨w3, hw3⟩ : ∃ w3, w3 = w2.setCell ⟨xb, 1, none⟩ (.slice (some ⟨g, 0, none⟩) n cap) := ⟨_, rfl⟩
  have hsz : w3.heap.size = w2.heap.size := by rw [hw3]; simp
  rw [← hw3] at K3
  rw [← hw3, ← hsz]
  clear hw3 hsz RG y1 f1
  have IH : Hid (i < H.length) := Lib.hid (by rw [← RN.out]; exact hi)
  have RF := K3.out.st.lone H300.out i IH.out HT.out
  rw [HLV.out, ← HO1.out] at RF
  have SS1 := SS.out
  rw [← HO1.out] at SS1
  have RF := Lib.hid (SS1 _ _ _ RF (MR.out.below (K3.out.st.bel.trans ((below_step1 w3 _).mono K3.out.st.bel.size))))
  have KS := Lib.hid K3.out.st.bel
  go_wp2_with fail
  refine RF.out.mono ?_
  rintro e w5 ⟨lv', rfl, hr, ho⟩
  have BK := Lib.hid (K3.out.back HL.out i IH.out HT.out hr ho LS3.out (show o1 ≤ T by rw [HO1.out]; exact RH.out.outs i) (Nat.le_refl T))
  obtain ⟨lb, lk, rfl⟩ := hr.ls.form
  have x1 : w5.cell? ⟨xb, 1, none⟩ = some (.slice (some ⟨g, 0, none⟩) n cap) := by rw [RN.out]; exact (cell_of_row _ _ _ _ _ _ BK.out.box).trans rfl
  obtain ⟨cs, hcs, hcell⟩ := BK.out.old
  obtain ⟨u0, p0⟩ := hcell 0 (by decide)
  obtain ⟨u1, p1⟩ := hcell 1 (by decide)
  obtain ⟨u2, p2⟩ := hcell 2 (by decide)
  obtain ⟨u3, p3⟩ := hcell 3 (by decide)
  rw [Nat.add_zero] at p0
  have f0 : w5.frozen? ⟨g, i * 4, none⟩ = false := frozen_of_row w5 _ _ _ _ hcs
  have f1 : w5.frozen? ⟨g, i * 4 + 1, none⟩ = false := frozen_of_row w5 _ _ _ _ hcs
  have f2 : w5.frozen? ⟨g, i * 4 + 2, none⟩ = false := frozen_of_row w5 _ _ _ _ hcs
  have f3 : w5.frozen? ⟨g, i * 4 + 3, none⟩ = false := frozen_of_row w5 _ _ _ _ hcs
  obtain ⟨t0, t1, t2, t3, -⟩ := box4 hr.box
  obtain ⟨rb, hrb⟩ : ∃ rb, rb = w3.heap.size := ⟨_, rfl⟩
  rw [← hrb] at t0 t1 t2 t3 ⊢
  generalize Ls'.length = nn at *
  clear hr ho RF hcell hcs hrb
  go_wp2_with fail
  go_still_tail 7, (by kernel_rfl)
  go_wp2
  go_ret
  exact ⟨rfl, BK.out.new.below (Below.refl _ _).drew, BK.out.on.trans (Only.below (Below.refl _ _).drew)⟩
end Go.Proofs.Ytnapodeiigkebaa
