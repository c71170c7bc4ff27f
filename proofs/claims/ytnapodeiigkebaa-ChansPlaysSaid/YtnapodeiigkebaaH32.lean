/- The contract of the document's Recv, layer 20, and of its Send, whatever they are asked. Condition: its channels lie in memory, in a variable. Recv's walk is written by gen/gen_h32.py. -/
import Derived.Test.YtnapodeiigkebaaH31
namespace Go.Proofs.Ytnapodeiigkebaa
open Go.RowKit Go.Maps
set_option maxRecDepth 100000

set_option maxHeartbeats 4000000 in
theorem rrecvH20_in {W w : World} {xb g0 cap0 T : Nat} {H : List Row} {cv : Value} {lvs : Nat → Value} {out : Nat → Nat} {Q : Msgs} (i : Nat) (hi : i < H.length) (hx : w.heap[xb]? = some (.cells #[cv, .slice (some ⟨g0, 0, none⟩) H.length cap0] 41 (0, 0))) (hlo : W.heap.size ≤ xb) (R : RChAt W w H cv (.slice (some ⟨g0, 0, none⟩) H.length cap0) lvs out T Q) (hT300 : T < 300) {part : Int} (hm : mayE H part (i : Int) false = 0) :
    Calls Try.prog 36 #[.pointer (some ⟨xb, 0, none⟩), .int .i64 part, .int .i64 (i : Int)] w fun e w' => ∃ u, e = .returned (.tuple #[u, .int .i64 (recvE H Q part (i : Int))]) ∧ MsgN w' u (recvM H Q part (i : Int)) ∧ RVar W w' xb H cv (T + 1) (recvQ H Q part (i : Int)) ∧ Only w w' (fun j => j = xb) := by
  obtain ⟨ii, hi1, hi2, hi3, hi4⟩ := info_parts ringInfo20
  obtain ⟨p, c, q, d, hT, hc, hd, hq⟩ : ∃ (p : Int) (c : Nat) (q : Int) (d : Nat), H.getD i [] = [p, q, (c : Int), (d : Int)] ∧ (1 ≤ c ∧ c ≤ 8) ∧ (1 ≤ d ∧ d ≤ 8) ∧ (Q i).length ≤ c := by
    obtain ⟨p, q, c, d, h1, h2, h3, h4⟩ := R.nums i hi; exact ⟨p, c, q, d, h1, h2, h3, h4⟩
  obtain ⟨er, M, Ls', o', he1, hM1, he2, he3, ho', hS⟩ := rrecv_all (d := d) hq (show out i < 300 by have := R.outs i; omega)
  have hE : recvE H Q part (i : Int) = er := by
    rw [he1]
    unfold recvE
    rw [hm, if_pos rfl, Int.toNat_natCast]
  have hMM : recvM H Q part (i : Int) = M := by
    unfold recvM
    rw [hE, hM1, Int.toNat_natCast]
  have hQ : recvQ H Q part (i : Int) = updH Q i Ls' := by
    unfold recvQ
    rw [hE, he2]
    split
    · rw [Int.toNat_natCast]
    · rw [updH_self]
  have OL := Lib.hid (show o' ≤ T + 1 by have := R.outs i; omega)
  rw [hE, hMM, hQ]
  have MY := rmayH_ok R part (i : Int) false
  rw [hm] at MY
  have MY := Lib.hid MY
  have SS := Lib.hid hS
  have HT := Lib.hid hT
  have RH := Lib.hid R
  have LS3 := Lib.hid he3
  have X0 := Lib.hid hx
  have c0 : w.cell? ⟨xb, 0, none⟩ = some cv := (cell_of_row _ _ _ _ _ _ hx).trans rfl
  have c1 : w.cell? ⟨xb, 1, none⟩ = some (.slice (some ⟨g0, 0, none⟩) H.length cap0) := (cell_of_row _ _ _ _ _ _ hx).trans rfl
  have HL := Lib.hid hlo
  have H300 := Lib.hid (Nat.le_of_lt hT300)
  have few := R.few
  obtain ⟨n, hn⟩ : ∃ n, n = H.length := ⟨_, rfl⟩
  have RN := Lib.hid hn
  rw [← hn] at RH X0 c1 few hi MY
  have d2 : decide (n ≤ i) = false := decide_eq_false (by omega)
  clear hS hT R hx hlo hE hQ hMM hM1 he1 he2 he3 hn hm hq hT300 ho'
  go_enter Try.func36, Try.ntmps36
  go_wp2_with fail
  refine MY.out.mono ?_
  rintro e w1 ⟨rfl, hb⟩
  have B1 := Lib.hid hb
  have X1 := Lib.hid (below_block hb X0.out)
  have L1 := below_step1 w1 (.cells #[] 83)
  have c0 : (w1.alloc (.cells #[] 83)).cell? ⟨xb, 1, none⟩ = some (.slice (some ⟨g0, 0, none⟩) n cap0) := (cell_of_row _ _ _ _ _ _ (below_block L1 X1.out)).trans rfl
  have OM := Lib.hid (World.ownsRow_lit (base := w1.heap.size) (e := 83) (size := 4) w1 #[] 0 (Nat.le_refl _) (by decide) rfl)
  have LB := Lib.hid L1
  have SRC : Hid (SrcD (w1.alloc (.cells #[] 83)) (.slice (some ⟨g0, 0, none⟩) n cap0) n (rrow H lvs out (n * 4))) := Lib.hid (Or.inr ⟨_, _, rfl, fun j u hu => by
    have := (own_step RH.out.own (hb.trans (L1.mono hb.size))).cells (g := g0) rfl j u (by rw [← RN.out]; exact hu)
    exact this⟩)
  have ONE : Hid (∀ u ∈ rrow H lvs out (n * 4), u.oneCell' = true) := Lib.hid fun u hu => by
    obtain ⟨j, hj, rfl⟩ := List.mem_map.1 hu
    have hj := List.mem_range.1 hj
    have hd4 : j / 4 < H.length := by rw [← RN.out]; omega
    obtain ⟨la, lc, hl⟩ := (RH.out.ls (j / 4) hd4).form
    unfold rcell
    split
    · rfl
    · rfl
    · rw [hl]; rfl
    · rfl
  have COPY : Hid (∀ w2 g cap, Below w1.heap.size w1 w2 → w2.ownsRow w1.heap.size 83 4 (.slice (some ⟨g, 0, none⟩) n cap) n (rrow H lvs out (n * 4)) → CopyAt W w (w2.setCell ⟨xb, 1, none⟩ (.slice (some ⟨g, 0, none⟩) n cap)) xb H cv g cap lvs out T Q) := Lib.hid fun w2 g cap h2 ho => by
    have RH' := RH.out
    have X0' := X0.out
    rw [RN.out] at RH' X0' ho ⊢
    exact row_copied RH' HL.out X0' B1.out h2 ho
  have FORM : Hid (∀ (W' : World) (v : Value) (b : Nat) (xs : List Value), W'.ownsRow b 83 4 v n xs → ∃ g cap, v = .slice (some ⟨g, 0, none⟩) n cap) := Lib.hid fun W' v b xs ho => by
    rcases ho.2 with ⟨_, h0⟩ | ⟨g, cap, cur, rfl, _⟩
    · omega
    · exact ⟨g, cap, rfl⟩
  obtain ⟨la, lc, hlv⟩ := (RH.out.ls i (by rw [← RN.out]; exact hi)).form
  obtain ⟨q1, hq1⟩ : ∃ q1, q1 = (Q i).length := ⟨_, rfl⟩
  rw [← hq1] at hlv
  obtain ⟨o1, ho1⟩ : ∃ o1, o1 = out i := ⟨_, rfl⟩
  have HLV := Lib.hid hlv
  have HO1 := Lib.hid ho1
  obtain ⟨⟨dd, hu, hd'⟩, hs⟩ := refTy
  have HU := Lib.hid hu
  have HS := Lib.hid hs
  clear hb L1 hlv hq1 ho1 hu hs
  go_wp2_with (first
    | (at_builtin; refine wpList_append_src rfl (.tmp 22) (.tmp 26) 39 rfl w1.heap.size 83 ii (.agg #[.int .i64 0, .int .i64 0, .slice none 0 0, .int .i64 0]) 4 48 Try.underlying39 hi1 hi2 hi3 hi4 rfl (by decide) _ 0 [] rfl OM.out _ n (rrow H lvs out (n * 4)) rfl SRC.out (by rw [rrow_len]) ONE.out (by unfold maxLen; omega) (by omega) (by simp) ?_; intro v2 w2 ho hg; rw [Nat.zero_add, List.nil_append] at ho; obtain ⟨g, cap, rfl⟩ := FORM.out _ _ _ _ ho; have B2 := LB.out.grown hg (by simp) (fun g h => (World.ownsRow.lt OM.out g h).1); have K3 := Lib.hid (COPY.out _ _ _ B2 ho); have X2 := below_block B2 X1.out; have y1 : w2.cell? ⟨xb, 1, none⟩ = some (.slice (some ⟨g0, 0, none⟩) n cap0) := (cell_of_row _ _ _ _ _ _ X2).trans rfl; have f1 : w2.frozen? ⟨xb, 1, none⟩ = false := frozen_of_row w2 _ 1 _ _ X2; have RG := K3.out.range (Below.refl _ _) i (by rw [← RN.out]; exact hi) HT.out; rw [HLV.out, ← HO1.out] at RG; have RG : Hid ((w2.setCell ⟨xb, 1, none⟩ (.slice (some ⟨g, 0, none⟩) n cap)).rangeAt g (i * 4) [.int .i64 (c : Int), .int .i64 (d : Int), .slice la q1 lc, .int .i64 (o1 : Int)]) := Lib.hid RG; clear ho hg B2 X2)
    | (refine wpList_load_mid rfl 83 (.tmp 35) rfl g (i * 4) rfl [.int .i64 (c : Int), .int .i64 (d : Int), .slice la q1 lc, .int .i64 (o1 : Int)] dd RG.out HU.out hd' (by rw [HS.out]; rfl) ?_))
  obtain ⟨w3, hw3⟩ : ∃ w3, w3 = w2.setCell ⟨xb, 1, none⟩ (.slice (some ⟨g, 0, none⟩) n cap) := ⟨_, rfl⟩
  have hsz : w3.heap.size = w2.heap.size := by rw [hw3]; simp
  rw [← hw3] at K3
  rw [← hw3, ← hsz]
  clear hw3 hsz RG y1 f1
  have IH : Hid (i < H.length) := Lib.hid (by rw [← RN.out]; exact hi)
  have RF := K3.out.st.lone H300.out i IH.out HT.out
  rw [HLV.out, ← HO1.out] at RF
  have SS1 := SS.out
  rw [← HO1.out] at SS1
  have RF := Lib.hid (SS1 _ _ _ RF)
  go_wp2_with fail
  refine RF.out.mono ?_
  rintro e w5 ⟨u5, lv', rfl, hm5, hr, ho⟩
  have BK := Lib.hid (K3.out.back HL.out i IH.out HT.out hr ho LS3.out OL.out (Nat.le_succ T))
  obtain ⟨ma, mc, rfl⟩ := hm5.form
  have MM := Lib.hid (BK.out.msg _ _ hm5)
  obtain ⟨lb, lk, rfl⟩ := hr.ls.form
  have x1 : w5.cell? ⟨xb, 1, none⟩ = some (.slice (some ⟨g, 0, none⟩) n cap) := by rw [RN.out]; exact (cell_of_row _ _ _ _ _ _ BK.out.box).trans rfl
  obtain ⟨cs, hcs, hcell⟩ := BK.out.old
  obtain ⟨u0, p0⟩ := hcell 0 (by decide)
  obtain ⟨u1, p1⟩ := hcell 1 (by decide)
  obtain ⟨u2, p2⟩ := hcell 2 (by decide)
  obtain ⟨u3, p3⟩ := hcell 3 (by decide)
  rw [Nat.add_zero] at p0
  have f0 : w5.frozen? ⟨g, i * 4, none⟩ = false := frozen_of_row w5 _ _ _ _ hcs
  have f1 : w5.frozen? ⟨g, i * 4 + 1, none⟩ = false := frozen_of_row w5 _ _ _ _ hcs
  have f2 : w5.frozen? ⟨g, i * 4 + 2, none⟩ = false := frozen_of_row w5 _ _ _ _ hcs
  have f3 : w5.frozen? ⟨g, i * 4 + 3, none⟩ = false := frozen_of_row w5 _ _ _ _ hcs
  obtain ⟨t0, t1, t2, t3, -⟩ := box4 hr.box
  obtain ⟨rb, hrb⟩ : ∃ rb, rb = w3.heap.size := ⟨_, rfl⟩
  rw [← hrb] at t0 t1 t2 t3 ⊢
  generalize Ls'.length = nn at *
  clear hr ho RF hcell hcs hrb hm5
  go_wp2_with fail
  go_still_tail 7, (by kernel_rfl)
  go_wp2
  go_ret2
  exact ⟨_, rfl, MM.out.only (Only.below (Below.refl _ _).drew) (B := fun _ => False) (fun _ e => e.elim), BK.out.new.below (Below.refl _ _).drew, BK.out.on.trans (Only.below (Below.refl _ _).drew)⟩
theorem rsendH20_no {W w : World} {xb T : Nat} {H : List Row} {cv lv : Value} {lvs : Nat → Value} {out : Nat → Nat} {Q : Msgs} (hx : w.heap[xb]? = some (.cells #[cv, lv] 41 (0, 0))) (R : RChAt W w H cv lv lvs out T Q) (part ch : Int) (hm : mayE H part ch true ≠ 0) (v : Value) :
    Calls Try.prog 35 #[.pointer (some ⟨xb, 0, none⟩), .int .i64 part, .int .i64 ch, v] w fun e w' => e = .returned (.int .i64 (mayE H part ch true)) ∧ Below w.heap.size w w' := by
  have MY := Lib.hid (rmayH_ok R part ch true)
  have c0 : w.cell? ⟨xb, 0, none⟩ = some cv := (cell_of_row _ _ _ _ _ _ hx).trans rfl
  have c1 : w.cell? ⟨xb, 1, none⟩ = some lv := (cell_of_row _ _ _ _ _ _ hx).trans rfl
  have g0 : (mayE H part ch true == 0) = false := by simpa using hm
  generalize mayE H part ch true = er at *
  clear R hx hm
  go_enter Try.func35, Try.ntmps35
  go_wp2_with fail
  refine MY.out.mono ?_
  rintro e w1 ⟨rfl, hb⟩
  have B1 := Lib.hid hb
  clear hb
  go_wp2
  go_ret
  exact ⟨rfl, B1.out⟩
theorem rrecvH20_no {W w : World} {xb T : Nat} {H : List Row} {cv lv : Value} {lvs : Nat → Value} {out : Nat → Nat} {Q : Msgs} (hx : w.heap[xb]? = some (.cells #[cv, lv] 41 (0, 0))) (R : RChAt W w H cv lv lvs out T Q) (part ch : Int) (hm : mayE H part ch false ≠ 0) :
    Calls Try.prog 36 #[.pointer (some ⟨xb, 0, none⟩), .int .i64 part, .int .i64 ch] w fun e w' => e = .returned (.tuple #[.slice none 0 0, .int .i64 (mayE H part ch false)]) ∧ Below w.heap.size w w' := by
  have MY := Lib.hid (rmayH_ok R part ch false)
  have c0 : w.cell? ⟨xb, 0, none⟩ = some cv := (cell_of_row _ _ _ _ _ _ hx).trans rfl
  have c1 : w.cell? ⟨xb, 1, none⟩ = some lv := (cell_of_row _ _ _ _ _ _ hx).trans rfl
  have g0 : (mayE H part ch false == 0) = false := by simpa using hm
  generalize mayE H part ch false = er at *
  clear R hx hm
  go_enter Try.func36, Try.ntmps36
  go_wp2_with fail
  refine MY.out.mono ?_
  rintro e w1 ⟨rfl, hb⟩
  have B1 := Lib.hid hb
  clear hb
  go_wp2
  go_ret2
  exact ⟨rfl, B1.out⟩
theorem RVar.send {W w : World} {xb T : Nat} {H : List Row} {cv : Value} {Q : Msgs} (h : RVar W w xb H cv T Q) (hT : T ≤ 300) (part ch : Int) (M : List Int) (a : Option Addr) (cl : Nat) (hM : RowAt W (.slice a M.length cl) M) {er : Int} {Q' : Msgs} (he : sendE H Q part ch M.length = er) (hQ : sendQ H Q part ch M = Q') :
    Calls Try.prog 35 #[.pointer (some ⟨xb, 0, none⟩), .int .i64 part, .int .i64 ch, .slice a M.length cl] w fun e w' => e = .returned (.int .i64 er) ∧ RVar W w' xb H cv T Q' ∧ Only w w' (fun j => j = xb) := by
  obtain ⟨lv, lvs, out, hx, R⟩ := h.st
  by_cases hm : mayE H part ch true = 0
  · obtain ⟨i, rfl, hi⟩ := inH_nat (mayE_in hm).1
    obtain ⟨g, cap, rfl, -⟩ := R.ring i hi
    rw [← he, ← hQ]
    exact rsendH20_in i hi hx h.lo R hT hm M a cl hM
  · have e1 : sendE H Q part ch M.length = mayE H part ch true := by unfold sendE; rw [if_neg hm]
    have e2 : sendQ H Q part ch M = Q := by unfold sendQ; rw [e1, if_neg hm]
    rw [← he, ← hQ, e1, e2]
    exact (rsendH20_no hx R part ch hm _).mono fun e w' ⟨h1, h2⟩ => ⟨h1, h.below h2, Only.below h2⟩
theorem RVar.recv {W w : World} {xb T : Nat} {H : List Row} {cv : Value} {Q : Msgs} (h : RVar W w xb H cv T Q) (hT : T < 300) (part ch : Int) {er : Int} {M : List Int} {Q' : Msgs} (he : recvE H Q part ch = er) (hM : recvM H Q part ch = M) (hQ : recvQ H Q part ch = Q') :
    Calls Try.prog 36 #[.pointer (some ⟨xb, 0, none⟩), .int .i64 part, .int .i64 ch] w fun e w' => ∃ u, e = .returned (.tuple #[u, .int .i64 er]) ∧ MsgN w' u M ∧ RVar W w' xb H cv (T + 1) Q' ∧ Only w w' (fun j => j = xb) := by
  obtain ⟨lv, lvs, out, hx, R⟩ := h.st
  by_cases hm : mayE H part ch false = 0
  · obtain ⟨i, rfl, hi⟩ := inH_nat (mayE_in hm).1
    obtain ⟨g, cap, rfl, -⟩ := R.ring i hi
    rw [← he, ← hM, ← hQ]
    exact rrecvH20_in i hi hx h.lo R hT hm
  · have e1 : recvE H Q part ch = mayE H part ch false := by unfold recvE; rw [if_neg hm]
    have e2 : recvM H Q part ch = [] := by unfold recvM; rw [e1, if_neg hm]
    have e3 : recvQ H Q part ch = Q := by unfold recvQ; rw [e1, if_neg hm]
    rw [← he, ← hM, ← hQ, e1, e2, e3]
    refine (rrecvH20_no hx R part ch hm).mono fun e w' ⟨h1, h2⟩ => ⟨_, h1, Or.inl ⟨rfl, rfl⟩, ?_, Only.below h2⟩
    have h3 := R.step h2
    exact ⟨⟨lv, lvs, out, below_block h2 hx, ⟨h3.bel, h3.rows, h3.own, h3.ls, h3.nums, fun j => Nat.le_succ_of_le (h3.outs j), h3.few⟩⟩, h.lo⟩
end Go.Proofs.Ytnapodeiigkebaa
