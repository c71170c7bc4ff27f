/- The contract of layer 20's law's play. Condition: the channels lie in memory beside the document's, and agree. -/
import Derived.Test.YtnapodeiigkebaaH33
namespace Go.Proofs.Ytnapodeiigkebaa
open Go.RowKit
set_option maxRecDepth 100000

/-- Both, beside a call in a variable. -/
structure OpPy (W w : World) (v1 v2 v3 : Value) (C : Cf) (X : ChX) (rb T : Nat) (Q : Msgs) (ob : Nat) (od op oc : Int) (u : Value) : Prop where
  st : PySt W w v1 v2 v3 C X rb T Q
  box : w.heap[ob]? = some (.cells #[.int .i64 od, .int .i64 op, .int .i64 oc, u] 45 (0, 0))
/-- Calls in variables stay. -/
def KeepOp (w w' : World) : Prop := ∀ (k : Nat) (cs : Array Value), w.heap[k]? = some (.cells cs 45 (0, 0)) → w'.heap[k]? = some (.cells cs 45 (0, 0))
theorem KeepOp.below {w w' : World} (hb : Below w.heap.size w w') : KeepOp w w' := fun _ _ h => below_block hb h
theorem KeepOp.trans {a b c : World} (h : KeepOp a b) (k : KeepOp b c) : KeepOp a c := fun j cs e => k j cs (h j cs e)
section
variable {W w w' : World} {v1 v2 v3 : Value} {C : Cf} {X : ChX} {rb T : Nat} {Q : Msgs} {ob : Nat} {od op oc : Int} {u : Value}
theorem OpPy.step (h : OpPy W w v1 v2 v3 C X rb T Q ob od op oc u) (hb : Below w.heap.size w w') : OpPy W w' v1 v2 v3 C X rb T Q ob od op oc u := ⟨h.st.step hb, below_block hb h.box⟩
theorem OpPy.boxX (h : OpPy W w v1 v2 v3 C X rb T Q ob od op oc u) (ho : Only w w' X.own) : w'.heap[ob]? = some (.cells #[.int .i64 od, .int .i64 op, .int .i64 oc, u] 45 (0, 0)) := let ⟨_, _, x⟩ := h.st.x; x.st.keepBox ho h.box (by decide) (by decide) (by decide)
theorem OpPy.boxR {w1 : World} (h : OpPy W w v1 v2 v3 C X rb T Q ob od op oc u) (ho : Only w w1 X.own) (on : Only w1 w' (fun j => j = rb)) : w'.heap[ob]? = some (.cells #[.int .i64 od, .int .i64 op, .int .i64 oc, u] 45 (0, 0)) := by
  have h1 := h.boxX ho
  obtain ⟨lv, lvs, out, hx, -⟩ := h.st.r.st
  have hx1 : w1.heap[rb]? = some (.cells #[v3, lv] 41 (0, 0)) := let ⟨_, _, x⟩ := h.st.x; x.st.keepBox ho hx (by decide) (by decide) (by decide)
  exact on.kept h1 (fun e => kind_ne h1 hx1 (by simp only [kindOf]; decide) e)
theorem PySt.keepOp {w1 : World} (h : PySt W w v1 v2 v3 C X rb T Q) (ho : Only w w1 X.own) (on : Only w1 w' (fun j => j = rb)) : KeepOp w w' := fun k cs hk => by
  obtain ⟨_, _, x⟩ := h.x
  obtain ⟨lv, lvs, out, hx, -⟩ := h.r.st
  have h1 := x.st.keepBox ho hk (by decide) (by decide) (by decide)
  have hx1 := x.st.keepBox ho hx (by decide) (by decide) (by decide)
  exact on.kept h1 (fun e => kind_ne h1 hx1 (by simp only [kindOf]; decide) e)
theorem PySt.later (h : PySt W w v1 v2 v3 C X rb T Q) : PySt W w v1 v2 v3 C X rb (T + 1) Q := ⟨h.x, h.r.more (Nat.le_succ T), h.box, h.cf⟩
set_option maxHeartbeats 4000000 in
theorem play20_ok (h : PySt W w v1 v2 v3 C X rb T Q) (hX : X.H = C.2.2) (hT : T < 300) (M : List Int) (a : Option Addr) (cl : Nat) (hM : RowAt W (.slice a M.length cl) M) (hw : ∀ x ∈ M, 0 ≤ x ∧ x ≤ 4294967295) :
    Calls Try.prog 15 #[.pointer (some ⟨X.xb, 0, none⟩), .pointer (some ⟨rb, 0, none⟩), .agg #[.int .i64 od, .int .i64 op, .int .i64 oc, .slice a M.length cl]] w fun e w' => e = .returned (.bool true) ∧ ∃ Q', PySt W w' v1 v2 v3 C X rb (T + 1) Q' ∧ KeepOp w w' := by
  obtain ⟨wb, hwb⟩ : ∃ wb, wb = w.alloc (.cells #[.int .i64 od, .int .i64 op, .int .i64 oc, .slice a M.length cl] 45) := ⟨_, rfl⟩
  obtain ⟨ob, hob⟩ : ∃ ob, ob = w.heap.size := ⟨_, rfl⟩
  obtain ⟨xb, hxb⟩ : ∃ xb, xb = X.xb := ⟨_, rfl⟩
  obtain ⟨m, hm⟩ : ∃ m, m = M.length := ⟨_, rfl⟩
  have P0 : Hid (OpPy W wb v1 v2 v3 C X rb T Q ob od op oc (.slice a m cl)) := Lib.hid ⟨h.step (by rw [hwb]; exact below_step1 _ _), by rw [hwb, hob, hm]; exact heap_alloc_new _ _⟩
  have KB : Hid (KeepOp w wb) := Lib.hid (by rw [hwb]; exact KeepOp.below (below_step1 _ _))
  obtain ⟨k0, k1, k2, k3, -⟩ := box4 P0.out.box
  have HX := Lib.hid hX
  have XB := Lib.hid hxb
  have HT := Lib.hid hT
  have HW := Lib.hid hwb
  have HO := Lib.hid hob
  have HM := Lib.hid hm
  have AM := Lib.hid hM
  have AW := Lib.hid hw
  rw [← hm] at HW ⊢
  rw [← hxb]
  clear h hwb hob hxb hm hX hT hM hw
  by_cases h1 : od = 1
  · subst h1
    obtain ⟨er, SX⟩ := (P0.out.st.step (Below.refl _ _).drew).send HX.out HT.out op oc M a cl AM.out AW.out
    rw [← XB.out, ← HM.out] at SX
    have SX := Lib.hid SX
    go_enter Try.func15, Try.ntmps15
    go_wp2_with fail
    rw [← HW.out, ← HO.out]
    go_region_held3 (fun V => V.cell? ⟨ob, 1, none⟩ = some (.int .i64 op) ∧ V.cell? ⟨ob, 2, none⟩ = some (.int .i64 oc) ∧ V.cell? ⟨ob, 3, none⟩ = some (.slice a m cl)) (first | exact ⟨k1, k2, k3⟩ | exact ⟨y1, y2, y3⟩ | exact ⟨z1, z2, z3⟩)
      (first
        | (go_at_call 22; refine SX.out.mono ?_; rintro e w8 ⟨rfl, ho, hs⟩; have SY := Lib.hid hs; have H8 := Lib.hid ho; obtain ⟨y0, y1, y2, y3, -⟩ := box4 ((P0.out.step (Below.refl _ _).drew).boxX ho); clear hs ho)
        | (go_at_call 35; refine SY.out.mono ?_; rintro e w9 ⟨rfl, hn, hp⟩; have P9 := Lib.hid hp; have K9 := Lib.hid ((P0.out.st.step (Below.refl _ _).drew).keepOp H8.out hn); obtain ⟨z0, z1, z2, z3, -⟩ := box4 ((P0.out.step (Below.refl _ _).drew).boxR H8.out hn); clear hn hp))
    go_wp2
    go_ret
    exact ⟨rfl, _, P9.out, KB.out.trans ((KeepOp.below (Below.refl _ _).drew).trans K9.out)⟩
  have g1 : (od == 1) = false := by simpa using h1
  by_cases h2 : od = 2
  · subst h2
    obtain ⟨er, M1, h8, RX⟩ := P0.out.st.recv HX.out HT.out op oc
    rw [← XB.out] at RX
    have RX := Lib.hid RX
    have H8L := Lib.hid h8
    clear h8
    go_enter Try.func15, Try.ntmps15
    go_wp2_with fail
    rw [← HW.out, ← HO.out]
    refine RX.out.mono ?_
    rintro e w8 ⟨u1, rfl, hm1, ho, hs⟩
    have SY := Lib.hid hs
    have H8 := Lib.hid ho
    obtain ⟨y0, y1, y2, y3, -⟩ := box4 (P0.out.boxX ho)
    obtain ⟨a1, c1, rfl⟩ := hm1.form
    clear hs ho hm1 RX
    go_wp2_with fail
    refine SY.out.mono ?_
    rintro e w9 ⟨u2, rfl, hm2, hm1, hn, hp⟩
    have P9 := Lib.hid hp
    have K9 := Lib.hid (P0.out.st.keepOp H8.out hn)
    have SM := Lib.hid (same_yes _ u2 M1 w9 (by have := H8L.out; omega) hm1.row hm2.row)
    clear hn hp hm1 hm2 SY
    go_wp2_with (go_at_call 24; refine SM.out.mono ?_; rintro e w10 ⟨rfl, hb⟩; have P10 := Lib.hid (P9.out.step hb); have K10 := Lib.hid (K9.out.trans (KeepOp.below hb)); clear hb)
    go_ret
    exact ⟨rfl, _, P10.out, KB.out.trans K10.out⟩
  have g2 : (od == 2) = false := by simpa using h2
  by_cases h3 : od = 3
  · subst h3
    obtain ⟨er, nn, NX, NY⟩ := PySt.next (W := W) (v1 := v1) (v2 := v2) (v3 := v3) (rb := rb) (T := T) (Q := Q) HX.out op oc
    have NX := Lib.hid (NX _ P0.out.st)
    rw [← XB.out] at NX
    have NY := Lib.hid NY
    go_enter Try.func15, Try.ntmps15
    go_wp2_with fail
    rw [← HW.out, ← HO.out]
    refine NX.out.mono ?_
    rintro e w8 ⟨rfl, hb⟩
    have P8 := Lib.hid (P0.out.step hb)
    obtain ⟨y0, y1, y2, y3, -⟩ := box4 P8.out.box
    have K8 := Lib.hid (KB.out.trans (KeepOp.below hb))
    obtain ⟨lv, lvs, out, hx, -⟩ := P8.out.st.r.st
    have r0 : w8.cell? ⟨rb, 0, none⟩ = some v3 := (cell_of_row _ _ _ _ _ _ hx).trans rfl
    have r1 : w8.cell? ⟨rb, 1, none⟩ = some lv := (cell_of_row _ _ _ _ _ _ hx).trans rfl
    have NZ := Lib.hid (NY.out _ lv (P8.out.st.step (Below.refl _ _).drew) hx)
    have RX8 := Lib.hid hx
    clear hb hx NX k0 k1 k2 k3
    go_wp2_with fail
    go_region_held3 (fun V => (V.cell? ⟨ob, 1, none⟩ = some (.int .i64 op) ∧ V.cell? ⟨ob, 2, none⟩ = some (.int .i64 oc)) ∧ V.cell? ⟨rb, 0, none⟩ = some v3 ∧ V.cell? ⟨rb, 1, none⟩ = some lv) (first | exact ⟨⟨y1, y2⟩, r0, r1⟩ | exact ⟨⟨z1, z2⟩, s0, s1⟩)
      (first
        | (go_at_call 37; refine NZ.out.mono ?_; rintro e w9 ⟨rfl, hb⟩; have P9 := Lib.hid ((P8.out.step (Below.refl _ _).drew).step hb); have K9 := Lib.hid (K8.out.trans ((KeepOp.below (Below.refl _ _).drew).trans (KeepOp.below hb))); obtain ⟨z0, z1, z2, z3, -⟩ := box4 P9.out.box; have xx := below_block hb RX8.out; have s0 : w9.cell? ⟨rb, 0, none⟩ = some v3 := (cell_of_row _ _ _ _ _ _ xx).trans rfl; have s1 : w9.cell? ⟨rb, 1, none⟩ = some lv := (cell_of_row _ _ _ _ _ _ xx).trans rfl; clear hb xx))
    go_wp2
    go_ret
    exact ⟨rfl, _, P9.out.st.later, K9.out⟩
  · have g3 : (od == 3) = false := by simpa using h3
    go_enter Try.func15, Try.ntmps15
    go_wp2_with fail
    rw [← HW.out]
    go_ret
    exact ⟨rfl, _, P0.out.st.later, KB.out⟩
end
end Go.Proofs.Ytnapodeiigkebaa
