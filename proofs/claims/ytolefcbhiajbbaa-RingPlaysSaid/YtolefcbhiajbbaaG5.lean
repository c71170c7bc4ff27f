/- The contract of package ring's Send. Condition: the ring lies as New laid it, or there is none, or nobody made it; what puts words has a contract. -/
import Derived.Test.YtolefcbhiajbbaaG4
namespace Go.Proofs.Ytolefcbhiajbbaa
open Go.RowKit
set_option maxRecDepth 100000

/-- The boxes of Send. -/
def sndG (w : World) (p : Option Addr) (v fv : Value) : World := ((w.alloc (.cells #[.pointer p] 24)).alloc (.cells #[v] 38)).alloc (.cells #[fv] 42)
section
variable {w : World} {p : Option Addr} {v fv : Value}
theorem sndG_below : Below w.heap.size w (sndG w p v fv) := (below_two w _ _).alloc (by simp; omega) _
theorem sndG_size : (sndG w p v fv).heap.size = w.heap.size + 3 := by simp [sndG]
theorem sndG_0 : (sndG w p v fv).heap[w.heap.size]? = some (.cells #[.pointer p] 24 (0, 0)) := (heap_alloc_old _ _ (by simp; omega)).trans (heap_alloc2_old _ _ _)
theorem sndG_1 : (sndG w p v fv).heap[w.heap.size + 1]? = some (.cells #[v] 38 (0, 0)) := (heap_alloc_old _ _ (by simp)).trans (heap_alloc2_new _ _ _)
theorem sndG_2 : (sndG w p v fv).heap[w.heap.size + 1 + 1]? = some (.cells #[fv] 42 (0, 0)) := by
  rw [show w.heap.size + 1 + 1 = ((w.alloc (.cells #[.pointer p] 24)).alloc (.cells #[v] 38)).heap.size by simp]; exact heap_alloc_new _ _
end
theorem send_noG (p : Option Addr) (a : Option Addr) (n c : Nat) (k : Nat) (first caps : Array Value) (w : World) (h : NoR w p) (hp : ∀ b, p = some ⟨b, 0, none⟩ → b < w.heap.size) : Calls Try.prog 11 #[.pointer p, .slice a n c, .func (.func k) first caps] w fun e w' => e = .returned (.int .i64 1) ∧ Below w.heap.size w w' := by
  have H := Lib.hid (h.below hp (sndG_below (p := p) (v := .slice a n c) (fv := .func (.func k) first caps)))
  have B := Lib.hid (sndG_below (w := w) (p := p) (v := .slice a n c) (fv := .func (.func k) first caps))
  unfold sndG at H B
  clear h hp
  go_enter Try.func11, Try.ntmps11
  go_wp2_with (go_at_call 22; refine (thereG_no p _ H.out).mono ?_; rintro e w' ⟨rfl, rfl⟩)
  go_ret
  exact ⟨rfl, B.out⟩
theorem fnEqG (k : Nat) (first caps : Array Value) (w : World) : (binOp .eql 42 (.func (.func k) first caps) .nilFunc).run Try.prog w = .ok (.bool false) w := by kernel_rfl
theorem fnNilG (w : World) : (binOp .eql 42 .nilFunc .nilFunc).run Try.prog w = .ok (.bool true) w := by kernel_rfl
section
variable {w : World} {b c d f m : Nat}
theorem send_nilG (R : RngAt w b c d f m) (a : Option Addr) (n cl : Nat) : Calls Try.prog 11 #[.pointer (some ⟨b, 0, none⟩), .slice a n cl, .nilFunc] w fun e w' => e = .returned (.int .i64 1) ∧ Below w.heap.size w w' := by
  have B := Lib.hid (sndG_below (w := w) (p := some ⟨b, 0, none⟩) (v := .slice a n cl) (fv := .nilFunc))
  have H := Lib.hid (thereG_yes (R.below B.out))
  have q0 := fnNilG
  unfold sndG at H B
  clear R
  go_enter Try.func11, Try.ntmps11
  go_wp2_with (go_at_call 22; refine H.out.mono ?_; rintro e w' ⟨rfl, rfl⟩)
  go_ret
  exact ⟨rfl, B.out⟩
set_option maxHeartbeats 1000000 in
theorem send_badG (R : RngAt w b c d f m) (a : Option Addr) (n cl k : Nat) (first caps : Array Value) (hn : n < 1 ∨ (1 ≤ n ∧ d < n)) : Calls Try.prog 11 #[.pointer (some ⟨b, 0, none⟩), .slice a n cl, .func (.func k) first caps] w fun e w' => e = .returned (.int .i64 2) ∧ Below w.heap.size w w' := by
  have B := Lib.hid (sndG_below (w := w) (p := some ⟨b, 0, none⟩) (v := .slice a n cl) (fv := .func (.func k) first caps))
  have R1 := R.below B.out
  have H := Lib.hid (thereG_yes R1)
  have q0 := fnEqG k first caps
  have c1 := R1.wid
  clear R R1
  rcases hn with hn | ⟨h1, h2⟩
  · obtain rfl : n = 0 := by omega
    unfold sndG at H B c1
    go_enter Try.func11, Try.ntmps11
    go_wp2_with (go_at_call 22; refine H.out.mono ?_; rintro e w' ⟨rfl, rfl⟩)
    go_quiet (fail)
    go_wp2
    go_ret
    exact ⟨rfl, below_drewN B.out _⟩
  · have d1 : decide ((n : Int) < 1) = false := decide_eq_false (by omega)
    have d0 : decide (n < 1) = false := decide_eq_false (by omega)
    have d2 : decide ((d : Int) < (n : Int)) = true := decide_eq_true (by omega)
    have d3 : decide (d < n) = true := decide_eq_true (by omega)
    unfold sndG at H B c1
    go_enter Try.func11, Try.ntmps11
    go_wp2_with (go_at_call 22; refine H.out.mono ?_; rintro e w' ⟨rfl, rfl⟩)
    go_quiet (fail)
    go_wp2
    go_ret
    exact ⟨rfl, below_drewN B.out _⟩
set_option maxHeartbeats 1000000 in
theorem send_fullG (R : RngAt w b c d f c) (a : Option Addr) (n cl k : Nat) (first caps : Array Value) (hn : 1 ≤ n ∧ n ≤ d) : Calls Try.prog 11 #[.pointer (some ⟨b, 0, none⟩), .slice a n cl, .func (.func k) first caps] w fun e w' => e = .returned (.int .i64 12) ∧ Below w.heap.size w w' := by
  have B := Lib.hid (sndG_below (w := w) (p := some ⟨b, 0, none⟩) (v := .slice a n cl) (fv := .func (.func k) first caps))
  have H := Lib.hid (thereG_yes (R.below B.out))
  have q0 := fnEqG k first caps
  have R1 := R.below B.out
  have c0 := R1.cap
  have c1 := R1.wid
  have c3 := R1.many
  have d1 : decide ((n : Int) < 1) = false := decide_eq_false (by omega)
  have d0 : decide (n < 1) = false := decide_eq_false (by omega)
  have d2 : decide ((d : Int) < (n : Int)) = false := decide_eq_false (by omega)
  have d3 : decide (d < n) = false := decide_eq_false (by omega)
  clear R R1 hn
  unfold sndG at H B c0 c1 c3
  go_enter Try.func11, Try.ntmps11
  go_wp2_with (go_at_call 22; refine H.out.mono ?_; rintro e w' ⟨rfl, rfl⟩)
  go_quiet (fail)
  go_wp2
  go_quiet (fail)
  go_wp2
  go_ret
  exact ⟨rfl, below_drewN (below_drewN B.out _) _⟩
end
/-- What is turned later and was not there counts for nothing. -/
theorem Only.late {w w1 w' : World} {B C : Nat → Prop} (h : Only w w1 B) (k : Only w1 w' C) (hC : ∀ j, C j → j < w.heap.size → B j) : Only w w' B :=
  ⟨k.os.trans h.os, k.tape.trans h.tape, k.output.trans h.output, Nat.le_trans h.size k.size, fun j hj hB => (k.block j (Nat.lt_of_lt_of_le hj h.size) (fun e => hB (hC j e hj))).trans (h.block j hj hB)⟩
theorem enters_Send1G (args : Array Value) (W : World) : (callFunc 25 args).run Try.prog W = .ok (.enter 25 args) W := enters Try.func25 rfl rfl args W
section
variable {St : (Nat → Int) → World → Prop} {S : Nat → Prop} {N : Nat} {k : Nat} {first caps : Array Value} {g0 : Nat → Int} {w : World} {b c d f m : Nat}
set_option maxHeartbeats 1000000 in
theorem send_okG (K : KeepG St S N) (P : PutsG St S N k first caps) (R : RngAt w b c d f m) (hb : ¬ S b) (hm : m < c) (hN : wdsG c d ≤ N) (hN2 : N ≤ 1000000) (hs : St g0 w) (L : List Int) (hL : 1 ≤ L.length ∧ L.length ≤ d) (hw : ∀ x ∈ L, 0 ≤ x ∧ x < 4294967296) (v : Value) (M : RowAt w v L) :
    Calls Try.prog 11 #[.pointer (some ⟨b, 0, none⟩), v, .func (.func k) first caps] w fun e w' => e = .returned (.int .i64 0) ∧ RngAt w' b c d f (m + 1) ∧ St (msgF g0 (begG c d f m) L L.length) w' ∧ Only w w' (fun j => j = b ∨ S j) := by
  have hmf : ∀ (fn : Fn) (first cap : Array Value) (w : World), (Instr.makeFunc fn first cap).run Try.prog w = .ok (.func fn first cap) w := fun _ _ _ _ => rfl
  have HMm := Lib.hid M
  obtain ⟨a, cl, rfl, -⟩ := M
  have B := Lib.hid (sndG_below (w := w) (p := some ⟨b, 0, none⟩) (v := .slice a L.length cl) (fv := .func (.func k) first caps))
  have X0 := Lib.hid (sndG_0 (w := w) (p := some ⟨b, 0, none⟩) (v := .slice a L.length cl) (fv := .func (.func k) first caps))
  have X1 := Lib.hid (sndG_1 (w := w) (p := some ⟨b, 0, none⟩) (v := .slice a L.length cl) (fv := .func (.func k) first caps))
  have X2 := Lib.hid (sndG_2 (w := w) (p := some ⟨b, 0, none⟩) (v := .slice a L.length cl) (fv := .func (.func k) first caps))
  have q0 := fnEqG k first caps
  have R1 := R.below B.out
  have H := Lib.hid (thereG_yes R1)
  have c0 := R1.cap
  have c1 := R1.wid
  have c3 := R1.many
  have CL : Hid (∀ W, Below w.heap.size w W → Calls Try.prog 23 #[.slice a L.length cl] W fun e w' => ∃ g c, e = .returned (.slice (some ⟨g, 0, none⟩) L.length c) ∧ W.heap.size ≤ g ∧ MsgG w' g L ∧ Below W.heap.size W w') := Lib.hid fun W hb => clone_okG L _ W (HMm.out.below hb) hL.1 (by have := R.d8; omega)
  have IT := Lib.hid fun (V : World) (R : RngAt V b c d f m) (hs : St g0 V) (rb pb lb g n cl : Nat) (hn : n = L.length) => sendIt_okG K P R hb hm hN hN2 hs L hL hw rb pb lb g n cl hn
  have KB := Lib.hid fun (g : Nat → Int) (V V' : World) (h : St g V) (hb : Below V.heap.size V V') => K.below h hb
  have KS := Lib.hid K.stay
  have SL := Lib.hid (K.lt g0 w hs)
  have HS := Lib.hid hs
  have HR := Lib.hid R
  have nb := Lib.hid hb
  have hd8 := R.d8
  obtain ⟨n, hn⟩ : ∃ n, n = L.length := ⟨_, rfl⟩
  rw [← hn] at B X0 X1 X2 H c0 c1 c3 CL hL ⊢
  have d1 : decide ((n : Int) < 1) = false := decide_eq_false (by omega)
  have d0 : decide (n < 1) = false := decide_eq_false (by omega)
  have d2 : decide ((d : Int) < (n : Int)) = false := decide_eq_false (by omega)
  have d3 : decide (d < n) = false := decide_eq_false (by omega)
  have d4 : ((m : Int) == (c : Int)) = false := by simp; omega
  have d5 : (m == c) = false := by simp; omega
  have HN := Lib.hid hn
  clear R R1 K P hs hw HMm hb hL hn
  obtain ⟨W0, hW0⟩ : ∃ W0, W0 = sndG w (some ⟨b, 0, none⟩) (.slice a n cl) (.func (.func k) first caps) := ⟨_, rfl⟩
  rw [← hW0] at B X0 X1 X2
  have HW0 := Lib.hid hW0
  unfold sndG at H c0 c1 c3 hW0
  go_enter Try.func11, Try.ntmps11
  go_wp2_with (go_at_call 22; refine H.out.mono ?_; rintro e w' ⟨rfl, rfl⟩)
  go_quiet (fail)
  generalize nq = n1
  go_wp2
  go_quiet (fail)
  go_wp2_with fail
  rw [← hW0]
  generalize n1 + nq = n2
  have BD : Below w.heap.size w (W0.drewN n2) := below_drewN B.out n2
  refine (CL.out _ BD).mono ?_
  rintro e w2 ⟨g, c5, rfl, hg, hM, hb2⟩
  have g1 : w.heap.size + 3 ≤ g := by have := sndG_size (w := w) (p := some ⟨b, 0, none⟩) (v := .slice a n cl) (fv := .func (.func k) first caps); rw [← HW0.out] at this; have hg : W0.heap.size ≤ g := hg; omega
  have B2 : Below w.heap.size w w2 := BD.trans (hb2.mono BD.size)
  have y0 : w2.heap[w.heap.size]? = some (.cells #[.pointer (some ⟨b, 0, none⟩)] 24 (0, 0)) := below_block hb2 X0.out
  have y1 : w2.heap[w.heap.size + 1]? = some (.cells #[.slice a n cl] 38 (0, 0)) := below_block hb2 X1.out
  have y2 : w2.heap[w.heap.size + 1 + 1]? = some (.cells #[.func (.func k) first caps] 42 (0, 0)) := below_block hb2 X2.out
  have z0 := cell_of_one y0
  have z1 := cell_of_one y1
  have f1 := free_of_one y1
  obtain ⟨w3, hw3⟩ : ∃ w3, w3 = w2.setCell ⟨w.heap.size + 1, 0, none⟩ (.slice (some ⟨g, 0, none⟩) n c5) := ⟨_, rfl⟩
  have O3 : Only w2 w3 (fun j => j = w.heap.size + 1) := Only.grown (hw3 ▸ grownBy_setCell w2 _ 0 _) rfl
  have B3 : Hid (Below w.heap.size w w3) := Lib.hid (Only.old B2 O3 B2.size (fun j e => by omega))
  have Y0 := Lib.hid (O3.kept y0 (by omega))
  have Y1 : Hid (w3.heap[w.heap.size + 1]? = some (.cells #[.slice (some ⟨g, 0, none⟩) n c5] 38 (0, 0))) := Lib.hid (by rw [hw3, heap_setCell_same _ _ 0 _ _ _ y1]; rfl)
  have Y2 := Lib.hid (O3.kept y2 (by omega))
  have M3 := Lib.hid (hM.only O3 (by omega))
  have R3 := Lib.hid (HR.out.below B3.out)
  have S3 := Lib.hid (KB.out _ _ _ HS.out B3.out)
  have sz : Hid (w.heap.size + 3 ≤ w3.heap.size) := Lib.hid (by have := lt_of_block Y2.out; omega)
  have ns : Hid (∀ j, w.heap.size ≤ j → ¬ S j) := Lib.hid fun j hj h => by have := SL.out j h; omega
  have G1 := Lib.hid g1
  clear BD hg hM hb2 g1 y0 y1 y2 O3 B2
  go_wp2_with fail
  rw [← hw3]
  clear z0 z1 f1 hw3
  refine (guard_okG R3.out 25 _ enters_Send1G (fun w1 => RngAt w1 b c d f (m + 1) ∧ St (msgF g0 (begG c d f m) L L.length) w1) (fun j => j = b ∨ S j) (fun j h => h.elim (fun e => e ▸ R3.out.lt) (fun h => by have := SL.out j h; have := sz.out; omega)) (fun V hV _ => ?_)).mono ?_
  · exact IT.out V (R3.out.below hV) (KB.out _ _ _ S3.out hV) _ _ _ g n c5 HN.out (M3.out.below hV) (ns.out g (by have := G1.out; omega)) (below_block hV Y0.out) (below_block hV Y2.out) (below_block hV Y1.out) (ns.out _ (by omega))
  rintro e w5 ⟨rfl, w4, ⟨hr, hs4⟩, ho, hz, hw5⟩
  have O5 : Only w4 w5 (fun j => j = w3.heap.size + 1) := Only.grown (hw5 ▸ grownBy_setCell w4 _ 0 _) rfl
  have D5 : Hid (RngAt w5 b c d f (m + 1) ∧ St (msgF g0 (begG c d f m) L L.length) w5 ∧ Only w w5 (fun j => j = b ∨ S j)) := Lib.hid ⟨hr.only O5 (by have := R3.out.lt; omega), KS.out _ _ _ hs4 (O5.mono fun j e h => by have := SL.out j h; have := sz.out; omega), ((Only.below B3.out).trans (Only.refl w3 _) |>.late ho (fun j h _ => h)) |>.late O5 (fun j e h => by have := sz.out; omega)⟩
  clear hr hs4 ho hz hw5 O5
  go_wp2
  go_ret
  exact ⟨rfl, by have := D5.out; rwa [← HN.out] at this⟩
end
end Go.Proofs.Ytolefcbhiajbbaa
