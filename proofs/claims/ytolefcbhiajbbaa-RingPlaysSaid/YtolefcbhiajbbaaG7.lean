/- The contracts of package ring's Recv and Next. Condition: the ring lies as New laid it, or there is none, or nobody made it; what tells words has a contract. -/
import Derived.Test.YtolefcbhiajbbaaG6
namespace Go.Proofs.Ytolefcbhiajbbaa
open Go.RowKit
set_option maxRecDepth 100000

/-- The boxes of Recv and Next. -/
def rcvG (w : World) (p : Option Addr) (fv : Value) : World := (w.alloc (.cells #[.pointer p] 24)).alloc (.cells #[fv] 47)
section
variable {w : World} {p : Option Addr} {fv : Value}
theorem rcvG_below : Below w.heap.size w (rcvG w p fv) := below_two w _ _
theorem rcvG_size : (rcvG w p fv).heap.size = w.heap.size + 2 := by simp [rcvG]
theorem rcvG_0 : (rcvG w p fv).heap[w.heap.size]? = some (.cells #[.pointer p] 24 (0, 0)) := heap_alloc2_old _ _ _
theorem rcvG_1 : (rcvG w p fv).heap[w.heap.size + 1]? = some (.cells #[fv] 47 (0, 0)) := heap_alloc2_new _ _ _
end
theorem gnEqG (k : Nat) (first caps : Array Value) (w : World) : (binOp .eql 47 (.func (.func k) first caps) .nilFunc).run Try.prog w = .ok (.bool false) w := by kernel_rfl
theorem gnNilG (w : World) : (binOp .eql 47 .nilFunc .nilFunc).run Try.prog w = .ok (.bool true) w := by kernel_rfl
theorem recv_noG (p : Option Addr) (k : Nat) (first caps : Array Value) (w : World) (h : NoR w p) (hp : ∀ b, p = some ⟨b, 0, none⟩ → b < w.heap.size) : Calls Try.prog 14 #[.pointer p, .func (.func k) first caps] w fun e w' => e = .returned (.tuple #[.slice none 0 0, .int .i64 1]) ∧ Below w.heap.size w w' := by
  have H := Lib.hid (h.below hp (rcvG_below (p := p) (fv := .func (.func k) first caps)))
  have B := Lib.hid (rcvG_below (w := w) (p := p) (fv := .func (.func k) first caps))
  unfold rcvG at H B
  clear h hp
  go_enter Try.func14, Try.ntmps14
  go_wp2_with (go_at_call 22; refine (thereG_no p _ H.out).mono ?_; rintro e w' ⟨rfl, rfl⟩)
  go_ret2
  exact ⟨rfl, B.out⟩
theorem next_noG (p : Option Addr) (k : Nat) (first caps : Array Value) (w : World) (h : NoR w p) (hp : ∀ b, p = some ⟨b, 0, none⟩ → b < w.heap.size) : Calls Try.prog 21 #[.pointer p, .func (.func k) first caps] w fun e w' => e = .returned (.int .i64 0) ∧ Below w.heap.size w w' := by
  have H := Lib.hid (h.below hp (rcvG_below (p := p) (fv := .func (.func k) first caps)))
  have B := Lib.hid (rcvG_below (w := w) (p := p) (fv := .func (.func k) first caps))
  unfold rcvG at H B
  clear h hp
  go_enter Try.func21, Try.ntmps21
  go_wp2_with (go_at_call 22; refine (thereG_no p _ H.out).mono ?_; rintro e w' ⟨rfl, rfl⟩)
  go_ret
  exact ⟨rfl, B.out⟩
section
variable {w : World} {b c d f m : Nat}
theorem recv_nilG (R : RngAt w b c d f m) : Calls Try.prog 14 #[.pointer (some ⟨b, 0, none⟩), .nilFunc] w fun e w' => e = .returned (.tuple #[.slice none 0 0, .int .i64 1]) ∧ Below w.heap.size w w' := by
  have B := Lib.hid (rcvG_below (w := w) (p := some ⟨b, 0, none⟩) (fv := .nilFunc))
  have H := Lib.hid (thereG_yes (R.below B.out))
  have q0 := gnNilG
  unfold rcvG at H B
  clear R
  go_enter Try.func14, Try.ntmps14
  go_wp2_with (go_at_call 22; refine H.out.mono ?_; rintro e w' ⟨rfl, rfl⟩)
  go_ret2
  exact ⟨rfl, B.out⟩
theorem next_nilG (R : RngAt w b c d f m) : Calls Try.prog 21 #[.pointer (some ⟨b, 0, none⟩), .nilFunc] w fun e w' => e = .returned (.int .i64 0) ∧ Below w.heap.size w w' := by
  have B := Lib.hid (rcvG_below (w := w) (p := some ⟨b, 0, none⟩) (fv := .nilFunc))
  have H := Lib.hid (thereG_yes (R.below B.out))
  have q0 := gnNilG
  unfold rcvG at H B
  clear R
  go_enter Try.func21, Try.ntmps21
  go_wp2_with (go_at_call 22; refine H.out.mono ?_; rintro e w' ⟨rfl, rfl⟩)
  go_ret
  exact ⟨rfl, B.out⟩
theorem recv_emptyG (R : RngAt w b c d f 0) (k : Nat) (first caps : Array Value) : Calls Try.prog 14 #[.pointer (some ⟨b, 0, none⟩), .func (.func k) first caps] w fun e w' => e = .returned (.tuple #[.slice none 0 0, .int .i64 12]) ∧ Below w.heap.size w w' := by
  have B := Lib.hid (rcvG_below (w := w) (p := some ⟨b, 0, none⟩) (fv := .func (.func k) first caps))
  have H := Lib.hid (thereG_yes (R.below B.out))
  have q0 := gnEqG k first caps
  have c3 : _ = some (Value.int .i64 0) := (R.below B.out).many
  unfold rcvG at H B c3
  clear R
  go_enter Try.func14, Try.ntmps14
  go_wp2_with (go_at_call 22; refine H.out.mono ?_; rintro e w' ⟨rfl, rfl⟩)
  go_ret2
  exact ⟨rfl, B.out⟩
theorem next_emptyG (R : RngAt w b c d f 0) (k : Nat) (first caps : Array Value) : Calls Try.prog 21 #[.pointer (some ⟨b, 0, none⟩), .func (.func k) first caps] w fun e w' => e = .returned (.int .i64 0) ∧ Below w.heap.size w w' := by
  have B := Lib.hid (rcvG_below (w := w) (p := some ⟨b, 0, none⟩) (fv := .func (.func k) first caps))
  have H := Lib.hid (thereG_yes (R.below B.out))
  have q0 := gnEqG k first caps
  have c3 : _ = some (Value.int .i64 0) := (R.below B.out).many
  unfold rcvG at H B c3
  clear R
  go_enter Try.func21, Try.ntmps21
  go_wp2_with (go_at_call 22; refine H.out.mono ?_; rintro e w' ⟨rfl, rfl⟩)
  go_ret
  exact ⟨rfl, B.out⟩
end
theorem enters_Recv1G (args : Array Value) (W : World) : (callFunc 27 args).run Try.prog W = .ok (.enter 27 args) W := enters Try.func27 rfl rfl args W
theorem enters_Next1G (args : Array Value) (W : World) : (callFunc 31 args).run Try.prog W = .ok (.enter 31 args) W := enters Try.func31 rfl rfl args W
section
variable {St : (Nat → Int) → World → Prop} {S : Nat → Prop} {N : Nat} {k : Nat} {first caps : Array Value} {g0 : Nat → Int} {w : World} {b c d f m : Nat}
set_option maxHeartbeats 1000000 in
theorem recv_okG (K : KeepG St S N) (G : GetsG St N k first caps) (R : RngAt w b c d f (m + 1)) (hb : ¬ S b) (hN : wdsG c d ≤ N) (hN2 : N ≤ 1000000) (hs : St g0 w) :
    Calls Try.prog 14 #[.pointer (some ⟨b, 0, none⟩), .func (.func k) first caps] w fun e w' => ∃ g, e = .returned (.tuple #[.slice (some ⟨g, 0, none⟩) (lenG d (g0 (begG c d f 0))) (lenG d (g0 (begG c d f 0))), .int .i64 0]) ∧ w.heap.size ≤ g ∧ MsgG w' g (msgOf g0 (begG c d f 0) (lenG d (g0 (begG c d f 0)))) ∧ RngAt w' b c d ((f + 1) % c) m ∧ St g0 w' ∧ Only w w' (fun j => j = b) := by
  have hmf : ∀ (fn : Fn) (first cap : Array Value) (w : World), (Instr.makeFunc fn first cap).run Try.prog w = .ok (.func fn first cap) w := fun _ _ _ _ => rfl
  have B := Lib.hid (rcvG_below (w := w) (p := some ⟨b, 0, none⟩) (fv := .func (.func k) first caps))
  have X0 := Lib.hid (rcvG_0 (w := w) (p := some ⟨b, 0, none⟩) (fv := .func (.func k) first caps))
  have X1 := Lib.hid (rcvG_1 (w := w) (p := some ⟨b, 0, none⟩) (fv := .func (.func k) first caps))
  have ZZ := Lib.hid (rcvG_size (w := w) (p := some ⟨b, 0, none⟩) (fv := .func (.func k) first caps))
  have q0 := gnEqG k first caps
  have H := Lib.hid (thereG_yes (R.below B.out))
  have c3 := (R.below B.out).many
  have IT := Lib.hid fun (V : World) (R : RngAt V b c d f (m + 1)) (hs : St g0 V) (rb pb lb : Nat) (lv : Value) => recvIt_okG K G R hb hN hN2 hs rb pb lb lv
  have KB := Lib.hid fun (g : Nat → Int) (V V' : World) (h : St g V) (hb : Below V.heap.size V V') => K.below h hb
  have KS := Lib.hid K.stay
  have SL := Lib.hid (K.lt g0 w hs)
  have HS := Lib.hid hs
  have HR := Lib.hid R
  have nb := Lib.hid hb
  have d4 : ((m : Int) + 1 == 0) = false := by simp; omega
  obtain ⟨f', hf'⟩ : ∃ f', f' = (f + 1) % c := ⟨_, rfl⟩
  obtain ⟨at_, hat⟩ : ∃ a, a = begG c d f 0 := ⟨_, rfl⟩
  obtain ⟨n, hn⟩ : ∃ n, n = lenG d (g0 (begG c d f 0)) := ⟨_, rfl⟩
  rw [← hn, ← hat, ← hf'] at IT
  rw [← hn, ← hat, ← hf']
  clear K G R hs hb hf' hat hn
  obtain ⟨W0, hW0⟩ : ∃ W0, W0 = rcvG w (some ⟨b, 0, none⟩) (.func (.func k) first caps) := ⟨_, rfl⟩
  rw [← hW0] at B X0 X1 ZZ
  unfold rcvG at H c3 hW0
  go_enter Try.func14, Try.ntmps14
  go_wp2_with (go_at_call 22; refine H.out.mono ?_; rintro e w' ⟨rfl, rfl⟩)
  rw [← hW0]
  obtain ⟨w3, hw3⟩ : ∃ w3, w3 = W0.alloc (.cells #[.slice none 0 0] 38) := ⟨_, rfl⟩
  rw [← hw3]
  have B1 := (Below.refl W0.heap.size W0).alloc (Nat.le_refl _) (.cells #[.slice none 0 0] 38)
  rw [← hw3] at B1
  have B3 : Hid (Below w.heap.size w w3) := Lib.hid (B.out.trans (B1.mono B.out.size))
  have Y0 := Lib.hid (below_block B1 X0.out)
  have Y1 := Lib.hid (below_block B1 X1.out)
  have Y2 : Hid (w3.heap[w.heap.size + 1 + 1]? = some (.cells #[.slice none 0 0] 38 (0, 0))) := Lib.hid (by rw [hw3, show w.heap.size + 1 + 1 = W0.heap.size from ZZ.out.symm]; exact heap_alloc_new _ _)
  have sz : Hid (w3.heap.size = w.heap.size + 3) := Lib.hid (by rw [hw3]; simp; have := ZZ.out; omega)
  have R3 := Lib.hid (HR.out.below B3.out)
  have S3 := Lib.hid (KB.out _ _ _ HS.out B3.out)
  have ns : Hid (∀ j, w.heap.size ≤ j → ¬ S j) := Lib.hid fun j hj h => by have := SL.out j h; omega
  clear hw3 B1 H c3 q0 hW0
  refine (guard_okG R3.out 27 _ enters_Recv1G (fun w1 => RngAt w1 b c d f' m ∧ ∃ g, w.heap.size + 6 ≤ g ∧ w1.heap[w.heap.size + 1 + 1]? = some (.cells #[.slice (some ⟨g, 0, none⟩) n n] 38 (0, 0)) ∧ MsgG w1 g (msgOf g0 at_ n)) (fun j => j = b ∨ j = w.heap.size + 1 + 1) (fun j h => h.elim (fun e => e ▸ R3.out.lt) (fun e => by have := sz.out; omega)) (fun V hV hz => ?_)).mono ?_
  · refine (IT.out V (R3.out.below hV) (KB.out _ _ _ S3.out hV) _ _ _ _ (below_block hV Y0.out) (below_block hV Y1.out) (below_block hV Y2.out)).mono ?_
    rintro e w' ⟨he, ⟨h1, g, h2, h3, h4⟩, h5⟩
    exact ⟨he, ⟨h1, g, by have := sz.out; omega, h3, h4⟩, h5⟩
  rintro e w5 ⟨rfl, w4, ⟨hr, g, hg, hl, hm4⟩, ho, hz, hw5⟩
  have O5 : Only w4 w5 (fun j => j = w3.heap.size + 1) := Only.grown (hw5 ▸ grownBy_setCell w4 _ 0 _) rfl
  have l5 := cell_of_one (O5.kept hl (by have := sz.out; omega))
  have OA : Only w w5 (fun j => j = b) := ((Only.below B3.out).trans (Only.refl w3 _) |>.late ho (fun j h hj => h.elim (fun e => e) (fun e => by omega))) |>.late O5 (fun j e h => by have := sz.out; omega)
  have D5 : Hid (w.heap.size ≤ g ∧ MsgG w5 g (msgOf g0 at_ n) ∧ RngAt w5 b c d f' m ∧ St g0 w5 ∧ Only w w5 (fun j => j = b)) := Lib.hid ⟨by omega, hm4.only O5 (by have := sz.out; omega), hr.only O5 (by have := R3.out.lt; omega), KS.out _ _ _ HS.out (OA.mono fun j e h => nb.out (e ▸ h)), OA⟩
  clear hr hg hl hm4 ho hz hw5 O5 OA
  go_wp2
  go_ret2
  exact ⟨g, rfl, D5.out⟩
set_option maxHeartbeats 1000000 in
theorem nextIt_okG (K : KeepG St S N) (G : GetsG St N k first caps) (R : RngAt w b c d f m) (hN : wdsG c d ≤ N) (hN2 : N ≤ 1000000) (hs : St g0 w)
    (rb pb lb : Nat) (x : Int) (X1 : w.heap[rb]? = some (.cells #[.pointer (some ⟨b, 0, none⟩)] 24 (0, 0))) (X2 : w.heap[pb]? = some (.cells #[.func (.func k) first caps] 47 (0, 0))) (X3 : w.heap[lb]? = some (.cells #[.int .i64 x] 3 (0, 0))) :
    Calls Try.prog 31 #[.pointer (some ⟨rb, 0, none⟩), .pointer (some ⟨pb, 0, none⟩), .pointer (some ⟨lb, 0, none⟩)] w fun e w' => e = .returned (.tuple #[]) ∧ w'.heap[lb]? = some (.cells #[.int .i64 (lenG d (g0 (begG c d f 0)) : Int)] 3 (0, 0)) ∧ Only w w' (fun j => j = lb) := by
  have c1 := cell_of_one X1
  have c2 := cell_of_one X2
  have BG := begG_lt (c := c) (d := d) (f := f) (i := 0) R.c1
  have WX := Lib.hid (K.wd g0 w hs (begG c d f 0) (by omega))
  have TL := Lib.hid fun V (hb : Below w.heap.size w V) => teller_okG (R.below hb) k first caps
  have LG := Lib.hid fun V (hb : Below w.heap.size w V) bp bb (C : CapG 47 V (.func (.func k) first caps) bp bb (begG c d f 0)) => by
    have T0 := tell_okG G (K.below hs hb) C 0 (by omega) hN2
    rw [show ((0 : Nat) : Int) = 0 from rfl, Nat.add_zero] at T0
    exact length_okG (R.below hb) WX.out bp bb T0
  have CC : Hid (∀ V, Below w.heap.size w V → V.cell? ⟨rb, 0, none⟩ = some (.pointer (some ⟨b, 0, none⟩)) ∧ V.cell? ⟨pb, 0, none⟩ = some (.func (.func k) first caps)) := Lib.hid fun V hb => ⟨cell_of_one (below_block hb X1), cell_of_one (below_block hb X2)⟩
  have Z3 : Hid (∀ V, Below w.heap.size w V → V.heap[lb]? = some (.cells #[.int .i64 x] 3 (0, 0))) := Lib.hid fun V hb => below_block hb X3
  have n1 := Lib.hid (kind_ne X3 X1 (by simp only [kindOf]; decide))
  have n2 := Lib.hid (kind_ne X3 X2 (by simp only [kindOf]; decide))
  obtain ⟨at_, hat⟩ : ∃ a, a = begG c d f 0 := ⟨_, rfl⟩
  rw [← hat] at TL LG WX ⊢
  obtain ⟨n, hn⟩ : ∃ n, n = lenG d (g0 at_) := ⟨_, rfl⟩
  rw [← hn] at LG ⊢
  clear K G R hs BG hat hn X1 X2 X3
  go_enter Try.func31, Try.ntmps31
  go_wp2_with fail
  go_region_held3 (fun V => V.cell? ⟨rb, 0, none⟩ = some (.pointer (some ⟨b, 0, none⟩)) ∧ V.cell? ⟨pb, 0, none⟩ = some (.func (.func k) first caps)) (first | exact ⟨c1, c2⟩ | exact CC.out _ (by assumption) | exact ⟨(World.cell?_setCell_far _ _ _ _ n1.out).trans (CC.out _ B3).1, (World.cell?_setCell_far _ _ _ _ n2.out).trans (CC.out _ B3).2⟩)
    (first
      | (go_at_call 28; refine (TL.out _ (Below.refl _ _).drew).mono ?_; rintro e w2 ⟨bp, bb, rfl, hC, -, -, hb2⟩; have B2 : Below w.heap.size w w2 := (Below.refl _ _).drew.trans hb2; have C2 := Lib.hid hC; clear hC hb2)
      | (go_at_call 29; refine (LG.out w2 B2 bp bb C2.out).mono ?_; rintro e w3 ⟨rfl, hb3⟩; have B3 : Below w.heap.size w w3 := B2.trans (hb3.mono B2.size); have z3 := cell_of_one (Z3.out w3 B3); have f3 := free_of_one (Z3.out w3 B3); clear hb3))
  go_end0
  have O4 : Only w3 (w3.setCell ⟨lb, 0, none⟩ (.int .i64 (n : Int))) (fun j => j = lb) := Only.grown (grownBy_setCell w3 _ 0 _) rfl
  exact ⟨rfl, by rw [heap_setCell_same _ _ 0 _ _ _ (Z3.out w3 B3)]; rfl, (Only.below B3).trans O4⟩
set_option maxHeartbeats 1000000 in
theorem next_okG (K : KeepG St S N) (G : GetsG St N k first caps) (R : RngAt w b c d f (m + 1)) (hN : wdsG c d ≤ N) (hN2 : N ≤ 1000000) (hs : St g0 w) :
    Calls Try.prog 21 #[.pointer (some ⟨b, 0, none⟩), .func (.func k) first caps] w fun e w' => e = .returned (.int .i64 (lenG d (g0 (begG c d f 0)) : Int)) ∧ Below w.heap.size w w' := by
  have hmf : ∀ (fn : Fn) (first cap : Array Value) (w : World), (Instr.makeFunc fn first cap).run Try.prog w = .ok (.func fn first cap) w := fun _ _ _ _ => rfl
  have B := Lib.hid (rcvG_below (w := w) (p := some ⟨b, 0, none⟩) (fv := .func (.func k) first caps))
  have X0 := Lib.hid (rcvG_0 (w := w) (p := some ⟨b, 0, none⟩) (fv := .func (.func k) first caps))
  have X1 := Lib.hid (rcvG_1 (w := w) (p := some ⟨b, 0, none⟩) (fv := .func (.func k) first caps))
  have ZZ := Lib.hid (rcvG_size (w := w) (p := some ⟨b, 0, none⟩) (fv := .func (.func k) first caps))
  have q0 := gnEqG k first caps
  have H := Lib.hid (thereG_yes (R.below B.out))
  have c3 := (R.below B.out).many
  have IT := Lib.hid fun (V : World) (hV : Below w.heap.size w V) (rb pb lb : Nat) (x : Int) => nextIt_okG K G (R.below hV) hN hN2 (K.below hs hV) rb pb lb x
  have HR := Lib.hid R
  have d4 : ((m : Int) + 1 == 0) = false := by simp; omega
  obtain ⟨n, hn⟩ : ∃ n, n = lenG d (g0 (begG c d f 0)) := ⟨_, rfl⟩
  rw [← hn] at IT ⊢
  clear K G R hs hn
  obtain ⟨W0, hW0⟩ : ∃ W0, W0 = rcvG w (some ⟨b, 0, none⟩) (.func (.func k) first caps) := ⟨_, rfl⟩
  rw [← hW0] at B X0 X1 ZZ
  unfold rcvG at H c3 hW0
  go_enter Try.func21, Try.ntmps21
  go_wp2_with (go_at_call 22; refine H.out.mono ?_; rintro e w' ⟨rfl, rfl⟩)
  rw [← hW0]
  obtain ⟨w3, hw3⟩ : ∃ w3, w3 = W0.alloc (.cells #[.int .i64 0] 3) := ⟨_, rfl⟩
  rw [← hw3]
  have B1 := (Below.refl W0.heap.size W0).alloc (Nat.le_refl _) (.cells #[.int .i64 0] 3)
  rw [← hw3] at B1
  have B3 : Hid (Below w.heap.size w w3) := Lib.hid (B.out.trans (B1.mono B.out.size))
  have Y0 := Lib.hid (below_block B1 X0.out)
  have Y1 := Lib.hid (below_block B1 X1.out)
  have Y2 : Hid (w3.heap[w.heap.size + 1 + 1]? = some (.cells #[.int .i64 0] 3 (0, 0))) := Lib.hid (by rw [hw3, show w.heap.size + 1 + 1 = W0.heap.size from ZZ.out.symm]; exact heap_alloc_new _ _)
  have sz : Hid (w3.heap.size = w.heap.size + 3) := Lib.hid (by rw [hw3]; simp; have := ZZ.out; omega)
  clear hw3 B1 H c3 q0 hW0
  refine (guard_okG (HR.out.below B3.out) 31 _ enters_Next1G (fun w1 => w1.heap[w.heap.size + 1 + 1]? = some (.cells #[.int .i64 (n : Int)] 3 (0, 0))) (fun j => j = w.heap.size + 1 + 1) (fun j e => by have := sz.out; omega) (fun V hV _ => IT.out V (B3.out.trans (hV.mono B3.out.size)) _ _ _ _ (below_block hV Y0.out) (below_block hV Y1.out) (below_block hV Y2.out))).mono ?_
  rintro e w5 ⟨rfl, w4, hl, ho, hz, hw5⟩
  have O5 : Only w4 w5 (fun j => j = w3.heap.size + 1) := Only.grown (hw5 ▸ grownBy_setCell w4 _ 0 _) rfl
  have l5 := cell_of_one (O5.kept hl (by have := sz.out; omega))
  have D5 : Hid (Below w.heap.size w w5) := Lib.hid (Only.old (Only.old B3.out ho B3.out.size (fun j e => by omega)) O5 (Nat.le_trans B3.out.size ho.size) (fun j e => by have := sz.out; omega))
  clear hl ho hz hw5 O5
  go_wp2
  go_ret
  exact ⟨rfl, D5.out⟩
end
end Go.Proofs.Ytolefcbhiajbbaa
