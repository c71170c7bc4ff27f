/- The contract of package ring's Send. Condition: the ring lies as New laid it, or there is none, or nobody made it; what puts words has a contract. -/
import Derived.Test.YtolefcbhiajbbaaG3
import Derived.BigQuiet
import Derived.Maps.AppendAt
namespace Go.Proofs.Ytolefcbhiajbbaa
open Go.RowKit
set_option maxRecDepth 100000

/-- A message in a block of its own. -/
def MsgG (w : World) (g : Nat) (L : List Int) : Prop := ∃ cs, w.heap[g]? = some (.cells cs 34 (0, 0)) ∧ ∀ i, i < L.length → cs[i]? = some (.int .u32 (L.getD i 0))
theorem MsgG.cell {w : World} {g : Nat} {L : List Int} (h : MsgG w g L) (i : Nat) (hi : i < L.length) : w.cell? ⟨g, i, none⟩ = some (.int .u32 (L.getD i 0)) := by
  obtain ⟨cs, h1, h2⟩ := h
  rw [cell_of_row w g _ _ _ _ h1]; exact h2 i hi
theorem MsgG.only {w w' : World} {g : Nat} {L : List Int} {S : Nat → Prop} (h : MsgG w g L) (hw : Only w w' S) (hS : ¬ S g) : MsgG w' g L := let ⟨cs, h1, h2⟩ := h; ⟨cs, hw.kept h1 hS, h2⟩
theorem MsgG.below {w w' : World} {g : Nat} {L : List Int} (h : MsgG w g L) (hb : Below w.heap.size w w') : MsgG w' g L := let ⟨cs, h1, h2⟩ := h; ⟨cs, below_block hb h1, h2⟩
theorem MsgG.rowAt {w : World} {g c : Nat} {L : List Int} (h : MsgG w g L) : RowAt w (.slice (some ⟨g, 0, none⟩) L.length c) L :=
  ⟨_, c, rfl, Or.inr ⟨g, 0, rfl, let ⟨_, h1, _⟩ := h; lt_of_block h1, fun i hi => by rw [Nat.zero_add]; exact h.cell i hi⟩⟩
def wdsL (L : List Int) : List Value := L.map (Value.int .u32)
theorem wdsL_get (L : List Int) (i : Nat) (h : i < L.length) : (wdsL L)[i]? = some (.int .u32 (L.getD i 0)) := by simp [wdsL, h]
theorem wdsL_one (L : List Int) : ∀ u ∈ wdsL L, u.oneCell' = true := fun u hu => by
  obtain ⟨x, _, rfl⟩ := List.mem_map.1 hu; rfl
/-- A row of words of one's own. -/
abbrev OwnW (w : World) (base : Nat) (v : Value) (L : List Int) : Prop := w.ownsRow base 34 1 v L.length (wdsL L)
theorem OwnW.msg {w : World} {base : Nat} {v : Value} {L : List Int} (h : OwnW w base v L) (hL : 1 ≤ L.length) : ∃ g c, v = .slice (some ⟨g, 0, none⟩) L.length c ∧ base ≤ g ∧ MsgG w g L := by
  have hc := h
  rcases h.2 with ⟨rfl, h0⟩ | ⟨g, cap, cur, rfl, hb, hg, _⟩
  · omega
  · refine ⟨g, cap, rfl, hb, cur, hg, fun i hi => ?_⟩
    have := hc.cells (g := g) rfl i _ (wdsL_get L i hi)
    rw [Addr.add_mid, cell_of_row w g _ _ _ _ hg, Nat.zero_add] at this
    exact this
theorem OwnW.rowAt {w : World} {base : Nat} {v : Value} {L : List Int} (h : OwnW w base v L) : RowAt w v L := by
  by_cases hL : 1 ≤ L.length
  · obtain ⟨g, c, rfl, _, hm⟩ := OwnW.msg h hL
    exact hm.rowAt
  · have : L = [] := List.eq_nil_of_length_eq_zero (by omega)
    subst this
    obtain ⟨a, c, rfl⟩ := owns_slice h
    exact ⟨a, c, rfl, Or.inl rfl⟩
theorem wordInfoG : (Try.prog.info? 34).map (fun i => (i.zero, i.size, i.bytes)) = some (some (.int .u32 0), 1, 4) := by kernel_rfl
set_option maxHeartbeats 1000000 in
theorem clone_okG (L : List Int) (v : Value) (w : World) (h : RowAt w v L) (h1 : 1 ≤ L.length) (hl : L.length ≤ 1000) : Calls Try.prog 23 #[v] w fun e w' => ∃ g c, e = .returned (.slice (some ⟨g, 0, none⟩) L.length c) ∧ w.heap.size ≤ g ∧ MsgG w' g L ∧ Below w.heap.size w w' := by
  obtain ⟨ii, hi, hi0, hi1, hi2⟩ := info_parts wordInfoG
  have OM := Lib.hid (World.ownsRow_lit (base := w.heap.size) (e := 34) (size := 1) w #[] 0 (Nat.le_refl _) (by decide) rfl)
  have AM : Hid (Below w.heap.size w (w.alloc (.cells #[] 34))) := Lib.hid ((Below.refl _ _).alloc (Nat.le_refl _) _)
  obtain ⟨a, c, rfl, h⟩ := h
  obtain ⟨b, o, rfl, hlt, hc⟩ := h.resolve_left (by rintro rfl; simp at h1)
  have CC : Hid (∀ j u, (wdsL L)[j]? = some u → (w.alloc (.cells #[] 34)).cell? ((⟨b, o, none⟩ : Addr).add j) = some u) := Lib.hid fun j u hu => by
    have hj : j < L.length := by have := (List.getElem?_eq_some_iff.1 hu).1; simpa [wdsL] using this
    rw [wdsL_get L j hj] at hu
    rw [Addr.add_mid, ← Option.some.inj hu]
    exact (AM.out.cell (p := ⟨b, o + j, none⟩) hlt).trans (hc j hj)
  have LL : Hid ((wdsL L).length = L.length * 1) := Lib.hid (by simp [wdsL])
  have OU : Hid (∀ v V, OwnW V w.heap.size v L → ∃ g c, v = .slice (some ⟨g, 0, none⟩) L.length c ∧ w.heap.size ≤ g ∧ MsgG V g L) := Lib.hid fun v V h => OwnW.msg h h1
  have q0 : ∀ (n : Nat) (w : World), (binOp .eql 38 (.slice (some ⟨b, o, none⟩) n c) (.slice none 0 0)).run Try.prog w = .ok (.bool false) w := fun _ _ => rfl
  have X1 := Lib.hid (wdsL_one L)
  unfold OwnW at OU
  generalize wdsL L = xs at CC LL OU X1
  obtain ⟨n, hn⟩ : ∃ n, n = L.length := ⟨_, rfl⟩
  rw [← hn] at hl LL OU ⊢
  clear hc h h1 hlt hn
  go_enter Try.func23, Try.ntmps23
  go_wp2_with (first
    | (at_builtin; (refine wpList_append_own _ rfl (.tmp 5) (.tmp 6) 38 rfl w.heap.size 34 ii (.int .u32 0) 1 4 Try.underlying38 hi hi0 hi1 hi2 rfl (by decide) _ 0 [] rfl OM.out ⟨b, o, none⟩ n c xs rfl LL.out CC.out X1.out (by unfold maxLen; omega) (by omega) (by simp) ?_; intro v5 w5 ho hg _; have B5 : Hid (Below w.heap.size w w5) := Lib.hid (AM.out.grown hg (by simp) (fun g h => (World.ownsRow.lt OM.out g h).1)); rw [Nat.zero_add] at ho; have OW := Lib.hid (OU.out _ _ ho); clear ho hg)))
  go_ret
  obtain ⟨g, c5, rfl, h1, h2⟩ := OW.out
  exact ⟨g, ⟨c5, rfl⟩, h1, h2, B5.out⟩

/-- Words in which the first so many of a message are put. -/
def msgF (g : Nat → Int) (at_ : Nat) (L : List Int) (i : Nat) : Nat → Int := fun j => if j = at_ then (L.length : Int) else if at_ < j ∧ j ≤ at_ + i then L.getD (j - at_ - 1) 0 else g j
theorem msgF_zero (g : Nat → Int) (at_ : Nat) (L : List Int) : upG g (at_ + 0) (L.length : Int) = msgF g at_ L 0 := by
  funext j
  unfold upG msgF
  by_cases h : j = at_
  · simp [h]
  · rw [if_neg (by omega), if_neg h, if_neg (by omega)]
theorem msgF_step (g : Nat → Int) (at_ : Nat) (L : List Int) (i : Nat) : upG (msgF g at_ L i) (at_ + (1 + i)) (L.getD i 0) = msgF g at_ L (i + 1) := by
  funext j
  unfold upG msgF
  by_cases h : j = at_ + (1 + i)
  · rw [if_pos h, if_neg (by omega), if_pos (by omega), show j - at_ - 1 = i by omega]
  · rw [if_neg h]
    by_cases h2 : j = at_
    · rw [if_pos h2, if_pos h2]
    · rw [if_neg h2, if_neg h2]
      by_cases h3 : at_ < j ∧ j ≤ at_ + i
      · rw [if_pos h3, if_pos (by omega)]
      · rw [if_neg h3, if_neg (by omega)]
section
variable {St : (Nat → Int) → World → Prop} {S : Nat → Prop} {N : Nat} {k : Nat} {first caps : Array Value} {g0 : Nat → Int} {w : World} {b c d f m : Nat}
theorem RngAt.of_box {t : TypeId} {cs : Array Value} {j : Nat} (R : RngAt w b c d f m) (h : w.heap[j]? = some (.cells cs t (0, 0))) (ht : t ≠ 57) : j ≠ b := kind_ne h R.box (by simp only [kindOf]; intro e; exact ht (Option.some.inj e))
/-- What the closure of Send keeps while it puts words. -/
structure SendG (St : (Nat → Int) → World → Prop) (S : Nat → Prop) (b c d f m : Nat) (k : Nat) (first caps : Array Value) (g0 : Nat → Int) (L : List Int) (w : World) (bp bb g : Nat) (j : Nat) (V : World) : Prop where
  r : RngAt V b c d f (m + 1)
  st : St (msgF g0 (begG c d f m) L j) V
  cap : CapG 42 V (.func (.func k) first caps) bp bb (begG c d f m)
  msg : MsgG V g L
  only : Only w V (fun j => j = b ∨ S j)
theorem SendG.put {L : List Int} {w : World} {bp bb g j : Nat} {V V' : World} (h : SendG St S b c d f m k first caps g0 L w bp bb g j V) (hb : ¬ S b) (h1 : ¬ S bp) (h2 : ¬ S bb) (h3 : ¬ S g) (hs : St (upG (msgF g0 (begG c d f m) L j) (begG c d f m + (1 + j)) (L.getD j 0)) V') (ho : Only V V' S) : SendG St S b c d f m k first caps g0 L w bp bb g (j + 1) V' :=
  ⟨h.r.only ho hb, msgF_step _ _ _ _ ▸ hs, h.cap.only ho h1 h2, h.msg.only ho h3, h.only.trans (ho.mono fun _ h => Or.inr h)⟩
set_option maxHeartbeats 1000000 in
theorem sendIt_okG (K : KeepG St S N) (P : PutsG St S N k first caps) (R : RngAt w b c d f m) (hb : ¬ S b) (hm : m < c) (hN : wdsG c d ≤ N) (hN2 : N ≤ 1000000) (hs : St g0 w) (L : List Int) (hL : 1 ≤ L.length ∧ L.length ≤ d) (hw : ∀ x ∈ L, 0 ≤ x ∧ x < 4294967296)
    (rb pb lb g n cl : Nat) (hn : n = L.length) (M : MsgG w g L) (hg : ¬ S g) (X1 : w.heap[rb]? = some (.cells #[.pointer (some ⟨b, 0, none⟩)] 24 (0, 0))) (X2 : w.heap[pb]? = some (.cells #[.func (.func k) first caps] 42 (0, 0))) (X3 : w.heap[lb]? = some (.cells #[.slice (some ⟨g, 0, none⟩) n cl] 38 (0, 0))) (h3 : ¬ S lb) :
    Calls Try.prog 25 #[.pointer (some ⟨rb, 0, none⟩), .pointer (some ⟨pb, 0, none⟩), .pointer (some ⟨lb, 0, none⟩)] w fun e w' => e = .returned (.tuple #[]) ∧ (RngAt w' b c d f (m + 1) ∧ St (msgF g0 (begG c d f m) L L.length) w') ∧ Only w w' (fun j => j = b ∨ S j) := by
  have c1 := cell_of_one X1
  have c2 := cell_of_one X2
  have PT := Lib.hid (putter_okG R k first caps)
  have BG := Lib.hid (begG_lt (c := c) (d := d) (f := f) (i := m) R.c1)
  have HK := Lib.hid K
  have HP := Lib.hid P
  have HR := Lib.hid R
  have HS := Lib.hid hs
  have HM := Lib.hid M
  have HW := Lib.hid hw
  have HL := Lib.hid hL
  have HN := Lib.hid hn
  have X3 := Lib.hid X3
  have L3 := Lib.hid (R.of_box X3.out (by decide) : lb ≠ b)
  have nb := Lib.hid hb
  have ng := Lib.hid hg
  have n3 := Lib.hid h3
  have hc8 := R.c8
  have hd8 := R.d8
  have SL := Lib.hid (K.lt g0 w hs)
  have n8 : n ≤ 8 := by omega
  have nw : IntKind.u32.wrap (n : Int) = (n : Int) := IntWalk.u32_in _ (by omega)
  have R1 := Lib.hid (lt_of_block X1)
  clear K P R hs M hw hL X1 X2 hn
  go_enter Try.func25, Try.ntmps25
  go_wp2_with fail
  refine PT.out.mono ?_
  rintro e w1 ⟨bp, bb, rfl, hC, hp, hq, hb1⟩
  have x1 := (hb1.cell (p := ⟨rb, 0, none⟩) R1.out).trans c1
  have R2 := HR.out.below hb1
  have c3 := R2.many
  have f3 := R2.free 3
  obtain ⟨w2, hw2⟩ : ∃ w2, w2 = w1.setCell ⟨b, 3, none⟩ (.int .i64 ((m : Int) + 1)) := ⟨_, rfl⟩
  have O2 : Only w1 w2 (fun j => j = b) := Only.grown (hw2 ▸ grownBy_setCell w1 b 3 _) rfl
  have np : ¬ S bp := fun h => by have := SL.out _ h; omega
  have nq : ¬ S bb := fun h => by have := SL.out _ h; omega
  have I2 : Hid (RngAt w2 b c d f (m + 1) ∧ St g0 w2 ∧ CapG 42 w2 (.func (.func k) first caps) bp bb (begG c d f m) ∧ MsgG w2 g L ∧ Only w w2 (fun j => j = b ∨ S j)) := Lib.hid ⟨hw2 ▸ R2.setMany (m + 1) (by omega), HK.out.stay _ _ _ (HK.out.below HS.out hb1) (O2.mono fun j e h => nb.out (e ▸ h)), hC.only O2 (hC.p |> fun h e => R2.of_box h (by decide) e) (hC.b |> fun h e => R2.of_box h (by decide) e), (HM.out.below hb1).only O2 (let ⟨_, h, _⟩ := HM.out.below hb1; R2.of_box h (by decide)), (Only.below hb1).trans (O2.mono fun _ e => Or.inl e)⟩
  have x3 := cell_of_one (below_block hb1 X3.out)
  have l1 : ¬ lb = b := L3.out
  have l2 : ¬ b = lb := fun e => L3.out e.symm
  have NP := Lib.hid np
  have NQ := Lib.hid nq
  clear hC hp hq O2 R2 hb1 np nq c1 c2
  go_wp2_with fail
  rw [← hw2]
  clear x1 c3 f3 hw2 x3 l1 l2
  have P0 := put_okG HP.out I2.out.2.1 I2.out.2.2.1 0 (by have := BG.out; omega) hN2 (n : Int) (by have := HL.out; have := HN.out; omega)
  rw [show ((0 : Nat) : Int) = 0 from rfl] at P0
  refine P0.mono ?_
  clear P0
  rintro e w3 ⟨rfl, hs3, ho3⟩
  rw [HN.out, msgF_zero] at hs3
  have S3 : Hid (SendG St S b c d f m k first caps g0 L w bp bb g 0 w3) := Lib.hid ⟨I2.out.1.only ho3 nb.out, hs3, I2.out.2.2.1.only ho3 NP.out NQ.out, I2.out.2.2.2.1.only ho3 ng.out, I2.out.2.2.2.2.trans (ho3.mono fun _ h => Or.inr h)⟩
  have x3 := cell_of_one (I2.out.2.2.2.2.trans (ho3.mono fun _ h => Or.inr h) |>.kept X3.out (fun h => h.elim L3.out n3.out))
  clear hs3 ho3 I2
  go_wp2_with fail
  go_loopw [23] (fun i wr => ∃ j : Nat, i = .int .i64 (j : Int) ∧ j ≤ n ∧ SendG St S b c d f m k first caps g0 L w bp bb g j wr) (fun i _ => (n - (intOf i).toNat))
  case atStart => exact ⟨0, rfl, Nat.zero_le _, S3.out⟩
  case round =>
    obtain ⟨j, rfl, hj, hR⟩ := hrel
    have HR := Lib.hid hR
    clear hR
    by_cases hlt : j < n
    · have ck := HR.out.msg.cell j (by have := HN.out; omega)
      have PK := Lib.hid (put_okG HP.out HR.out.st HR.out.cap (1 + j) (by have := BG.out; have := HL.out; have := HN.out; omega) hN2 (L.getD j 0) (HW.out _ (by have := HN.out; rw [List.getD_eq_getElem?_getD, List.getElem?_eq_getElem (by omega)]; exact List.getElem_mem _)))
      obtain ⟨x, hx⟩ : ∃ x, x = L.getD j 0 := ⟨_, rfl⟩
      rw [← hx] at ck PK
      rw [show ((1 + j : Nat) : Int) = 1 + (j : Int) by push_cast; rfl] at PK
      have HX := Lib.hid hx
      clear hx
      go_wp2_with fail
      refine PK.out.mono ?_
      rintro e w4 ⟨rfl, hs4, ho4⟩
      rw [HX.out] at hs4
      have S4 := Lib.hid (HR.out.put nb.out NP.out NQ.out ng.out hs4 ho4)
      clear hs4 ho4
      go_wp2
      go_roundw
      case rel => exact ⟨j + 1, by go_num, by omega, S4.out⟩
      case measure => simp [intOf]; omega
    · obtain rfl : j = n := by omega
      go_wp2
      go_end0
      exact ⟨rfl, ⟨HR.out.r, by have := HR.out.st; rwa [HN.out] at this⟩, HR.out.only⟩
end
end Go.Proofs.Ytolefcbhiajbbaa
