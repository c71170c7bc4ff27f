/- The contract of package conf's read. Condition: the bytes are a string's. -/
import Derived.Test.YtpgoddbijkolbaaC13
import Derived.Test.YtpgoddbijkolbaaC9
import Derived.Test.YtpgoddbijkolbaaC16
namespace Go.Proofs.Ytpgoddbijkolbaa
open Go.RowKit
set_option maxRecDepth 100000

theorem RowsAt.other {k j : Nat} {w w' : World} {v : Value} {S : List Row} {cs : Array Value} {t : TypeId} {fz : Nat × Nat} (h : RowsAt k w v S) (hk : 2 ≤ k) (hx : w.heap[j]? = some (.cells cs t fz)) (hcs : ∀ (i : Nat) (x y : Int), cs[i]? = some (.int .i64 x) → cs[i + 1]? ≠ some (.int .i64 y)) (hg : w.grownBy w' (some j)) : RowsAt k w' v S := by
  obtain ⟨a, c, rfl, ht, hT, hS⟩ := h
  refine ⟨a, c, rfl, ht, hT, ?_⟩
  rcases hS with hS | ⟨b, o, rfl, hlt, hc⟩
  · exact Or.inl hS
  · by_cases h0 : S = []
    · exact Or.inl h0
    · have hpos : 0 < S.length := by
        cases S with
        | nil => exact absurd rfl h0
        | cons _ _ => simp
      have hne : b ≠ j := by
        intro e
        subst e
        have c0 := hc 0 hpos 0 (by omega)
        have c1 := hc 0 hpos 1 (by omega)
        rw [Nat.zero_mul, Nat.add_zero, cell_of_row w b _ _ _ _ hx] at c0 c1
        exact hcs _ _ _ (by simpa using c0) c1
      exact Or.inr ⟨b, o, rfl, Nat.lt_of_lt_of_le hlt hg.size, fun i hi j' hj => (hg.cell (hc i hi j' hj) (fun e => hne (Option.some.inj e)))⟩
theorem RowsAt.read {k b : Nat} {w w' : World} {v : Value} {S : List Row} {r : List UInt8} (h : RowsAt k w v S) (hk : 2 ≤ k) (hr : Rd w b (some r)) (hg : w.grownBy w' (some b)) : RowsAt k w' v S := by
  obtain ⟨g, o, c, hr⟩ := hr
  refine h.other hk hr.box (fun i x y hx => ?_) hg
  match i with
  | 0 => simp at hx
  | 1 => simp at hx
  | i + 2 => simp at hx
theorem CBox.put {w : World} {B : Nat} {u1 u2 u3 : Value} (h : CBox w B u1 u2 u3) (v1 v2 v3 : Value) : CBox (((w.setCell ⟨B, 0, none⟩ v1).setCell ⟨B, 1, none⟩ v2).setCell ⟨B, 2, none⟩ v3) B v1 v2 v3 ∧ w.grownBy (((w.setCell ⟨B, 0, none⟩ v1).setCell ⟨B, 1, none⟩ v2).setCell ⟨B, 2, none⟩ v3) (some B) := by
  have h0 := heap_setCell_same _ B 0 _ _ v1 h
  have h1 := heap_setCell_same _ B 1 _ _ v2 h0
  have h2 := heap_setCell_same _ B 2 _ _ v3 h1
  exact ⟨by unfold CBox; simpa using h2, grownBy_trans (grownBy_trans (grownBy_setCell _ _ _ _) (grownBy_setCell _ _ _ _)) (grownBy_setCell _ _ _ _)⟩
theorem RowsAt.box {k B : Nat} {w w' : World} {v : Value} {S : List Row} {a1 a2 a3 : Option Addr} {n1 n2 n3 m1 m2 m3 : Nat} (h : RowsAt k w v S) (hk : 2 ≤ k) (hx : CBox w B (.slice a1 n1 m1) (.slice a2 n2 m2) (.slice a3 n3 m3)) (hg : w.grownBy w' (some B)) : RowsAt k w' v S := by
  refine h.other hk hx (fun i x y hx => ?_) hg
  match i with
  | 0 => simp at hx
  | 1 => simp at hx
  | 2 => simp at hx
  | i + 3 => simp at hx
theorem text_conf (b : Nat) (l : List UInt8) (w : World) (h : Rd w b (some l)) : Calls Try.prog 69 #[.pointer (some ⟨b, 0, none⟩), strV magic] w fun e w' => e = .returned (.bool (textP magic l).isSome) ∧ w.grownBy w' (some b) ∧ ∀ r, textP magic l = some r → Rd w' b (some r) := by
  have hs := textS_textP magic l
  cases hp : textP magic l with
  | none =>
    rw [hp] at hs
    refine (text_ok b (some l) magic false none hs w h).mono ?_
    rintro e w' ⟨rfl, hr, hg⟩
    exact ⟨rfl, hg, fun r hr => by cases hr⟩
  | some r =>
    rw [hp] at hs
    refine (text_ok b (some l) magic true (some r) hs w h).mono ?_
    rintro e w' ⟨rfl, hr, hg⟩
    exact ⟨rfl, hg, fun r' e => by obtain rfl := Option.some.inj e; exact hr⟩
/-- What read leaves. -/
def ReadConf (w : World) (l : List UInt8) (e : Ending) (w' : World) : Prop :=
  Below w.heap.size w w' ∧ match parse l with
    | some C => ∃ v1 v2 v3, e = .returned (.agg #[v1, v2, v3]) ∧ CfAt w' v1 v2 v3 C
    | none => e = badE 6
/-- What read carries on. -/
structure RdSt (w w' : World) (B b q p : Nat) (r : List UInt8) : Prop where
  rd : Rd w' b (some r)
  rv : RdV w' q b
  nv : NumR w' p q
  box : CBox w' B (.slice none 0 0) (.slice none 0 0) (.slice none 0 0)
  below : Below w.heap.size w w'
theorem RdSt.next {w w1 w2 : World} {B b q p : Nat} {r r' : List UInt8} (h : RdSt w w1 B b q p r) (hb : w.heap.size ≤ b) (hB : B ≠ b) (hg : w1.grownBy w2 (some b)) (hr : Rd w2 b (some r')) : RdSt w w2 B b q p r' :=
  ⟨hr, kept_block hg h.rv (h.rv.ne h.rd), kept_block hg h.nv (h.nv.ne h.rd), kept_block hg h.box hB, h.below.trans (below_of_grownBy hg h.below.size hb)⟩
set_option maxHeartbeats 2000000 in
theorem read_conf (l : List UInt8) (hl : l.length ≤ maxLen) (w : World) : Calls Try.prog 37 #[strV l] w (ReadConf w l) := by
  have hmf : ∀ (fn : Fn) (first cap : Array Value) (w : World), (Instr.makeFunc fn first cap).run Try.prog w = .ok (.func fn first cap) w := fun _ _ _ _ => rfl
  obtain ⟨w0, hw0⟩ : ∃ w0, w0 = w.alloc (.cells #[.slice none 0 0, .slice none 0 0, .slice none 0 0] 26) := ⟨_, rfl⟩
  have A0 : Hid (Below w.heap.size w w0) := Lib.hid (by rw [hw0]; exact (Below.refl _ _).alloc (Nat.le_refl _) _)
  have X0 : Hid (CBox w0 w.heap.size (.slice none 0 0) (.slice none 0 0) (.slice none 0 0)) := Lib.hid (by rw [hw0]; exact CBox.new w _ _ _)
  go_enter Try.func37, Try.ntmps37
  go_wp2_with fail
  rw [← hw0]
  clear hw0
  refine (new5_ok l hl w0).mono ?_
  rintro e w1 ⟨b, rfl, hR, hle, hb⟩
  obtain ⟨w3, hw3⟩ : ∃ w3, w3 = (w1.alloc (.cells #[.pointer (some ⟨b, 0, none⟩)] 90)).alloc (.cells #[.func (.func 66) #[] #[.pointer (some ⟨w1.heap.size, 0, none⟩)]] 93) := ⟨_, rfl⟩
  have hb3 : Below w1.heap.size w1 w3 := by rw [hw3]; exact below_two w1 _ _
  have hq : RdV w3 w1.heap.size b := by rw [hw3]; exact below_block ((Below.refl _ _).alloc (Nat.le_refl _) _) (heap_alloc_new w1 _)
  have hp : NumR w3 (w1.heap.size + 1) w1.heap.size := by rw [hw3]; exact heap_alloc2_new w1 _ _
  have LE := Lib.hid (Nat.le_trans A0.out.size hle)
  have hBb : w.heap.size ≠ b := by have := lt_of_block X0.out; omega
  have S3 : Hid (RdSt w w3 w.heap.size b w1.heap.size (w1.heap.size + 1) l) := Lib.hid ⟨hR.below hb3, hq, hp, below_block hb3 (below_block hb X0.out), (A0.out.trans (hb.mono A0.out.size)).trans (hb3.mono (Nat.le_trans A0.out.size hb.size))⟩
  have bq := lt_of_block hq
  clear hR hle hb hb3 hq hp bq
  go_wp2_with fail
  rw [← hw3]
  clear hw3
  refine (text_conf b l w3 S3.out.rd).mono ?_
  rintro e w4 ⟨rfl, hg, hr⟩
  cases ht : textP magic l with
  | none =>
    rw [show (none : Option (List UInt8)).isSome = false from rfl]
    go_wp2_with fail
    refine (must_no _ _).mono ?_
    rintro e w5 ⟨rfl, rfl⟩
    exact ⟨rfl, S3.out.below.trans (below_of_grownBy hg S3.out.below.size LE.out), by rw [show parse l = none by simp [parse, preP, ht]]⟩
  | some l0 =>
    rw [show (some l0).isSome = true from rfl]
    have S4 := Lib.hid (S3.out.next LE.out hBb hg (hr l0 ht))
    clear hg hr
    go_wp2_with fail
    refine (must_yes _ _).mono ?_
    rintro e w5 ⟨rfl, rfl⟩
    have n4 := S4.out.nv.c0
    go_wp2_with fail
    refine (readAll_part (w1.heap.size + 1) w1.heap.size b 71 #[.pointer (some ⟨w1.heap.size + 1, 0, none⟩)] (enters Try.func71 rfl rfl) l0 w4 S4.out.rd S4.out.rv S4.out.nv (fun W m h hq hp => rrow_part _ _ b m W h hq hp)).mono ?_
    cases h1 : listP pw l0 with
    | none =>
      rintro e w5 ⟨hg, rfl⟩
      exact ⟨rfl, S4.out.below.trans (below_of_grownBy hg S4.out.below.size LE.out), by rw [show parse l = none by simp [parse, preP, ht, h1]]⟩
    | some x1 =>
      obtain ⟨P, l1⟩ := x1
      rintro e w5 ⟨hg, v1, rfl, hv1, hr⟩
      have S5 := Lib.hid (S4.out.next LE.out hBb hg hr)
      have V1 := Lib.hid hv1
      have n5 := S5.out.nv.c0
      clear hg hr hv1 n4
      go_wp2_with fail
      refine (readAll_win (w1.heap.size + 1) w1.heap.size b 73 #[.pointer (some ⟨w1.heap.size + 1, 0, none⟩)] (enters Try.func73 rfl rfl) l1 w5 S5.out.rd S5.out.rv S5.out.nv (fun W m h hq hp => rrow_win _ _ b m W h hq hp)).mono ?_
      cases h2 : listP ww l1 with
      | none =>
        rintro e w6 ⟨hg, rfl⟩
        exact ⟨rfl, S5.out.below.trans (below_of_grownBy hg S5.out.below.size LE.out), by rw [show parse l = none by simp [parse, preP, ht, h1, h2]]⟩
      | some x2 =>
        obtain ⟨W, l2⟩ := x2
        rintro e w6 ⟨hg, v2, rfl, hv2, hr⟩
        have S6 := Lib.hid (S5.out.next LE.out hBb hg hr)
        have V1 := Lib.hid (V1.out.read (by decide) S5.out.rd hg)
        have V2 := Lib.hid hv2
        have n6 := S6.out.nv.c0
        clear hg hr hv2 n5
        go_wp2_with fail
        refine (readAll_chan (w1.heap.size + 1) w1.heap.size b 75 #[.pointer (some ⟨w1.heap.size + 1, 0, none⟩)] (enters Try.func75 rfl rfl) l2 w6 S6.out.rd S6.out.rv S6.out.nv (fun W m h hq hp => rrow_chan _ _ b m W h hq hp)).mono ?_
        cases h3 : listP cw l2 with
        | none =>
          rintro e w7 ⟨hg, rfl⟩
          exact ⟨rfl, S6.out.below.trans (below_of_grownBy hg S6.out.below.size LE.out), by rw [show parse l = none by simp [parse, preP, ht, h1, h2, h3]]⟩
        | some x3 =>
          obtain ⟨H, l3⟩ := x3
          rintro e w7 ⟨hg, v3, rfl, hv3, hr⟩
          have S7 := Lib.hid (S6.out.next LE.out hBb hg hr)
          have V1 := Lib.hid (V1.out.read (by decide) S6.out.rd hg)
          have V2 := Lib.hid (V2.out.read (by decide) S6.out.rd hg)
          have V3 := Lib.hid hv3
          have q7 := S7.out.rv.c0
          clear hg hr hv3 n6
          go_wp2_with fail
          refine (left_ok b _ w7 S7.out.rd).mono ?_
          rintro e w8 ⟨rfl, rfl⟩
          rw [show (leftN (some l3) : Int) = (l3.length : Int) from rfl]
          by_cases hz : l3 = []
          · have PA : Hid (parse l = some (P, W, H)) := Lib.hid (by simp [parse, preP, ht, h1, h2, h3, hz])
            subst hz
            have c0 := S7.out.box.c0
            have c1 := S7.out.box.c1
            have c2 := S7.out.box.c2
            have f0 : w7.frozen? ⟨w.heap.size, 0, none⟩ = false := frozen_of_row w7 _ 0 _ _ S7.out.box
            have f1 : w7.frozen? ⟨w.heap.size, 1, none⟩ = false := frozen_of_row w7 _ 1 _ _ S7.out.box
            have f2 : w7.frozen? ⟨w.heap.size, 2, none⟩ = false := frozen_of_row w7 _ 2 _ _ S7.out.box
            obtain ⟨a1, n1, m1, rfl⟩ := V1.out.isSlice
            obtain ⟨a2, n2, m2, rfl⟩ := V2.out.isSlice
            obtain ⟨a3, n3, m3, rfl⟩ := V3.out.isSlice
            go_wp2_with fail
            refine (must_yes _ _).mono ?_
            rintro e w8 ⟨rfl, rfl⟩
            go_wp2
            obtain ⟨hX, hG⟩ := S7.out.box.put (.slice a1 n1 m1) (.slice a2 n2 m2) (.slice a3 n3 m3)
            have V1 := Lib.hid (V1.out.box (by decide) S7.out.box hG)
            have V2 := Lib.hid (V2.out.box (by decide) S7.out.box hG)
            have V3 := Lib.hid (V3.out.box (by decide) S7.out.box hG)
            have K8 := Lib.hid (S7.out.below.trans (below_of_grownBy hG S7.out.below.size (Nat.le_refl _)))
            generalize ((w7.setCell ⟨w.heap.size, 0, none⟩ (.slice a1 n1 m1)).setCell ⟨w.heap.size, 1, none⟩ (.slice a2 n2 m2)).setCell ⟨w.heap.size, 2, none⟩ (.slice a3 n3 m3) = w8 at *
            have d0 := hX.c0
            have d1 := hX.c1
            have d2 := hX.c2
            refine ⟨rfl, .agg #[.slice a1 n1 m1, .slice a2 n2 m2, .slice a3 n3 m3], ?_, K8.out, ?_⟩
            · simp [results, Try.results37, go_sem, d0, d1, d2]
            · rw [PA.out]
              exact ⟨_, _, _, rfl, V1.out, V2.out, V3.out⟩
          · have hd : ((l3.length : Int) == 0) = false := by
              have : l3.length ≠ 0 := fun e => hz (List.eq_nil_of_length_eq_zero e)
              simp; omega
            go_wp2_with fail
            refine (must_no _ _).mono ?_
            rintro e w8 ⟨rfl, rfl⟩
            exact ⟨rfl, S7.out.below, by rw [show parse l = none by simp [parse, preP, ht, h1, h2, h3, hz]]⟩

/-- What Get answers. -/
def getE (l : List UInt8) : Int := match parse l with | none => 6 | some C => chk C
def getC (l : List UInt8) : Cf := match parse l with | none => ([], [], []) | some C => if chk C = 0 then C else ([], [], [])
theorem CfAt.nil (w : World) : CfAt w (.slice none 0 0) (.slice none 0 0) (.slice none 0 0) ([], [], []) := ⟨RowsAt.nil _ _, RowsAt.nil _ _, RowsAt.nil _ _⟩
theorem CfAt.box {B : Nat} {w w' : World} {v1 v2 v3 u1 u2 u3 : Value} {C D : Cf} (h : CfAt w v1 v2 v3 C) (k : CfAt w u1 u2 u3 D) (hx : CBox w B u1 u2 u3) (hg : w.grownBy w' (some B)) : CfAt w' v1 v2 v3 C := by
  obtain ⟨a1, n1, m1, rfl⟩ := k.ps.isSlice
  obtain ⟨a2, n2, m2, rfl⟩ := k.ws.isSlice
  obtain ⟨a3, n3, m3, rfl⟩ := k.hs.isSlice
  exact ⟨h.ps.box (by decide) hx hg, h.ws.box (by decide) hx hg, h.hs.box (by decide) hx hg⟩
theorem CfAt.one {B : Nat} {w w' : World} {v1 v2 v3 x : Value} {t : TypeId} {C : Cf} (h : CfAt w v1 v2 v3 C) (hx : w.heap[B]? = some (.cells #[x] t (0, 0))) (hg : w.grownBy w' (some B)) : CfAt w' v1 v2 v3 C := by
  have hcs : ∀ (i : Nat) (x' y : Int), (#[x] : Array Value)[i]? = some (.int .i64 x') → (#[x] : Array Value)[i + 1]? ≠ some (.int .i64 y) := fun i x' y _ => by simp
  exact ⟨h.ps.other (by decide) hx hcs hg, h.ws.other (by decide) hx hcs hg, h.hs.other (by decide) hx hcs hg⟩
/-- What is done in Get leaves. -/
def GetPost (w : World) (q : Nat) (l : List UInt8) (e : Ending) (w' : World) : Prop := e = endN (getE l) ∧ w.grownBy w' (some q) ∧ ∃ v1 v2 v3, CBox w' q v1 v2 v3 ∧ CfAt w' v1 v2 v3 (getC l)
set_option maxHeartbeats 1000000 in
theorem get1_ok (b q : Nat) (l : List UInt8) (hl : l.length ≤ maxLen) (w : World) (hs : StrAt w b l) (hx : CBox w q (.slice none 0 0) (.slice none 0 0) (.slice none 0 0)) : Calls Try.prog 36 #[.pointer (some ⟨b, 0, none⟩), .pointer (some ⟨q, 0, none⟩)] w (GetPost w q l) := by
  have s0 : w.cell? ⟨b, 0, none⟩ = some (strV l) := by rw [cell_of_row w _ _ _ _ _ hs]; rfl
  have X := Lib.hid hx
  clear hs hx
  go_enter Try.func36, Try.ntmps36
  go_wp2_with fail
  refine (read_conf l hl w).mono ?_
  rintro e w1 ⟨hb, he⟩
  cases hp : parse l with
  | none =>
    rw [hp] at he
    subst he
    have eE : getE l = 6 := by unfold getE; rw [hp]
    have eC : getC l = ([], [], []) := by unfold getC; rw [hp]
    exact ⟨rfl, by rw [eE]; rfl, grownBy_of_below hb _, _, _, _, below_block hb X.out, by rw [eC]; exact CfAt.nil _⟩
  | some C =>
    rw [hp] at he
    obtain ⟨v1, v2, v3, rfl, hC⟩ := he
    have eE : getE l = chk C := by unfold getE; rw [hp]
    have EE := Lib.hid eE
    have HC := Lib.hid hC
    have K1 := Lib.hid hb
    have PP := Lib.hid hp
    obtain ⟨a1, n1, m1, rfl⟩ := hC.ps.isSlice
    obtain ⟨a2, n2, m2, rfl⟩ := hC.ws.isSlice
    obtain ⟨a3, n3, m3, rfl⟩ := hC.hs.isSlice
    clear hb hp hC eE
    go_wp2_with fail
    obtain ⟨w2, hw2⟩ : ∃ w2, w2 = w1.alloc (.cells #[.slice a1 n1 m1, .slice a2 n2 m2, .slice a3 n3 m3] 26) := ⟨_, rfl⟩
    have A2 : Hid (Below w1.heap.size w1 w2) := Lib.hid (by rw [hw2]; exact (Below.refl _ _).alloc (Nat.le_refl _) _)
    have X2 : Hid (CBox w2 w1.heap.size (.slice a1 n1 m1) (.slice a2 n2 m2) (.slice a3 n3 m3)) := Lib.hid (by rw [hw2]; exact CBox.new w1 _ _ _)
    have K2 := Lib.hid (K1.out.trans (A2.out.mono K1.out.size))
    rw [← hw2]
    clear hw2
    refine (askWhole_ok _ _ _ C w2 (HC.out.below A2.out)).mono ?_
    rintro e w3 ⟨rfl, hb⟩
    have K3 := Lib.hid (K2.out.trans (hb.mono K2.out.size))
    have C3 := Lib.hid ((HC.out.below A2.out).below hb)
    have X3 := Lib.hid (X2.out.below hb)
    have Y3 := Lib.hid (X.out.below K3.out)
    clear hb
    by_cases hk : chk C = 0
    · rw [hk, show endN 0 = okRet from rfl]
      have eC : getC l = C := by unfold getC; rw [PP.out]; simp [hk]
      have EC := Lib.hid eC
      have EK := Lib.hid hk
      clear hk eC
      have c0 := X3.out.c0
      have c1 := X3.out.c1
      have c2 := X3.out.c2
      have d0 := Y3.out.c0
      have d1 := Y3.out.c1
      have d2 := Y3.out.c2
      have f0 : w3.frozen? ⟨q, 0, none⟩ = false := frozen_of_row w3 _ 0 _ _ Y3.out
      have f1 : w3.frozen? ⟨q, 1, none⟩ = false := frozen_of_row w3 _ 1 _ _ Y3.out
      have f2 : w3.frozen? ⟨q, 2, none⟩ = false := frozen_of_row w3 _ 2 _ _ Y3.out
      obtain ⟨hX, hG⟩ := Y3.out.put (.slice a1 n1 m1) (.slice a2 n2 m2) (.slice a3 n3 m3)
      have HX := Lib.hid hX
      have HG := Lib.hid hG
      clear hX hG
      go_wp2
      go_end0
      exact ⟨by rw [EE.out, EK.out]; rfl, grownBy_trans (grownBy_of_below K3.out _) HG.out, _, _, _, HX.out, by rw [EC.out]; exact C3.out.box (CfAt.nil _) Y3.out HG.out⟩
    · have e : endN (chk C) = badE (chk C) := by simp [endN, hk]
      have eC : getC l = ([], [], []) := by unfold getC; rw [PP.out]; simp [hk]
      rw [e]
      exact ⟨rfl, by rw [EE.out]; exact e.symm, grownBy_of_below K3.out _, _, _, _, Y3.out, by rw [eC]; exact CfAt.nil _⟩
/-- What Get leaves. -/
def GotConf (w : World) (l : List UInt8) (e : Ending) (w' : World) : Prop := ∃ v1 v2 v3, e = .returned (.tuple #[.agg #[v1, v2, v3], .int .i64 (getE l)]) ∧ CfAt w' v1 v2 v3 (getC l) ∧ Below w.heap.size w w'
set_option maxHeartbeats 1000000 in
theorem get_conf (l : List UInt8) (hl : l.length ≤ maxLen) (w : World) : Calls Try.prog 19 #[strV l] w (GotConf w l) := by
  have hmf : ∀ (fn : Fn) (first cap : Array Value) (w : World), (Instr.makeFunc fn first cap).run Try.prog w = .ok (.func fn first cap) w := fun _ _ _ _ => rfl
  obtain ⟨w1, hw1⟩ : ∃ w1, w1 = (w.alloc (.cells #[strV l] 9)).alloc (.cells #[.slice none 0 0, .slice none 0 0, .slice none 0 0] 26) := ⟨_, rfl⟩
  have hb1 : Below w.heap.size w w1 := by rw [hw1]; exact below_two w _ _
  have HS : StrAt w1 w.heap.size l := by rw [hw1]; exact below_block ((Below.refl _ _).alloc (Nat.le_refl _) _) (heap_alloc_new w _)
  have HQ : CBox w1 (w.heap.size + 1) (.slice none 0 0) (.slice none 0 0) (.slice none 0 0) := by rw [hw1]; exact heap_alloc2_new w _ _
  have hsz : w1.heap.size = w.heap.size + 2 := by rw [hw1]; simp
  have hA : Below w1.heap.size w1 (w1.alloc (.cells #[.int .i64 0] 29)) := (Below.refl _ _).alloc (Nat.le_refl _) _
  obtain ⟨w2, hw2⟩ : ∃ w2, w2 = w1.alloc (.cells #[.int .i64 0] 29) := ⟨_, rfl⟩
  have hE : w2.heap[w1.heap.size]? = some (.cells #[.int .i64 0] 29 (0, 0)) := by rw [hw2]; exact heap_alloc_new w1 _
  have hdo := get1_ok w.heap.size (w.heap.size + 1) l hl (w1.alloc (.cells #[.int .i64 0] 29)) (below_block hA HS) (HQ.below hA)
  rw [← hw2] at hA hdo
  have hcaught := caught_ok 36 #[.pointer (some ⟨w.heap.size, 0, none⟩), .pointer (some ⟨w.heap.size + 1, 0, none⟩)] (enters Try.func36 rfl rfl) (getE l) w1 (fun w' => w2.grownBy w' (some (w.heap.size + 1)) ∧ ∃ v1 v2 v3, CBox w' (w.heap.size + 1) v1 v2 v3 ∧ CfAt w' v1 v2 v3 (getC l)) (by rw [← hw2]; exact hdo)
    (fun w' hw => ⟨0, (hw.1.block w1.heap.size (lt_of_block hE) (fun e => by have := Option.some.inj e; omega)).trans hE⟩)
  have HCC := Lib.hid hcaught
  have B1 := Lib.hid hb1
  have A1 := Lib.hid hA
  have HE := Lib.hid hE
  clear hdo hcaught hA hb1 HS HQ hE hw2
  go_enter Try.func19, Try.ntmps19
  go_wp2_with fail
  rw [← hw1]
  clear hw1
  refine HCC.out.mono ?_
  rintro e w4 ⟨rfl, w3, ⟨hg, v1, v2, v3, hx, hC⟩, rfl⟩
  have K := Lib.hid (below_setNew (x := .int .i64 (getE l)) (b := w1.heap.size) (((B1.out.trans (A1.out.mono B1.out.size)).trans (below_of_grownBy hg (Nat.le_trans B1.out.size A1.out.size) (by omega)))) B1.out.size)
  have hE3 : w3.heap[w1.heap.size]? = some (.cells #[.int .i64 0] 29 (0, 0)) := (hg.block w1.heap.size (lt_of_block HE.out) (fun e => by have := Option.some.inj e; omega)).trans HE.out
  have hX5 : CBox (w3.setCell ⟨w1.heap.size, 0, none⟩ (.int .i64 (getE l))) (w.heap.size + 1) v1 v2 v3 := by
    unfold CBox
    rw [Below.heap_setCell _ _ _ _ (by simp only; omega)]; exact hx
  have hC5 := hC.one hE3 (grownBy_setCell w3 w1.heap.size 0 (.int .i64 (getE l)))
  generalize w3.setCell ⟨w1.heap.size, 0, none⟩ (.int .i64 (getE l)) = w5 at *
  have X5 := Lib.hid hX5
  have C5 := Lib.hid hC5
  obtain ⟨a1, n1, m1, rfl⟩ := hC5.ps.isSlice
  obtain ⟨a2, n2, m2, rfl⟩ := hC5.ws.isSlice
  obtain ⟨a3, n3, m3, rfl⟩ := hC5.hs.isSlice
  have d0 := hX5.c0
  have d1 := hX5.c1
  have d2 := hX5.c2
  have f0 : w5.frozen? ⟨w.heap.size + 1, 0, none⟩ = false := frozen_of_row w5 _ 0 _ _ hX5
  have f1 : w5.frozen? ⟨w.heap.size + 1, 1, none⟩ = false := frozen_of_row w5 _ 1 _ _ hX5
  have f2 : w5.frozen? ⟨w.heap.size + 1, 2, none⟩ = false := frozen_of_row w5 _ 2 _ _ hX5
  obtain ⟨hX, hG⟩ := hX5.put (.slice a1 n1 m1) (.slice a2 n2 m2) (.slice a3 n3 m3)
  have HX := Lib.hid hX
  have HG := Lib.hid hG
  clear hg hx hC hE3 hX5 hC5 hX hG
  go_wp2
  have c0 := HX.out.c0
  have c1 := HX.out.c1
  have c2 := HX.out.c2
  refine ⟨rfl, .tuple #[.agg #[.slice a1 n1 m1, .slice a2 n2 m2, .slice a3 n3 m3], .int .i64 (getE l)], ?_, _, _, _, rfl, C5.out.box C5.out X5.out HG.out, K.out.trans (below_of_grownBy HG.out K.out.size (Nat.le_succ _))⟩
  simp [results, Try.results19, go_sem, c0, c1, c2]
end Go.Proofs.Ytpgoddbijkolbaa
