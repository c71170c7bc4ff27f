/- The walk of ConfBack. Condition: the configurations lie as they came in. Written by gen/gen_c23.py. -/
import Derived.Test.YtpgoddbijkolbaaC22
namespace Go.Proofs.Ytpgoddbijkolbaa
open Go.RowKit
set_option maxRecDepth 100000

theorem eq_bytes {C D : Cf} (hC : fitsC C) (hD : fitsC D) : (encC C == encC D) = decide (C = D) := by
  by_cases h : C = D
  · subst h; simp
  · have : encC C ≠ encC D := fun e => h (encC_inj (m := []) (k := []) hC hD (by rw [e])).1
    simp [h, this]
set_option maxHeartbeats 2000000 in
theorem confBack_long (v : Value) (A : Cf) (u : Value) (B : Cf) (s : ByteArray) (W : World) (hA : ConfIn W v A) (hB : ConfIn W u B) (hs : s.size ≤ maxLen) (h : longC A ∨ (¬ longC A ∧ longC B) ∨ (¬ longC A ∧ ¬ longC B ∧ 2000 < s.size)) : Calls Try.prog 5 #[v, u, .string s] W fun e w' => e = .returned (.bool true) ∧ Below W.heap.size W w' := by
  unfold maxLen at hs
  obtain ⟨aa1, na1, ma1, aa2, na2, ma2, aa3, na3, ma3, rfl⟩ := hA.slices
  obtain ⟨ab1, nb1, mb1, ab2, nb2, mb2, ab3, nb3, mb3, rfl⟩ := hB.slices
  obtain ⟨w1, hw1⟩ : ∃ w1, w1 = (W.alloc (.cells #[.slice aa1 na1 ma1, .slice aa2 na2 ma2, .slice aa3 na3 ma3] 26)).alloc (.cells #[.slice ab1 nb1 mb1, .slice ab2 nb2 mb2, .slice ab3 nb3 mb3] 26) := ⟨_, rfl⟩
  have hb1 : Below W.heap.size W w1 := by rw [hw1]; exact below_two W _ _
  have K := Lib.hid hb1
  have IA := Lib.hid (hA.below hb1)
  have IB := Lib.hid (hB.below hb1)
  have XB : Hid (CBox w1 (W.heap.size + 1) (.slice ab1 nb1 mb1) (.slice ab2 nb2 mb2) (.slice ab3 nb3 mb3)) := Lib.hid (by rw [hw1]; exact heap_alloc2_new W _ _)
  clear hA hB hb1
  rcases h with la | ⟨la, lb⟩ | ⟨la, lb, hs2⟩
  · have LA := Lib.hid (long_yes _ A w1 IA.out la)
    clear la
    go_enter Try.func5, Try.ntmps5
    go_wp2_with fail
    rw [← hw1]
    clear hw1
    refine LA.out.mono ?_
    rintro e w2 ⟨rfl, hb⟩
    have K2 := Lib.hid (K.out.trans (hb.mono K.out.size))
    clear hb
    go_wp2_with fail
    refine (awake_conf _).mono ?_
    rintro e w3 ⟨rfl, hb⟩
    have K3 := Lib.hid (K2.out.trans (hb.mono K2.out.size))
    clear hb
    go_wp2
    go_ret
    exact ⟨rfl, K3.out⟩
  · have LA := Lib.hid (long_no _ _ _ A w1 (IA.out.at_ la) la)
    clear la
    go_enter Try.func5, Try.ntmps5
    go_wp2_with fail
    rw [← hw1]
    clear hw1
    refine LA.out.mono ?_
    rintro e w2 ⟨rfl, hb⟩
    have K2 := Lib.hid (K.out.trans (hb.mono K.out.size))
    have LB := Lib.hid (long_yes _ B w2 (IB.out.below hb) lb)
    have XB2 := Lib.hid (XB.out.below hb)
    have y0 := XB2.out.c0
    have y1 := XB2.out.c1
    have y2 := XB2.out.c2
    clear hb lb
    go_wp2_with fail
    refine LB.out.mono ?_
    rintro e w3 ⟨rfl, hb⟩
    have K3 := Lib.hid (K2.out.trans (hb.mono K2.out.size))
    clear hb
    go_wp2_with fail
    refine (awake_conf _).mono ?_
    rintro e w4 ⟨rfl, hb⟩
    have K4 := Lib.hid (K3.out.trans (hb.mono K3.out.size))
    clear hb
    go_wp2
    go_ret
    exact ⟨rfl, K4.out⟩
  · have LA := Lib.hid (long_no _ _ _ A w1 (IA.out.at_ la) la)
    clear la
    have hs3 : (2000 : Int) < (s.size : Int) := by omega
    go_enter Try.func5, Try.ntmps5
    go_wp2_with fail
    rw [← hw1]
    clear hw1
    refine LA.out.mono ?_
    rintro e w2 ⟨rfl, hb⟩
    have K2 := Lib.hid (K.out.trans (hb.mono K.out.size))
    have LB := Lib.hid (long_no _ _ _ B w2 ((IB.out.below hb).at_ lb) lb)
    have XB2 := Lib.hid (XB.out.below hb)
    have y0 := XB2.out.c0
    have y1 := XB2.out.c1
    have y2 := XB2.out.c2
    clear hb lb
    go_wp2_with fail
    refine LB.out.mono ?_
    rintro e w3 ⟨rfl, hb⟩
    have K3 := Lib.hid (K2.out.trans (hb.mono K2.out.size))
    clear hb
    go_wp2_with fail
    refine (awake_conf _).mono ?_
    rintro e w4 ⟨rfl, hb⟩
    have K4 := Lib.hid (K3.out.trans (hb.mono K3.out.size))
    clear hb
    go_wp2
    go_ret
    exact ⟨rfl, K4.out⟩
/-- What the law needs of the lists, where the first one may be. -/
theorem back_facts {A : Cf} (hs : shape A) (h : chk A = 0) : putL A = encC A ∧ parse (encC A) = some A ∧ getE (encC A) = 0 ∧ getC (encC A) = A ∧ framesA A ≤ 1024 ∧ fitsC A := by
  have hf := mayB_fits hs (chk_zero h).1
  have hp := parse_enc A hf
  refine ⟨putL_yes h, hp, by unfold getE; rw [hp]; exact h, by unfold getC; rw [hp]; simp [h], ?_, hf⟩
  unfold framesA
  rw [if_pos (chk_zero h).1]
  exact (chk_zero h).2
theorem get_facts (t : List UInt8) (h : getE t = 0) : chk (getC t) = 0 ∧ putL (getC t) = t := by
  unfold getE at h
  cases hp : parse t with
  | none => rw [hp] at h; cases h
  | some D =>
    rw [hp] at h
    have h : chk D = 0 := h
    have e : getC t = D := by unfold getC; rw [hp]; simp [h]
    rw [e]
    exact ⟨h, by rw [putL_yes h]; exact (parse_some hp).1⟩
theorem putL_le {A : Cf} (hs : shape A) : (putL A).length ≤ maxLen := by
  by_cases h : chk A = 0
  · rw [putL_yes h]
    have hf := mayB_fits hs (chk_zero h).1
    have h1 := encL_len pw A.1 hf.1 (by decide)
    have h2 := encL_len ww A.2.1 hf.2.1 (by decide)
    have h3 := encL_len cw A.2.2 hf.2.2 (by decide)
    simp only [encC, List.length_append, maxLen]
    have : magic.length = 3 := rfl
    omega
  · rw [putL_no h]; simp [maxLen]

set_option maxHeartbeats 3000000 in
theorem confBack_in (A B : Cf) (aa1 aa2 aa3 ab1 ab2 ab3 : Option Addr) (na1 na2 na3 ma1 ma2 ma3 nb1 nb2 nb3 mb1 mb2 mb3 : Nat) (t : List UInt8) (ht : t.length ≤ 2000) (W : World) (hA : CfAt W (.slice aa1 na1 ma1) (.slice aa2 na2 ma2) (.slice aa3 na3 ma3) A) (hB : CfAt W (.slice ab1 nb1 mb1) (.slice ab2 nb2 mb2) (.slice ab3 nb3 mb3) B) (la0 : ¬ longC A) (lb0 : ¬ longC B) :
    Calls Try.prog 5 #[.agg #[.slice aa1 na1 ma1, .slice aa2 na2 ma2, .slice aa3 na3 ma3], .agg #[.slice ab1 nb1 mb1, .slice ab2 nb2 mb2, .slice ab3 nb3 mb3], strV t] W fun e w' => e = .returned (.bool true) ∧ Below W.heap.size W w' := by
  have hsz : (ByteArray.mk t.toArray).size = t.length := by simp [ByteArray.size]
  have ht2 : ¬ (2000 : Int) < (t.length : Int) := by omega
  obtain ⟨w1, hw1⟩ : ∃ w1, w1 = (W.alloc (.cells #[.slice aa1 na1 ma1, .slice aa2 na2 ma2, .slice aa3 na3 ma3] 26)).alloc (.cells #[.slice ab1 nb1 mb1, .slice ab2 nb2 mb2, .slice ab3 nb3 mb3] 26) := ⟨_, rfl⟩
  have hb1 : Below W.heap.size W w1 := by rw [hw1]; exact below_two W _ _
  have K := Lib.hid hb1
  have VA := Lib.hid (show VarAt w1 W.heap.size _ _ _ A from ⟨by rw [hw1]; exact (CBox.new W _ _ _).below ((Below.refl _ _).alloc (Nat.le_refl _) _), hA.below hb1⟩)
  have VB := Lib.hid (show VarAt w1 (W.heap.size + 1) _ _ _ B from ⟨by rw [hw1]; exact heap_alloc2_new W _ _, hB.below hb1⟩)
  have LA := Lib.hid (long_no _ _ _ A w1 VA.out.cf la0)
  have HLB := Lib.hid (show ∀ w, CfAt w (.slice ab1 nb1 mb1) (.slice ab2 nb2 mb2) (.slice ab3 nb3 mb3) B → Calls Try.prog 9 #[.agg #[.slice ab1 nb1 mb1, .slice ab2 nb2 mb2, .slice ab3 nb3 mb3]] w fun e w' => e = .returned (.bool false) ∧ Below w.heap.size w w' from fun w h => long_no _ _ _ B w h lb0)
  obtain ⟨la, hla⟩ : ∃ l, putL A = l := ⟨_, rfl⟩
  obtain ⟨lb, hlb⟩ : ∃ l, putL B = l := ⟨_, rfl⟩
  obtain ⟨ca, hca⟩ : ∃ c, chk A = c := ⟨_, rfl⟩
  obtain ⟨cb, hcb⟩ : ∃ c, chk B = c := ⟨_, rfl⟩
  obtain ⟨ea, hea⟩ : ∃ c, getE la = c := ⟨_, rfl⟩
  obtain ⟨G, hG⟩ : ∃ c, getC la = c := ⟨_, rfl⟩
  obtain ⟨D, hD⟩ : ∃ c, getC t = c := ⟨_, rfl⟩
  obtain ⟨et, het⟩ : ∃ c, getE t = c := ⟨_, rfl⟩
  obtain ⟨lz, hlz⟩ : ∃ l, putL D = l := ⟨_, rfl⟩
  obtain ⟨cz, hcz⟩ : ∃ c, chk D = c := ⟨_, rfl⟩
  obtain ⟨sg, hsg⟩ : ∃ b, decide (A = G) = b := ⟨_, rfl⟩
  obtain ⟨sb, hsb⟩ : ∃ b, decide (A = B) = b := ⟨_, rfl⟩
  obtain ⟨f, hf⟩ : ∃ f, framesA A = f := ⟨_, rfl⟩
  have LLA : Hid (la.length ≤ maxLen) := Lib.hid (by rw [← hla]; exact putL_le hA.shape)
  have hcA : (ca ≠ 0) ∨ (ca = 0 ∧ ea = 0 ∧ sg = true ∧ f ≤ 1024 ∧ (cb ≠ 0 ∨ (cb = 0 ∧ (la == lb) = sb))) := by
    by_cases h : ca = 0
    · right
      obtain ⟨h1, h2, h3, h4, h5, h6⟩ := back_facts hA.shape (hca.trans h)
      have e1 : la = encC A := by rw [← hla, h1]
      have e2 : G = A := by rw [← hG, e1, h4]
      refine ⟨h, by rw [← hea, e1, h3], by rw [← hsg, e2]; exact decide_eq_true rfl, by rw [← hf]; exact h5, ?_⟩
      by_cases hb : cb = 0
      · right
        obtain ⟨k1, -, -, -, -, k6⟩ := back_facts hB.shape (hcb.trans hb)
        exact ⟨hb, by rw [e1, ← hlb, k1, ← hsb]; exact eq_bytes h6 k6⟩
      · exact Or.inl hb
    · exact Or.inl h
  have hcT : (et ≠ 0) ∨ (et = 0 ∧ cz = 0 ∧ lz = t) := by
    by_cases h : et = 0
    · obtain ⟨h1, h2⟩ := get_facts t (het.trans h)
      exact Or.inr ⟨h, by rw [← hcz, ← hD]; exact h1, by rw [← hlz, ← hD]; exact h2⟩
    · exact Or.inl h
  have PLA := Lib.hid hla
  have PLB := Lib.hid hlb
  have PCA := Lib.hid hca
  have PCB := Lib.hid hcb
  have PEA := Lib.hid hea
  have PGA := Lib.hid hG
  have PGT := Lib.hid hD
  have PET := Lib.hid het
  have PLZ := Lib.hid hlz
  have PCZ := Lib.hid hcz
  have PSG := Lib.hid hsg
  have PSB := Lib.hid hsb
  have PF := Lib.hid hf
  have ett : (t == t) = true := by simp
  have esb : (sb == sb) = true := by simp
  have esn : (sb != sb) = false := by simp
  clear hA hB la0 lb0 hb1 hla hlb hca hcb hea hG hD het hlz hcz hsg hsb hf
  rcases hcA with hca | ⟨rfl, rfl, rfl, hf, hcB⟩
  · have hca1 : (ca == 0) = false := by simpa using hca
    have hca2 : (ca != 0) = true := by simpa using hca
    rcases hcT with het | ⟨rfl, rfl, rfl⟩
    rotate_left
    · have ett : (lz == lz) = true := by simp
      go_enter Try.func5, Try.ntmps5
      go_wp2_with fail
      rw [← hw1]
      clear hw1
      generalize W.heap.size + 1 = bb at *
      obtain ⟨ba, hba⟩ : ∃ ba, ba = W.heap.size := ⟨_, rfl⟩
      rw [← hba] at VA ⊢
      clear hba
      refine (LA.out).mono ?_
      rintro e w9 ⟨rfl, hb⟩
      have VA := Lib.hid (VA.out.below hb)
      have VB := Lib.hid (VB.out.below hb)
      have K := Lib.hid (K.out.trans (hb.mono K.out.size))
      clear hb
      have x0 := VA.out.box.c0
      have x1 := VA.out.box.c1
      have x2 := VA.out.box.c2
      have y0 := VB.out.box.c0
      have y1 := VB.out.box.c1
      have y2 := VB.out.box.c2
      go_wp2_with fail
      refine (HLB.out _ VB.out.cf).mono ?_
      rintro e w9 ⟨rfl, hb⟩
      have VA := Lib.hid (VA.out.below hb)
      have VB := Lib.hid (VB.out.below hb)
      have K := Lib.hid (K.out.trans (hb.mono K.out.size))
      clear hb
      have x0 := VA.out.box.c0
      have x1 := VA.out.box.c1
      have x2 := VA.out.box.c2
      have y0 := VB.out.box.c0
      have y1 := VB.out.box.c1
      have y2 := VB.out.box.c2
      go_wp2_with fail
      refine (put_is _ _ _ A _ _ PLA.out PCA.out _ VA.out.cf).mono ?_
      rintro e w9 ⟨rfl, hb⟩
      have VA := Lib.hid (VA.out.below hb)
      have VB := Lib.hid (VB.out.below hb)
      have K := Lib.hid (K.out.trans (hb.mono K.out.size))
      clear hb
      have x0 := VA.out.box.c0
      have x1 := VA.out.box.c1
      have x2 := VA.out.box.c2
      have y0 := VB.out.box.c0
      have y1 := VB.out.box.c1
      have y2 := VB.out.box.c2
      go_wp2_with fail
      refine (put_is _ _ _ B _ _ PLB.out PCB.out _ VB.out.cf).mono ?_
      rintro e w9 ⟨rfl, hb⟩
      have VA := Lib.hid (VA.out.below hb)
      have VB := Lib.hid (VB.out.below hb)
      have K := Lib.hid (K.out.trans (hb.mono K.out.size))
      clear hb
      have x0 := VA.out.box.c0
      have x1 := VA.out.box.c1
      have x2 := VA.out.box.c2
      have y0 := VB.out.box.c0
      have y1 := VB.out.box.c1
      have y2 := VB.out.box.c2
      go_wp2_with fail
      refine (get_conf _ LLA.out _).mono ?_
      rintro e w9 ⟨t1, t2, t3, rfl, hC, hb⟩
      rw [PEA.out]
      rw [PGA.out] at hC
      have VA := Lib.hid (VA.out.below hb)
      have VB := Lib.hid (VB.out.below hb)
      have K := Lib.hid (K.out.trans (hb.mono K.out.size))
      clear hb
      have x0 := VA.out.box.c0
      have x1 := VA.out.box.c1
      have x2 := VA.out.box.c2
      have y0 := VB.out.box.c0
      have y1 := VB.out.box.c1
      have y2 := VB.out.box.c2
      obtain ⟨ac1, nc1, mc1, rfl⟩ := hC.ps.isSlice
      obtain ⟨ac2, nc2, mc2, rfl⟩ := hC.ws.isSlice
      obtain ⟨ac3, nc3, mc3, rfl⟩ := hC.hs.isSlice
      have VC := Lib.hid (VarAt.new hC)
      have hb : Below w9.heap.size w9 (w9.alloc (.cells #[.slice ac1 nc1 mc1, .slice ac2 nc2 mc2, .slice ac3 nc3 mc3] 26)) := (Below.refl _ _).alloc (Nat.le_refl _) _
      have VA := Lib.hid (VA.out.below hb)
      have VB := Lib.hid (VB.out.below hb)
      have K := Lib.hid (K.out.trans (hb.mono K.out.size))
      clear hb
      have x0 := VA.out.box.c0
      have x1 := VA.out.box.c1
      have x2 := VA.out.box.c2
      have y0 := VB.out.box.c0
      have y1 := VB.out.box.c1
      have y2 := VB.out.box.c2
      have z0 := VC.out.box.c0
      have z1 := VC.out.box.c1
      have z2 := VC.out.box.c2
      clear hC
      go_wp2_with fail
      obtain ⟨bc, hbc⟩ : ∃ b, b = w9.heap.size := ⟨_, rfl⟩
      rw [← hbc] at VC z0 z1 z2 ⊢
      generalize w9.alloc (.cells #[.slice ac1 nc1 mc1, .slice ac2 nc2 mc2, .slice ac3 nc3 mc3] 26) = w9 at *
      clear hbc
      refine (get_conf _ (by unfold maxLen; omega) _).mono ?_
      rintro e w9 ⟨t1, t2, t3, rfl, hC, hb⟩
      rw [PET.out]
      rw [PGT.out] at hC
      have VA := Lib.hid (VA.out.below hb)
      have VB := Lib.hid (VB.out.below hb)
      have VC := Lib.hid (VC.out.below hb)
      have K := Lib.hid (K.out.trans (hb.mono K.out.size))
      clear hb
      have x0 := VA.out.box.c0
      have x1 := VA.out.box.c1
      have x2 := VA.out.box.c2
      have y0 := VB.out.box.c0
      have y1 := VB.out.box.c1
      have y2 := VB.out.box.c2
      have z0 := VC.out.box.c0
      have z1 := VC.out.box.c1
      have z2 := VC.out.box.c2
      obtain ⟨ad1, nd1, md1, rfl⟩ := hC.ps.isSlice
      obtain ⟨ad2, nd2, md2, rfl⟩ := hC.ws.isSlice
      obtain ⟨ad3, nd3, md3, rfl⟩ := hC.hs.isSlice
      have VD := Lib.hid (VarAt.new hC)
      have hb : Below w9.heap.size w9 (w9.alloc (.cells #[.slice ad1 nd1 md1, .slice ad2 nd2 md2, .slice ad3 nd3 md3] 26)) := (Below.refl _ _).alloc (Nat.le_refl _) _
      have VA := Lib.hid (VA.out.below hb)
      have VB := Lib.hid (VB.out.below hb)
      have VC := Lib.hid (VC.out.below hb)
      have K := Lib.hid (K.out.trans (hb.mono K.out.size))
      clear hb
      have x0 := VA.out.box.c0
      have x1 := VA.out.box.c1
      have x2 := VA.out.box.c2
      have y0 := VB.out.box.c0
      have y1 := VB.out.box.c1
      have y2 := VB.out.box.c2
      have z0 := VC.out.box.c0
      have z1 := VC.out.box.c1
      have z2 := VC.out.box.c2
      have q0 := VD.out.box.c0
      have q1 := VD.out.box.c1
      have q2 := VD.out.box.c2
      clear hC
      go_wp2_with fail
      obtain ⟨bd, hbd⟩ : ∃ b, b = w9.heap.size := ⟨_, rfl⟩
      rw [← hbd] at VD q0 q1 q2 ⊢
      generalize w9.alloc (.cells #[.slice ad1 nd1 md1, .slice ad2 nd2 md2, .slice ad3 nd3 md3] 26) = w9 at *
      clear hbd
      refine (put_is _ _ _ D _ _ PLZ.out PCZ.out _ VD.out.cf).mono ?_
      rintro e w9 ⟨rfl, hb⟩
      have VA := Lib.hid (VA.out.below hb)
      have VB := Lib.hid (VB.out.below hb)
      have VC := Lib.hid (VC.out.below hb)
      have VD := Lib.hid (VD.out.below hb)
      have K := Lib.hid (K.out.trans (hb.mono K.out.size))
      clear hb
      have x0 := VA.out.box.c0
      have x1 := VA.out.box.c1
      have x2 := VA.out.box.c2
      have y0 := VB.out.box.c0
      have y1 := VB.out.box.c1
      have y2 := VB.out.box.c2
      have z0 := VC.out.box.c0
      have z1 := VC.out.box.c1
      have z2 := VC.out.box.c2
      have q0 := VD.out.box.c0
      have q1 := VD.out.box.c1
      have q2 := VD.out.box.c2
      go_wp2_with fail
      refine (awake_conf _).mono ?_
      rintro e w9 ⟨rfl, hb⟩
      have K := Lib.hid (K.out.trans (hb.mono K.out.size))
      clear hb
      go_wp2
      go_ret
      exact ⟨rfl, K.out⟩
    · have het1 : (et == 0) = false := by simpa using het
      have het2 : (et != 0) = true := by simpa using het
      go_enter Try.func5, Try.ntmps5
      go_wp2_with fail
      rw [← hw1]
      clear hw1
      generalize W.heap.size + 1 = bb at *
      obtain ⟨ba, hba⟩ : ∃ ba, ba = W.heap.size := ⟨_, rfl⟩
      rw [← hba] at VA ⊢
      clear hba
      refine (LA.out).mono ?_
      rintro e w9 ⟨rfl, hb⟩
      have VA := Lib.hid (VA.out.below hb)
      have VB := Lib.hid (VB.out.below hb)
      have K := Lib.hid (K.out.trans (hb.mono K.out.size))
      clear hb
      have x0 := VA.out.box.c0
      have x1 := VA.out.box.c1
      have x2 := VA.out.box.c2
      have y0 := VB.out.box.c0
      have y1 := VB.out.box.c1
      have y2 := VB.out.box.c2
      go_wp2_with fail
      refine (HLB.out _ VB.out.cf).mono ?_
      rintro e w9 ⟨rfl, hb⟩
      have VA := Lib.hid (VA.out.below hb)
      have VB := Lib.hid (VB.out.below hb)
      have K := Lib.hid (K.out.trans (hb.mono K.out.size))
      clear hb
      have x0 := VA.out.box.c0
      have x1 := VA.out.box.c1
      have x2 := VA.out.box.c2
      have y0 := VB.out.box.c0
      have y1 := VB.out.box.c1
      have y2 := VB.out.box.c2
      go_wp2_with fail
      refine (put_is _ _ _ A _ _ PLA.out PCA.out _ VA.out.cf).mono ?_
      rintro e w9 ⟨rfl, hb⟩
      have VA := Lib.hid (VA.out.below hb)
      have VB := Lib.hid (VB.out.below hb)
      have K := Lib.hid (K.out.trans (hb.mono K.out.size))
      clear hb
      have x0 := VA.out.box.c0
      have x1 := VA.out.box.c1
      have x2 := VA.out.box.c2
      have y0 := VB.out.box.c0
      have y1 := VB.out.box.c1
      have y2 := VB.out.box.c2
      go_wp2_with fail
      refine (put_is _ _ _ B _ _ PLB.out PCB.out _ VB.out.cf).mono ?_
      rintro e w9 ⟨rfl, hb⟩
      have VA := Lib.hid (VA.out.below hb)
      have VB := Lib.hid (VB.out.below hb)
      have K := Lib.hid (K.out.trans (hb.mono K.out.size))
      clear hb
      have x0 := VA.out.box.c0
      have x1 := VA.out.box.c1
      have x2 := VA.out.box.c2
      have y0 := VB.out.box.c0
      have y1 := VB.out.box.c1
      have y2 := VB.out.box.c2
      go_wp2_with fail
      refine (get_conf _ LLA.out _).mono ?_
      rintro e w9 ⟨t1, t2, t3, rfl, hC, hb⟩
      rw [PEA.out]
      rw [PGA.out] at hC
      have VA := Lib.hid (VA.out.below hb)
      have VB := Lib.hid (VB.out.below hb)
      have K := Lib.hid (K.out.trans (hb.mono K.out.size))
      clear hb
      have x0 := VA.out.box.c0
      have x1 := VA.out.box.c1
      have x2 := VA.out.box.c2
      have y0 := VB.out.box.c0
      have y1 := VB.out.box.c1
      have y2 := VB.out.box.c2
      obtain ⟨ac1, nc1, mc1, rfl⟩ := hC.ps.isSlice
      obtain ⟨ac2, nc2, mc2, rfl⟩ := hC.ws.isSlice
      obtain ⟨ac3, nc3, mc3, rfl⟩ := hC.hs.isSlice
      have VC := Lib.hid (VarAt.new hC)
      have hb : Below w9.heap.size w9 (w9.alloc (.cells #[.slice ac1 nc1 mc1, .slice ac2 nc2 mc2, .slice ac3 nc3 mc3] 26)) := (Below.refl _ _).alloc (Nat.le_refl _) _
      have VA := Lib.hid (VA.out.below hb)
      have VB := Lib.hid (VB.out.below hb)
      have K := Lib.hid (K.out.trans (hb.mono K.out.size))
      clear hb
      have x0 := VA.out.box.c0
      have x1 := VA.out.box.c1
      have x2 := VA.out.box.c2
      have y0 := VB.out.box.c0
      have y1 := VB.out.box.c1
      have y2 := VB.out.box.c2
      have z0 := VC.out.box.c0
      have z1 := VC.out.box.c1
      have z2 := VC.out.box.c2
      clear hC
      go_wp2_with fail
      obtain ⟨bc, hbc⟩ : ∃ b, b = w9.heap.size := ⟨_, rfl⟩
      rw [← hbc] at VC z0 z1 z2 ⊢
      generalize w9.alloc (.cells #[.slice ac1 nc1 mc1, .slice ac2 nc2 mc2, .slice ac3 nc3 mc3] 26) = w9 at *
      clear hbc
      refine (get_conf _ (by unfold maxLen; omega) _).mono ?_
      rintro e w9 ⟨t1, t2, t3, rfl, hC, hb⟩
      rw [PET.out]
      rw [PGT.out] at hC
      have VA := Lib.hid (VA.out.below hb)
      have VB := Lib.hid (VB.out.below hb)
      have VC := Lib.hid (VC.out.below hb)
      have K := Lib.hid (K.out.trans (hb.mono K.out.size))
      clear hb
      have x0 := VA.out.box.c0
      have x1 := VA.out.box.c1
      have x2 := VA.out.box.c2
      have y0 := VB.out.box.c0
      have y1 := VB.out.box.c1
      have y2 := VB.out.box.c2
      have z0 := VC.out.box.c0
      have z1 := VC.out.box.c1
      have z2 := VC.out.box.c2
      obtain ⟨ad1, nd1, md1, rfl⟩ := hC.ps.isSlice
      obtain ⟨ad2, nd2, md2, rfl⟩ := hC.ws.isSlice
      obtain ⟨ad3, nd3, md3, rfl⟩ := hC.hs.isSlice
      have VD := Lib.hid (VarAt.new hC)
      have hb : Below w9.heap.size w9 (w9.alloc (.cells #[.slice ad1 nd1 md1, .slice ad2 nd2 md2, .slice ad3 nd3 md3] 26)) := (Below.refl _ _).alloc (Nat.le_refl _) _
      have VA := Lib.hid (VA.out.below hb)
      have VB := Lib.hid (VB.out.below hb)
      have VC := Lib.hid (VC.out.below hb)
      have K := Lib.hid (K.out.trans (hb.mono K.out.size))
      clear hb
      have x0 := VA.out.box.c0
      have x1 := VA.out.box.c1
      have x2 := VA.out.box.c2
      have y0 := VB.out.box.c0
      have y1 := VB.out.box.c1
      have y2 := VB.out.box.c2
      have z0 := VC.out.box.c0
      have z1 := VC.out.box.c1
      have z2 := VC.out.box.c2
      have q0 := VD.out.box.c0
      have q1 := VD.out.box.c1
      have q2 := VD.out.box.c2
      clear hC
      go_wp2_with fail
      obtain ⟨bd, hbd⟩ : ∃ b, b = w9.heap.size := ⟨_, rfl⟩
      rw [← hbd] at VD q0 q1 q2 ⊢
      generalize w9.alloc (.cells #[.slice ad1 nd1 md1, .slice ad2 nd2 md2, .slice ad3 nd3 md3] 26) = w9 at *
      clear hbd
      refine (put_is _ _ _ D _ _ PLZ.out PCZ.out _ VD.out.cf).mono ?_
      rintro e w9 ⟨rfl, hb⟩
      have VA := Lib.hid (VA.out.below hb)
      have VB := Lib.hid (VB.out.below hb)
      have VC := Lib.hid (VC.out.below hb)
      have VD := Lib.hid (VD.out.below hb)
      have K := Lib.hid (K.out.trans (hb.mono K.out.size))
      clear hb
      have x0 := VA.out.box.c0
      have x1 := VA.out.box.c1
      have x2 := VA.out.box.c2
      have y0 := VB.out.box.c0
      have y1 := VB.out.box.c1
      have y2 := VB.out.box.c2
      have z0 := VC.out.box.c0
      have z1 := VC.out.box.c1
      have z2 := VC.out.box.c2
      have q0 := VD.out.box.c0
      have q1 := VD.out.box.c1
      have q2 := VD.out.box.c2
      go_wp2_with fail
      refine (awake_conf _).mono ?_
      rintro e w9 ⟨rfl, hb⟩
      have K := Lib.hid (K.out.trans (hb.mono K.out.size))
      clear hb
      go_wp2
      go_ret
      exact ⟨rfl, K.out⟩
  · rcases hcB with hcb | ⟨rfl, hlab⟩
    · have hcb1 : (cb == 0) = false := by simpa using hcb
      have hcb2 : (cb != 0) = true := by simpa using hcb
      rcases hcT with het | ⟨rfl, rfl, rfl⟩
      rotate_left
      · have ett : (lz == lz) = true := by simp
        go_enter Try.func5, Try.ntmps5
        go_wp2_with fail
        rw [← hw1]
        clear hw1
        generalize W.heap.size + 1 = bb at *
        obtain ⟨ba, hba⟩ : ∃ ba, ba = W.heap.size := ⟨_, rfl⟩
        rw [← hba] at VA ⊢
        clear hba
        refine (LA.out).mono ?_
        rintro e w9 ⟨rfl, hb⟩
        have VA := Lib.hid (VA.out.below hb)
        have VB := Lib.hid (VB.out.below hb)
        have K := Lib.hid (K.out.trans (hb.mono K.out.size))
        clear hb
        have x0 := VA.out.box.c0
        have x1 := VA.out.box.c1
        have x2 := VA.out.box.c2
        have y0 := VB.out.box.c0
        have y1 := VB.out.box.c1
        have y2 := VB.out.box.c2
        go_wp2_with fail
        refine (HLB.out _ VB.out.cf).mono ?_
        rintro e w9 ⟨rfl, hb⟩
        have VA := Lib.hid (VA.out.below hb)
        have VB := Lib.hid (VB.out.below hb)
        have K := Lib.hid (K.out.trans (hb.mono K.out.size))
        clear hb
        have x0 := VA.out.box.c0
        have x1 := VA.out.box.c1
        have x2 := VA.out.box.c2
        have y0 := VB.out.box.c0
        have y1 := VB.out.box.c1
        have y2 := VB.out.box.c2
        go_wp2_with fail
        refine (put_is _ _ _ A _ _ PLA.out PCA.out _ VA.out.cf).mono ?_
        rintro e w9 ⟨rfl, hb⟩
        have VA := Lib.hid (VA.out.below hb)
        have VB := Lib.hid (VB.out.below hb)
        have K := Lib.hid (K.out.trans (hb.mono K.out.size))
        clear hb
        have x0 := VA.out.box.c0
        have x1 := VA.out.box.c1
        have x2 := VA.out.box.c2
        have y0 := VB.out.box.c0
        have y1 := VB.out.box.c1
        have y2 := VB.out.box.c2
        go_wp2_with fail
        refine (put_is _ _ _ B _ _ PLB.out PCB.out _ VB.out.cf).mono ?_
        rintro e w9 ⟨rfl, hb⟩
        have VA := Lib.hid (VA.out.below hb)
        have VB := Lib.hid (VB.out.below hb)
        have K := Lib.hid (K.out.trans (hb.mono K.out.size))
        clear hb
        have x0 := VA.out.box.c0
        have x1 := VA.out.box.c1
        have x2 := VA.out.box.c2
        have y0 := VB.out.box.c0
        have y1 := VB.out.box.c1
        have y2 := VB.out.box.c2
        go_wp2_with fail
        refine (get_conf _ LLA.out _).mono ?_
        rintro e w9 ⟨t1, t2, t3, rfl, hC, hb⟩
        rw [PEA.out]
        rw [PGA.out] at hC
        have VA := Lib.hid (VA.out.below hb)
        have VB := Lib.hid (VB.out.below hb)
        have K := Lib.hid (K.out.trans (hb.mono K.out.size))
        clear hb
        have x0 := VA.out.box.c0
        have x1 := VA.out.box.c1
        have x2 := VA.out.box.c2
        have y0 := VB.out.box.c0
        have y1 := VB.out.box.c1
        have y2 := VB.out.box.c2
        obtain ⟨ac1, nc1, mc1, rfl⟩ := hC.ps.isSlice
        obtain ⟨ac2, nc2, mc2, rfl⟩ := hC.ws.isSlice
        obtain ⟨ac3, nc3, mc3, rfl⟩ := hC.hs.isSlice
        have VC := Lib.hid (VarAt.new hC)
        have hb : Below w9.heap.size w9 (w9.alloc (.cells #[.slice ac1 nc1 mc1, .slice ac2 nc2 mc2, .slice ac3 nc3 mc3] 26)) := (Below.refl _ _).alloc (Nat.le_refl _) _
        have VA := Lib.hid (VA.out.below hb)
        have VB := Lib.hid (VB.out.below hb)
        have K := Lib.hid (K.out.trans (hb.mono K.out.size))
        clear hb
        have x0 := VA.out.box.c0
        have x1 := VA.out.box.c1
        have x2 := VA.out.box.c2
        have y0 := VB.out.box.c0
        have y1 := VB.out.box.c1
        have y2 := VB.out.box.c2
        have z0 := VC.out.box.c0
        have z1 := VC.out.box.c1
        have z2 := VC.out.box.c2
        clear hC
        go_wp2_with fail
        obtain ⟨bc, hbc⟩ : ∃ b, b = w9.heap.size := ⟨_, rfl⟩
        rw [← hbc] at VC z0 z1 z2 ⊢
        generalize w9.alloc (.cells #[.slice ac1 nc1 mc1, .slice ac2 nc2 mc2, .slice ac3 nc3 mc3] 26) = w9 at *
        clear hbc
        refine (same_is _ _ _ _ _ _ A G true PSG.out _ VA.out.cf VC.out.cf).mono ?_
        rintro e w9 ⟨rfl, hb⟩
        have VA := Lib.hid (VA.out.below hb)
        have VB := Lib.hid (VB.out.below hb)
        have VC := Lib.hid (VC.out.below hb)
        have K := Lib.hid (K.out.trans (hb.mono K.out.size))
        clear hb
        have x0 := VA.out.box.c0
        have x1 := VA.out.box.c1
        have x2 := VA.out.box.c2
        have y0 := VB.out.box.c0
        have y1 := VB.out.box.c1
        have y2 := VB.out.box.c2
        have z0 := VC.out.box.c0
        have z1 := VC.out.box.c1
        have z2 := VC.out.box.c2
        go_wp2_with fail
        refine (get_conf _ (by unfold maxLen; omega) _).mono ?_
        rintro e w9 ⟨t1, t2, t3, rfl, hC, hb⟩
        rw [PET.out]
        rw [PGT.out] at hC
        have VA := Lib.hid (VA.out.below hb)
        have VB := Lib.hid (VB.out.below hb)
        have VC := Lib.hid (VC.out.below hb)
        have K := Lib.hid (K.out.trans (hb.mono K.out.size))
        clear hb
        have x0 := VA.out.box.c0
        have x1 := VA.out.box.c1
        have x2 := VA.out.box.c2
        have y0 := VB.out.box.c0
        have y1 := VB.out.box.c1
        have y2 := VB.out.box.c2
        have z0 := VC.out.box.c0
        have z1 := VC.out.box.c1
        have z2 := VC.out.box.c2
        obtain ⟨ad1, nd1, md1, rfl⟩ := hC.ps.isSlice
        obtain ⟨ad2, nd2, md2, rfl⟩ := hC.ws.isSlice
        obtain ⟨ad3, nd3, md3, rfl⟩ := hC.hs.isSlice
        have VD := Lib.hid (VarAt.new hC)
        have hb : Below w9.heap.size w9 (w9.alloc (.cells #[.slice ad1 nd1 md1, .slice ad2 nd2 md2, .slice ad3 nd3 md3] 26)) := (Below.refl _ _).alloc (Nat.le_refl _) _
        have VA := Lib.hid (VA.out.below hb)
        have VB := Lib.hid (VB.out.below hb)
        have VC := Lib.hid (VC.out.below hb)
        have K := Lib.hid (K.out.trans (hb.mono K.out.size))
        clear hb
        have x0 := VA.out.box.c0
        have x1 := VA.out.box.c1
        have x2 := VA.out.box.c2
        have y0 := VB.out.box.c0
        have y1 := VB.out.box.c1
        have y2 := VB.out.box.c2
        have z0 := VC.out.box.c0
        have z1 := VC.out.box.c1
        have z2 := VC.out.box.c2
        have q0 := VD.out.box.c0
        have q1 := VD.out.box.c1
        have q2 := VD.out.box.c2
        clear hC
        go_wp2_with fail
        obtain ⟨bd, hbd⟩ : ∃ b, b = w9.heap.size := ⟨_, rfl⟩
        rw [← hbd] at VD q0 q1 q2 ⊢
        generalize w9.alloc (.cells #[.slice ad1 nd1 md1, .slice ad2 nd2 md2, .slice ad3 nd3 md3] 26) = w9 at *
        clear hbd
        refine (put_is _ _ _ D _ _ PLZ.out PCZ.out _ VD.out.cf).mono ?_
        rintro e w9 ⟨rfl, hb⟩
        have VA := Lib.hid (VA.out.below hb)
        have VB := Lib.hid (VB.out.below hb)
        have VC := Lib.hid (VC.out.below hb)
        have VD := Lib.hid (VD.out.below hb)
        have K := Lib.hid (K.out.trans (hb.mono K.out.size))
        clear hb
        have x0 := VA.out.box.c0
        have x1 := VA.out.box.c1
        have x2 := VA.out.box.c2
        have y0 := VB.out.box.c0
        have y1 := VB.out.box.c1
        have y2 := VB.out.box.c2
        have z0 := VC.out.box.c0
        have z1 := VC.out.box.c1
        have z2 := VC.out.box.c2
        have q0 := VD.out.box.c0
        have q1 := VD.out.box.c1
        have q2 := VD.out.box.c2
        go_wp2_with fail
        refine (frames_is _ _ _ A f PF.out _ VA.out.cf).mono ?_
        rintro e w9 ⟨rfl, hb⟩
        have VA := Lib.hid (VA.out.below hb)
        have VB := Lib.hid (VB.out.below hb)
        have VC := Lib.hid (VC.out.below hb)
        have VD := Lib.hid (VD.out.below hb)
        have K := Lib.hid (K.out.trans (hb.mono K.out.size))
        clear hb
        have x0 := VA.out.box.c0
        have x1 := VA.out.box.c1
        have x2 := VA.out.box.c2
        have y0 := VB.out.box.c0
        have y1 := VB.out.box.c1
        have y2 := VB.out.box.c2
        have z0 := VC.out.box.c0
        have z1 := VC.out.box.c1
        have z2 := VC.out.box.c2
        have q0 := VD.out.box.c0
        have q1 := VD.out.box.c1
        have q2 := VD.out.box.c2
        go_wp2_with fail
        refine (awake_conf _).mono ?_
        rintro e w9 ⟨rfl, hb⟩
        have K := Lib.hid (K.out.trans (hb.mono K.out.size))
        clear hb
        go_wp2
        go_ret
        exact ⟨rfl, K.out⟩
      · have het1 : (et == 0) = false := by simpa using het
        have het2 : (et != 0) = true := by simpa using het
        go_enter Try.func5, Try.ntmps5
        go_wp2_with fail
        rw [← hw1]
        clear hw1
        generalize W.heap.size + 1 = bb at *
        obtain ⟨ba, hba⟩ : ∃ ba, ba = W.heap.size := ⟨_, rfl⟩
        rw [← hba] at VA ⊢
        clear hba
        refine (LA.out).mono ?_
        rintro e w9 ⟨rfl, hb⟩
        have VA := Lib.hid (VA.out.below hb)
        have VB := Lib.hid (VB.out.below hb)
        have K := Lib.hid (K.out.trans (hb.mono K.out.size))
        clear hb
        have x0 := VA.out.box.c0
        have x1 := VA.out.box.c1
        have x2 := VA.out.box.c2
        have y0 := VB.out.box.c0
        have y1 := VB.out.box.c1
        have y2 := VB.out.box.c2
        go_wp2_with fail
        refine (HLB.out _ VB.out.cf).mono ?_
        rintro e w9 ⟨rfl, hb⟩
        have VA := Lib.hid (VA.out.below hb)
        have VB := Lib.hid (VB.out.below hb)
        have K := Lib.hid (K.out.trans (hb.mono K.out.size))
        clear hb
        have x0 := VA.out.box.c0
        have x1 := VA.out.box.c1
        have x2 := VA.out.box.c2
        have y0 := VB.out.box.c0
        have y1 := VB.out.box.c1
        have y2 := VB.out.box.c2
        go_wp2_with fail
        refine (put_is _ _ _ A _ _ PLA.out PCA.out _ VA.out.cf).mono ?_
        rintro e w9 ⟨rfl, hb⟩
        have VA := Lib.hid (VA.out.below hb)
        have VB := Lib.hid (VB.out.below hb)
        have K := Lib.hid (K.out.trans (hb.mono K.out.size))
        clear hb
        have x0 := VA.out.box.c0
        have x1 := VA.out.box.c1
        have x2 := VA.out.box.c2
        have y0 := VB.out.box.c0
        have y1 := VB.out.box.c1
        have y2 := VB.out.box.c2
        go_wp2_with fail
        refine (put_is _ _ _ B _ _ PLB.out PCB.out _ VB.out.cf).mono ?_
        rintro e w9 ⟨rfl, hb⟩
        have VA := Lib.hid (VA.out.below hb)
        have VB := Lib.hid (VB.out.below hb)
        have K := Lib.hid (K.out.trans (hb.mono K.out.size))
        clear hb
        have x0 := VA.out.box.c0
        have x1 := VA.out.box.c1
        have x2 := VA.out.box.c2
        have y0 := VB.out.box.c0
        have y1 := VB.out.box.c1
        have y2 := VB.out.box.c2
        go_wp2_with fail
        refine (get_conf _ LLA.out _).mono ?_
        rintro e w9 ⟨t1, t2, t3, rfl, hC, hb⟩
        rw [PEA.out]
        rw [PGA.out] at hC
        have VA := Lib.hid (VA.out.below hb)
        have VB := Lib.hid (VB.out.below hb)
        have K := Lib.hid (K.out.trans (hb.mono K.out.size))
        clear hb
        have x0 := VA.out.box.c0
        have x1 := VA.out.box.c1
        have x2 := VA.out.box.c2
        have y0 := VB.out.box.c0
        have y1 := VB.out.box.c1
        have y2 := VB.out.box.c2
        obtain ⟨ac1, nc1, mc1, rfl⟩ := hC.ps.isSlice
        obtain ⟨ac2, nc2, mc2, rfl⟩ := hC.ws.isSlice
        obtain ⟨ac3, nc3, mc3, rfl⟩ := hC.hs.isSlice
        have VC := Lib.hid (VarAt.new hC)
        have hb : Below w9.heap.size w9 (w9.alloc (.cells #[.slice ac1 nc1 mc1, .slice ac2 nc2 mc2, .slice ac3 nc3 mc3] 26)) := (Below.refl _ _).alloc (Nat.le_refl _) _
        have VA := Lib.hid (VA.out.below hb)
        have VB := Lib.hid (VB.out.below hb)
        have K := Lib.hid (K.out.trans (hb.mono K.out.size))
        clear hb
        have x0 := VA.out.box.c0
        have x1 := VA.out.box.c1
        have x2 := VA.out.box.c2
        have y0 := VB.out.box.c0
        have y1 := VB.out.box.c1
        have y2 := VB.out.box.c2
        have z0 := VC.out.box.c0
        have z1 := VC.out.box.c1
        have z2 := VC.out.box.c2
        clear hC
        go_wp2_with fail
        obtain ⟨bc, hbc⟩ : ∃ b, b = w9.heap.size := ⟨_, rfl⟩
        rw [← hbc] at VC z0 z1 z2 ⊢
        generalize w9.alloc (.cells #[.slice ac1 nc1 mc1, .slice ac2 nc2 mc2, .slice ac3 nc3 mc3] 26) = w9 at *
        clear hbc
        refine (same_is _ _ _ _ _ _ A G true PSG.out _ VA.out.cf VC.out.cf).mono ?_
        rintro e w9 ⟨rfl, hb⟩
        have VA := Lib.hid (VA.out.below hb)
        have VB := Lib.hid (VB.out.below hb)
        have VC := Lib.hid (VC.out.below hb)
        have K := Lib.hid (K.out.trans (hb.mono K.out.size))
        clear hb
        have x0 := VA.out.box.c0
        have x1 := VA.out.box.c1
        have x2 := VA.out.box.c2
        have y0 := VB.out.box.c0
        have y1 := VB.out.box.c1
        have y2 := VB.out.box.c2
        have z0 := VC.out.box.c0
        have z1 := VC.out.box.c1
        have z2 := VC.out.box.c2
        go_wp2_with fail
        refine (get_conf _ (by unfold maxLen; omega) _).mono ?_
        rintro e w9 ⟨t1, t2, t3, rfl, hC, hb⟩
        rw [PET.out]
        rw [PGT.out] at hC
        have VA := Lib.hid (VA.out.below hb)
        have VB := Lib.hid (VB.out.below hb)
        have VC := Lib.hid (VC.out.below hb)
        have K := Lib.hid (K.out.trans (hb.mono K.out.size))
        clear hb
        have x0 := VA.out.box.c0
        have x1 := VA.out.box.c1
        have x2 := VA.out.box.c2
        have y0 := VB.out.box.c0
        have y1 := VB.out.box.c1
        have y2 := VB.out.box.c2
        have z0 := VC.out.box.c0
        have z1 := VC.out.box.c1
        have z2 := VC.out.box.c2
        obtain ⟨ad1, nd1, md1, rfl⟩ := hC.ps.isSlice
        obtain ⟨ad2, nd2, md2, rfl⟩ := hC.ws.isSlice
        obtain ⟨ad3, nd3, md3, rfl⟩ := hC.hs.isSlice
        have VD := Lib.hid (VarAt.new hC)
        have hb : Below w9.heap.size w9 (w9.alloc (.cells #[.slice ad1 nd1 md1, .slice ad2 nd2 md2, .slice ad3 nd3 md3] 26)) := (Below.refl _ _).alloc (Nat.le_refl _) _
        have VA := Lib.hid (VA.out.below hb)
        have VB := Lib.hid (VB.out.below hb)
        have VC := Lib.hid (VC.out.below hb)
        have K := Lib.hid (K.out.trans (hb.mono K.out.size))
        clear hb
        have x0 := VA.out.box.c0
        have x1 := VA.out.box.c1
        have x2 := VA.out.box.c2
        have y0 := VB.out.box.c0
        have y1 := VB.out.box.c1
        have y2 := VB.out.box.c2
        have z0 := VC.out.box.c0
        have z1 := VC.out.box.c1
        have z2 := VC.out.box.c2
        have q0 := VD.out.box.c0
        have q1 := VD.out.box.c1
        have q2 := VD.out.box.c2
        clear hC
        go_wp2_with fail
        obtain ⟨bd, hbd⟩ : ∃ b, b = w9.heap.size := ⟨_, rfl⟩
        rw [← hbd] at VD q0 q1 q2 ⊢
        generalize w9.alloc (.cells #[.slice ad1 nd1 md1, .slice ad2 nd2 md2, .slice ad3 nd3 md3] 26) = w9 at *
        clear hbd
        refine (put_is _ _ _ D _ _ PLZ.out PCZ.out _ VD.out.cf).mono ?_
        rintro e w9 ⟨rfl, hb⟩
        have VA := Lib.hid (VA.out.below hb)
        have VB := Lib.hid (VB.out.below hb)
        have VC := Lib.hid (VC.out.below hb)
        have VD := Lib.hid (VD.out.below hb)
        have K := Lib.hid (K.out.trans (hb.mono K.out.size))
        clear hb
        have x0 := VA.out.box.c0
        have x1 := VA.out.box.c1
        have x2 := VA.out.box.c2
        have y0 := VB.out.box.c0
        have y1 := VB.out.box.c1
        have y2 := VB.out.box.c2
        have z0 := VC.out.box.c0
        have z1 := VC.out.box.c1
        have z2 := VC.out.box.c2
        have q0 := VD.out.box.c0
        have q1 := VD.out.box.c1
        have q2 := VD.out.box.c2
        go_wp2_with fail
        refine (frames_is _ _ _ A f PF.out _ VA.out.cf).mono ?_
        rintro e w9 ⟨rfl, hb⟩
        have VA := Lib.hid (VA.out.below hb)
        have VB := Lib.hid (VB.out.below hb)
        have VC := Lib.hid (VC.out.below hb)
        have VD := Lib.hid (VD.out.below hb)
        have K := Lib.hid (K.out.trans (hb.mono K.out.size))
        clear hb
        have x0 := VA.out.box.c0
        have x1 := VA.out.box.c1
        have x2 := VA.out.box.c2
        have y0 := VB.out.box.c0
        have y1 := VB.out.box.c1
        have y2 := VB.out.box.c2
        have z0 := VC.out.box.c0
        have z1 := VC.out.box.c1
        have z2 := VC.out.box.c2
        have q0 := VD.out.box.c0
        have q1 := VD.out.box.c1
        have q2 := VD.out.box.c2
        go_wp2_with fail
        refine (awake_conf _).mono ?_
        rintro e w9 ⟨rfl, hb⟩
        have K := Lib.hid (K.out.trans (hb.mono K.out.size))
        clear hb
        go_wp2
        go_ret
        exact ⟨rfl, K.out⟩
    · rcases hcT with het | ⟨rfl, rfl, rfl⟩
      rotate_left
      · have ett : (lz == lz) = true := by simp
        go_enter Try.func5, Try.ntmps5
        go_wp2_with fail
        rw [← hw1]
        clear hw1
        generalize W.heap.size + 1 = bb at *
        obtain ⟨ba, hba⟩ : ∃ ba, ba = W.heap.size := ⟨_, rfl⟩
        rw [← hba] at VA ⊢
        clear hba
        refine (LA.out).mono ?_
        rintro e w9 ⟨rfl, hb⟩
        have VA := Lib.hid (VA.out.below hb)
        have VB := Lib.hid (VB.out.below hb)
        have K := Lib.hid (K.out.trans (hb.mono K.out.size))
        clear hb
        have x0 := VA.out.box.c0
        have x1 := VA.out.box.c1
        have x2 := VA.out.box.c2
        have y0 := VB.out.box.c0
        have y1 := VB.out.box.c1
        have y2 := VB.out.box.c2
        go_wp2_with fail
        refine (HLB.out _ VB.out.cf).mono ?_
        rintro e w9 ⟨rfl, hb⟩
        have VA := Lib.hid (VA.out.below hb)
        have VB := Lib.hid (VB.out.below hb)
        have K := Lib.hid (K.out.trans (hb.mono K.out.size))
        clear hb
        have x0 := VA.out.box.c0
        have x1 := VA.out.box.c1
        have x2 := VA.out.box.c2
        have y0 := VB.out.box.c0
        have y1 := VB.out.box.c1
        have y2 := VB.out.box.c2
        go_wp2_with fail
        refine (put_is _ _ _ A _ _ PLA.out PCA.out _ VA.out.cf).mono ?_
        rintro e w9 ⟨rfl, hb⟩
        have VA := Lib.hid (VA.out.below hb)
        have VB := Lib.hid (VB.out.below hb)
        have K := Lib.hid (K.out.trans (hb.mono K.out.size))
        clear hb
        have x0 := VA.out.box.c0
        have x1 := VA.out.box.c1
        have x2 := VA.out.box.c2
        have y0 := VB.out.box.c0
        have y1 := VB.out.box.c1
        have y2 := VB.out.box.c2
        go_wp2_with fail
        refine (put_is _ _ _ B _ _ PLB.out PCB.out _ VB.out.cf).mono ?_
        rintro e w9 ⟨rfl, hb⟩
        have VA := Lib.hid (VA.out.below hb)
        have VB := Lib.hid (VB.out.below hb)
        have K := Lib.hid (K.out.trans (hb.mono K.out.size))
        clear hb
        have x0 := VA.out.box.c0
        have x1 := VA.out.box.c1
        have x2 := VA.out.box.c2
        have y0 := VB.out.box.c0
        have y1 := VB.out.box.c1
        have y2 := VB.out.box.c2
        go_wp2_with fail
        refine (get_conf _ LLA.out _).mono ?_
        rintro e w9 ⟨t1, t2, t3, rfl, hC, hb⟩
        rw [PEA.out]
        rw [PGA.out] at hC
        have VA := Lib.hid (VA.out.below hb)
        have VB := Lib.hid (VB.out.below hb)
        have K := Lib.hid (K.out.trans (hb.mono K.out.size))
        clear hb
        have x0 := VA.out.box.c0
        have x1 := VA.out.box.c1
        have x2 := VA.out.box.c2
        have y0 := VB.out.box.c0
        have y1 := VB.out.box.c1
        have y2 := VB.out.box.c2
        obtain ⟨ac1, nc1, mc1, rfl⟩ := hC.ps.isSlice
        obtain ⟨ac2, nc2, mc2, rfl⟩ := hC.ws.isSlice
        obtain ⟨ac3, nc3, mc3, rfl⟩ := hC.hs.isSlice
        have VC := Lib.hid (VarAt.new hC)
        have hb : Below w9.heap.size w9 (w9.alloc (.cells #[.slice ac1 nc1 mc1, .slice ac2 nc2 mc2, .slice ac3 nc3 mc3] 26)) := (Below.refl _ _).alloc (Nat.le_refl _) _
        have VA := Lib.hid (VA.out.below hb)
        have VB := Lib.hid (VB.out.below hb)
        have K := Lib.hid (K.out.trans (hb.mono K.out.size))
        clear hb
        have x0 := VA.out.box.c0
        have x1 := VA.out.box.c1
        have x2 := VA.out.box.c2
        have y0 := VB.out.box.c0
        have y1 := VB.out.box.c1
        have y2 := VB.out.box.c2
        have z0 := VC.out.box.c0
        have z1 := VC.out.box.c1
        have z2 := VC.out.box.c2
        clear hC
        go_wp2_with fail
        obtain ⟨bc, hbc⟩ : ∃ b, b = w9.heap.size := ⟨_, rfl⟩
        rw [← hbc] at VC z0 z1 z2 ⊢
        generalize w9.alloc (.cells #[.slice ac1 nc1 mc1, .slice ac2 nc2 mc2, .slice ac3 nc3 mc3] 26) = w9 at *
        clear hbc
        refine (same_is _ _ _ _ _ _ A G true PSG.out _ VA.out.cf VC.out.cf).mono ?_
        rintro e w9 ⟨rfl, hb⟩
        have VA := Lib.hid (VA.out.below hb)
        have VB := Lib.hid (VB.out.below hb)
        have VC := Lib.hid (VC.out.below hb)
        have K := Lib.hid (K.out.trans (hb.mono K.out.size))
        clear hb
        have x0 := VA.out.box.c0
        have x1 := VA.out.box.c1
        have x2 := VA.out.box.c2
        have y0 := VB.out.box.c0
        have y1 := VB.out.box.c1
        have y2 := VB.out.box.c2
        have z0 := VC.out.box.c0
        have z1 := VC.out.box.c1
        have z2 := VC.out.box.c2
        go_wp2_with fail
        refine (same_is _ _ _ _ _ _ A B sb PSB.out _ VA.out.cf VB.out.cf).mono ?_
        rintro e w9 ⟨rfl, hb⟩
        have VA := Lib.hid (VA.out.below hb)
        have VB := Lib.hid (VB.out.below hb)
        have VC := Lib.hid (VC.out.below hb)
        have K := Lib.hid (K.out.trans (hb.mono K.out.size))
        clear hb
        have x0 := VA.out.box.c0
        have x1 := VA.out.box.c1
        have x2 := VA.out.box.c2
        have y0 := VB.out.box.c0
        have y1 := VB.out.box.c1
        have y2 := VB.out.box.c2
        have z0 := VC.out.box.c0
        have z1 := VC.out.box.c1
        have z2 := VC.out.box.c2
        go_wp2_with fail
        refine (get_conf _ (by unfold maxLen; omega) _).mono ?_
        rintro e w9 ⟨t1, t2, t3, rfl, hC, hb⟩
        rw [PET.out]
        rw [PGT.out] at hC
        have VA := Lib.hid (VA.out.below hb)
        have VB := Lib.hid (VB.out.below hb)
        have VC := Lib.hid (VC.out.below hb)
        have K := Lib.hid (K.out.trans (hb.mono K.out.size))
        clear hb
        have x0 := VA.out.box.c0
        have x1 := VA.out.box.c1
        have x2 := VA.out.box.c2
        have y0 := VB.out.box.c0
        have y1 := VB.out.box.c1
        have y2 := VB.out.box.c2
        have z0 := VC.out.box.c0
        have z1 := VC.out.box.c1
        have z2 := VC.out.box.c2
        obtain ⟨ad1, nd1, md1, rfl⟩ := hC.ps.isSlice
        obtain ⟨ad2, nd2, md2, rfl⟩ := hC.ws.isSlice
        obtain ⟨ad3, nd3, md3, rfl⟩ := hC.hs.isSlice
        have VD := Lib.hid (VarAt.new hC)
        have hb : Below w9.heap.size w9 (w9.alloc (.cells #[.slice ad1 nd1 md1, .slice ad2 nd2 md2, .slice ad3 nd3 md3] 26)) := (Below.refl _ _).alloc (Nat.le_refl _) _
        have VA := Lib.hid (VA.out.below hb)
        have VB := Lib.hid (VB.out.below hb)
        have VC := Lib.hid (VC.out.below hb)
        have K := Lib.hid (K.out.trans (hb.mono K.out.size))
        clear hb
        have x0 := VA.out.box.c0
        have x1 := VA.out.box.c1
        have x2 := VA.out.box.c2
        have y0 := VB.out.box.c0
        have y1 := VB.out.box.c1
        have y2 := VB.out.box.c2
        have z0 := VC.out.box.c0
        have z1 := VC.out.box.c1
        have z2 := VC.out.box.c2
        have q0 := VD.out.box.c0
        have q1 := VD.out.box.c1
        have q2 := VD.out.box.c2
        clear hC
        go_wp2_with fail
        obtain ⟨bd, hbd⟩ : ∃ b, b = w9.heap.size := ⟨_, rfl⟩
        rw [← hbd] at VD q0 q1 q2 ⊢
        generalize w9.alloc (.cells #[.slice ad1 nd1 md1, .slice ad2 nd2 md2, .slice ad3 nd3 md3] 26) = w9 at *
        clear hbd
        refine (put_is _ _ _ D _ _ PLZ.out PCZ.out _ VD.out.cf).mono ?_
        rintro e w9 ⟨rfl, hb⟩
        have VA := Lib.hid (VA.out.below hb)
        have VB := Lib.hid (VB.out.below hb)
        have VC := Lib.hid (VC.out.below hb)
        have VD := Lib.hid (VD.out.below hb)
        have K := Lib.hid (K.out.trans (hb.mono K.out.size))
        clear hb
        have x0 := VA.out.box.c0
        have x1 := VA.out.box.c1
        have x2 := VA.out.box.c2
        have y0 := VB.out.box.c0
        have y1 := VB.out.box.c1
        have y2 := VB.out.box.c2
        have z0 := VC.out.box.c0
        have z1 := VC.out.box.c1
        have z2 := VC.out.box.c2
        have q0 := VD.out.box.c0
        have q1 := VD.out.box.c1
        have q2 := VD.out.box.c2
        go_wp2_with fail
        refine (frames_is _ _ _ A f PF.out _ VA.out.cf).mono ?_
        rintro e w9 ⟨rfl, hb⟩
        have VA := Lib.hid (VA.out.below hb)
        have VB := Lib.hid (VB.out.below hb)
        have VC := Lib.hid (VC.out.below hb)
        have VD := Lib.hid (VD.out.below hb)
        have K := Lib.hid (K.out.trans (hb.mono K.out.size))
        clear hb
        have x0 := VA.out.box.c0
        have x1 := VA.out.box.c1
        have x2 := VA.out.box.c2
        have y0 := VB.out.box.c0
        have y1 := VB.out.box.c1
        have y2 := VB.out.box.c2
        have z0 := VC.out.box.c0
        have z1 := VC.out.box.c1
        have z2 := VC.out.box.c2
        have q0 := VD.out.box.c0
        have q1 := VD.out.box.c1
        have q2 := VD.out.box.c2
        go_wp2_with fail
        refine (awake_conf _).mono ?_
        rintro e w9 ⟨rfl, hb⟩
        have K := Lib.hid (K.out.trans (hb.mono K.out.size))
        clear hb
        go_wp2
        go_ret
        exact ⟨rfl, K.out⟩
      · have het1 : (et == 0) = false := by simpa using het
        have het2 : (et != 0) = true := by simpa using het
        go_enter Try.func5, Try.ntmps5
        go_wp2_with fail
        rw [← hw1]
        clear hw1
        generalize W.heap.size + 1 = bb at *
        obtain ⟨ba, hba⟩ : ∃ ba, ba = W.heap.size := ⟨_, rfl⟩
        rw [← hba] at VA ⊢
        clear hba
        refine (LA.out).mono ?_
        rintro e w9 ⟨rfl, hb⟩
        have VA := Lib.hid (VA.out.below hb)
        have VB := Lib.hid (VB.out.below hb)
        have K := Lib.hid (K.out.trans (hb.mono K.out.size))
        clear hb
        have x0 := VA.out.box.c0
        have x1 := VA.out.box.c1
        have x2 := VA.out.box.c2
        have y0 := VB.out.box.c0
        have y1 := VB.out.box.c1
        have y2 := VB.out.box.c2
        go_wp2_with fail
        refine (HLB.out _ VB.out.cf).mono ?_
        rintro e w9 ⟨rfl, hb⟩
        have VA := Lib.hid (VA.out.below hb)
        have VB := Lib.hid (VB.out.below hb)
        have K := Lib.hid (K.out.trans (hb.mono K.out.size))
        clear hb
        have x0 := VA.out.box.c0
        have x1 := VA.out.box.c1
        have x2 := VA.out.box.c2
        have y0 := VB.out.box.c0
        have y1 := VB.out.box.c1
        have y2 := VB.out.box.c2
        go_wp2_with fail
        refine (put_is _ _ _ A _ _ PLA.out PCA.out _ VA.out.cf).mono ?_
        rintro e w9 ⟨rfl, hb⟩
        have VA := Lib.hid (VA.out.below hb)
        have VB := Lib.hid (VB.out.below hb)
        have K := Lib.hid (K.out.trans (hb.mono K.out.size))
        clear hb
        have x0 := VA.out.box.c0
        have x1 := VA.out.box.c1
        have x2 := VA.out.box.c2
        have y0 := VB.out.box.c0
        have y1 := VB.out.box.c1
        have y2 := VB.out.box.c2
        go_wp2_with fail
        refine (put_is _ _ _ B _ _ PLB.out PCB.out _ VB.out.cf).mono ?_
        rintro e w9 ⟨rfl, hb⟩
        have VA := Lib.hid (VA.out.below hb)
        have VB := Lib.hid (VB.out.below hb)
        have K := Lib.hid (K.out.trans (hb.mono K.out.size))
        clear hb
        have x0 := VA.out.box.c0
        have x1 := VA.out.box.c1
        have x2 := VA.out.box.c2
        have y0 := VB.out.box.c0
        have y1 := VB.out.box.c1
        have y2 := VB.out.box.c2
        go_wp2_with fail
        refine (get_conf _ LLA.out _).mono ?_
        rintro e w9 ⟨t1, t2, t3, rfl, hC, hb⟩
        rw [PEA.out]
        rw [PGA.out] at hC
        have VA := Lib.hid (VA.out.below hb)
        have VB := Lib.hid (VB.out.below hb)
        have K := Lib.hid (K.out.trans (hb.mono K.out.size))
        clear hb
        have x0 := VA.out.box.c0
        have x1 := VA.out.box.c1
        have x2 := VA.out.box.c2
        have y0 := VB.out.box.c0
        have y1 := VB.out.box.c1
        have y2 := VB.out.box.c2
        obtain ⟨ac1, nc1, mc1, rfl⟩ := hC.ps.isSlice
        obtain ⟨ac2, nc2, mc2, rfl⟩ := hC.ws.isSlice
        obtain ⟨ac3, nc3, mc3, rfl⟩ := hC.hs.isSlice
        have VC := Lib.hid (VarAt.new hC)
        have hb : Below w9.heap.size w9 (w9.alloc (.cells #[.slice ac1 nc1 mc1, .slice ac2 nc2 mc2, .slice ac3 nc3 mc3] 26)) := (Below.refl _ _).alloc (Nat.le_refl _) _
        have VA := Lib.hid (VA.out.below hb)
        have VB := Lib.hid (VB.out.below hb)
        have K := Lib.hid (K.out.trans (hb.mono K.out.size))
        clear hb
        have x0 := VA.out.box.c0
        have x1 := VA.out.box.c1
        have x2 := VA.out.box.c2
        have y0 := VB.out.box.c0
        have y1 := VB.out.box.c1
        have y2 := VB.out.box.c2
        have z0 := VC.out.box.c0
        have z1 := VC.out.box.c1
        have z2 := VC.out.box.c2
        clear hC
        go_wp2_with fail
        obtain ⟨bc, hbc⟩ : ∃ b, b = w9.heap.size := ⟨_, rfl⟩
        rw [← hbc] at VC z0 z1 z2 ⊢
        generalize w9.alloc (.cells #[.slice ac1 nc1 mc1, .slice ac2 nc2 mc2, .slice ac3 nc3 mc3] 26) = w9 at *
        clear hbc
        refine (same_is _ _ _ _ _ _ A G true PSG.out _ VA.out.cf VC.out.cf).mono ?_
        rintro e w9 ⟨rfl, hb⟩
        have VA := Lib.hid (VA.out.below hb)
        have VB := Lib.hid (VB.out.below hb)
        have VC := Lib.hid (VC.out.below hb)
        have K := Lib.hid (K.out.trans (hb.mono K.out.size))
        clear hb
        have x0 := VA.out.box.c0
        have x1 := VA.out.box.c1
        have x2 := VA.out.box.c2
        have y0 := VB.out.box.c0
        have y1 := VB.out.box.c1
        have y2 := VB.out.box.c2
        have z0 := VC.out.box.c0
        have z1 := VC.out.box.c1
        have z2 := VC.out.box.c2
        go_wp2_with fail
        refine (same_is _ _ _ _ _ _ A B sb PSB.out _ VA.out.cf VB.out.cf).mono ?_
        rintro e w9 ⟨rfl, hb⟩
        have VA := Lib.hid (VA.out.below hb)
        have VB := Lib.hid (VB.out.below hb)
        have VC := Lib.hid (VC.out.below hb)
        have K := Lib.hid (K.out.trans (hb.mono K.out.size))
        clear hb
        have x0 := VA.out.box.c0
        have x1 := VA.out.box.c1
        have x2 := VA.out.box.c2
        have y0 := VB.out.box.c0
        have y1 := VB.out.box.c1
        have y2 := VB.out.box.c2
        have z0 := VC.out.box.c0
        have z1 := VC.out.box.c1
        have z2 := VC.out.box.c2
        go_wp2_with fail
        refine (get_conf _ (by unfold maxLen; omega) _).mono ?_
        rintro e w9 ⟨t1, t2, t3, rfl, hC, hb⟩
        rw [PET.out]
        rw [PGT.out] at hC
        have VA := Lib.hid (VA.out.below hb)
        have VB := Lib.hid (VB.out.below hb)
        have VC := Lib.hid (VC.out.below hb)
        have K := Lib.hid (K.out.trans (hb.mono K.out.size))
        clear hb
        have x0 := VA.out.box.c0
        have x1 := VA.out.box.c1
        have x2 := VA.out.box.c2
        have y0 := VB.out.box.c0
        have y1 := VB.out.box.c1
        have y2 := VB.out.box.c2
        have z0 := VC.out.box.c0
        have z1 := VC.out.box.c1
        have z2 := VC.out.box.c2
        obtain ⟨ad1, nd1, md1, rfl⟩ := hC.ps.isSlice
        obtain ⟨ad2, nd2, md2, rfl⟩ := hC.ws.isSlice
        obtain ⟨ad3, nd3, md3, rfl⟩ := hC.hs.isSlice
        have VD := Lib.hid (VarAt.new hC)
        have hb : Below w9.heap.size w9 (w9.alloc (.cells #[.slice ad1 nd1 md1, .slice ad2 nd2 md2, .slice ad3 nd3 md3] 26)) := (Below.refl _ _).alloc (Nat.le_refl _) _
        have VA := Lib.hid (VA.out.below hb)
        have VB := Lib.hid (VB.out.below hb)
        have VC := Lib.hid (VC.out.below hb)
        have K := Lib.hid (K.out.trans (hb.mono K.out.size))
        clear hb
        have x0 := VA.out.box.c0
        have x1 := VA.out.box.c1
        have x2 := VA.out.box.c2
        have y0 := VB.out.box.c0
        have y1 := VB.out.box.c1
        have y2 := VB.out.box.c2
        have z0 := VC.out.box.c0
        have z1 := VC.out.box.c1
        have z2 := VC.out.box.c2
        have q0 := VD.out.box.c0
        have q1 := VD.out.box.c1
        have q2 := VD.out.box.c2
        clear hC
        go_wp2_with fail
        obtain ⟨bd, hbd⟩ : ∃ b, b = w9.heap.size := ⟨_, rfl⟩
        rw [← hbd] at VD q0 q1 q2 ⊢
        generalize w9.alloc (.cells #[.slice ad1 nd1 md1, .slice ad2 nd2 md2, .slice ad3 nd3 md3] 26) = w9 at *
        clear hbd
        refine (put_is _ _ _ D _ _ PLZ.out PCZ.out _ VD.out.cf).mono ?_
        rintro e w9 ⟨rfl, hb⟩
        have VA := Lib.hid (VA.out.below hb)
        have VB := Lib.hid (VB.out.below hb)
        have VC := Lib.hid (VC.out.below hb)
        have VD := Lib.hid (VD.out.below hb)
        have K := Lib.hid (K.out.trans (hb.mono K.out.size))
        clear hb
        have x0 := VA.out.box.c0
        have x1 := VA.out.box.c1
        have x2 := VA.out.box.c2
        have y0 := VB.out.box.c0
        have y1 := VB.out.box.c1
        have y2 := VB.out.box.c2
        have z0 := VC.out.box.c0
        have z1 := VC.out.box.c1
        have z2 := VC.out.box.c2
        have q0 := VD.out.box.c0
        have q1 := VD.out.box.c1
        have q2 := VD.out.box.c2
        go_wp2_with fail
        refine (frames_is _ _ _ A f PF.out _ VA.out.cf).mono ?_
        rintro e w9 ⟨rfl, hb⟩
        have VA := Lib.hid (VA.out.below hb)
        have VB := Lib.hid (VB.out.below hb)
        have VC := Lib.hid (VC.out.below hb)
        have VD := Lib.hid (VD.out.below hb)
        have K := Lib.hid (K.out.trans (hb.mono K.out.size))
        clear hb
        have x0 := VA.out.box.c0
        have x1 := VA.out.box.c1
        have x2 := VA.out.box.c2
        have y0 := VB.out.box.c0
        have y1 := VB.out.box.c1
        have y2 := VB.out.box.c2
        have z0 := VC.out.box.c0
        have z1 := VC.out.box.c1
        have z2 := VC.out.box.c2
        have q0 := VD.out.box.c0
        have q1 := VD.out.box.c1
        have q2 := VD.out.box.c2
        go_wp2_with fail
        refine (awake_conf _).mono ?_
        rintro e w9 ⟨rfl, hb⟩
        have K := Lib.hid (K.out.trans (hb.mono K.out.size))
        clear hb
        go_wp2
        go_ret
        exact ⟨rfl, K.out⟩
theorem confBack_walk (v : Value) (A : Cf) (u : Value) (B : Cf) (s : ByteArray) (W : World) (hA : ConfIn W v A) (hB : ConfIn W u B) (hs : s.size ≤ maxLen) : Calls Try.prog 5 #[v, u, .string s] W fun e w' => e = .returned (.bool true) ∧ Below W.heap.size W w' := by
  by_cases la : longC A
  · exact confBack_long v A u B s W hA hB hs (Or.inl la)
  by_cases lb : longC B
  · exact confBack_long v A u B s W hA hB hs (Or.inr (Or.inl ⟨la, lb⟩))
  by_cases h2 : s.size ≤ 2000
  · obtain ⟨t, rfl⟩ : ∃ t : List UInt8, s = ⟨t.toArray⟩ := ⟨s.data.toList, by cases s; simp⟩
    obtain ⟨aa1, na1, ma1, aa2, na2, ma2, aa3, na3, ma3, rfl⟩ := hA.slices
    obtain ⟨ab1, nb1, mb1, ab2, nb2, mb2, ab3, nb3, mb3, rfl⟩ := hB.slices
    exact confBack_in A B _ _ _ _ _ _ _ _ _ _ _ _ _ _ _ _ _ _ t (by simpa [ByteArray.size] using h2) W (hA.at_ la) (hB.at_ lb) la lb
  · exact confBack_long v A u B s W hA hB hs (Or.inr (Or.inr ⟨la, lb, by omega⟩))
end Go.Proofs.Ytpgoddbijkolbaa
