/- Texts of mine, joined: S24 S25 S26 S27. What each says and under which conditions stands at its head, below. -/
import Derived.Test.YtkenipanpimolaaGreatDoorHP
import Derived.Test.YtkenipanpimolaaGreatDoorHN
import Derived.Test.YtkenipanpimolaaGreatDoorHG
/- The contracts of package space's Load, Store. Condition: the listed tables read as laid. -/
namespace Go.Proofs.YtkenipanpimolaaGreatDoor
open Go.RowKit Go.Maps
set_option maxRecDepth 100000

/-- What stands against words that are reached. -/
def reachE (A : List Ar) (Lb : List Nd) (F : Sp) (i va : Int) (words : Nat) (wr : Bool) : Int :=
  if 32768 ≤ va then 7 else if mayL A wr (pgs va words) ≠ 0 then mayL A wr (pgs va words) else chargeEU Lb i (needP (onF F) (pgs va words) : Int)
/-- The word at an address. -/
def rdAt (D : Int → Option Sp) (V : Nat → Nat → Int) (i va : Int) : Int := if va < 32768 then rdD D V i (va / 32).toNat (va % 32).toNat else 0
/-- What reaching leaves. -/
def Out (W0 w w' : World) (I : SIx) (q c : Nat) (D : Int → Option Sp) (Q : Nat → Nat) (V : Nat → Nat → Int) (Lb : List Nd) (G : Int → Option Pc) (i va : Int) (words : Nat) (F : Sp) (er : Int) (S : (Int → Option Sp) → (Nat → Nat → Int) → Prop) : Prop :=
  ∃ c' D' Q' V' Lb', Sta W0 w' I q c' D' Q' V' Lb' G ow0 (PG G) ∧ KeepB w w' ∧ (er ≠ 0 → c' = c ∧ D' = D ∧ Q' = Q ∧ V' = V ∧ Lb' = Lb) ∧ (er = 0 → S D' V' ∧ Lb' = chargeL Lb i (needP (onF F) (pgs va words) : Int))
theorem pgs_one (va : Int) : pgs va 1 = [(va / 32).toNat] := by
  unfold pgs
  have h1 : (va % 32).toNat < 32 := by omega
  rw [show ((va % 32).toNat + 1 - 1) / 32 + 1 = 0 + 1 by omega, span_cons]; rfl
section
variable {W0 w : World} {I : SIx} {q c : Nat} {Q : Nat → Nat} {V : Nat → Nat → Int} {Lb : List Nd} {G : Int → Option Pc} {D : Int → Option Sp}
/-- Where reaching fails, nothing stands there. -/
theorem Sta.rdZero (h : Sta W0 w I q c D Q V Lb G ow0 (PG G)) {i : Int} {s : Pc} {F : Sp} (hG : G i = some s) (hD : D i = some F) {va : Int} (hva : 0 ≤ va) (he : reachE s.ar Lb F i va 1 false ≠ 0) : rdAt D V i va = 0 := by
  unfold rdAt
  by_cases hv : va < 32768
  · rw [if_pos hv]
    cases hp : prD D i (va / 32).toNat with
    | false => exact rdD_off hp V _
    | true =>
      exfalso
      rw [prD_some hD] at hp
      have hp1 : (va / 32).toNat < 1024 := by omega
      have := h.j.perm i F _ hD hp1 hp
      rw [PG_some hG] at this
      apply he
      unfold reachE
      rw [if_neg (by omega), pgs_one]
      have hm : mayL s.ar false [(va / 32).toNat] = 0 := by
        rw [mayL, this]; simp [mayE, mayL]
      rw [hm, if_neg (by simp), needP, needP]
      have hon : onF F (va / 32).toNat = true := hp
      rw [if_pos hon]
      refine chargeEU_zero.2 ⟨fitB_iff.2 ⟨h.j.pid i F hD, by omega, by omega⟩, ?_, ?_⟩
      · cases ha : atN i Lb with
        | none => exact absurd ha (h.j.there hD)
        | some x => exact ⟨x, rfl⟩
      · have := h.j.tree.leftL i; simpa using this
  · rw [if_neg hv]
theorem findSE_some {i : Int} {s : Pc} (h : Sta W0 w I q c D Q V Lb G ow0 (PG G)) (hG : G i = some s) : findSE G i = 0 := by
  obtain ⟨F, hF⟩ := h.bl.hasD hG
  have := h.j.pid i F hF
  unfold findSE idB
  rw [decide_eq_true this, if_pos rfl, hG]
theorem Sta.find (h : Sta W0 w I q c D Q V Lb G ow0 (PG G)) (i : Int) {p : Option Nat} (hp : (if findSE G i = 0 then (G i).map (·.blk) else none) = p) {er : Int} (he : findSE G i = er) :
    Calls Tryz.prog 61 #[.pointer (some ⟨I.ss, 0, none⟩), .int .i64 i] w fun e w' => e = .returned (.tuple #[ptV p, .int .i64 er]) ∧ Below w.heap.size w w' := by
  obtain ⟨W, Pb, h1, _⟩ := h.bl
  exact find_S h1 i hp he
/-- What reach answers, in one form. -/
def ReachU (W0 w w' : World) (I : SIx) (q c : Nat) (D : Int → Option Sp) (Q : Nat → Nat) (V : Nat → Nat → Int) (Lb : List Nd) (G : Int → Option Pc) (i va : Int) (words : Nat) (wr : Bool) (F : Sp) (er : Int) (e : Ending) : Prop :=
  ∃ f z : Nat, e = .returned (.tuple #[.int .i64 (f : Int), .int .i64 (z : Int), .int .i64 er]) ∧ ∃ c' D' Q' V' Lb', Sta W0 w' I q c' D' Q' V' Lb' G ow0 (PG G) ∧ KeepB w w' ∧ (er ≠ 0 → c' = c ∧ D' = D ∧ Q' = Q ∧ V' = V ∧ Lb' = Lb) ∧ (er = 0 → (Seen D V D' V' i (fun r => decide (r ∈ pgs va words)) ∧ Lb' = chargeL Lb i (needP (onF F) (pgs va words) : Int)) ∧ va < 32768 ∧ z = (va % 32).toNat ∧ ∃ F', D' i = some F' ∧ (F' (va / 32).toNat).1 = true ∧ (F' (va / 32).toNat).2.2.2 = (f : Int) ∧ (wr = true → (F' (va / 32).toNat).2.1 = true))
theorem Sta.reachU (h : Sta W0 w I q c D Q V Lb G ow0 (PG G)) {i : Int} {s : Pc} {F : Sp} (hG : G i = some s) (hD : D i = some F) (va : Int) (hva : 0 ≤ va ∧ va < 4294967296) (words : Nat) (h1 : 1 ≤ words) (h2 : words ≤ 1024) (wr : Bool) {er : Int} (her : er = reachE s.ar Lb F i va words wr) :
    Calls Tryz.prog 62 #[.pointer (some ⟨I.ss, 0, none⟩), .pointer (some ⟨s.blk, 0, none⟩), .int .u32 va, .int .i64 (words : Int), .bool wr] w fun e w' => ReachU W0 w w' I q c D Q V Lb G i va words wr F er e := by
  refine (h.reach hG hD va hva words h1 h2 wr).mono ?_
  rintro e w2 (⟨hv, rfl, hb2⟩ | ⟨hv, hm, rfl, hb2⟩ | ⟨hv, hm, hc, rfl, hs, hk⟩ | ⟨hv, hm, hc, c', D', Q', V', F', f, rfl, hs, hk, hsn, hD', hp, hf, hw⟩)
  · have e1 : er = 7 := by rw [her]; unfold reachE; rw [if_pos hv]
    rw [e1]
    exact ⟨0, 0, rfl, c, D, Q, V, Lb, h.step hb2, KeepB.below hb2, fun _ => ⟨rfl, rfl, rfl, rfl, rfl⟩, fun e => absurd e (by decide)⟩
  · have e1 : er = mayL s.ar wr (pgs va words) := by rw [her]; unfold reachE; rw [if_neg (by omega), if_pos hm]
    rw [e1]
    exact ⟨0, 0, rfl, c, D, Q, V, Lb, h.step hb2, KeepB.below hb2, fun _ => ⟨rfl, rfl, rfl, rfl, rfl⟩, fun e => absurd e hm⟩
  · have e1 : er = chargeEU Lb i (needP (onF F) (pgs va words) : Int) := by rw [her]; unfold reachE; rw [if_neg (by omega), if_neg (by simpa using hm)]
    rw [e1]
    exact ⟨0, 0, rfl, c, D, Q, V, Lb, hs, hk, fun _ => ⟨rfl, rfl, rfl, rfl, rfl⟩, fun e => absurd e hc⟩
  · have e1 : er = 0 := by rw [her]; unfold reachE; rw [if_neg (by omega), if_neg (by simpa using hm)]; exact hc
    rw [e1]
    exact ⟨f, (va % 32).toNat, by rw [show va % 32 = ((va % 32).toNat : Int) by omega]; simp, c', D', Q', V', _, hs, hk, fun e => absurd rfl e, fun _ => ⟨⟨hsn, rfl⟩, hv, rfl, F', hD', hp, hf, hw⟩⟩
set_option maxHeartbeats 4000000 in
theorem Sta.load (h : Sta W0 w I q c D Q V Lb G ow0 (PG G)) {i : Int} {s : Pc} {F : Sp} (hG : G i = some s) (hD : D i = some F) (va : Int) (hva : 0 ≤ va ∧ va < 4294967296) :
    Calls Tryz.prog 28 #[.pointer (some ⟨I.ss, 0, none⟩), .int .i64 i, .int .u32 va] w fun e w' => e = .returned (.tuple #[.int .u32 (rdAt D V i va), .int .i64 (reachE s.ar Lb F i va 1 false)]) ∧ Out W0 w w' I q c D Q V Lb G i va 1 F (reachE s.ar Lb F i va 1 false) (fun D' V' => Seen D V D' V' i (fun r => decide (r ∈ pgs va 1))) := by
  have HF := Lib.hid (h.find i (p := some s.blk) (by rw [findSE_some h hG, if_pos rfl, hG]; rfl) (findSE_some h hG))
  have RZ := Lib.hid (h.rdZero hG hD hva.1)
  obtain ⟨er, her⟩ : ∃ er, er = reachE s.ar Lb F i va 1 false := ⟨_, rfl⟩
  obtain ⟨rv, hrv⟩ : ∃ rv, rv = rdAt D V i va := ⟨_, rfl⟩
  have RC := Lib.hid (show ∀ W, Below w.heap.size w W → _ from fun W hb => (h.step hb).reachU hG hD va hva 1 (by decide) (by decide) false her)
  rw [← her] at RZ ⊢
  rw [← hrv] at RZ ⊢
  have RV := Lib.hid hrv
  clear h her hrv
  go_enter Tryz.func28, Tryz.ntmps28
  go_wp2_with fail
  refine HF.out.mono ?_
  rintro e w1 ⟨rfl, hb⟩
  have B := Lib.hid hb
  clear hb
  simp only [ptV]
  go_wp2_with fail
  refine (RC.out w1 B.out).mono ?_
  rintro e w2 ⟨f, z, rfl, c', D', Q', V', Lb', hs, hk, hne, hok⟩
  have S2 := Lib.hid hs
  have K2 := Lib.hid ((KeepB.below B.out).trans hk)
  have NE := Lib.hid hne
  have OK := Lib.hid hok
  clear hs hk hne hok
  by_cases h0 : er = 0
  · subst h0
    have OK1 := Lib.hid (OK.out rfl).1
    obtain ⟨_, hv, hz, F', hD', hp, hf, _⟩ := OK.out rfl
    have hp1 : (va / 32).toNat < 1024 := by omega
    have hz1 : z < 32 := by omega
    have e2 : rv = V' f z := by
      rw [RV.out]
      unfold rdAt
      rw [if_pos hv, ← ((OK.out rfl).1.1.rd i _ _ hp1 (by omega)), rdD_some hD', if_pos hp, hf, Int.toNat_natCast, hz]
    obtain ⟨f', hf', _, hQ0, _⟩ := S2.out.j.held hD' hp1 hp
    obtain rfl : f' = f := by omega
    have RD := Lib.hid (S2.out.bl.read f' z hQ0 hz1)
    have c0 := S2.out.bl.cells.1
    have E2 := Lib.hid e2
    clear hv hz hp hf hD' hf' hQ0 e2
    go_wp2_with fail
    refine RD.out.mono ?_
    rintro e w3 ⟨rfl, hb3⟩
    have B3 := Lib.hid hb3
    clear hb3
    go_wp2
    go_ret2
    exact ⟨by rw [E2.out]; rfl, c', D', Q', V', _, S2.out.step B3.out, K2.out.trans (KeepB.below B3.out), fun e => absurd rfl e, fun _ => OK1.out⟩
  · have hne' : (er != 0) = true := by simpa using h0
    have R0 := Lib.hid (RZ.out h0)
    go_wp2
    go_ret2
    exact ⟨by rw [R0.out]; rfl, c', D', Q', V', Lb', S2.out, K2.out, NE.out, fun e => absurd e h0⟩
/-- What is seen behind a store. -/
structure SeenW (D : Int → Option Sp) (V : Nat → Nat → Int) (D' : Int → Option Sp) (V' : Nat → Nat → Int) (i va x : Int) : Prop where
  pr : ∀ j r, r < 1024 → prD D' j r = (prD D j r || (decide (j = i) && decide (r = (va / 32).toNat)))
  rd : ∀ j r y, r < 1024 → y < 32 → rdD D' V' j r y = if j = i ∧ r = (va / 32).toNat ∧ y = (va % 32).toNat then x else rdD D V j r y
  dom : ∀ j, (D' j).isSome = (D j).isSome
set_option maxHeartbeats 4000000 in
theorem Sta.store (h : Sta W0 w I q c D Q V Lb G ow0 (PG G)) {i : Int} {s : Pc} {F : Sp} (hG : G i = some s) (hD : D i = some F) (va x : Int) (hva : 0 ≤ va ∧ va < 4294967296) (hx : 0 ≤ x ∧ x < 4294967296) :
    Calls Tryz.prog 60 #[.pointer (some ⟨I.ss, 0, none⟩), .int .i64 i, .int .u32 va, .int .u32 x] w fun e w' => e = .returned (.int .i64 (reachE s.ar Lb F i va 1 true)) ∧ Out W0 w w' I q c D Q V Lb G i va 1 F (reachE s.ar Lb F i va 1 true) (fun D' V' => SeenW D V D' V' i va x ∧ va < 32768) := by
  have HF := Lib.hid (h.find i (p := some s.blk) (by rw [findSE_some h hG, if_pos rfl, hG]; rfl) (findSE_some h hG))
  obtain ⟨er, her⟩ : ∃ er, er = reachE s.ar Lb F i va 1 true := ⟨_, rfl⟩
  have RC := Lib.hid (show ∀ W, Below w.heap.size w W → _ from fun W hb => (h.step hb).reachU hG hD va hva 1 (by decide) (by decide) true her)
  rw [← her]
  clear h her
  go_enter Tryz.func60, Tryz.ntmps60
  go_wp2_with fail
  refine HF.out.mono ?_
  rintro e w1 ⟨rfl, hb⟩
  have B := Lib.hid hb
  clear hb
  simp only [ptV]
  go_wp2_with fail
  refine (RC.out w1 B.out).mono ?_
  rintro e w2 ⟨f, z, rfl, c', D', Q', V', Lb', hs, hk, hne, hok⟩
  have S2 := Lib.hid hs
  have K2 := Lib.hid ((KeepB.below B.out).trans hk)
  have NE := Lib.hid hne
  have OK := Lib.hid hok
  clear hs hk hne hok
  by_cases h0 : er = 0
  · subst h0
    have OK1 := Lib.hid (OK.out rfl).1
    obtain ⟨_, hv, hz, F', hD', hp, hf, hwr⟩ := OK.out rfl
    have hp1 : (va / 32).toNat < 1024 := by omega
    have hz1 : z < 32 := by omega
    obtain ⟨f', hf', _, hQ0, _⟩ := S2.out.j.held hD' hp1 hp
    obtain rfl : f' = f := by omega
    have hQ1 : Q' f' = 1 := by
      have := S2.out.j.excl i F' _ hD' hp1 hp (hwr rfl)
      rwa [hf, Int.toNat_natCast] at this
    have WT := Lib.hid (S2.out.bl.write f' z x hQ0 hz1 hx)
    have c0 := S2.out.bl.cells.1
    have SW : Hid (SeenW D V D' (writeV V' f' z x) i va x ∧ va < 32768) := Lib.hid (by
      have hsn := (OK.out rfl).1.1
      refine ⟨⟨fun j r hr => ?_, fun j r y hr hy => ?_, hsn.dom⟩, hv⟩
      · rw [hsn.pr j r hr, pgs_one]; simp
      · rw [S2.out.j.seeWrite V' hD' hp1 hp hf hQ1 z x j r hr y, hsn.rd j r y hr hy, hz])
    clear hv hz hp hf hD' hf' hQ0 hwr hQ1
    go_wp2_with fail
    refine WT.out.mono ?_
    rintro e w3 ⟨rfl, h3⟩
    have E3 := Lib.hid h3
    clear h3
    go_wp2
    go_ret
    exact ⟨rfl, c', D', Q', _, _, ⟨E3.out.1, S2.out.j⟩, K2.out.trans E3.out.2, fun e => absurd rfl e, fun _ => ⟨SW.out, OK1.out.2⟩⟩
  · have hne' : (er != 0) = true := by simpa using h0
    go_wp2
    go_ret
    exact ⟨rfl, c', D', Q', V', Lb', S2.out, K2.out, NE.out, fun e => absurd e h0⟩
/-- Reach: the error. -/
def reachS (there : Bool) (G : Int → Option Pc) (i words k : Int) : Int := if there = true then (if idB i = true then (if 1 ≤ words ∧ words ≤ 1024 then (match G i with
  | none => 4
  | some _ => k) else 2) else 2) else 1
set_option maxHeartbeats 2000000 in
theorem Sta.reachBad (h : Sta W0 w I q c D Q V Lb G ow0 (PG G)) (i va words : Int) (hw : I64 words) (wr : Bool) (hG : ¬ (idB i = true ∧ (1 ≤ words ∧ words ≤ 1024) ∧ (G i).isSome = true)) :
    Calls Tryz.prog 26 #[.pointer (some ⟨I.ss, 0, none⟩), .int .i64 i, .int .u32 va, .int .i64 words, .bool wr] w fun e w' => (∃ er, er ≠ 0 ∧ e = .returned (.int .i64 er)) ∧ Below w.heap.size w w' := by
  have hth : ∀ W', Below w.heap.size w W' → Calls Tryz.prog 75 #[.pointer (some ⟨I.ss, 0, none⟩)] W' fun e w' => e = .returned (.bool true) ∧ W' = w' := by obtain ⟨W, Pb, h1, _⟩ := h.bl; exact h1.there
  obtain ⟨w1, w2⟩ := hw
  cases hi : idB i with
  | false =>
    have AK := Lib.hid (askS_one (some ⟨I.ss, 0, none⟩) true i w hth (askS_bad hi))
    clear h hth hG
    go_enter Tryz.func26, Tryz.ntmps26
    go_wp2_with fail
    refine AK.out.mono ?_
    rintro e w1 ⟨rfl, hb⟩
    have B := Lib.hid hb
    clear hb
    go_wp2
    go_ret
    exact ⟨⟨2, by decide, rfl⟩, B.out⟩
  | true =>
    have AK := Lib.hid (askS_one (some ⟨I.ss, 0, none⟩) true i w hth (askS_yes hi))
    by_cases h1 : words < 1
    · clear h hth hG
      go_enter Tryz.func26, Tryz.ntmps26
      go_wp2_with fail
      refine AK.out.mono ?_
      rintro e w1 ⟨rfl, hb⟩
      have B := Lib.hid hb
      clear hb
      go_wp2
      go_ret
      exact ⟨⟨2, by decide, rfl⟩, B.out⟩
    · by_cases h2 : 1024 < words
      · clear h hth hG
        go_enter Tryz.func26, Tryz.ntmps26
        go_wp2_with fail
        refine AK.out.mono ?_
        rintro e w1 ⟨rfl, hb⟩
        have B := Lib.hid hb
        clear hb
        go_wp2
        go_ret
        exact ⟨⟨2, by decide, rfl⟩, B.out⟩
      · have hGn : G i = none := by
          cases hg : G i with
          | none => rfl
          | some s => exact absurd ⟨hi, ⟨by omega, by omega⟩, by rw [hg]; rfl⟩ hG
        have e1 : findSE G i = 4 := by unfold findSE; rw [hi, hGn]; rfl
        have FN := Lib.hid (show ∀ W, Below w.heap.size w W → _ from fun W hb => (h.step hb).find i (p := none) (by rw [e1]; rfl) e1)
        have g1 : decide (words < 1) = false := decide_eq_false h1
        have g2 : decide (1024 < words) = false := decide_eq_false h2
        clear h hth hG hGn e1
        go_enter Tryz.func26, Tryz.ntmps26
        go_wp2_with fail
        refine AK.out.mono ?_
        rintro e w1 ⟨rfl, hb⟩
        have B := Lib.hid hb
        clear hb
        go_wp2_with fail
        refine (FN.out w1 B.out).mono ?_
        rintro e w2 ⟨rfl, hb⟩
        have B2 := Lib.hid (B.out.trans (hb.mono B.out.size))
        clear hb
        simp only [ptV]
        go_wp2
        go_ret
        exact ⟨⟨4, by decide, rfl⟩, B2.out⟩
set_option maxHeartbeats 2000000 in
theorem Sta.reach_ (h : Sta W0 w I q c D Q V Lb G ow0 (PG G)) {i : Int} {s : Pc} {F : Sp} (hG : G i = some s) (hD : D i = some F) (va : Int) (hva : 0 ≤ va ∧ va < 4294967296) (words : Nat) (h1 : 1 ≤ words) (h2 : words ≤ 1024) (wr : Bool) :
    Calls Tryz.prog 26 #[.pointer (some ⟨I.ss, 0, none⟩), .int .i64 i, .int .u32 va, .int .i64 (words : Int), .bool wr] w fun e w' => e = .returned (.int .i64 (reachE s.ar Lb F i va words wr)) ∧ Out W0 w w' I q c D Q V Lb G i va words F (reachE s.ar Lb F i va words wr) (fun D' V' => Seen D V D' V' i (fun r => decide (r ∈ pgs va words)) ∧ va < 32768) := by
  have hth : ∀ W', Below w.heap.size w W' → Calls Tryz.prog 75 #[.pointer (some ⟨I.ss, 0, none⟩)] W' fun e w' => e = .returned (.bool true) ∧ W' = w' := by obtain ⟨W, Pb, h1, _⟩ := h.bl; exact h1.there
  have hi : idB i = true := decide_eq_true (h.j.pid i F hD)
  have AK := Lib.hid (askS_one (some ⟨I.ss, 0, none⟩) true i w hth (askS_yes hi))
  have HF := Lib.hid (show ∀ W, Below w.heap.size w W → _ from fun W hb => (h.step hb).find i (p := some s.blk) (by rw [findSE_some h hG, if_pos rfl, hG]; rfl) (findSE_some h hG))
  obtain ⟨er, her⟩ : ∃ er, er = reachE s.ar Lb F i va words wr := ⟨_, rfl⟩
  have RC := Lib.hid (show ∀ W, Below w.heap.size w W → _ from fun W hb => (h.step hb).reachU hG hD va hva words h1 h2 wr her)
  have g1 : decide ((words : Int) < 1) = false := decide_eq_false (by omega)
  have g2 : decide ((1024 : Int) < (words : Int)) = false := decide_eq_false (by omega)
  rw [← her]
  clear h her hth hi hG hD
  go_enter Tryz.func26, Tryz.ntmps26
  go_wp2_with fail
  refine AK.out.mono ?_
  rintro e w0 ⟨rfl, hb⟩
  have B0 := Lib.hid hb
  clear hb
  go_wp2_with fail
  refine (HF.out w0 B0.out).mono ?_
  rintro e w1 ⟨rfl, hb⟩
  have B := Lib.hid (B0.out.trans (hb.mono B0.out.size))
  clear hb
  simp only [ptV]
  go_wp2_with fail
  refine (RC.out w1 B.out).mono ?_
  rintro e w2 ⟨f, z, rfl, c', D', Q', V', Lb', hs, hk, hne, hok⟩
  have S2 := Lib.hid hs
  have K2 := Lib.hid ((KeepB.below B.out).trans hk)
  have NE := Lib.hid hne
  have OK := Lib.hid hok
  clear hs hk hne hok
  go_wp2
  go_ret
  exact ⟨rfl, c', D', Q', V', Lb', S2.out, K2.out, NE.out, fun e => ⟨⟨(OK.out e).1.1, (OK.out e).2.1⟩, (OK.out e).1.2⟩⟩
end
end Go.Proofs.YtkenipanpimolaaGreatDoor

/- The contracts of package space's open, Open. Condition: the listed tables read as laid. -/
namespace Go.Proofs.YtkenipanpimolaaGreatDoor
open Go.RowKit Go.Maps
set_option maxRecDepth 100000

def putG (G : Int → Option Pc) (i : Int) (s : Pc) : Int → Option Pc := fun j => if j = i then some s else G j
theorem putG_same (G : Int → Option Pc) (i : Int) (s : Pc) : putG G i s i = some s := by simp [putG]
theorem putG_other (G : Int → Option Pc) (i : Int) (s : Pc) {j : Int} (h : j ≠ i) : putG G i s j = G j := by simp [putG, h]
def delG (G : Int → Option Pc) (i : Int) : Int → Option Pc := fun j => if j = i then none else G j
theorem Link.put {W : Nat → Option Sp} {G : Int → Option Pc} {D : Int → Option Sp} (h : Link W G D) {i : Int} {x : Nat} {s : Pc} (hx : W x = none) (hs : s.root = x) : Link (updW W x (some noF)) (putG G i s) (setD D i (some noF)) := by
  refine ⟨fun j hj => ?_, fun j t hj => ?_, fun j l t u hj hl e => ?_⟩
  · by_cases e : j = i
    · subst e; rw [putG_same] at hj; cases hj
    · rw [putG_other _ _ _ e] at hj; rw [setD_other _ _ _ e]; exact h.none_ j hj
  · by_cases e : j = i
    · subst e
      rw [putG_same] at hj
      cases hj
      rw [hs, updW_same, setD_same]; exact ⟨rfl, rfl⟩
    · rw [putG_other _ _ _ e] at hj
      have h1 := h.some_ j t hj
      have : t.root ≠ x := fun e2 => by rw [e2, hx] at h1; cases h1.1
      rw [updW_other _ _ _ _ this, setD_other _ _ _ e]; exact h1
  · by_cases e1 : j = i
    · by_cases e2 : l = i
      · rw [e1, e2]
      · subst e1
        rw [putG_same] at hj
        rw [putG_other _ _ _ e2] at hl
        cases hj
        have h1 := (h.some_ l u hl).1
        rw [← e, hs, hx] at h1; cases h1
    · by_cases e2 : l = i
      · subst e2
        rw [putG_same] at hl
        rw [putG_other _ _ _ e1] at hj
        cases hl
        have h1 := (h.some_ j t hj).1
        rw [e, hs, hx] at h1; cases h1
      · rw [putG_other _ _ _ e1] at hj
        rw [putG_other _ _ _ e2] at hl
        exact h.inj j l t u hj hl e
section
variable (w : World) {ops : Array Oper} {rest : List Oper} {o : Oper} {a : Act} {Q : Exit → Act → World → Prop}
theorem wpList_sp_look0 (hg : o.guard = none) (m x : Operand) (hop : o.op = Op.lookup 97 m x false) (b : Nat) (P : Pt) (hm : a.eval m = .map (some b)) (h : PtrsAt w b P) (y : Int) (hx : a.eval x = .int .i64 y) (hy : -9223372036854775808 ≤ y ∧ y ≤ 9223372036854775807) (hc : P y = none)
    (hK : wpList Tryz.prog ops Q rest (a.put o.dst (.pointer none)) w) : wpList Tryz.prog ops Q (o :: rest) a w := wpList_sp_look w hg m x hop b P hm h y hx hy none hc hK
theorem wpList_sp_look1 (hg : o.guard = none) (m x : Operand) (hop : o.op = Op.lookup 97 m x false) (b : Nat) (P : Pt) (hm : a.eval m = .map (some b)) (h : PtrsAt w b P) (y : Int) (hx : a.eval x = .int .i64 y) (hy : -9223372036854775808 ≤ y ∧ y ≤ 9223372036854775807) (p : Nat) (hc : P y = some p)
    (hK : wpList Tryz.prog ops Q rest (a.put o.dst (.pointer (some ⟨p, 0, none⟩))) w) : wpList Tryz.prog ops Q (o :: rest) a w := wpList_sp_look w hg m x hop b P hm h y hx hy (some p) hc hK
end
section
variable {W0 w : World} {I : SIx} {q c : Nat} {Q : Nat → Nat} {V : Nat → Nat → Int} {Lb : List Nd} {G : Int → Option Pc} {D : Int → Option Sp}
/-- A space is put into the map. -/
theorem Big.putS {W : Nat → Option Sp} {Pb : Pt} {w' : World} (h : Big W0 w I c W Q V Pb Lb G) {i : Int} {s : Pc} (hG : G i = none) (hb : w.heap[s.blk]? = some (spO i s)) (ha : ArAt w s.v s.ar ∧ OkD s.ar) (hn : W0.heap.size ≤ s.blk) (hp : PtrsAt w' I.mm (updP (blkG G) i (some s.blk))) (hg : w.grownBy w' (some I.mm)) : Goes W0 w w' I c W Q V Lb (putG G i s) := by
  have ho : Only w w' (fun k => k = I.mm) := Only.grown hg rfl
  obtain ⟨es, ck, hm⟩ := h.map.isMap
  have hne : ∀ {k : Nat} {o : Obj}, w.heap[k]? = some o → kindOf o ≠ none → k ≠ I.mm := fun {k o} hk ho e => by rw [e, hm] at hk; cases hk; exact ho rfl
  have hna : ∀ k, k = I.mm → NoAr w k := fun k e => by rw [e]; exact noAr_map hm
  have _ := hG
  refine h.own ho (fun k hk => Or.inl hk) ?_ (fun j t hj => ?_)
  · have : blkG (putG G i s) = updP (blkG G) i (some s.blk) := by
      funext j
      unfold blkG updP putG
      by_cases e : j = i
      · rw [if_pos e, if_pos e]; rfl
      · rw [if_neg e, if_neg e]
    rw [this]; exact hp
  · by_cases e : j = i
    · subst e
      rw [putG_same] at hj
      cases hj
      exact ⟨ho.kept hb (hne hb (by simp [spO, kindOf])), ha.1.only ho hna, ha.2, hn⟩
    · rw [putG_other _ _ _ e] at hj
      obtain ⟨a, b, d⟩ := h.sp j t hj
      exact ⟨ho.kept a (hne a (by simp [spO, kindOf])), b.only ho hna, d, h.nsp j t hj⟩
theorem chargeOf (h : GoodU Lb) {i : Int} (hN : atN i Lb ≠ none) {k : Nat} (hk : k ≤ 60000) : chargeEU Lb i (k : Int) = if leftL Lb i < (k : Int) then 3 else 0 := by
  unfold chargeEU
  cases ha : atN i Lb with
  | none => exact absurd ha hN
  | some x =>
    have hx := (h.ok x (atN_some ha).1).1
    rw [(atN_some ha).2] at hx
    rw [if_pos (fitB_iff.2 ⟨hx, by omega, by omega⟩), if_neg (by simp)]
set_option maxHeartbeats 4000000 in
theorem Sta.openS (h : Sta W0 w I q c D Q V Lb G ow0 (PG G)) {i : Int} (hi : 1 ≤ i ∧ i ≤ 8) (hG : G i = none) (hN : atN i Lb ≠ none) (cost : Nat) (hc : 1 ≤ cost ∧ cost ≤ 60000) :
    Calls Tryz.prog 39 #[.pointer (some ⟨I.ss, 0, none⟩), .int .i64 i, .int .i64 (cost : Int)] w fun e w' => (leftL Lb i < (cost : Int) ∧ e = .returned (.tuple #[.pointer none, .int .i64 3]) ∧ Below w.heap.size w w') ∨ ((cost : Int) ≤ leftL Lb i ∧ ∃ s c', s.ar = [] ∧ e = .returned (.tuple #[.pointer (some ⟨s.blk, 0, none⟩), .int .i64 0]) ∧ Sta W0 w' I q c' (setD D i (some noF)) Q V (chargeL Lb i (cost : Int)) (putG G i s) (single i (cost - 1)) (PG (putG G i s)) ∧ KeepB w w') := by
  obtain ⟨d, hd⟩ : ∃ d, d = leftL Lb i := ⟨_, rfl⟩
  have LF := Lib.hid (h.bl.leftB i hd.symm)
  have c3 := h.bl.cells.2.2.2.1
  have DD := Lib.hid hd
  have hDi : D i = none := by obtain ⟨W, Pb, _, h2⟩ := h.bl; exact h2.none_ i hG
  rw [← hd]
  by_cases hlt : d < (cost : Int)
  · clear hd
    go_enter Tryz.func39, Tryz.ntmps39
    go_wp2_with fail
    refine LF.out.mono ?_
    rintro e w1 ⟨rfl, hb⟩
    have B := Lib.hid hb
    clear hb
    go_wp2
    go_ret2
    exact Or.inl ⟨hlt, rfl, B.out⟩
  · have hce : chargeEU Lb i (cost : Int) = 0 := by rw [chargeOf h.j.tree.good hN hc.2, if_neg (by omega)]
    have hroom := h.j.room i
    have hc1 : c ≠ 0 := by
      have : 0 ≤ (sum8 ow0 : Int) := by omega
      omega
    have HCE := Lib.hid hce
    have H := Lib.hid h
    have HG := Lib.hid hG
    have HDI := Lib.hid hDi
    have d1 : decide (d < (cost : Int)) = false := decide_eq_false hlt
    clear hd h hG hDi hce hroom hN
    go_enter Tryz.func39, Tryz.ntmps39
    go_wp2_with fail
    refine LF.out.mono ?_
    rintro e w1 ⟨rfl, hb1⟩
    have B1 := Lib.hid hb1
    have S1 := Lib.hid (H.out.step hb1)
    obtain ⟨W, Pb, hbig, hlink⟩ := S1.out.bl
    have BG := Lib.hid hbig
    have LK := Lib.hid hlink
    have c4 := hbig.cells.2.2.2.2.1
    clear hb1 c3 hbig hlink
    go_wp2_with fail
    refine BG.out.sys.open_.mono ?_
    rintro e w2 (⟨hcz, _⟩ | ⟨x, hx, hwx, _, rfl, hg⟩)
    · exact absurd hcz hc1
    obtain ⟨hb2, hk2⟩ := BG.out.byTab hg
    obtain ⟨s, hs⟩ : ∃ s : Pc, s = ⟨w2.heap.size, x, .slice none 0 0, []⟩ := ⟨_, rfl⟩
    obtain ⟨w3, hw3⟩ : ∃ w3, w3 = w2.alloc (.cells #[.int .i64 i, .int .i64 (x : Int), .slice none 0 0] 125) := ⟨_, rfl⟩
    have hb23 : Below w2.heap.size w2 w3 := by rw [hw3]; exact (Below.refl _ _).alloc (Nat.le_refl _) _
    have BG3 := Lib.hid (hb2.step hb23)
    have N3 : Hid (w3.heap[s.blk]? = some (spO i s)) := Lib.hid (by rw [hw3, hs]; exact heap_alloc_new w2 _)
    have K3 := Lib.hid (((KeepB.below B1.out).trans hk2).trans (KeepB.below hb23))
    have SS := Lib.hid hs
    have HWX := Lib.hid hwx
    have NB : Hid (W0.heap.size ≤ s.blk) := Lib.hid (by rw [hs]; exact hb2.sys.below.size)
    have ARN : Hid (ArAt w3 s.v s.ar ∧ OkD s.ar) := Lib.hid (by rw [hs]; exact ⟨ArAt.nil _, OkD.nil⟩)
    have c5 := BG3.out.cells.2.2.2.2.2
    subst hw3
    clear hg hb2 hk2 hb23 c4 hwx hx hs
    go_wp2_with (refine wpList_sp_put _ rfl (.tmp 37) (.tmp 38) (.tmp 39) rfl I.mm (blkG G) rfl BG3.out.map i rfl hi w2.heap.size rfl ?_; intro w4 hp4 hg4; have P4 : Hid (PtrsAt w4 I.mm (updP (blkG G) i (some s.blk)) ∧ (w2.alloc (.cells #[.int .i64 i, .int .i64 (x : Int), .slice none 0 0] 125)).grownBy w4 (some I.mm)) := Lib.hid (by rw [SS.out]; exact ⟨hp4, hg4⟩); obtain ⟨⟨Pb4, hb4⟩, hk4⟩ := BG3.out.putS HG.out N3.out ARN.out NB.out P4.out.1 P4.out.2; have BL4 : Hid (BL W0 w4 I (c - 1) Q V Lb (putG G i s) (setD D i (some noF))) := Lib.hid ⟨_, Pb4, hb4, LK.out.put HWX.out (by rw [SS.out])⟩; have K4 := Lib.hid (K3.out.trans hk4); have c3 := hb4.cells.2.2.2.1; clear hb4 hk4 hp4 hg4 c5)
    have CG := Lib.hid (BL4.out.charge i (cost : Int) HCE.out)
    refine CG.out.mono ?_
    rintro e w5 ⟨rfl, h5⟩
    have E5 := Lib.hid h5
    clear h5
    go_wp2_with fail
    go_ret2
    refine Or.inr ⟨by omega, s, c - 1, by rw [SS.out], by rw [SS.out]; rfl, ⟨E5.out.1, ?_⟩, K4.out.trans E5.out.2⟩
    have hj := (H.out.j.charge HCE.out)
    rw [addO_zero] at hj
    have hj2 := hj.open_ HDI.out hi (by rw [single_same]; omega)
    rw [subO_single] at hj2
    refine hj2.pages fun j F p hj3 hp hF => ?_
    rcases setD_ways hj3 with ⟨rfl, rfl⟩ | ⟨hne, hj3⟩
    · cases hF
    · unfold PG; rw [putG_other _ _ _ hne]
/-- Open: the error. -/
def openSE (G : Int → Option Pc) (Lb : List Nd) (i : Int) : Int := if idB i = true then (if atN i Lb = none then 4 else if (G i).isSome = true then 5 else if leftL Lb i < 1 then 3 else 0) else 2
theorem single_pred (i : Int) : single i (1 - 1) = ow0 := single_zero i
set_option maxHeartbeats 4000000 in
theorem Sta.open_ (h : Sta W0 w I q c D Q V Lb G ow0 (PG G)) (i : Int) :
    Calls Tryz.prog 16 #[.pointer (some ⟨I.ss, 0, none⟩), .int .i64 i] w fun e w' => e = .returned (.int .i64 (openSE G Lb i)) ∧ KeepB w w' ∧ (openSE G Lb i ≠ 0 ∧ Sta W0 w' I q c D Q V Lb G ow0 (PG G) ∨ openSE G Lb i = 0 ∧ (1 ≤ i ∧ i ≤ 8) ∧ G i = none ∧ ∃ s c', s.ar = [] ∧ Sta W0 w' I q c' (setD D i (some noF)) Q V (chargeL Lb i 1) (putG G i s) ow0 (PG (putG G i s))) := by
  have hth : ∀ W', Below w.heap.size w W' → Calls Tryz.prog 75 #[.pointer (some ⟨I.ss, 0, none⟩)] W' fun e w' => e = .returned (.bool true) ∧ W' = w' := by obtain ⟨W, Pb, h1, _⟩ := h.bl; exact h1.there
  cases hid : idB i with
  | false =>
    have e1 : openSE G Lb i = 2 := by unfold openSE; rw [hid]; rfl
    have AK := Lib.hid (askS_one (some ⟨I.ss, 0, none⟩) true i w hth (askS_bad hid))
    rw [e1]
    have H := Lib.hid h
    clear h hth e1
    go_enter Tryz.func16, Tryz.ntmps16
    go_wp2_with fail
    refine AK.out.mono ?_
    rintro e w1 ⟨rfl, hb⟩
    have B := Lib.hid hb
    clear hb
    go_wp2
    go_ret
    exact ⟨rfl, KeepB.below B.out, Or.inl ⟨by decide, H.out.step B.out⟩⟩
  | true =>
    have hi : 1 ≤ i ∧ i ≤ 8 := by unfold idB at hid; simpa using hid
    have AK := Lib.hid (askS_one (some ⟨I.ss, 0, none⟩) true i w hth (askS_yes hid))
    have IC := Lib.hid (show ∀ W, Below w.heap.size w W → _ from fun W hb => (h.bl.step hb).isContainer i)
    have H := Lib.hid h
    cases hN : atN i Lb with
    | none =>
      have e1 : openSE G Lb i = 4 := by unfold openSE; rw [hid, if_pos rfl, if_pos hN]
      rw [e1]
      have ICN := Lib.hid (show ∀ W, Below w.heap.size w W → Calls Tryz.prog 38 #[.pointer (some ⟨I.ss, 0, none⟩), .int .i64 i] W fun e w' => e = .returned (.bool false) ∧ Below W.heap.size W w' from fun W hb => by have := IC.out W hb; rwa [hN] at this)
      clear h hth e1 IC
      go_enter Tryz.func16, Tryz.ntmps16
      go_wp2_with fail
      refine AK.out.mono ?_
      rintro e w1 ⟨rfl, hb⟩
      have B := Lib.hid hb
      clear hb
      go_wp2_with fail
      refine (ICN.out w1 B.out).mono ?_
      rintro e w2 ⟨rfl, hb⟩
      have B2 := Lib.hid (B.out.trans (hb.mono B.out.size))
      clear hb
      go_wp2
      go_ret
      exact ⟨rfl, KeepB.below B2.out, Or.inl ⟨by decide, H.out.step B2.out⟩⟩
    | some nd =>
      have ICN := Lib.hid (show ∀ W, Below w.heap.size w W → Calls Tryz.prog 38 #[.pointer (some ⟨I.ss, 0, none⟩), .int .i64 i] W fun e w' => e = .returned (.bool true) ∧ Below W.heap.size W w' from fun W hb => by have := IC.out W hb; rwa [hN] at this)
      have MP := Lib.hid (show ∀ W, Below w.heap.size w W → W.cell? ⟨I.ss, 5, none⟩ = some (.map (some I.mm)) ∧ PtrsAt W I.mm (blkG G) from fun W hb => by obtain ⟨W1, Pb, h1, _⟩ := (H.out.step hb).bl; exact ⟨h1.cells.2.2.2.2.2, h1.map⟩)
      cases hGi : G i with
      | some s =>
        have e1 : openSE G Lb i = 5 := by unfold openSE; rw [hid, if_pos rfl, if_neg (by rw [hN]; simp), hGi]; rfl
        rw [e1]
        have HB := Lib.hid (show blkG G i = some s.blk by simp [hGi])
        clear h hth e1 IC hGi
        go_enter Tryz.func16, Tryz.ntmps16
        go_wp2_with fail
        refine AK.out.mono ?_
        rintro e w1 ⟨rfl, hb⟩
        have B := Lib.hid hb
        clear hb
        go_wp2_with fail
        refine (ICN.out w1 B.out).mono ?_
        rintro e w2 ⟨rfl, hb⟩
        have B2 := Lib.hid (B.out.trans (hb.mono B.out.size))
        clear hb
        obtain ⟨c5, hmp⟩ := MP.out w2 B2.out
        have M2 := Lib.hid hmp
        clear hmp
        go_wp2_with (refine wpList_sp_look1 _ rfl (.tmp 24) (.tmp 25) rfl I.mm (blkG G) rfl M2.out i rfl (by omega) s.blk HB.out ?_)
        go_ret
        exact ⟨rfl, KeepB.below B2.out, Or.inl ⟨by decide, H.out.step B2.out⟩⟩
      | none =>
        have e1 : openSE G Lb i = if leftL Lb i < 1 then 3 else 0 := by unfold openSE; rw [hid, if_pos rfl, if_neg (by rw [hN]; simp), hGi]; rfl
        rw [e1]
        have HB := Lib.hid (show blkG G i = none by simp [hGi])
        have OP := Lib.hid (show ∀ W, Below w.heap.size w W → Calls Tryz.prog 39 #[.pointer (some ⟨I.ss, 0, none⟩), .int .i64 i, .int .i64 1] W _ from fun W hb => (h.step hb).openS hi hGi (by rw [hN]; simp) 1 (by decide))
        obtain ⟨er, her⟩ : ∃ er : Int, er = if leftL Lb i < 1 then 3 else 0 := ⟨_, rfl⟩
        have ER := Lib.hid her
        rw [← her]
        have GN := Lib.hid hGi
        clear h hth e1 IC hGi her
        go_enter Tryz.func16, Tryz.ntmps16
        go_wp2_with fail
        refine AK.out.mono ?_
        rintro e w1 ⟨rfl, hb⟩
        have B := Lib.hid hb
        clear hb
        go_wp2_with fail
        refine (ICN.out w1 B.out).mono ?_
        rintro e w2 ⟨rfl, hb⟩
        have B2 := Lib.hid (B.out.trans (hb.mono B.out.size))
        clear hb
        obtain ⟨c5, hmp⟩ := MP.out w2 B2.out
        have M2 := Lib.hid hmp
        clear hmp
        go_wp2_with (refine wpList_sp_look0 _ rfl (.tmp 24) (.tmp 25) rfl I.mm (blkG G) rfl M2.out i rfl (by omega) HB.out ?_)
        refine (OP.out w2 B2.out).mono ?_
        rintro e w3 (⟨hl, rfl, hb⟩ | ⟨hl, s, c', hs, rfl, hst, hk⟩)
        · have B3 := Lib.hid (B2.out.trans (hb.mono B2.out.size))
          have LL := Lib.hid hl
          clear hb hl
          go_wp2
          go_ret
          have e3 : er = 3 := by rw [ER.out, if_pos (by have := LL.out; omega)]
          rw [e3]
          exact ⟨rfl, KeepB.below B3.out, Or.inl ⟨by decide, H.out.step B3.out⟩⟩
        · have S3 := Lib.hid hst
          have K3 := Lib.hid ((KeepB.below B2.out).trans hk)
          have LL := Lib.hid hl
          have AS := Lib.hid hs
          clear hst hk hl hs
          go_wp2
          go_ret
          have e3 : er = 0 := by rw [ER.out, if_neg (by have := LL.out; omega)]
          rw [e3]
          have := S3.out
          rw [single_pred] at this
          exact ⟨rfl, K3.out, Or.inr ⟨rfl, hi, (by first | exact GN.out | trivial), s, c', AS.out, this⟩⟩
end
end Go.Proofs.YtkenipanpimolaaGreatDoor

/- The contract of package space's drop. Condition: the listed tables read as laid. -/
namespace Go.Proofs.YtkenipanpimolaaGreatDoor
open Go.RowKit Go.Maps
set_option maxRecDepth 100000

/-- What is seen where pages of one process went. -/
structure SeenD (D : Int → Option Sp) (D' : Int → Option Sp) (V : Nat → Nat → Int) (i : Int) (L : List Nat) : Prop where
  pr : ∀ j r, r < 1024 → prD D' j r = (prD D j r && !(decide (j = i) && decide (r ∈ L)))
  rd : ∀ j r y, r < 1024 → y < 32 → rdD D' V j r y = if j = i ∧ r ∈ L then 0 else rdD D V j r y
  dom : ∀ j, (D' j).isSome = (D j).isSome
  far : ∀ j r, (D' j).isSome = true → (prD D' j r = prD D j r ∨ prD D' j r = false)
section
variable {W0 w : World} {I : SIx} {q c : Nat} {Q : Nat → Nat} {V : Nat → Nat → Int} {Lb : List Nd} {G : Int → Option Pc} {D : Int → Option Sp} {P : Int → Nat → Option Bool}
end
end Go.Proofs.YtkenipanpimolaaGreatDoor

/- The contracts of package space's Close, Mapped, Areas. Condition: the listed tables read as laid. -/
namespace Go.Proofs.YtkenipanpimolaaGreatDoor
open Go.RowKit Go.Maps
set_option maxRecDepth 100000

section
variable {W0 w : World} {I : SIx} {q c : Nat} {Q : Nat → Nat} {V : Nat → Nat → Int} {Lb : List Nd} {G : Int → Option Pc} {D : Int → Option Sp}
end
end Go.Proofs.YtkenipanpimolaaGreatDoor
