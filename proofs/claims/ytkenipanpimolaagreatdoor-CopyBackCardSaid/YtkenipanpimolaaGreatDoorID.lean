/- Texts of mine, joined: Z13 Z15 Z16 Z17. What each says and under which conditions stands at its head, below. -/
import Derived.Test.YtkenipanpimolaaGreatDoorIB
import Derived.Test.YtkenipanpimolaaGreatDoorIC
import Derived.Test.YtkenipanpimolaaGreatDoorHT
import Derived.Test.YtkenipanpimolaaGreatDoorGD8
import Derived.Test.YtkenipanpimolaaGreatDoorGNL
/- Rows of containers of somebody else's beside a budget; spaces over ranges of one; what law 17's maker leaves. Condition: the listed tables read as laid. -/
namespace Go.Proofs.YtkenipanpimolaaGreatDoor
open Go.RowKit Go.Maps
set_option maxRecDepth 100000

section
variable {W0 w : World} {I : SIx} {q : Nat} {Lb : List Nd} {G : Int → Option Pc} {pr : Int → Nat → Bool} {rd : Int → Nat → Nat → Int}
theorem Hv.frzT (h : Hv W0 w I q Lb G pr rd) {w' : World} (T : ∀ c W Q V Pb, Big W0 w I c W Q V Pb Lb G → Big W0 w' I c W Q V Pb Lb G) {g : Nat} {cur : Array Value} (hg : w.heap.size ≤ g ∨ ∃ cs, I.fz g = some cs) (hc : w'.heap[g]? = some (.cells cur 96 (0, 0))) :
    ∃ I' : SIx, I'.ss = I.ss ∧ I'.bb = I.bb ∧ I'.fz g = some cur ∧ Hv W0 w' I' q Lb G pr rd := by
  refine ⟨{ I with fz := fun k => if k = g then some cur else none }, rfl, rfl, if_pos rfl, ?_⟩
  obtain ⟨c, D, Q, V, ⟨⟨W, Pb, h1, h2⟩, hj⟩, h3⟩ := h
  have h4 := T _ _ _ _ _ h1
  refine ⟨c, D, Q, V, ⟨⟨W, Pb, ⟨h4.sys, h4.bud, h4.box, h4.map, h4.sp, h4.nbm, h4.nmm, h4.nod, h4.nsp, h4.ne, fun k cs hk => ?_⟩, h2⟩, hj⟩, h3⟩
  have hk' : (if k = g then some cur else none) = some cs := hk
  split at hk'
  · rename_i e
    subst e
    obtain rfl := Option.some.inj hk'
    refine ⟨hc, fun i p hp e => ?_⟩
    rcases hg with hg | ⟨cs', hg⟩
    · have : p < w.heap.size := h1.bud.lt (Or.inr ⟨i, hp⟩)
      omega
    · exact (h1.fz k cs' hg).2 i p hp e
  · cases hk'
theorem Hv.fzAt (h : Hv W0 w I q Lb G pr rd) {g : Nat} {cur : Array Value} (hg : I.fz g = some cur) : w.heap[g]? = some (.cells cur 96 (0, 0)) := by
  obtain ⟨c, D, Q, V, ⟨⟨W, Pb, h1, h2⟩, hj⟩, h3⟩ := h
  exact (h1.fz g cur hg).1
end
/-- Which block a list of containers lies in. -/
theorem nds_blk {w : World} {nv : Value} {L : List Nd} (hL : L ≠ []) (ho : w.ownsRow 0 96 4 nv L.length (ndsV L)) : ∃ g cur, nv.ownBlock = some g ∧ w.heap[g]? = some (.cells cur 96 (0, 0)) ∧ ∀ w' : World, w'.heap[g]? = some (.cells cur 96 (0, 0)) → w'.ownsRow 0 96 4 nv L.length (ndsV L) := by
  obtain ⟨h1, h2⟩ := ho
  rcases h2 with ⟨_, h0⟩ | ⟨g, cap, cur, rfl, hb, hg, r⟩
  · exact absurd (List.eq_nil_of_length_eq_zero h0) hL
  · exact ⟨g, cur, rfl, hg, fun w' hw => ⟨h1, Or.inr ⟨g, cap, cur, rfl, hb, hw, r⟩⟩⟩
theorem noAr_wd {w : World} {wb : Nat} {a b : Value} (h : w.heap[wb]? = some (boxWd a b)) : NoAr w wb := fun o x y b ⟨_, _, h2⟩ => by
  rw [cell_of_row _ _ _ _ _ _ h, Array.getElem?_eq_none (by simp)] at h2; cases h2
/-- The block of a list of containers is known. -/
def FzV (I : SIx) (nv : Value) : Prop := ∃ g cur, nv.ownBlock = some g ∧ I.fz g = some cur
section
variable {W0 w : World} {I : SIx} {q : Nat} {Lb : List Nd} {G : Int → Option Pc} {pr : Int → Nat → Bool} {rd : Int → Nat → Nat → Int}
/-- A turn of the document's world. -/
theorem Hv.turnZ (h : Hv W0 w I q Lb G pr rd) {w' : World} {wb : Nat} {x y nv nv' : Value} {L : List Nd} (hb : w.heap[wb]? = some (boxWd x y)) (hw : W0.heap.size ≤ wb) (ho : Only w w' (fun k => k = wb)) (hL : L ≠ []) (hr : w'.ownsRow 0 96 4 nv' L.length (ndsV L)) (hn : ∀ g, nv'.ownBlock = some g → nv.ownBlock = some g ∨ w.heap.size ≤ g) (hz : FzV I nv) :
    ∃ I' : SIx, (I'.ss = I.ss ∧ I'.bb = I.bb) ∧ FzV I' nv' ∧ (∀ V Lb' G' pr' rd', Hv W0 V I' q Lb' G' pr' rd' → V.ownsRow 0 96 4 nv' L.length (ndsV L)) ∧ Hv W0 w' I' q Lb G pr rd := by
  obtain ⟨g1, cur1, hg1, hc1, hr1⟩ := nds_blk hL hr
  obtain ⟨I', a, b, z, k⟩ := h.frzT (w' := w') (fun _ _ _ _ _ hB => hB.ownBox hb (by decide) hw (noAr_wd hb) ho) (g := g1) (cur := cur1) (by
    rcases hn g1 hg1 with e | e
    · obtain ⟨g, cur, e1, e2⟩ := hz
      rw [e] at e1
      obtain rfl := Option.some.inj e1
      exact Or.inr ⟨cur, e2⟩
    · exact Or.inl e) hc1
  exact ⟨I', ⟨a, b⟩, ⟨g1, cur1, hg1, z⟩, fun V _ _ _ _ hV => hr1 V (hV.fzAt z), k⟩
end
/-- The quotas. -/
def Quo (q h : Nat) : Prop := (q = 30 ∧ h = 10) ∨ (q = 60 ∧ h = 20)
section
variable {q h : Nat}
theorem Quo.e1 (k : Quo q h) : openSE (fun _ => none) [(1, 0, (q : Int), 0)] 1 = 0 := by rcases k with ⟨rfl, rfl⟩ | ⟨rfl, rfl⟩ <;> decide
theorem Quo.e2 (k : Quo q h) : chargeEU [(1, 0, (q : Int), 0)] 1 1 = 0 ∧ chargeL [(1, 0, (q : Int), 0)] 1 1 = [(1, 0, (q : Int), 1)] := by rcases k with ⟨rfl, rfl⟩ | ⟨rfl, rfl⟩ <;> decide
theorem Quo.e5 (k : Quo q h) : openEU [(1, 0, (q : Int), 1)] 2 1 (h : Int) = 0 ∧ openL [(1, 0, (q : Int), 1)] 2 1 (h : Int) = twoL q h 1 0 := by rcases k with ⟨rfl, rfl⟩ | ⟨rfl, rfl⟩ <;> decide
theorem Quo.e6 (k : Quo q h) : (usedN (twoL q h 1 0) 1 : Int) ≤ leftL (twoL q h 1 0) 2 ∧ chargeL (twoL q h 1 0) 2 (usedN (twoL q h 1 0) 1 : Int) = twoL q h 1 1 ∧ chargeEU (twoL q h 1 0) 2 1 = 0 := by rcases k with ⟨rfl, rfl⟩ | ⟨rfl, rfl⟩ <;> decide
theorem Quo.div (k : Quo q h) : (q : Int).tdiv 3 = h := by rcases k with ⟨rfl, rfl⟩ | ⟨rfl, rfl⟩ <;> decide
theorem Quo.le (k : Quo q h) : 30 ≤ q ∧ q ≤ 60 ∧ h ≤ 20 ∧ 10 ≤ h := by unfold Quo at k; omega
theorem Quo.good0 (k : Quo q h) : GoodU [(1, 0, (q : Int), 0)] := ⟨by simp, fun n hn => by
  have := k.le
  rw [List.mem_singleton.1 hn]; unfold okN; dsimp only; omega⟩
theorem Quo.good1 (k : Quo q h) : GoodU [(1, 0, (q : Int), 1)] := ⟨by simp, fun n hn => by
  have := k.le
  rw [List.mem_singleton.1 hn]; unfold okN; dsimp only; omega⟩
theorem Quo.good2 (k : Quo q h) : GoodU (twoL q h 1 0) := ⟨by simp, fun n hn => by
  have := k.le
  rcases List.mem_cons.1 hn with e | e
  · rw [e]; unfold okN; dsimp only; omega
  · rw [List.mem_singleton.1 e]; unfold okN; dsimp only; omega⟩
end
end Go.Proofs.YtkenipanpimolaaGreatDoor

/- What law 17's maker leaves. Condition: the listed tables read as laid. -/
namespace Go.Proofs.YtkenipanpimolaaGreatDoor
open Go.RowKit Go.Maps
set_option maxRecDepth 100000

abbrev Z0 : Int → Int → Int := fun _ _ => 0
/-- Spaces of a law's own: what the maker leaves. -/
def Made17 (W : World) (q h : Nat) (e : Ending) (w' : World) : Prop := ∃ (I : SIx) (G : Int → Option Pc) (a1 a2 : Option Addr) (n1 c1 n2 c2 : Nat), e = .returned (.tuple #[.pointer (some ⟨I.ss, 0, none⟩), .pointer (some ⟨I.bb, 0, none⟩), .agg #[.slice a1 n1 c1, .slice a2 n2 c2], .bool true]) ∧ CpS W w' I q h G Z0 ∧ TwoZ G
theorem twoZ_put {s1 s2 : Pc} (h1 : s1.ar = ar3) (h2 : s2.ar = ar3) : TwoZ (putG (putG (fun _ => none) 1 s1) 2 s2) := fun i hi => by
  rcases hi with rfl | rfl
  · exact ⟨s1, by rw [putG_other _ _ _ (by decide), putG_same], h1⟩
  · exact ⟨s2, putG_same _ _ _, h2⟩
theorem forkE0Z {G : Int → Option Pc} {Lb : List Nd} {f t : Int} {p : Pc} (h1 : (idB f && idB t) = true) (h2 : G f = some p) (h3 : (atN t Lb).isSome = true) (h4 : G t = none) : forkE0 G Lb f t = 0 := by
  unfold forkE0; rw [h1, h2, h3, h4]; rfl
/-- What is new beside a world is new beside an elder one. -/
theorem Big.rebase {W W1 w : World} {I : SIx} {c : Nat} {X : Nat → Option Sp} {Q : Nat → Nat} {V : Nat → Nat → Int} {Pb : Pt} {Lb : List Nd} {G : Int → Option Pc} (h : Big W1 w I c X Q V Pb Lb G) (hb : Below W.heap.size W W1) (hT : LaidQ W) (hW : LaidW W) : Big W w I c X Q V Pb Lb G := by
  obtain ⟨L, R, S, O, T, m, r⟩ := h.sys.ex
  have le : ∀ {k : Nat}, W1.heap.size ≤ k → W.heap.size ≤ k := fun hk => Nat.le_trans hb.size hk
  exact ⟨⟨⟨L, R, S, O, T, ⟨⟨m.own.st, hb.trans (m.own.below.mono hb.size), fun k hk => le (m.own.new k hk), hT⟩, hW, m.wd, m.box, m.spc, le m.nt, le m.ns, m.ne, m.low⟩, r⟩, h.sys.hn⟩, h.bud, h.box, h.map, h.sp, le h.nbm, le h.nmm, fun i p hp => le (h.nod i p hp), fun i s hi => le (h.nsp i s hi), h.ne, h.fz⟩
theorem Hv.rebase {W W1 w : World} {I : SIx} {q : Nat} {Lb : List Nd} {G : Int → Option Pc} {pr : Int → Nat → Bool} {rd : Int → Nat → Nat → Int} (h : Hv W1 w I q Lb G pr rd) (hb : Below W.heap.size W W1) (hT : LaidQ W) (hW : LaidW W) : Hv W w I q Lb G pr rd := by
  obtain ⟨c, D, Q, V, ⟨⟨X, Pb, h1, h2⟩, hj⟩, h3⟩ := h
  exact ⟨c, D, Q, V, ⟨⟨X, Pb, h1.rebase hb hT hW, h2⟩, hj⟩, h3⟩
theorem fk_zero (j : Int) (r y : Nat) : rdM Z0 j r y = fkR (fun _ _ _ => 0) 1 2 j r y := by
  unfold rdM fkR
  split <;> rfl
theorem only_setZ {w w' : World} {b : Nat} (h : Only w w' (fun k => k = b)) (j : Nat) (v : Value) : Only w (w'.setCell ⟨b, j, none⟩ v) (fun k => k = b) := h.trans (Only.grown (grownBy_setCell _ _ _ _) rfl)
theorem only_drewZ {w w' : World} {b : Nat} (h : Only w w' (fun k => k = b)) : Only w w'.drew (fun k => k = b) := ⟨h.os, h.tape, h.output, h.size, h.block⟩
set_option maxHeartbeats 8000000 in
theorem made17_ok {q h : Nat} (k : Quo q h) (W : World) (hT : LaidQ W) (hW : LaidW W) : Calls Tryz.prog 6 #[.int .i64 (q : Int)] W (Made17 W q h) := by
  obtain ⟨W1, hW1⟩ : ∃ W1, W1 = W.alloc (.cells #[.slice none 0 0, .slice none 0 0] 31) := ⟨_, rfl⟩
  have B0 : Hid (Below W.heap.size W W1) := Lib.hid (by rw [hW1]; exact (Below.refl _ _).alloc (Nat.le_refl _) _)
  have X0 : Hid (W1.heap[W.heap.size]? = some (boxWd (.slice none 0 0) (.slice none 0 0))) := Lib.hid (by rw [hW1]; exact heap_alloc_new _ _)
  have TT := Lib.hid (And.intro hT hW)
  have HT := Lib.hid (hT.below B0.out)
  have HW := Lib.hid (hW.below B0.out)
  have K := Lib.hid k
  obtain ⟨q1, q2, q3, q4⟩ := k.le
  clear hT hW k
  go_enter Tryz.func6, Tryz.ntmps6
  go_wp2_with fail
  rw [← hW1]
  clear hW1
  refine (new_ok q W1 (by omega) (by omega)).mono ?_
  rintro e w1 hp
  obtain ⟨mp, fb, rfl, ho⟩ := OwnMem.new hp
  have M1 := Lib.hid ho
  clear hp ho
  go_wp2_with fail
  have M2 := Lib.hid (M1.out.step ((Below.refl _ _).alloc (Nat.le_refl _) (.cells #[.int .i64 0, .int .i64 (q : Int)] 49)))
  refine (newpool_any mp fb q _ [(0, (q : Int))] _ _ M2.out.st (pairs_one (heap_alloc_new w1 _))).mono ?_
  rintro e w2 hp
  obtain ⟨X, rfl, ho, hmp, _, hn, hP, _⟩ := OwnPool.new_ M2.out HT.out hp (okq_one q (by omega))
  have O := Lib.hid ho
  have HP : Hid (X.P = partsS 0 q []) := Lib.hid (by rw [hP]; simp [natQ])
  have HN := Lib.hid hn
  have HM := Lib.hid hmp
  clear hp ho hP hn hmp
  go_wp2_with fail
  refine (new11_ok (q : Int) w2 (show decide (0 ≤ (q : Int) ∧ (q : Int) ≤ 65536) = true from decide_eq_true ⟨by omega, by omega⟩)).mono ?_
  rintro e w3 ⟨⟨bb, bm, Pb, rfl, hB, _, hge⟩, hb3⟩
  have B3 := Lib.hid hb3
  have NS := Lib.hid (newS_ok (lo := 0) (hi := q) (q := q) (T := []) (O.out.step hb3) HW.out ⟨by omega, by omega⟩ (by omega) HN.out HP.out (by omega) hB (Nat.le_trans O.out.below.size (hge bm (Or.inl rfl))) (fun i p hp => Nat.le_trans O.out.below.size (hge p (Or.inr ⟨i, hp⟩))) (by have h3 := hge bm (Or.inl rfl); have h4 := O.out.st.lt X.mb (Or.inl (Or.inr (Or.inl rfl))); omega))
  rw [HM.out] at NS
  clear hB hge hb3
  go_wp2_with fail
  refine NS.out.mono ?_
  rintro e w4 ⟨I, rfl, hX, hbb, hn, hlo, hhi, hst, hb4⟩
  have H4 : Hid (Hv W1 w4 I q [(1, 0, (q : Int), 0)] (fun _ => none) (fun _ _ => false) (fun _ _ _ => 0)) := Lib.hid ⟨_, _, _, _, hst, fun _ _ _ => rfl, fun _ _ _ _ _ => rfl⟩
  obtain rfl : bb = I.bb := hbb.symm
  clear hX hn hlo hhi hst hb4 NS
  have RN := Lib.hid (rnew11_ok (q : Int) w4 (show decide (0 ≤ (q : Int) ∧ (q : Int) ≤ 65536) = true from decide_eq_true ⟨by omega, by omega⟩))
  go_wp2_with fail
  refine RN.out.mono ?_
  rintro e w5 ⟨nv, rfl, ho, hb5⟩
  obtain ⟨a5, c5, rfl⟩ := owns_slice ho
  obtain ⟨wb, hwb⟩ : ∃ wb, wb = w5.heap.size := ⟨_, rfl⟩
  obtain ⟨w6, hw6⟩ : ∃ w6, w6 = w5.alloc (.cells #[.slice a5 1 c5, .slice none 0 0] 31) := ⟨_, rfl⟩
  have hb6 : Below w4.heap.size w4 w6 := by rw [hw6]; exact hb5.alloc hb5.size _
  have X6 : w6.heap[wb]? = some (boxWd (.slice a5 1 c5) (.slice none 0 0)) := by rw [hw6, hwb]; exact heap_alloc_new _ _
  have r6 : w6.ownsRow w4.heap.size 96 4 (.slice a5 1 c5) 1 (ndsV [(1, 0, (q : Int), 0)]) := by rw [hw6]; exact ho.alloc _
  obtain ⟨g0, cur0, hg0, hc0, hr0⟩ := nds_blk (L := [(1, 0, (q : Int), 0)]) (by simp) (own_base r6 (Nat.zero_le _))
  obtain ⟨I1, s1, b1, z1, h1⟩ := H4.out.frzT (w' := w6) (fun _ _ _ _ _ b => b.step hb6) (Or.inl (r6.lt g0 hg0).1) hc0
  have H6 := Lib.hid h1
  have SS := Lib.hid (And.intro s1 b1)
  have D6 := Lib.hid (And.intro X6 (And.intro (show FzV I1 (.slice a5 1 c5) from ⟨g0, cur0, hg0, z1⟩) (show ∀ V Lb' G' pr' rd', Hv W1 V I1 q Lb' G' pr' rd' → V.ownsRow 0 96 4 (.slice a5 1 c5) 1 (ndsV [(1, 0, (q : Int), 0)]) from fun V _ _ _ _ hV => hr0 V (hV.fzAt z1))))
  have WB : Hid (W1.heap.size ≤ wb) := Lib.hid (by have := H4.out.below.size; have := hb5.size; omega)
  have OP := Lib.hid (H6.out.open_ (i := 1) K.out.e1)
  rw [SS.out.1] at OP
  clear h1 s1 b1 X6 hg0 z1 hr0 hc0 hb6 r6 hb5 ho RN O M1 M2 HP HN HM B3 H4
  go_wp2_with fail
  rw [← hwb, ← hw6]
  clear hw6 hwb
  refine OP.out.mono ?_
  rintro e w7 ⟨rfl, hk, s, hs, hh⟩
  have X7 := hk.box D6.out.1 (by decide)
  have HV7 := Lib.hid hh
  have RO := Lib.hid (ropenZ K.out.good0 (x := (1, 0, (q : Int), 0)) rfl K.out.e2.1 X7 (D6.out.2.2 _ _ _ _ _ hh))
  have S7 := Lib.hid (And.intro hs X7)
  rw [K.out.e2.2] at RO HV7
  clear hk hs hh X7
  go_wp2_with fail
  refine RO.out.mono ?_
  rintro e w8 ⟨nv8, b8, c8, rfl, hd8, ho8, hn8⟩
  obtain ⟨a8', c8', rfl⟩ : ∃ a c, nv8 = .slice a 1 c := (NdsAt.of_row hd8.nds).form
  obtain ⟨I2, s2, z2, r2, h2⟩ := HV7.out.turnZ S7.out.2 WB.out ho8 (by simp) hd8.nds hn8 D6.out.2.1
  have G8 := Lib.hid (h2.grow1 (putG_same _ _ _) S7.out.1 (x := 0) (y := 3) (by unfold FitD; omega) true)
  rw [s2.1, SS.out.1] at G8
  have D8 := Lib.hid (And.intro hd8 (And.intro z2 (And.intro r2 (And.intro (s2.1.trans SS.out.1) (s2.2.trans SS.out.2)))))
  clear hd8 ho8 hn8 s2 z2 r2 h2
  go_wp2_with fail
  refine G8.out.mono ?_
  rintro e w9 ⟨rfl, hk, s', hs, hh⟩
  rw [putG_putG] at hh
  have HV9 := Lib.hid hh
  have S9 := Lib.hid hs
  have RG := Lib.hid (rgrowZ ⟨hk.box D8.out.1.box (by decide), D8.out.2.2.1 _ _ _ _ _ hh, hk.row D8.out.1.spc (by decide)⟩)
  have X9 := Lib.hid (hk.box D8.out.1.box (by decide))
  clear hk hs hh G8
  go_wp2_with fail
  refine RG.out.mono ?_
  rintro e w10 ⟨a10, c10, b10, k10, rfl, hd, hrow, ho⟩
  have HV10 := Lib.hid (HV9.out.ownBox X9.out (by decide) WB.out (noAr_wd X9.out) ho)
  have D10 := Lib.hid (And.intro hd hrow)
  have c0 : w10.cell? ⟨wb, 0, none⟩ = some (.slice a8' 1 c8') := by rw [cell_of_row _ _ _ _ _ _ hd.box]; rfl
  have RP := Lib.hid (ropen11_ok K.out.good1 hd.nds (Nat.zero_le _) 2 1 (h : Int) K.out.e5.1)
  rw [K.out.e5.2] at RP
  have d3 := K.out.div
  have d4 : IntKind.i64.wrap (h : Int) = (h : Int) := IntWalk.i64_in _ (by omega)
  clear hd hrow ho
  go_wp2_with fail
  refine RP.out.mono ?_
  rintro e w11 ⟨nv11, rfl, ho11, hb11, hn11⟩
  obtain ⟨a11, c11, rfl⟩ : ∃ a c, nv11 = .slice a 2 c := (NdsAt.of_row ho11).form
  have X11 := below_block hb11 D10.out.1.box
  have c1 : w11.cell? ⟨wb, 0, none⟩ = some (.slice a8' 1 c8') := by rw [cell_of_row _ _ _ _ _ _ X11]; rfl
  have f1 := frozen_of_row w11 wb 0 _ _ X11
  obtain ⟨w12, hw12⟩ : ∃ w12, w12 = w11.setCell ⟨wb, 0, none⟩ (.slice a11 2 c11) := ⟨_, rfl⟩
  have o12 : Only w11 w12 (fun k => k = wb) := by rw [hw12]; exact Only.grown (grownBy_setCell _ _ _ _) rfl
  have X12 : w12.heap[wb]? = some (boxWd (.slice a11 2 c11) (.slice (some ⟨b10, 0, none⟩) 1 k10)) := by rw [hw12]; exact heap_setCell_same w11 wb 0 _ _ (.slice a11 2 c11) X11
  have n12 := nds_only ho11 X11 o12
  have sp12 : w12.ownsRow 0 111 3 (.slice (some ⟨b10, 0, none⟩) 1 k10) 1 [.int .i64 1, .slice a10 1 c10, .slice none 0 0] := ownsRow_only (own_step D10.out.1.spc hb11) o12 fun g hg e => by
    subst e
    obtain ⟨cs, hcs⟩ := own_block (own_step D10.out.1.spc hb11) hg
    rw [X11] at hcs
    simp only [boxWd, Option.some.injEq, Obj.cells.injEq] at hcs
    exact absurd hcs.2.1 (by decide)
  have row12 : Row3 0 w12 (.slice a10 1 c10) := row3_only (by obtain ⟨g, c, e, hr⟩ := D10.out.2; exact ⟨g, c, e, own_step hr hb11⟩) X11 o12
  obtain ⟨I3, s3, z3, r3, h3⟩ := HV10.out.turnZ D10.out.1.box WB.out ((Only.below hb11).trans o12) (by simp) n12 hn11 D8.out.2.1
  have CV := Lib.hid (h3.carve 2 1 (h : Int))
  rw [K.out.e5.1, K.out.e5.2, s3.2, D8.out.2.2.2.2] at CV
  have D12 := Lib.hid (And.intro X12 (And.intro sp12 (And.intro row12 (And.intro r3 (s3.1.trans D8.out.2.2.2.1)))))
  have BB3 := Lib.hid (s3.2.trans D8.out.2.2.2.2)
  clear c0 ho11 hb11 hn11 X11 o12 X12 n12 sp12 row12 s3 z3 r3 h3
  go_wp2_with fail
  rw [← hw12]
  clear hw12 c1 f1
  refine CV.out.mono ?_
  rintro e w13 ⟨rfl, hk, hh⟩
  have FK := Lib.hid (hh.fork 1 2 (forkE0Z (by decide) (putG_same _ _ _) rfl (by rw [putG_other _ _ _ (by decide)])) (putG_same _ _ _) K.out.e6.1)
  rw [D12.out.2.2.2.2, K.out.e6.2.1] at FK
  have K13 := Lib.hid hk
  clear hk hh
  go_wp2_with fail
  refine FK.out.mono ?_
  rintro e w14 ⟨rfl, hk, s14, hs, hh⟩
  have k14 := K13.out.trans hk
  have X14 := Lib.hid (k14.box D12.out.1 (by decide))
  have RF := Lib.hid (rforkZ (x := (2, 1, (h : Int), 0)) ⟨k14.box D12.out.1 (by decide), D12.out.2.2.2.1 _ _ _ _ _ hh, k14.row D12.out.2.1 (by decide)⟩ (by obtain ⟨g, c, e, hr⟩ := D12.out.2.2.1; exact ⟨g, c, e, k14.row hr (by decide)⟩) K.out.good2 rfl K.out.e6.2.2)
  have HV14 := Lib.hid hh
  have S14 := Lib.hid (hs.trans S9.out)
  clear hk hs hh k14 FK
  go_wp2_with fail
  refine RF.out.mono ?_
  rintro e w15 ⟨rfl, ho, a1, n1, c1, a2, c2, hbx⟩
  have HV15 := Lib.hid (HV14.out.ownBox X14.out (by decide) WB.out (noAr_wd X14.out) ho)
  have Y15 : Hid (w15.heap[wb]? = some (boxWd (.slice a1 n1 c1) (.slice a2 2 c2))) := Lib.hid hbx
  have d0 : w15.cell? ⟨wb, 0, none⟩ = some (.slice a1 n1 c1) := by rw [cell_of_row _ _ _ _ _ _ hbx]; rfl
  have d1 : w15.cell? ⟨wb, 1, none⟩ = some (.slice a2 2 c2) := by rw [cell_of_row _ _ _ _ _ _ hbx]; rfl
  have hrl : W.heap.size < W1.heap.size := lt_of_block X0.out
  have R15 : Hid (w15.heap[W.heap.size]? = some (boxWd (.slice none 0 0) (.slice none 0 0))) := Lib.hid (below_block HV15.out.below X0.out)
  have r0 : w15.cell? ⟨W.heap.size, 0, none⟩ = some (.slice none 0 0) := by rw [cell_of_row _ _ _ _ _ _ R15.out]; rfl
  have r1 : w15.cell? ⟨W.heap.size, 1, none⟩ = some (.slice none 0 0) := by rw [cell_of_row _ _ _ _ _ _ R15.out]; rfl
  have f0 := frozen_of_row w15 W.heap.size 0 _ _ R15.out
  have f1 := frozen_of_row w15 W.heap.size 1 _ _ R15.out
  clear ho hbx
  have hne : wb ≠ W.heap.size := by have := WB.out; omega
  have SB : Hid (∀ V, Only w15 V (fun k => k = W.heap.size) → V.cell? ⟨wb, 0, none⟩ = some (.slice a1 n1 c1) ∧ V.cell? ⟨wb, 1, none⟩ = some (.slice a2 2 c2)) := Lib.hid fun V hV => by
    have := hV.kept Y15.out hne
    exact ⟨by rw [cell_of_row _ _ _ _ _ _ this]; rfl, by rw [cell_of_row _ _ _ _ _ _ this]; rfl⟩
  go_wp2
  go_region_held3 (fun V => V.cell? ⟨wb, 0, none⟩ = some (.slice a1 n1 c1) ∧ V.cell? ⟨wb, 1, none⟩ = some (.slice a2 2 c2)) (with_reducible refine SB.out _ ?_; repeat (first | with_reducible exact Only.refl _ _ | with_reducible refine only_drewZ ?_ | with_reducible refine only_setZ ?_ _ _))
    (first | fail)
  have hf := only_drewZ (only_setZ (only_setZ (Only.refl w15 (fun k => k = W.heap.size)) 0 (.slice a1 n1 c1)) 1 (.slice a2 2 c2))
  have hr := heap_setCell_same (w15.setCell ⟨W.heap.size, 0, none⟩ (.slice a1 n1 c1)) W.heap.size 1 _ _ (.slice a2 2 c2) (heap_setCell_same w15 W.heap.size 0 _ _ (.slice a1 n1 c1) R15.out)
  have q0 : (((w15.setCell ⟨W.heap.size, 0, none⟩ (.slice a1 n1 c1)).setCell ⟨W.heap.size, 1, none⟩ (.slice a2 2 c2)).drew).cell? ⟨W.heap.size, 0, none⟩ = some (.slice a1 n1 c1) := (cell_of_row (World.setCell _ _ _) _ _ _ _ _ hr).trans rfl
  have q1 : (((w15.setCell ⟨W.heap.size, 0, none⟩ (.slice a1 n1 c1)).setCell ⟨W.heap.size, 1, none⟩ (.slice a2 2 c2)).drew).cell? ⟨W.heap.size, 1, none⟩ = some (.slice a2 2 c2) := (cell_of_row (World.setCell _ _ _) _ _ _ _ _ hr).trans rfl
  have HZ := (HV15.out.rebase B0.out TT.out.1 TT.out.2).ownBox R15.out (by decide) (Nat.le_refl _) (noAr_wd R15.out) hf
  generalize ((w15.setCell ⟨W.heap.size, 0, none⟩ (.slice a1 n1 c1)).setCell ⟨W.heap.size, 1, none⟩ (.slice a2 2 c2)).drew = wz at *
  go_wp2
  exact bodyPost_ret (v := .tuple #[.pointer (some ⟨I.ss, 0, none⟩), .pointer (some ⟨I.bb, 0, none⟩), .agg #[.slice a1 n1 c1, .slice a2 2 c2], .bool true]) (by simp [results, Tryz.results6, go_sem, q0, q1]) rfl
    ⟨I3, _, a1, a2, n1, c1, 2, c2, by rw [D12.out.2.2.2.2, BB3.out], ⟨1, 1, _, HZ.congr (fun _ _ _ => rfl) (fun j r y _ _ => fk_zero j r y)⟩, twoZ_put S9.out S14.out⟩
end Go.Proofs.YtkenipanpimolaaGreatDoor

/- What layer 17's sentinel does. Condition: the listed tables read as laid. -/
namespace Go.Proofs.YtkenipanpimolaaGreatDoor
open Go.RowKit Go.Maps
set_option maxRecDepth 100000

theorem rowAt_see {w : World} {base n : Nat} {v : Value} {f : Nat → Int} {L : List Int} (h : w.ownsRow base 23 1 v n (seeV f n)) (hn : 0 < n) (hL : (List.range n).map f = L) : RowAt w v L := by
  subst hL
  rcases h.2 with ⟨_, h0⟩ | ⟨g, cap, cur, rfl, hb, hg, _⟩
  · omega
  · refine ⟨_, cap, by simp, Or.inr ⟨g, 0, rfl, lt_of_block hg, fun i hi => ?_⟩⟩
    have hi' : i < n := by simpa using hi
    have := h.cells (g := g) rfl i _ (seeV_get f n i hi')
    rw [Addr.add_mid] at this
    rw [this]
    simp [List.getD_eq_getElem?_getD, hi']
theorem rowAt_lit {w : World} {b n c : Nat} {L : List Int} {t : TypeId} {z : Nat × Nat} (h : w.heap[b]? = some (.cells (wordsV L) t z)) (hn : L.length = n) : RowAt w (.slice (some ⟨b, 0, none⟩) n c) L := by
  subst hn
  exact ⟨_, c, rfl, Or.inr ⟨b, 0, rfl, lt_of_block h, fun i hi => by rw [cell_of_row _ _ _ _ _ _ h, Nat.zero_add]; exact wordsV_get L i hi⟩⟩
theorem lit_cell {w V : World} {b : Nat} {L : List Int} {z : Nat × Nat} (h : w.heap[b]? = some (.cells (wordsV L) 23 z)) (hk : KeepB w V) {j : Nat} (hj : j < L.length) : V.cell? ⟨b, 0 + j, none⟩ = some (.int .u32 (L.getD j 0)) := by
  rw [cell_of_row _ _ _ _ _ _ (hk.box h (by decide)), Nat.zero_add]
  exact wordsV_get L j hj
set_option maxHeartbeats 8000000 in
theorem awake17 (W : World) (hT : LaidQ W) (hW : LaidW W) : Calls Tryz.prog 5 #[] W fun e w' => e = .returned (.bool true) ∧ Below W.heap.size W w' := by
  have MD := Lib.hid (made17_ok (q := 30) (h := 10) (Or.inl ⟨rfl, rfl⟩) W hT hW)
  have RM : Room 30 10 1 := Or.inl ⟨rfl, by decide⟩
  clear hT hW
  go_enter Tryz.func5, Tryz.ntmps5
  go_wp2_with fail
  refine (show Calls Tryz.prog 6 #[.int .i64 30] W _ from MD.out).mono ?_
  rintro e w1 ⟨I, G, a1, a2, n1, c1, n2, c2, rfl, hs, hG⟩
  have HG := Lib.hid hG
  obtain ⟨w2, hw2⟩ : ∃ w2, w2 = (w1.alloc (.cells #[.slice a1 n1 c1, .slice a2 n2 c2] 31)).alloc (.cells (wordsV [1, 2, 3, 4]) 23) := ⟨_, rfl⟩
  have hb2 : Below w1.heap.size w1 w2 := by rw [hw2]; exact below_two _ _ _
  have hx2 : w2.heap[w1.heap.size + 1]? = some (.cells (wordsV [1, 2, 3, 4]) 23 (0, 0)) := by rw [hw2]; exact heap_alloc2_new _ _ _
  have O1 := Lib.hid ((hs.step hb2).outOk (i := 1) (va := 30) (n := 4) HG.out RM (by decide) (by decide) (by decide) (by decide) (b := w1.heap.size + 1) (o := 0) 4 (f := fun j => [1, 2, 3, 4].getD j 0) (fun j hj => by
    rcases (show j = 0 ∨ j = 1 ∨ j = 2 ∨ j = 3 by omega) with rfl | rfl | rfl | rfl <;> decide) (fun V j hj hk _ => lit_cell hx2 hk hj))
  clear hs hb2 hx2 hG
  go_wp2_with fail
  rw [show (w1.alloc (.cells #[.slice a1 n1 c1, .slice a2 n2 c2] 31)).alloc (.cells #[.int .u32 1, .int .u32 2, .int .u32 3, .int .u32 4] 23) = w2 from hw2.symm]
  refine (show Calls Tryz.prog 9 #[.pointer (some ⟨I.ss, 0, none⟩), .int .i64 1, .int .u32 30, .slice (some ⟨w1.heap.size + 1, 0, none⟩) 4 4] w2 _ from O1.out).mono ?_
  rintro e w3 ⟨rfl, hs, hk⟩
  obtain ⟨m3, hm3⟩ : ∃ m, m = updM Z0 1 30 (fun j => [1, 2, 3, 4].getD j 0) 4 := ⟨_, rfl⟩
  rw [← hm3] at hs
  have I1 := Lib.hid (hs.inOk (i := 1) (va := 29) (n := 6) HG.out RM (by decide) (by decide) (by decide) (by decide))
  clear hs hk hw2 O1
  go_wp2_with fail
  refine (show Calls Tryz.prog 8 #[.pointer (some ⟨I.ss, 0, none⟩), .int .i64 1, .int .u32 29, .int .i64 6] w3 _ from I1.out).mono ?_
  rintro e w4 ⟨v4, rfl, ho, hs, hk⟩
  obtain ⟨a4, c4, rfl⟩ := owns_slice ho
  have O4 := Lib.hid ho
  obtain ⟨w5, hw5⟩ : ∃ w5, w5 = w4.alloc (.cells (wordsV [9, 9, 9]) 23) := ⟨_, rfl⟩
  have hb5 : Below w4.heap.size w4 w5 := by rw [hw5]; exact (Below.refl _ _).alloc (Nat.le_refl _) _
  have B5 := Lib.hid hb5
  have N5 := Lib.hid ((hs.step hb5).outNo (i := 1) (va := 94) (n := 3) HG.out (Or.inl rfl) (by decide) (by decide) (by decide) (some ⟨w4.heap.size, 0, none⟩) 3)
  clear ho hs hk hb5 I1
  go_wp2_with fail
  rw [show w4.alloc (.cells #[.int .u32 9, .int .u32 9, .int .u32 9] 23) = w5 from hw5.symm]
  refine (show Calls Tryz.prog 9 #[.pointer (some ⟨I.ss, 0, none⟩), .int .i64 1, .int .u32 94, .slice (some ⟨w4.heap.size, 0, none⟩) 3 3] w5 _ from N5.out).mono ?_
  rintro e w6 ⟨er, rfl, he, hs, hk⟩
  obtain rfl : er = 7 := he.2 (by decide)
  have K6 := Lib.hid ((KeepB.below B5.out).trans hk)
  have I2 := Lib.hid (hs.inOk (i := 1) (va := 94) (n := 2) HG.out RM (by decide) (by decide) (by decide) (by decide))
  clear hw5 he hs hk N5
  go_wp2_with fail
  refine (show Calls Tryz.prog 8 #[.pointer (some ⟨I.ss, 0, none⟩), .int .i64 1, .int .u32 94, .int .i64 2] w6 _ from I2.out).mono ?_
  rintro e w7 ⟨v7, rfl, ho, hs, hk⟩
  obtain ⟨a7, c7, rfl⟩ := owns_slice ho
  have R4 := Lib.hid (rowAt_see (L := [0, 1, 2, 3, 4, 0]) ((K6.out.trans hk).row O4.out (by decide)) (by decide) (by rw [hm3]; decide))
  have R7 := Lib.hid (rowAt_see (L := [0, 0]) ho (by decide) (by rw [hm3]; decide))
  have S7 := Lib.hid hs
  clear ho hs hk hm3 I2
  obtain ⟨w8, hw8⟩ : ∃ w8, w8 = w7.alloc (.cells (wordsV [0, 1, 2, 3, 4, 0]) 23) := ⟨_, rfl⟩
  have B8 : Hid (Below w7.heap.size w7 w8) := Lib.hid (by rw [hw8]; exact (Below.refl _ _).alloc (Nat.le_refl _) _)
  have X8 : w8.heap[w7.heap.size]? = some (.cells (wordsV [0, 1, 2, 3, 4, 0]) 23 (0, 0)) := by rw [hw8]; exact heap_alloc_new _ _
  have SM := Lib.hid (same_yes (.slice a4 6 c4) (.slice (some ⟨w7.heap.size, 0, none⟩) 6 6) [0, 1, 2, 3, 4, 0] w8 (by decide) (R4.out.below B8.out) (rowAt_lit X8 rfl))
  clear X8
  go_wp2_with fail
  rw [show w7.alloc (.cells #[.int .u32 0, .int .u32 1, .int .u32 2, .int .u32 3, .int .u32 4, .int .u32 0] 23) = w8 from hw8.symm]
  refine SM.out.mono ?_
  rintro e w9 ⟨rfl, hb9⟩
  have B9 := Lib.hid (B8.out.trans (hb9.mono B8.out.size))
  obtain ⟨w10, hw10⟩ : ∃ w10, w10 = w9.alloc (.cells (wordsV [0, 0]) 23) := ⟨_, rfl⟩
  have B10 : Hid (Below w9.heap.size w9 w10) := Lib.hid (by rw [hw10]; exact (Below.refl _ _).alloc (Nat.le_refl _) _)
  have X10 : w10.heap[w9.heap.size]? = some (.cells (wordsV [0, 0]) 23 (0, 0)) := by rw [hw10]; exact heap_alloc_new _ _
  have SN := Lib.hid (same_yes (.slice a7 2 c7) (.slice (some ⟨w9.heap.size, 0, none⟩) 2 2) [0, 0] w10 (by decide) ((R7.out.below B9.out).below B10.out) (rowAt_lit X10 rfl))
  clear hw8 hb9 X10 SM
  go_wp2_with fail
  rw [show w9.alloc (.cells #[.int .u32 0, .int .u32 0] 23) = w10 from hw10.symm]
  refine SN.out.mono ?_
  rintro e w11 ⟨rfl, hb11⟩
  have B11 := Lib.hid (B9.out.trans ((B10.out.trans (hb11.mono B10.out.size)).mono B9.out.size))
  clear hw10 hb11
  go_wp2
  go_ret
  exact ⟨rfl, S7.out.below.trans (B11.out.mono S7.out.below.size)⟩
end Go.Proofs.YtkenipanpimolaaGreatDoor

/- The walk of the law CopyNone. Condition: the listed tables lie as laid. -/
namespace Go.Proofs.YtkenipanpimolaaGreatDoor
open Go.RowKit Go.Maps
set_option maxRecDepth 100000

theorem LaidN.awake17 {W : World} (hL : LaidN W) (V : World) (hb : Below W.heap.size W V) : Calls Tryz.prog 5 #[] V fun e w' => e = .returned (.bool true) ∧ Below V.heap.size V w' := Go.Proofs.YtkenipanpimolaaGreatDoor.awake17 V (hL.lq.below hb) (hL.lw.below hb)
set_option maxHeartbeats 4000000 in
theorem copyNone_walk (pid words va x : Int) (W : World) (_ : -9223372036854775808 ≤ pid ∧ pid ≤ 9223372036854775807) (_ : -9223372036854775808 ≤ words ∧ words ≤ 9223372036854775807) (_ : 0 ≤ va ∧ va ≤ 4294967295) (_ : 0 ≤ x ∧ x ≤ 4294967295) (hL : LaidN W) : Calls Tryz.prog 4 #[.int .i64 pid, .int .i64 words, .int .u32 va, .int .u32 x] W fun e w' => e = .returned (.bool true) ∧ Below W.heap.size W w' := by
  have AW := Lib.hid hL.awake17
  have N1 := Lib.hid (inNil (w := W) (i := pid) (va := va) words)
  clear hL
  go_enter Tryz.func4, Tryz.ntmps4
  go_wp2_with fail
  refine N1.out.mono ?_
  rintro e w1 ⟨rfl, hb1⟩
  have B1 := Lib.hid hb1
  clear hb1
  go_wp2_with fail
  refine (outNil (w := w1.alloc (.cells #[.int .u32 x] 23)) (i := pid) (va := va) _ 1 1).mono ?_
  rintro e w2 ⟨rfl, hb2⟩
  have B2 := Lib.hid (B1.out.trans ((((Below.refl w1.heap.size w1).alloc (Nat.le_refl _) (.cells #[.int .u32 x] 23)).trans (hb2.mono (by simp))).mono B1.out.size))
  clear hb2
  go_wp2_with fail
  refine (fillNil (w := w2) (i := pid) (va := va) words x).mono ?_
  rintro e w3 ⟨rfl, hb3⟩
  have B3 := Lib.hid (B2.out.trans (hb3.mono B2.out.size))
  have A3 := Lib.hid (AW.out w3 B3.out)
  clear hb3
  go_wp2_with fail
  refine A3.out.mono ?_
  rintro e w4 ⟨rfl, hb4⟩
  have B4 := Lib.hid (B3.out.trans (hb4.mono B3.out.size))
  clear hb4
  go_wp2
  go_ret
  exact ⟨rfl, B4.out⟩
end Go.Proofs.YtkenipanpimolaaGreatDoor
