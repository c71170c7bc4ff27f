/- Texts of mine, joined: S5 S6 S7 S8. What each says and under which conditions stands at its head, below. -/
import Derived.Test.YtkenipanpimolaaGreatDoorHL
import Derived.Test.YtkenipanpimolaaGreatDoorHA
import Derived.Test.YtkenipanpimolaaGreatDoorHE
import Derived.Test.YtkenipanpimolaaGreatDoorHI
import Derived.Test.YtkenipanpimolaaGreatDoorHJ
import Derived.StillTailTactics
import Derived.Deep.RegionHeld3
import Derived.Deep.DeepCutAuto
import Derived.Deep.CutRange
/- Spaces in memory: a map of pointers, each to a space, beside a manager of tables and a budget; what stays where one of them changes. -/
namespace Go.Proofs.YtkenipanpimolaaGreatDoor
open Go.RowKit Go.Maps
set_option maxRecDepth 100000

theorem zeroSpc (w : World) : (zeroValue 101).run Tryz.prog w = .ok (.pointer none) w := by kernel_rfl
section
variable (w : World) {ops : Array Oper} {rest : List Oper} {o : Oper} {a : Act} {Q : Exit → Act → World → Prop}
theorem wpList_sp_ok (hg : o.guard = none) (m x : Operand) (hop : o.op = Op.lookup 97 m x true) (b : Nat) (P : Pt) (hm : a.eval m = .map (some b)) (h : PtrsAt w b P) (y : Int) (hx : a.eval x = .int .i64 y) (hy : -9223372036854775808 ≤ y ∧ y ≤ 9223372036854775807) (c : Option Nat) (hc : P y = c)
    (hK : wpList Tryz.prog ops Q rest (a.put o.dst (.tuple #[ptV c, .bool c.isSome])) w) : wpList Tryz.prog ops Q (o :: rest) a w := by
  obtain ⟨D, k, hown, _, hr⟩ := h
  refine wpList_lookup_own_ok w hg m x 97 hop 3 101 keyI Tryz.underlying97 ptrElem (zeroSpc _) (.lit (.int .i64 (-1))) [] rfl b k D hm hown (.int .i64 y) (.int .i64 y) hx (keyOfI y hy) fun v ps hv => ?_
  rw [hr.at_ y, hc] at hv
  rw [hr.has_ y, hc, ptrElem_inv hv]
  exact hK
theorem wpList_sp_look (hg : o.guard = none) (m x : Operand) (hop : o.op = Op.lookup 97 m x false) (b : Nat) (P : Pt) (hm : a.eval m = .map (some b)) (h : PtrsAt w b P) (y : Int) (hx : a.eval x = .int .i64 y) (hy : -9223372036854775808 ≤ y ∧ y ≤ 9223372036854775807) (c : Option Nat) (hc : P y = c)
    (hK : wpList Tryz.prog ops Q rest (a.put o.dst (ptV c)) w) : wpList Tryz.prog ops Q (o :: rest) a w := by
  obtain ⟨D, k, hown, _, hr⟩ := h
  refine wpList_plain hg fun K' hK' => ?_
  obtain ⟨v, ps, hrun, hv⟩ := hown.lookup keyI Tryz.underlying97 (zeroSpc w) (zd := .lit (.int .i64 (-1))) (zp := []) rfl (keyOfI y hy)
  rw [hr.at_ y, hc] at hv
  rw [ptrElem_inv hv] at hrun
  unfold Oper.wp
  simp [execOp, hop, hm, hx, hrun, Result.andThen]
  exact hK' _ _ hK
theorem wpList_sp_put (hg : o.guard = none) (m x v : Operand) (hop : o.op = Op.mapUpdate 97 m x v) (b : Nat) (P : Pt) (hm : a.eval m = .map (some b)) (h : PtrsAt w b P) (y : Int) (hx : a.eval x = .int .i64 y) (hy : 1 ≤ y ∧ y ≤ 8) (c : Nat) (hv : a.eval v = .pointer (some ⟨c, 0, none⟩))
    (hK : ∀ w', PtrsAt w' b (updP P y (some c)) → w.grownBy w' (some b) → wpList Tryz.prog ops Q rest (a.put o.dst undef) w') : wpList Tryz.prog ops Q (o :: rest) a w := by
  obtain ⟨D, k, hown, hk, hr⟩ := h
  refine wpList_mapUpdate_own _ hg m x v 97 hop 3 101 keyI Tryz.underlying97 _ b k D hm hown (by unfold maxLen; omega) (.int .i64 y) (.pointer (some ⟨c, 0, none⟩)) (.int .i64 y) hx hv (keyOfI _ (by omega)) (.lit (.int .i64 (ptI (some c)))) [] (ptrElem_mk (some c)) fun w' h1 h2 => ?_
  have hr' := hr.put y hy (some c) rfl
  exact hK w' ⟨_, 1024, ptr_tight h1 1024 hr'.frames.size, Nat.le_refl _, hr'⟩ h2
end

def mapO : Obj → Bool
  | .map _ _ => true
  | _ => false
/-- The kinds of blocks that calls may change; what stays. -/
def Mov (w : World) (k : Nat) : Prop := ∃ o, w.heap[k]? = some o ∧ (mapO o = true ∨ kindOf o = some 230 ∨ kindOf o = some 195 ∨ kindOf o = some 96 ∨ kindOf o = some 125)
def notMov (t : TypeId) : Prop := t ≠ 230 ∧ t ≠ 195 ∧ t ≠ 96 ∧ t ≠ 125
instance (t : TypeId) : Decidable (notMov t) := by unfold notMov; infer_instance
theorem not_mov {w : World} {k : Nat} {cs : Array Value} {t : TypeId} {z : Nat × Nat} (h : w.heap[k]? = some (.cells cs t z)) (ht : notMov t) : ¬ Mov w k := by
  rintro ⟨o, ho, hk⟩
  rw [h] at ho
  rw [← Option.some.inj ho] at hk
  simp only [mapO, kindOf, Option.some.injEq, reduceCtorEq, false_or] at hk
  rcases hk with e | e | e | e
  · exact ht.1 e
  · exact ht.2.1 e
  · exact ht.2.2.1 e
  · exact ht.2.2.2 e
structure KeepB (w w' : World) : Prop where
  only : Only w w' (Mov w)
theorem KeepB.below {w w' : World} (h : Below w.heap.size w w') : KeepB w w' := ⟨Only.below h⟩
theorem KeepB.refl (w : World) : KeepB w w := ⟨Only.refl _ _⟩
theorem KeepB.trans {a b c : World} (h : KeepB a b) (k : KeepB b c) : KeepB a c :=
  ⟨⟨k.only.os.trans h.only.os, k.only.tape.trans h.only.tape, k.only.output.trans h.only.output, Nat.le_trans h.only.size k.only.size, fun i hi hB => by
    have e := h.only.block i hi hB
    refine (k.only.block i (Nat.lt_of_lt_of_le hi h.only.size) fun hm => hB ?_).trans e
    obtain ⟨o, ho, hk⟩ := hm
    exact ⟨o, e ▸ ho, hk⟩⟩⟩
theorem KeepB.size {w w' : World} (h : KeepB w w') : w.heap.size ≤ w'.heap.size := h.only.size
theorem KeepB.box {w w' : World} (h : KeepB w w') {k : Nat} {cs : Array Value} {t : TypeId} {z : Nat × Nat} (hb : w.heap[k]? = some (.cells cs t z)) (ht : notMov t) : w'.heap[k]? = some (.cells cs t z) := h.only.kept hb (not_mov hb ht)
theorem KeepB.row {w w' : World} (h : KeepB w w') {base k n : Nat} {e : TypeId} {v : Value} {xs : List Value} (ho : w.ownsRow base e k v n xs) (ht : notMov e) : w'.ownsRow base e k v n xs :=
  ownsRow_only ho h.only fun g hg => by
    obtain ⟨cs, hcs⟩ := own_block ho hg
    exact not_mov hcs ht
/-- A block that holds no area. -/
def NoAr (w : World) (k : Nat) : Prop := ∀ o x y b, ¬ (w.cell? ⟨k, o, none⟩ = some (.int .i64 x) ∧ w.cell? ⟨k, o + 1, none⟩ = some (.int .i64 y) ∧ w.cell? ⟨k, o + 2, none⟩ = some (.bool b))
theorem ArAt.only {w w' : World} {v : Value} {L : List Ar} {B : Nat → Prop} (h : ArAt w v L) (ho : Only w w' B) (hB : ∀ k, B k → NoAr w k) : ArAt w' v L := by
  obtain ⟨a, c, rfl, hl, hw, h⟩ := h
  refine ⟨a, c, rfl, hl, hw, ?_⟩
  rcases h with h | ⟨b, o, e, hlt, hc⟩
  · exact Or.inl h
  · cases L with
    | nil => exact Or.inl rfl
    | cons x r =>
      have h0 := hc 0 (by simp)
      have hn : ¬ B b := fun hb => hB b hb _ _ _ _ h0
      have hk := ho.block b hlt hn
      have k : ∀ q, w'.cell? ⟨b, q, none⟩ = w.cell? ⟨b, q, none⟩ := fun q => World.cell?_of_block (w := w) hk
      exact Or.inr ⟨b, o, e, Nat.lt_of_lt_of_le hlt ho.size, fun i hi => by
        obtain ⟨c0, c1, c2⟩ := hc i hi
        exact ⟨(k _).trans c0, (k _).trans c1, (k _).trans c2⟩⟩
theorem noAr_map {w : World} {k : Nat} {es : Array MapEntry} {ck : Nat} (h : w.heap[k]? = some (.map es ck)) : NoAr w k := fun o x y b ⟨h0, _⟩ => by
  simp [World.cell?, h] at h0
theorem noAr_node {w : World} {k : Nat} {n : Nd} (h : w.heap[k]? = some (ndO n)) : NoAr w k := fun o x y b ⟨_, _, h2⟩ => by
  rw [cell_of_row w k _ _ _ _ h] at h2
  rcases (show o = 0 ∨ o = 1 ∨ 2 ≤ o by omega) with rfl | rfl | ho
  · simp at h2
  · simp at h2
  · rw [Array.getElem?_eq_none (by simp; omega)] at h2; cases h2
theorem noAr_set {w : World} {k : Nat} {L : List Nat} (h : SetAt w k L) : NoAr w k := fun o x y b ⟨h0, _, _⟩ => by
  rw [cell_of_row w k _ _ _ _ h.box] at h0
  by_cases ho : o < 16
  · rw [setV_get _ _ _ ho] at h0
    cases h0
  · by_cases ho2 : o = 16
    · subst ho2; rw [setV_made] at h0; cases h0
    · rw [Array.getElem?_eq_none (by simp [setV, bitsV_length]; omega)] at h0; cases h0
theorem noAr_page {w : World} {k : Nat} {L : List Int} {t : TypeId} {z : Nat × Nat} (h : w.heap[k]? = some (.cells (wordsV L) t z)) : NoAr w k := fun o x y b ⟨h0, _, _⟩ => by
  rw [cell_of_row w k _ _ _ _ h] at h0
  simp only [wordsV, List.getElem?_toArray, List.getElem?_map] at h0
  cases hx : L[o]? with
  | none => rw [hx] at h0; cases h0
  | some u => rw [hx] at h0; cases h0

/-- A process's space: its block, its root, its areas. -/
structure Pc where
  blk : Nat
  root : Nat
  v : Value
  ar : List Ar
/-- The blocks of spaces: their box, the manager, its roots, the budget, its map, the map of spaces. -/
structure SIx where
  ss : Nat
  tb : Nat
  sb : Nat
  bb : Nat
  bm : Nat
  mm : Nat
  X : PIx
  n : Nat
  lo : Nat
  hi : Nat
  /-- Rows of containers that are somebody else's. -/
  fz : Nat → Option (Array Value)
/-- Such rows lie where they are, and are none of the budget's blocks. -/
def FzOk (w : World) (F : Nat → Option (Array Value)) (Pb : Pt) : Prop := ∀ k cs, F k = some cs → w.heap[k]? = some (.cells cs 96 (0, 0)) ∧ ∀ i p, Pb i = some p → p ≠ k
theorem FzOk.only {w w' : World} {F : Nat → Option (Array Value)} {Pb Pb' : Pt} {B : Nat → Prop} (h : FzOk w F Pb) (ho : Only w w' B) (hB : ∀ k cs, w.heap[k]? = some (.cells cs 96 (0, 0)) → (∀ i p, Pb i = some p → p ≠ k) → ¬ B k) (hP : ∀ i p, Pb' i = some p → Pb i = some p ∨ w.heap.size ≤ p) : FzOk w' F Pb' := fun k cs hk => by
  obtain ⟨a, b⟩ := h k cs hk
  refine ⟨ho.kept a (hB k cs a b), fun i p hp e => ?_⟩
  rcases hP i p hp with h1 | h1
  · exact b i p h1 e
  · have := lt_of_block a; omega
def spO (i : Int) (s : Pc) : Obj := .cells #[.int .i64 i, .int .i64 (s.root : Int), s.v] 125 (0, 0)
def ssO (I : SIx) : Obj := .cells #[.pointer (some ⟨I.X.mp, 0, none⟩), .pointer (some ⟨I.X.pb, 0, none⟩), .int .i64 0, .pointer (some ⟨I.bb, 0, none⟩), .pointer (some ⟨I.tb, 0, none⟩), .map (some I.mm)] 99 (0, 0)
abbrev blkG (G : Int → Option Pc) : Pt := fun i => (G i).map (·.blk)
structure Big (W0 w : World) (I : SIx) (c : Nat) (W : Nat → Option Sp) (Q : Nat → Nat) (V : Nat → Nat → Int) (Pb : Pt) (Lb : List Nd) (G : Int → Option Pc) : Prop where
  sys : SysS W0 w I.tb I.sb I.X I.n I.lo I.hi c W Q V
  bud : BudAt w I.bb I.bm Pb Lb
  box : w.heap[I.ss]? = some (ssO I)
  map : PtrsAt w I.mm (blkG G)
  sp : ∀ i s, G i = some s → w.heap[s.blk]? = some (spO i s) ∧ ArAt w s.v s.ar ∧ OkD s.ar
  nbm : W0.heap.size ≤ I.bm
  nmm : W0.heap.size ≤ I.mm
  nod : ∀ i p, Pb i = some p → W0.heap.size ≤ p
  nsp : ∀ i s, G i = some s → W0.heap.size ≤ s.blk
  ne : I.bm ≠ I.X.mb ∧ I.bm ≠ I.sb ∧ I.mm ≠ I.X.mb ∧ I.mm ≠ I.sb ∧ I.mm ≠ I.bm
  fz : FzOk w I.fz Pb
section
variable {W0 w : World} {I : SIx} {c : Nat} {W : Nat → Option Sp} {Q : Nat → Nat} {V : Nat → Nat → Int} {Pb : Pt} {Lb : List Nd} {G : Int → Option Pc}
theorem SysS.noAr {tb sb n lo hi : Nat} {X : PIx} (h : SysS W0 w tb sb X n lo hi c W Q V) (k : Nat) (hk : mgB X sb k) : NoAr w k ∧ Mov w k := by
  obtain ⟨L, R, S, O, T, h1, r⟩ := h.ex
  rcases hk with (e | e | e) | e
  · rw [e]; exact ⟨noAr_page h1.own.st.mem.row, _, h1.own.st.mem.row, Or.inr (Or.inl rfl)⟩
  · obtain ⟨es, ck, hm⟩ := h1.own.st.refs.isMap
    rw [e]; exact ⟨noAr_map hm, _, hm, Or.inl rfl⟩
  · obtain ⟨t, ht, e2⟩ := List.mem_map.1 e
    obtain ⟨i, hi, e3⟩ := List.getElem_of_mem ht
    have := h1.own.st.sets i hi
    rw [List.getD_eq_getElem?_getD, List.getElem?_eq_getElem hi, Option.getD_some, e3, e2] at this
    exact ⟨noAr_set this, _, this.box, Or.inr (Or.inr (Or.inl rfl))⟩
  · obtain ⟨es, ck, hm⟩ := h1.spc.isMap
    rw [e]; exact ⟨noAr_map hm, _, hm, Or.inl rfl⟩
/-- A map that is another one is none of the manager's. -/
theorem SysS.mapOut {tb sb n lo hi b : Nat} {X : PIx} {P : Pt} (h : SysS W0 w tb sb X n lo hi c W Q V) (hm : PtrsAt w b P) (h1 : b ≠ X.mb) (h2 : b ≠ sb) : ¬ (X.all b ∨ b = sb ∨ b = tb) := fun hk => by
  obtain ⟨es, ck, hb⟩ := hm.isMap
  obtain ⟨_, o, ho, hx⟩ := h.kind b hk
  rw [hb] at ho
  rw [← Option.some.inj ho] at hx
  simp only [kindOf, true_and, reduceCtorEq, or_false] at hx
  rcases hx with e | e
  · exact h1 e
  · exact h2 e
theorem mgB_all {X : PIx} {sb tb k : Nat} (h : mgB X sb k) : X.all k ∨ k = sb ∨ k = tb := by
  rcases h with e | e
  · exact Or.inl (Or.inl e)
  · exact Or.inr (Or.inl e)
theorem BudAt.noAr {b m : Nat} (h : BudAt w b m Pb Lb) (k : Nat) (hk : bB m Pb k) : NoAr w k ∧ Mov w k := by
  rcases hk with e | ⟨i, hi⟩
  · obtain ⟨es, ck, hm⟩ := h.map.isMap
    rw [e]; exact ⟨noAr_map hm, _, hm, Or.inl rfl⟩
  · obtain ⟨n, _, hn⟩ := h.node hi
    exact ⟨noAr_node hn, _, hn, Or.inr (Or.inr (Or.inr (Or.inl rfl)))⟩
theorem Big.step {w' : World} (h : Big W0 w I c W Q V Pb Lb G) (hb : Below w.heap.size w w') : Big W0 w' I c W Q V Pb Lb G :=
  ⟨h.sys.step hb, h.bud.step hb, below_block hb h.box, h.map.same (hb.block _ h.map.lt), fun i s hi => by
    obtain ⟨a, b, d⟩ := h.sp i s hi
    exact ⟨below_block hb a, b.below hb, d⟩, h.nbm, h.nmm, h.nod, h.nsp, h.ne, h.fz.only (B := fun _ => False) (Only.below hb) (fun _ _ _ _ => id) (fun _ _ => Or.inl)⟩
/-- What a call leaves. -/
structure Goes (W0 w w' : World) (I : SIx) (c : Nat) (W : Nat → Option Sp) (Q : Nat → Nat) (V : Nat → Nat → Int) (Lb : List Nd) (G : Int → Option Pc) : Prop where
  ex : ∃ Pb, Big W0 w' I c W Q V Pb Lb G
  keep : KeepB w w'
/-- The manager's turn. -/
theorem Big.byTab {w' : World} {c' : Nat} {W' : Nat → Option Sp} {Q' : Nat → Nat} {V' : Nat → Nat → Int} (h : Big W0 w I c W Q V Pb Lb G) (k : GoneS W0 w w' I.tb I.sb I.X I.n I.lo I.hi c' W' Q' V') : Big W0 w' I c' W' Q' V' Pb Lb G ∧ KeepB w w' := by
  have hbm := h.sys.mapOut h.bud.map h.ne.1 h.ne.2.1
  have hmm := h.sys.mapOut h.map h.ne.2.2.1 h.ne.2.2.2.1
  refine ⟨⟨k.st, h.bud.kept (k.only.block _ (lt_of_block h.bud.box) (h.sys.other h.bud.box (by decide))) (fun j hj => k.only.block _ (h.bud.lt hj) fun hb => ?_), k.only.kept h.box (h.sys.other h.box (by decide)), h.map.same (k.only.block _ h.map.lt fun hb => hmm (mgB_all hb)), fun i s hi => ?_, h.nbm, h.nmm, h.nod, h.nsp, h.ne, h.fz.only k.only (fun _ _ hb _ => h.sys.other hb (by decide)) (fun _ _ => Or.inl)⟩, ⟨k.only.mono fun j hj => (h.sys.noAr j hj).2⟩⟩
  · rcases hj with rfl | ⟨i, hi⟩
    · exact hbm (mgB_all hb)
    · obtain ⟨n, _, hn⟩ := h.bud.node hi
      exact h.sys.other hn (by decide) hb
  · obtain ⟨a, b, d⟩ := h.sp i s hi
    exact ⟨k.only.kept a (h.sys.other a (by decide)), b.only k.only fun j hj => (h.sys.noAr j hj).1, d⟩
/-- The budget's turn. -/
theorem Big.byBud {w' : World} {Lb' : List Nd} (h : Big W0 w I c W Q V Pb Lb G) (k : Turned w w' I.bb I.bm Pb Lb') : Goes W0 w w' I c W Q V Lb' G := by
  obtain ⟨⟨P', t1, t2⟩, t3⟩ := k
  have hbm := h.sys.mapOut h.bud.map h.ne.1 h.ne.2.1
  have hnew : ∀ j, bB I.bm Pb j → W0.heap.size ≤ j := fun j hj => by
    rcases hj with rfl | ⟨i, hi⟩
    · exact h.nbm
    · exact h.nod i j hi
  have hB : Below W0.heap.size W0 w' := t3.old h.sys.below h.sys.below.size hnew
  refine ⟨⟨P', h.sys.kept t3 (fun j hj hb => ?_) hB, t1, t3.kept h.box fun hb => ?_, h.map.same (t3.block _ h.map.lt fun hb => ?_), fun i s hi => ?_, h.nbm, h.nmm, fun i p hp => ?_, h.nsp, h.ne, h.fz.only t3 (fun k cs hk hn hb => ?_) t2⟩, ⟨t3.mono fun j hj => (h.bud.noAr j hj).2⟩⟩
  · rcases hb with rfl | ⟨i, hi⟩
    · exact hbm hj
    · obtain ⟨n, _, hn⟩ := h.bud.node hi
      obtain ⟨_, o, ho, hx⟩ := h.sys.kind j hj
      rw [hn] at ho
      rw [← Option.some.inj ho] at hx
      simp only [ndO, kindOf, Option.some.injEq, reduceCtorEq, false_and, false_or] at hx
      revert hx; decide
  · obtain ⟨_, o, ho, hx⟩ := h.bud.noAr _ hb
    rw [h.box] at ho
    exact not_mov h.box (by decide) ⟨_, h.box, by rw [Option.some.inj ho]; exact hx⟩
  · rcases hb with e | ⟨i, hi⟩
    · exact h.ne.2.2.2.2 e
    · obtain ⟨n, _, hn⟩ := h.bud.node hi
      obtain ⟨es, ck, hm⟩ := h.map.isMap
      rw [hm] at hn; cases hn
  · obtain ⟨a, b, d⟩ := h.sp i s hi
    refine ⟨t3.kept a fun hb => ?_, b.only t3 fun j hj => (h.bud.noAr j hj).1, d⟩
    rcases hb with e | ⟨j, hj⟩
    · obtain ⟨es, ck, hm⟩ := h.bud.map.isMap
      rw [e, hm] at a; cases a
    · obtain ⟨n, _, hn⟩ := h.bud.node hj
      rw [hn] at a
      simp only [ndO, spO, Option.some.injEq, Obj.cells.injEq] at a
      exact absurd a.2.1 (by decide)
  · rcases t2 i p hp with e | e
    · exact h.nod i p e
    · exact Nat.le_trans h.sys.below.size e
  · rcases hb with rfl | ⟨i, hi⟩
    · obtain ⟨es, ck, hm⟩ := h.bud.map.isMap
      rw [hm] at hk; cases hk
    · exact hn i k hi rfl
/-- The turn of spaces' own blocks: only the map of spaces, and this space's block. -/
theorem Big.own {w' : World} {G' : Int → Option Pc} {B : Nat → Prop} (h : Big W0 w I c W Q V Pb Lb G) (ho : Only w w' B) (hB : ∀ k, B k → k = I.mm ∨ ∃ i s, G i = some s ∧ s.blk = k) (hm : PtrsAt w' I.mm (blkG G')) (hs : ∀ i s, G' i = some s → w'.heap[s.blk]? = some (spO i s) ∧ ArAt w' s.v s.ar ∧ OkD s.ar ∧ W0.heap.size ≤ s.blk) : Goes W0 w w' I c W Q V Lb G' := by
  have hmm := h.sys.mapOut h.map h.ne.2.2.1 h.ne.2.2.2.1
  have hsp : ∀ i s, G i = some s → ¬ (I.X.all s.blk ∨ s.blk = I.sb ∨ s.blk = I.tb) := fun i s hi hk => by
    obtain ⟨_, o, ho, hx⟩ := h.sys.kind _ hk
    rw [(h.sp i s hi).1] at ho
    rw [← Option.some.inj ho] at hx
    simp only [spO, kindOf, Option.some.injEq, reduceCtorEq, false_and, false_or] at hx
    revert hx; decide
  have hnew : ∀ k, B k → W0.heap.size ≤ k := fun k hk => by
    rcases hB k hk with rfl | ⟨i, s, hi, rfl⟩
    · exact h.nmm
    · exact h.nsp i s hi
  have hmov : ∀ k, B k → Mov w k := fun k hk => by
    rcases hB k hk with rfl | ⟨i, s, hi, rfl⟩
    · obtain ⟨es, ck, hm⟩ := h.map.isMap
      exact ⟨_, hm, Or.inl rfl⟩
    · exact ⟨_, (h.sp i s hi).1, Or.inr (Or.inr (Or.inr (Or.inr rfl)))⟩
  refine ⟨⟨Pb, h.sys.kept ho (fun k hk hb => ?_) (ho.old h.sys.below h.sys.below.size hnew), h.bud.kept (ho.block _ (lt_of_block h.bud.box) fun hb => not_mov h.bud.box (by decide) (hmov _ hb)) (fun k hk => ho.block _ (h.bud.lt hk) fun hb => ?_), ho.kept h.box fun hb => not_mov h.box (by decide) (hmov _ hb), hm, fun i s hi => ⟨(hs i s hi).1, (hs i s hi).2.1, (hs i s hi).2.2.1⟩, h.nbm, h.nmm, h.nod, fun i s hi => (hs i s hi).2.2.2, h.ne, h.fz.only ho (fun k cs hk _ hb => ?_) (fun _ _ => Or.inl)⟩, ⟨ho.mono hmov⟩⟩
  · rcases hB k hb with rfl | ⟨i, s, hi, rfl⟩
    · exact hmm hk
    · exact hsp i s hi hk
  · rcases hB k hb with e | ⟨i, s, hi, e⟩
    · rcases hk with e2 | ⟨j, hj⟩
      · exact h.ne.2.2.2.2 (e.symm.trans e2)
      · obtain ⟨n, _, hn⟩ := h.bud.node hj
        obtain ⟨es, ck, hm⟩ := h.map.isMap
        rw [e, hm] at hn; cases hn
    · have a := (h.sp i s hi).1
      rw [e] at a
      rcases hk with e2 | ⟨j, hj⟩
      · obtain ⟨es, ck, hm⟩ := h.bud.map.isMap
        rw [e2, hm] at a; cases a
      · obtain ⟨n, _, hn⟩ := h.bud.node hj
        rw [hn] at a
        simp only [ndO, spO, Option.some.injEq, Obj.cells.injEq] at a
        exact absurd a.2.1 (by decide)
  · rcases hB k hb with e | ⟨i, s, hi, e⟩
    · obtain ⟨es, ck, hm⟩ := h.map.isMap
      rw [e, hm] at hk; cases hk
    · have a := (h.sp i s hi).1
      rw [e, hk] at a
      simp only [spO, Option.some.injEq, Obj.cells.injEq] at a
      exact absurd a.2.1 (by decide)
/-- Which process's a block is. -/
theorem Big.inj (h : Big W0 w I c W Q V Pb Lb G) {i j : Int} {s t : Pc} (hi : G i = some s) (hj : G j = some t) (e : s.blk = t.blk) : i = j := by
  have a := (h.sp i s hi).1
  have b := (h.sp j t hj).1
  rw [e, b] at a
  simp only [spO, Option.some.injEq, Obj.cells.injEq, and_true] at a
  have := congrArg (fun c : Array Value => c[0]?) a
  simp at this
  omega
theorem Big.cells (h : Big W0 w I c W Q V Pb Lb G) : w.cell? ⟨I.ss, 0, none⟩ = some (.pointer (some ⟨I.X.mp, 0, none⟩)) ∧ w.cell? ⟨I.ss, 1, none⟩ = some (.pointer (some ⟨I.X.pb, 0, none⟩)) ∧ w.cell? ⟨I.ss, 2, none⟩ = some (.int .i64 0) ∧ w.cell? ⟨I.ss, 3, none⟩ = some (.pointer (some ⟨I.bb, 0, none⟩)) ∧ w.cell? ⟨I.ss, 4, none⟩ = some (.pointer (some ⟨I.tb, 0, none⟩)) ∧ w.cell? ⟨I.ss, 5, none⟩ = some (.map (some I.mm)) := by
  have := fun i => cell_of_row w I.ss i _ _ _ h.box
  exact ⟨this 0, this 1, this 2, this 3, this 4, this 5⟩
theorem Big.spc (h : Big W0 w I c W Q V Pb Lb G) {i : Int} {s : Pc} (hi : G i = some s) : w.cell? ⟨s.blk, 0, none⟩ = some (.int .i64 i) ∧ w.cell? ⟨s.blk, 1, none⟩ = some (.int .i64 (s.root : Int)) ∧ w.cell? ⟨s.blk, 2, none⟩ = some s.v := by
  have := fun j => cell_of_row w s.blk j _ _ _ (h.sp i s hi).1
  exact ⟨this 0, this 1, this 2⟩
end
end Go.Proofs.YtkenipanpimolaaGreatDoor

/- The contracts of package space's isThere, ask, find, run, walk (any callback by its contract). Conditions: the spaces lie as New laid them, or there are none, or nobody made them. -/
namespace Go.Proofs.YtkenipanpimolaaGreatDoor
open Go.RowKit Go.Maps
set_option maxRecDepth 100000

/-- No spaces: none are there, or nobody made them. -/
def NoSpc (w : World) (p : Option Addr) : Prop := p = none ∨ ∃ b, p = some ⟨b, 0, none⟩ ∧ w.cell? ⟨b, 5, none⟩ = some (.map none)
theorem NoSpc.step {w w' : World} {p : Option Addr} (h : NoSpc w p) (hb : Below w.heap.size w w') : NoSpc w' p := by
  rcases h with h | ⟨b, h, k⟩
  · exact Or.inl h
  · exact Or.inr ⟨b, h, (hb.cell (p := ⟨b, 5, none⟩) (cell_lt (a := ⟨b, 5, none⟩) k)).trans k⟩
theorem isThereS_no (p : Option Addr) (w : World) (h : NoSpc w p) : Calls Tryz.prog 75 #[.pointer p] w fun e w' => e = .returned (.bool false) ∧ w = w' := by
  have hm := run_neq_map_nil (P := Tryz.prog) w 97 3 101 none Tryz.underlying97
  rcases h with rfl | ⟨b, rfl, hc⟩
  all_goals
    go_enter Tryz.func75, Tryz.ntmps75
    go_wp2
    go_ret
    exact ⟨rfl, rfl⟩
theorem isThereS_ok (b m : Nat) (w : World) (hc : w.cell? ⟨b, 5, none⟩ = some (.map (some m))) : Calls Tryz.prog 75 #[.pointer (some ⟨b, 0, none⟩)] w fun e w' => e = .returned (.bool true) ∧ w = w' := by
  have hm := run_neq_map_nil (P := Tryz.prog) w 97 3 101 (some m) Tryz.underlying97
  go_enter Tryz.func75, Tryz.ntmps75
  go_wp2
  go_ret
  exact ⟨rfl, rfl⟩
def askS (there : Bool) (ids : List Int) : Int := if there = true then (if ids.all idB = true then 0 else 2) else 1
set_option maxHeartbeats 1000000 in
theorem askS_any (p : Option Addr) (there : Bool) (ids : List Int) (g k : Nat) (w : World) (hk : k = ids.length) (hp : Calls Tryz.prog 75 #[.pointer p] w fun e w' => e = .returned (.bool there) ∧ w = w') (hl : k ≤ 2) (hc : ∀ i, i < k → w.cell? ⟨g, i, none⟩ = some (.int .i64 (ids.getD i 0))) :
    Calls Tryz.prog 37 #[.pointer p, .slice (some ⟨g, 0, none⟩) k k] w fun e w' => e = .returned (.int .i64 (askS there ids)) ∧ w = w' := by
  have HP := Lib.hid hp
  have HC := Lib.hid hc
  have HK := Lib.hid hk
  clear hp hc hk
  go_enter Tryz.func37, Tryz.ntmps37
  go_wp2_with fail
  refine HP.out.mono ?_
  rintro e w1 ⟨rfl, rfl⟩
  cases there with
  | false =>
    go_wp2
    go_ret
    exact ⟨rfl, rfl⟩
  | true =>
    go_wp2_with fail
    go_loopw [12] (fun i wr => ∃ j : Nat, i = .int .i64 (j : Int) ∧ j ≤ k ∧ wr = w ∧ (ids.take j).all idB = true) (fun i _ => (k - (intOf i).toNat))
    case atStart => exact ⟨0, rfl, Nat.zero_le _, rfl, by simp⟩
    case round =>
      obtain ⟨j, rfl, hj, rfl, hall⟩ := hrel
      have ALL := Lib.hid hall
      clear hall
      by_cases hlt : j < k
      · have c0 := HC.out j hlt
        by_cases h1 : ids.getD j 0 < 1
        · have NB := Lib.hid (not_allB (ids := ids) (j := j) (by have := HK.out; omega) (decide_eq_false (by omega)))
          generalize ids.getD j 0 = x at *
          go_wp2
          go_ret
          exact ⟨by unfold askS; rw [if_pos rfl, NB.out]; rfl, rfl⟩
        · by_cases h2 : 8 < ids.getD j 0
          · have NB := Lib.hid (not_allB (ids := ids) (j := j) (by have := HK.out; omega) (decide_eq_false (by omega)))
            generalize ids.getD j 0 = x at *
            go_wp2
            go_ret
            exact ⟨by unfold askS; rw [if_pos rfl, NB.out]; rfl, rfl⟩
          · have A2 := Lib.hid (take_allB (by have := HK.out; omega) ALL.out (decide_eq_true (by omega)))
            generalize ids.getD j 0 = x at *
            go_wp2
            go_roundw
            case rel => exact ⟨j + 1, by go_num, by omega, by trivial, A2.out⟩
            case measure => simp [intOf]; omega
      · obtain rfl : j = k := by omega
        have e : ids.all idB = true := by have := ALL.out; rwa [HK.out, List.take_length] at this
        have E := Lib.hid e
        clear hlt e
        go_wp2
        go_ret
        exact ⟨by unfold askS; rw [if_pos rfl, E.out]; rfl, rfl⟩
theorem cell_one_new (w : World) (x : Int) (i : Nat) (hi : i < 1) : (w.alloc (.cells #[.int .i64 x] 3)).cell? ⟨w.heap.size, i, none⟩ = some (.int .i64 ([x].getD i 0)) := by
  obtain rfl : i = 0 := by omega
  rw [cell_of_row _ _ _ _ _ _ (heap_alloc_new w _)]; rfl
theorem cell_two_new (w : World) (x y : Int) (i : Nat) (hi : i < 2) : (w.alloc (.cells #[.int .i64 x, .int .i64 y] 3)).cell? ⟨w.heap.size, i, none⟩ = some (.int .i64 ([x, y].getD i 0)) := by
  rcases (show i = 0 ∨ i = 1 by omega) with rfl | rfl
  all_goals rw [cell_of_row _ _ _ _ _ _ (heap_alloc_new w _)]; rfl
/-- Who asks about one number. -/
theorem askS_one (p : Option Addr) (there : Bool) (i : Int) (w : World) (hp : ∀ W, Below w.heap.size w W → Calls Tryz.prog 75 #[.pointer p] W fun e w' => e = .returned (.bool there) ∧ W = w') {er : Int} (he : askS there [i] = er) :
    Calls Tryz.prog 37 #[.pointer p, .slice (some ⟨w.heap.size, 0, none⟩) 1 1] (w.alloc (.cells #[.int .i64 i] 3)) fun e w' => e = .returned (.int .i64 er) ∧ Below w.heap.size w w' := by
  have hb : Below w.heap.size w (w.alloc (.cells #[.int .i64 i] 3)) := (Below.refl _ _).alloc (Nat.le_refl _) _
  subst he
  exact (askS_any p there [i] w.heap.size 1 _ rfl (hp _ hb) (by decide) (cell_one_new w i)).mono fun e w' ⟨h1, h2⟩ => ⟨h1, h2 ▸ hb⟩
theorem askS_two (p : Option Addr) (there : Bool) (i j : Int) (w : World) (hp : ∀ W, Below w.heap.size w W → Calls Tryz.prog 75 #[.pointer p] W fun e w' => e = .returned (.bool there) ∧ W = w') {er : Int} (he : askS there [i, j] = er) :
    Calls Tryz.prog 37 #[.pointer p, .slice (some ⟨w.heap.size, 0, none⟩) 2 2] (w.alloc (.cells #[.int .i64 i, .int .i64 j] 3)) fun e w' => e = .returned (.int .i64 er) ∧ Below w.heap.size w w' := by
  have hb : Below w.heap.size w (w.alloc (.cells #[.int .i64 i, .int .i64 j] 3)) := (Below.refl _ _).alloc (Nat.le_refl _) _
  subst he
  exact (askS_any p there [i, j] w.heap.size 2 _ rfl (hp _ hb) (by decide) (cell_two_new w i j)).mono fun e w' ⟨h1, h2⟩ => ⟨h1, h2 ▸ hb⟩
section
variable {W0 w : World} {I : SIx} {c : Nat} {W : Nat → Option Sp} {Q : Nat → Nat} {V : Nat → Nat → Int} {Pb : Pt} {Lb : List Nd} {G : Int → Option Pc}
theorem Big.there (h : Big W0 w I c W Q V Pb Lb G) : ∀ W', Below w.heap.size w W' → Calls Tryz.prog 75 #[.pointer (some ⟨I.ss, 0, none⟩)] W' fun e w' => e = .returned (.bool true) ∧ W' = w' :=
  fun W' hb => isThereS_ok I.ss I.mm W' (h.step hb).cells.2.2.2.2.2
theorem NoSpc.there {p : Option Addr} (h : NoSpc w p) : ∀ W', Below w.heap.size w W' → Calls Tryz.prog 75 #[.pointer p] W' fun e w' => e = .returned (.bool false) ∧ W' = w' :=
  fun W' hb => isThereS_no p W' (h.step hb)
/-- find: the error, the space. -/
def findSE (G : Int → Option Pc) (i : Int) : Int := if idB i = true then (match G i with
  | none => 4
  | some _ => 0) else 2
theorem find_err (p : Option Addr) (there : Bool) (i : Int) (w : World) (hp : ∀ W, Below w.heap.size w W → Calls Tryz.prog 75 #[.pointer p] W fun e w' => e = .returned (.bool there) ∧ W = w') {er : Int} (he : askS there [i] = er) (hne : (er != 0) = true) :
    Calls Tryz.prog 61 #[.pointer p, .int .i64 i] w fun e w' => e = .returned (.tuple #[.pointer none, .int .i64 er]) ∧ Below w.heap.size w w' := by
  have HX := Lib.hid (askS_one p there i w hp he)
  clear hp he
  go_enter Tryz.func61, Tryz.ntmps61
  go_wp2_with fail
  refine HX.out.mono ?_
  rintro e w1 ⟨rfl, hb⟩
  have B := Lib.hid hb
  clear hb
  go_wp2
  go_ret2
  exact ⟨rfl, B.out⟩
theorem askS_yes {i : Int} (hi : idB i = true) : askS true [i] = 0 := by simp [askS, hi]
theorem askS_bad {i : Int} (hi : idB i = false) : askS true [i] = 2 := by simp [askS, hi]
theorem find_S (h : Big W0 w I c W Q V Pb Lb G) (i : Int) {p : Option Nat} (hp : (if findSE G i = 0 then (G i).map (·.blk) else none) = p) {er : Int} (he : findSE G i = er) :
    Calls Tryz.prog 61 #[.pointer (some ⟨I.ss, 0, none⟩), .int .i64 i] w fun e w' => e = .returned (.tuple #[ptV p, .int .i64 er]) ∧ Below w.heap.size w w' := by
  subst hp he
  cases hi : idB i with
  | false =>
    have e1 : findSE G i = 2 := by unfold findSE; rw [hi]; rfl
    rw [e1]
    exact find_err _ true i w h.there (askS_bad hi) rfl
  | true =>
    have HX := Lib.hid (askS_one (some ⟨I.ss, 0, none⟩) true i w h.there (askS_yes hi))
    have hib : 1 ≤ i ∧ i ≤ 8 := by unfold idB at hi; simpa using hi
    have H := Lib.hid h
    have e1 : findSE G i = match G i with
      | none => 4
      | some _ => 0 := by unfold findSE; rw [hi]; rfl
    cases hG : G i with
    | none =>
      rw [hG] at e1
      simp only at e1
      rw [e1]
      have HG := Lib.hid (show blkG G i = none by simp [hG])
      clear h hi hG e1
      go_enter Tryz.func61, Tryz.ntmps61
      go_wp2_with fail
      refine HX.out.mono ?_
      rintro e w1 ⟨rfl, hb⟩
      have B := Lib.hid hb
      have H1 := Lib.hid (H.out.step hb)
      have c5 := H1.out.cells.2.2.2.2.2
      clear hb
      go_wp2_with (refine wpList_sp_ok _ rfl (.tmp 20) (.tmp 21) rfl I.mm (blkG G) rfl H1.out.map i rfl (by omega) none HG.out ?_)
      go_ret2
      exact ⟨rfl, B.out⟩
    | some s =>
      rw [hG] at e1
      simp only at e1
      rw [e1, if_pos rfl]
      have HG := Lib.hid (show blkG G i = some s.blk by simp [hG])
      clear h hi hG e1
      go_enter Tryz.func61, Tryz.ntmps61
      go_wp2_with fail
      refine HX.out.mono ?_
      rintro e w1 ⟨rfl, hb⟩
      have B := Lib.hid hb
      have H1 := Lib.hid (H.out.step hb)
      have c5 := H1.out.cells.2.2.2.2.2
      clear hb
      go_wp2_with (refine wpList_sp_ok _ rfl (.tmp 20) (.tmp 21) rfl I.mm (blkG G) rfl H1.out.map i rfl (by omega) (some s.blk) HG.out ?_)
      go_ret2
      exact ⟨rfl, B.out⟩
end
/-- Pages as a slice. -/
def PgsAt (w : World) (v : Value) (L : List Nat) : Prop := ∃ a c, v = .slice a L.length c ∧ (L = [] ∨ ∃ b cs, a = some ⟨b, 0, none⟩ ∧ w.heap[b]? = some (.cells cs 3 (0, 0)) ∧ ∀ i, i < L.length → cs[i]? = some (.int .i64 ((L.getD i 0 : Nat) : Int)))
theorem PgsAt.keep {w w' : World} {v : Value} {L : List Nat} (h : PgsAt w v L) (k : KeepB w w') : PgsAt w' v L := by
  obtain ⟨a, c, e, h⟩ := h
  refine ⟨a, c, e, h.imp id ?_⟩
  rintro ⟨b, cs, e1, e2, e3⟩
  exact ⟨b, cs, e1, k.box e2 (by decide), e3⟩
theorem PgsAt.of_row {w : World} {base : Nat} {v : Value} {L : List Nat} (h : w.ownsRow base 3 1 v L.length (natsV L)) : PgsAt w v L := by
  have h' := h
  rcases h.2 with ⟨rfl, h0⟩ | ⟨g, cap, cur, rfl, hb, hgg, _⟩
  · exact ⟨none, 0, by rw [h0], Or.inl (List.eq_nil_of_length_eq_zero h0)⟩
  · refine ⟨_, _, rfl, Or.inr ⟨g, cur, rfl, hgg, fun i hi => ?_⟩⟩
    have := h'.cells (g := g) rfl i (.int .i64 ((L.getD i 0 : Nat) : Int)) (by simp [natsV, List.getD_eq_getElem?_getD, hi])
    rwa [Addr.add_mid, cell_of_row _ _ _ _ _ _ hgg, Nat.zero_add] at this
end Go.Proofs.YtkenipanpimolaaGreatDoor

/- The contracts of package space's run, walk (any callback by its contract). Conditions: the spaces lie as New laid them. -/
namespace Go.Proofs.YtkenipanpimolaaGreatDoor
open Go.RowKit Go.Maps
set_option maxRecDepth 100000

theorem span_get (m : Nat) : ∀ (n i : Nat), i < n → (span m n).getD i 0 = m + i := by
  intro n i hi
  simp [span, hi]
def runV (m n k : Nat) : Array Value := refsV n fun i => if i < k then m + i else 0
theorem runV_set (m n k : Nat) (hk : k < n) : (runV m n k).setIfInBounds k (.int .i64 ((m + k : Nat) : Int)) = runV m n (k + 1) := by
  unfold runV
  rw [refsV_set n _ k (m + k) hk]
  congr 1
  funext i
  unfold upd
  by_cases e : i = k
  · subst e; rw [if_pos rfl, if_pos (by omega)]
  · rw [if_neg e]
    by_cases h : i < k
    · show (if i < k then m + i else 0) = _
      rw [if_pos h, if_pos (by omega)]
    · show (if i < k then m + i else 0) = _
      rw [if_neg h, if_neg (by omega)]
set_option maxHeartbeats 1000000 in
theorem run_S (m n : Nat) (hm : m ≤ 100000) (hn : n ≤ 100000) (w : World) : Calls Tryz.prog 105 #[.int .i64 (m : Int), .int .i64 (n : Int)] w fun e w' => ∃ v, e = .returned v ∧ PgsAt w' v (span m n) ∧ Below w.heap.size w w' := by
  have hmk := make_intsM n (by omega) w
  have A0 : Hid ((w.alloc (.cells (refsV n R0) 3)).heap[w.heap.size]? = some (.cells (runV m n 0) 3 (0, 0))) := Lib.hid (by
    rw [heap_alloc_new]; unfold runV; simp only [Nat.not_lt_zero, if_false]; try rfl)
  have B0 : Hid (Below w.heap.size w (w.alloc (.cells (refsV n R0) 3))) := Lib.hid ((Below.refl _ _).alloc (Nat.le_refl _) _)
  go_enter Tryz.func105, Tryz.ntmps105
  go_wp2_with fail
  generalize w.alloc (.cells (refsV n R0) 3) = w1 at A0 B0 ⊢
  go_loopw [11] (fun i wr => ∃ j : Nat, i = .int .i64 (j : Int) ∧ j ≤ n ∧ wr.heap[w.heap.size]? = some (.cells (runV m n j) 3 (0, 0)) ∧ Below w.heap.size w wr) (fun i _ => (n - (intOf i).toNat))
  case atStart => exact ⟨0, rfl, Nat.zero_le _, A0.out, B0.out⟩
  case round =>
    obtain ⟨j, rfl, hj, hA, hB⟩ := hrel
    have A := Lib.hid hA
    have B := Lib.hid hB
    by_cases hlt : j < n
    · have c0 : wr.cell? ⟨w.heap.size, j, none⟩ = some (.int .i64 0) := by
        rw [cell_of_row _ _ _ _ _ _ hA, runV, refsV_get _ _ _ hlt, if_neg (by omega)]; rfl
      have f0 := frozen_of_row wr w.heap.size j _ _ hA
      have S := Lib.hid (heap_setCell_same wr w.heap.size j _ _ (.int .i64 ((m + j : Nat) : Int)) hA)
      have B1 := Lib.hid (hB.setCell (p := ⟨w.heap.size, j, none⟩) (Nat.le_refl _) (.int .i64 ((m + j : Nat) : Int)))
      rw [runV_set m n j hlt] at S
      have e1 : (m : Int) + (j : Int) = ((m + j : Nat) : Int) := by omega
      have g0 : -9223372036854775808 ≤ (m : Int) + (j : Int) := by omega
      have g1 : (m : Int) + (j : Int) ≤ 9223372036854775807 := by omega
      rw [← e1] at S B1
      clear hA hB e1
      go_wp2
      go_roundw
      case rel => exact ⟨j + 1, by go_num, by omega, S.out, B1.out⟩
      case measure => simp [intOf]; omega
    · obtain rfl : j = n := by omega
      clear hA hB
      go_wp2
      go_ret
      refine ⟨.slice (some ⟨w.heap.size, 0, none⟩) j j, rfl, ⟨some ⟨w.heap.size, 0, none⟩, j, by rw [show (span m j).length = j by simp [span]], Or.inr ⟨_, _, rfl, A.out, fun i hi => ?_⟩⟩, B.out⟩
      have hi : i < j := by simpa [span] using hi
      rw [runV, refsV_get _ _ _ hi, if_pos hi, span_get m j i hi]

theorem drew_then {w w' : World} (h : Below w.drew.heap.size w.drew w') : Below w.heap.size w w' := ⟨h.os, h.tape, h.output, h.size, h.block⟩
theorem alloc_then {w w' : World} {o : Obj} (h : Below (w.alloc o).drew.heap.size (w.alloc o).drew w') : Below w.heap.size w w' :=
  ((Below.refl w.heap.size w).alloc (Nat.le_refl _) o).trans ((drew_then h).mono (by simp))
set_option maxHeartbeats 2000000 in
theorem walkS_ok (ss blk tb k : Nat) (root : Int) (caps : Array Value) (hent : ∀ (args : Array Value) (W : World), (callFunc k args).run Tryz.prog W = .ok (.enter k args) W) (v : Value) (L : List Nat) (Inv : Nat → World → Prop) (Fin : Int → World → Prop) (w : World)
    (hcell : ∀ j V, Inv j V → V.cell? ⟨ss, 4, none⟩ = some (.pointer (some ⟨tb, 0, none⟩)) ∧ V.cell? ⟨blk, 1, none⟩ = some (.int .i64 root) ∧ PgsAt V v L)
    (hstep : ∀ j V V', Inv j V → Below V.heap.size V V' → Inv j V')
    (hin : ∀ j V, j < L.length → Inv j V → ∃ (p x c : Bool) (g : Int) (b : Bool), (∀ V', Below V.heap.size V V' → Calls Tryz.prog 95 #[.pointer (some ⟨tb, 0, none⟩), .int .i64 root, .int .i64 ((L.getD j 0 : Nat) : Int)] V' fun e w' => e = .returned (.tuple #[ent p x c g, .bool b]) ∧ Below V'.heap.size V' w') ∧ ∀ V', Below V.heap.size V V' → Calls Tryz.prog k (#[.int .i64 ((L.getD j 0 : Nat) : Int), ent p x c g] ++ caps) V' fun e w' => ∃ er, e = .returned (.int .i64 er) ∧ (er = 0 ∧ Inv (j + 1) w' ∨ er ≠ 0 ∧ Fin er w'))
    (h0 : Inv 0 w) (hlen : L.length ≤ 100000) :
    Calls Tryz.prog 56 #[.pointer (some ⟨ss, 0, none⟩), .pointer (some ⟨blk, 0, none⟩), v, .func (.func k) #[] caps] w fun e w' => ∃ er, e = .returned (.int .i64 er) ∧ (er = 0 ∧ Inv L.length w' ∨ er ≠ 0 ∧ Fin er w') := by
  obtain ⟨a, cp, rfl, _⟩ := (hcell 0 w h0).2.2
  obtain ⟨n, hn⟩ : ∃ n, n = L.length := ⟨_, rfl⟩
  rw [← hn] at hcell hin hlen ⊢
  have HN := Lib.hid hn
  have HC := Lib.hid hcell
  have HS := Lib.hid hstep
  have HI := Lib.hid hin
  have H0 := Lib.hid h0
  clear hcell hstep hin h0 hn
  go_enter Tryz.func56, Tryz.ntmps56
  go_wp2_with fail
  go_loopw [16] (fun i wr => ∃ j : Nat, i = .int .i64 (j : Int) ∧ j ≤ n ∧ Inv j wr) (fun i _ => (n - (intOf i).toNat))
  case atStart => exact ⟨0, rfl, Nat.zero_le _, H0.out⟩
  case round =>
    obtain ⟨j, rfl, hj, hJ⟩ := hrel
    have J := Lib.hid hJ
    by_cases hlt : j < n
    · obtain ⟨c4, c1, a', cp', he, hP⟩ := HC.out j wr hJ
      obtain ⟨b, cs, rfl, hb, hcs⟩ := hP.resolve_left (by intro e; have := HN.out; rw [e] at this; simp at this; omega)
      obtain ⟨rfl, _, _⟩ : a = some ⟨b, 0, none⟩ ∧ True ∧ True := by
        injection he with e1
        exact ⟨e1, trivial, trivial⟩
      have cj : wr.cell? ⟨b, j, none⟩ = some (.int .i64 ((L.getD j 0 : Nat) : Int)) := by
        rw [cell_of_row _ _ _ _ _ _ hb]; exact hcs j (by have := HN.out; omega)
      obtain ⟨p, x, c, g, bb, hq, hask⟩ := HI.out j _ hlt hJ
      have HQ := Lib.hid hq
      have HA := Lib.hid hask
      have CW : Hid (∀ V, Below wr.heap.size wr V → V.cell? ⟨ss, 4, none⟩ = some (.pointer (some ⟨tb, 0, none⟩)) ∧ V.cell? ⟨blk, 1, none⟩ = some (.int .i64 root)) := Lib.hid fun V hV =>
        ⟨(hV.cell (p := ⟨ss, 4, none⟩) (cell_lt (a := ⟨ss, 4, none⟩) c4)).trans c4, (hV.cell (p := ⟨blk, 1, none⟩) (cell_lt (a := ⟨blk, 1, none⟩) c1)).trans c1⟩
      have HQ1 := Lib.hid (HQ.out wr.drew (Below.refl _ _).drew)
      have HQ2 := Lib.hid (HQ.out (wr.alloc (.cells #[.bool false, .bool false, .bool false, .int .i64 0] 166)).drew ((Below.refl _ _).alloc (Nat.le_refl _) _).drew)
      generalize (L.getD j 0 : Nat) = pg at cj HQ HA HQ1 HQ2
      clear hJ he hP hcs hq hask hb
      go_wp2_with fail
      go_cut [11] from 17 to 40 (fun v11 wx => ∃ b9, v11 = .pointer (some ⟨b9, 0, none⟩) ∧ wx.heap[b9]? = some (entO (p, x, c, g)) ∧ Below wr.heap.size wr wx)
      case first =>
        go_region_held3 (fun w' => w'.cell? ⟨ss, 4, none⟩ = some (.pointer (some ⟨tb, 0, none⟩)) ∧ w'.cell? ⟨blk, 1, none⟩ = some (.int .i64 root)) (first
            | go_keep
            | with_reducible exact CW.out w5 B5.out
            | with_reducible exact CW.out _ (Below.refl _ _).drew
            | with_reducible exact CW.out _ ((Below.refl _ _).alloc (Nat.le_refl _) _).drew
            | with_reducible exact CW.out _ (B5.out.alloc B5.out.size _)
            | with_reducible exact CW.out _ B5p.out)
          (first
            | ((go_at_call 95; with_reducible refine HQ1.out.mono ?_); rintro e w5 ⟨rfl, hb5⟩; have B5 := Lib.hid (drew_then hb5); clear hb5)
            | ((go_at_call 95; with_reducible refine HQ2.out.mono ?_); rintro e w5 ⟨rfl, hb5⟩; have B5 : Hid (Below wr.heap.size wr w5) := Lib.hid (alloc_then hb5); have E5 : Hid (w5.heap[wr.heap.size]? = some (entO z0)) := Lib.hid (below_block hb5 (heap_alloc_new wr _)); have f0 := frozen_of_row _ wr.heap.size 0 _ _ E5.out; have f1 := frozen_of_row _ wr.heap.size 1 _ _ E5.out; have f2 := frozen_of_row _ wr.heap.size 2 _ _ E5.out; have f3 := frozen_of_row _ wr.heap.size 3 _ _ E5.out; have B5p : Hid (Below wr.heap.size wr ((((w5.setCell ⟨wr.heap.size, 0, none⟩ (.bool p)).setCell ⟨wr.heap.size, 1, none⟩ (.bool x)).setCell ⟨wr.heap.size, 2, none⟩ (.bool c)).setCell ⟨wr.heap.size, 3, none⟩ (.int .i64 g))) := Lib.hid (put4b_below (e' := (p, x, c, g)) B5.out (Nat.le_refl _)); obtain ⟨q0, q1, q2, q3⟩ := cells4 (e := z0) E5.out; clear hb5))
        all_goals
          go_wp2_with fail
          go_meet
          case rel => first | exact ⟨_, rfl, heap_alloc_new w5 _, B5.out.alloc B5.out.size _⟩ | exact ⟨_, rfl, put4b_same (e' := (p, x, c, g)) E5.out, put4b_below (e' := (p, x, c, g)) B5.out (Nat.le_refl _)⟩
      case rest =>
        obtain ⟨b9, rfl, hE9, hb9⟩ := hcut
        obtain ⟨w6, hw6⟩ : ∃ w6, w6 = wc := ⟨_, rfl⟩
        rw [← hw6] at hE9 hb9 ⊢
        clear hw6
        obtain ⟨m0, m1, m2, m3⟩ := cells4 hE9
        simp only at m0 m1 m2 m3
        have B9 := Lib.hid hb9
        clear hE9 hb9
        go_wp2_with fail
        refine (HA.out _ B9.out).mono ?_
        rintro e w7 ⟨er, rfl, ⟨rfl, hi⟩ | ⟨hne, hf⟩⟩
        · have I7 := Lib.hid hi
          clear hi
          go_wp2
          go_roundw
          case rel => exact ⟨j + 1, by go_num, by omega, I7.out⟩
          case measure => simp [intOf]; omega
        · have F7 := Lib.hid hf
          have NE := Lib.hid hne
          have hne' : (er != 0) = true := by simpa using hne
          clear hf hne
          go_wp2
          go_ret
          exact ⟨er, rfl, Or.inr ⟨NE.out, F7.out⟩⟩
    · obtain rfl : j = n := by omega
      go_wp2
      go_ret
      exact ⟨_, rfl, Or.inl ⟨rfl, J.out⟩⟩
end Go.Proofs.YtkenipanpimolaaGreatDoor

/- Spaces in memory, as functions of pages by their processes: what each call on the manager, the pool, the memory, the budget answers, and leaves. Condition: the listed tables read as laid. -/
namespace Go.Proofs.YtkenipanpimolaaGreatDoor
open Go.RowKit Go.Maps
set_option maxRecDepth 100000

/-- Processes' spaces are the manager's. -/
structure Link (W : Nat → Option Sp) (G : Int → Option Pc) (D : Int → Option Sp) : Prop where
  none_ : ∀ i, G i = none → D i = none
  some_ : ∀ i s, G i = some s → (W s.root).isSome = true ∧ D i = W s.root
  inj : ∀ i j s t, G i = some s → G j = some t → s.root = t.root → i = j
theorem Link.of {W : Nat → Option Sp} {G : Int → Option Pc} {D : Int → Option Sp} (h : Link W G D) {i : Int} {s : Pc} {F : Sp} (hG : G i = some s) (hD : D i = some F) : W s.root = some F := by
  rw [← (h.some_ i s hG).2]; exact hD
theorem Link.has {W : Nat → Option Sp} {G : Int → Option Pc} {D : Int → Option Sp} (h : Link W G D) {i : Int} {F : Sp} (hD : D i = some F) : ∃ s, G i = some s := by
  cases hG : G i with
  | none => rw [h.none_ i hG] at hD; cases hD
  | some s => exact ⟨s, rfl⟩
theorem Link.set {W : Nat → Option Sp} {G : Int → Option Pc} {D : Int → Option Sp} (h : Link W G D) {i : Int} {s : Pc} (hG : G i = some s) (F : Sp) : Link (updW W s.root (some F)) G (setD D i (some F)) := by
  refine ⟨fun j hj => ?_, fun j t hj => ?_, h.inj⟩
  · have : j ≠ i := by rintro rfl; rw [hG] at hj; cases hj
    rw [setD_other _ _ _ this]; exact h.none_ j hj
  · by_cases e : j = i
    · subst e
      rw [hG] at hj
      cases hj
      rw [updW_same, setD_same]; exact ⟨rfl, rfl⟩
    · have : t.root ≠ s.root := fun e2 => e (h.inj j i t s hj hG e2)
      rw [updW_other _ _ _ _ this, setD_other _ _ _ e]; exact h.some_ j t hj
/-- Spaces, by processes. -/
def BL (W0 w : World) (I : SIx) (c : Nat) (Q : Nat → Nat) (V : Nat → Nat → Int) (Lb : List Nd) (G : Int → Option Pc) (D : Int → Option Sp) : Prop := ∃ W Pb, Big W0 w I c W Q V Pb Lb G ∧ Link W G D
/-- What a call leaves. -/
def Ends (W0 w w' : World) (I : SIx) (c : Nat) (Q : Nat → Nat) (V : Nat → Nat → Int) (Lb : List Nd) (G : Int → Option Pc) (D : Int → Option Sp) : Prop := BL W0 w' I c Q V Lb G D ∧ KeepB w w'
section
variable {W0 w : World} {I : SIx} {c : Nat} {Q : Nat → Nat} {V : Nat → Nat → Int} {Lb : List Nd} {G : Int → Option Pc} {D : Int → Option Sp}
theorem BL.step {w' : World} (h : BL W0 w I c Q V Lb G D) (hb : Below w.heap.size w w') : BL W0 w' I c Q V Lb G D := by
  obtain ⟨W, Pb, h1, h2⟩ := h
  exact ⟨W, Pb, h1.step hb, h2⟩
theorem Ends.stay {w' : World} (h : BL W0 w I c Q V Lb G D) (hb : Below w.heap.size w w') : Ends W0 w w' I c Q V Lb G D := ⟨h.step hb, KeepB.below hb⟩
theorem Ends.next {w1 w2 : World} {c1 c2 : Nat} {Q1 Q2 : Nat → Nat} {V1 V2 : Nat → Nat → Int} {L1 L2 : List Nd} {G1 G2 : Int → Option Pc} {D1 D2 : Int → Option Sp} (h : Ends W0 w w1 I c1 Q1 V1 L1 G1 D1) (k : Ends W0 w1 w2 I c2 Q2 V2 L2 G2 D2) : Ends W0 w w2 I c2 Q2 V2 L2 G2 D2 := ⟨k.1, h.2.trans k.2⟩
theorem Ends.ahead {w1 w2 : World} (hb : Below w.heap.size w w1) (k : Ends W0 w1 w2 I c Q V Lb G D) : Ends W0 w w2 I c Q V Lb G D := ⟨k.1, (KeepB.below hb).trans k.2⟩
theorem Ends.behind {w1 w2 : World} (k : Ends W0 w w1 I c Q V Lb G D) (hb : Below w1.heap.size w1 w2) : Ends W0 w w2 I c Q V Lb G D := ⟨k.1.step hb, k.2.trans (KeepB.below hb)⟩
theorem BL.cells (h : BL W0 w I c Q V Lb G D) : w.cell? ⟨I.ss, 0, none⟩ = some (.pointer (some ⟨I.X.mp, 0, none⟩)) ∧ w.cell? ⟨I.ss, 1, none⟩ = some (.pointer (some ⟨I.X.pb, 0, none⟩)) ∧ w.cell? ⟨I.ss, 2, none⟩ = some (.int .i64 0) ∧ w.cell? ⟨I.ss, 3, none⟩ = some (.pointer (some ⟨I.bb, 0, none⟩)) ∧ w.cell? ⟨I.ss, 4, none⟩ = some (.pointer (some ⟨I.tb, 0, none⟩)) ∧ w.cell? ⟨I.ss, 5, none⟩ = some (.map (some I.mm)) := by
  obtain ⟨W, Pb, h1, _⟩ := h
  exact h1.cells
theorem BL.spc (h : BL W0 w I c Q V Lb G D) {i : Int} {s : Pc} (hi : G i = some s) : w.cell? ⟨s.blk, 0, none⟩ = some (.int .i64 i) ∧ w.cell? ⟨s.blk, 1, none⟩ = some (.int .i64 (s.root : Int)) ∧ w.cell? ⟨s.blk, 2, none⟩ = some s.v := by
  obtain ⟨W, Pb, h1, _⟩ := h
  exact h1.spc hi
theorem BL.area (h : BL W0 w I c Q V Lb G D) {i : Int} {s : Pc} (hi : G i = some s) : ArAt w s.v s.ar ∧ OkD s.ar := by
  obtain ⟨W, Pb, h1, _⟩ := h
  exact (h1.sp i s hi).2
theorem BL.below (h : BL W0 w I c Q V Lb G D) : Below W0.heap.size W0 w := by
  obtain ⟨W, Pb, h1, _⟩ := h
  exact h1.sys.below
theorem BL.laidW (h : BL W0 w I c Q V Lb G D) : LaidW w := by
  obtain ⟨W, Pb, h1, _⟩ := h
  exact h1.sys.laidW
theorem BL.n1024 (h : BL W0 w I c Q V Lb G D) : I.n ≤ 1024 ∧ I.lo < I.hi ∧ I.hi ≤ I.n := by
  obtain ⟨W, Pb, h1, _⟩ := h
  have := h1.sys.facts
  exact ⟨this.2.2.1, this.1, this.2.1⟩
theorem BL.has (h : BL W0 w I c Q V Lb G D) {i : Int} {F : Sp} (hD : D i = some F) : ∃ s, G i = some s := by
  obtain ⟨W, Pb, _, h2⟩ := h
  exact h2.has hD
theorem BL.hasD (h : BL W0 w I c Q V Lb G D) {i : Int} {s : Pc} (hG : G i = some s) : ∃ F, D i = some F := by
  obtain ⟨W, Pb, _, h2⟩ := h
  obtain ⟨h3, h4⟩ := h2.some_ i s hG
  rw [h4]
  exact Option.isSome_iff_exists.1 h3
theorem BL.root (h : BL W0 w I c Q V Lb G D) {i : Int} {s : Pc} (hG : G i = some s) : s.root < I.n := by
  obtain ⟨W, Pb, h1, h2⟩ := h
  have h3 := h1.sys.facts
  have h4 := h3.2.2.2.2.2.2.2 s.root (h2.some_ i s hG).1
  omega
theorem i64n {n : Nat} (h : n ≤ 100000) : I64 (n : Int) := by unfold I64; omega
theorem askErr_of {W : Nat → Option Sp} {r p : Nat} {F : Sp} (hw : W r = some F) (hp : p < 1024) : askErr W (r : Int) (p : Int) true = 0 := by
  unfold askErr
  rw [if_pos ⟨by omega, rfl⟩, spOf_nat, hw]; rfl
theorem unmErr_of {W : Nat → Option Sp} {r p : Nat} {F : Sp} (hw : W r = some F) (hp : p < 1024) : unmErr W (r : Int) (p : Int) = if (F p).1 = true then 0 else 4 := by
  unfold unmErr
  rw [if_pos (askErr_of hw hp), spOf_nat, hw]; simp
theorem unmErr_far {W : Nat → Option Sp} {r : Nat} {p : Nat} (hp : ¬ p < 1024) : unmErr W (r : Int) (p : Int) = 2 := by
  unfold unmErr
  have : askErr W (r : Int) (p : Int) true = 2 := askErr_out (by omega)
  rw [if_neg (by rw [this]; decide), this]
/-- The entry of a page. -/
def atF (F : Sp) (p : Nat) : Ent := if p < 1024 ∧ (F p).1 = true then F p else z0
theorem putW_of {W : Nat → Option Sp} {r p : Nat} {F : Sp} (hw : W r = some F) (e : Ent) : putW W (r : Int) (p : Int) e = updW W r (some (updF F p e)) := by unfold putW; rw [spOf_nat, hw]; simp
theorem BL.map (h : BL W0 w I c Q V Lb G D) {i : Int} {s : Pc} {F : Sp} (hG : G i = some s) (hD : D i = some F) {p : Nat} (hp : p < 1024) (hF : (F p).1 = false) {x0 x1 x2 : Bool} {g : Int} (he : fitsE I.n (x0, x1, x2, g)) (hc : newT F p ≤ c) :
    Calls Tryz.prog 99 #[.pointer (some ⟨I.tb, 0, none⟩), .int .i64 (s.root : Int), .int .i64 (p : Int), ent x0 x1 x2 g] w fun e w' => e = .returned (.int .i64 0) ∧ Ends W0 w w' I (c - newT F p) Q V Lb G (setD D i (some (updF F p (x0, x1, x2, g)))) := by
  have hr := h.root hG
  have hn := h.n1024.1
  obtain ⟨W, Pb, h1, h2⟩ := h
  have hw := h2.of hG hD
  have e0 : mapErr I.n W c (s.root : Int) (p : Int) (x0, x1, x2, g) = 0 := by
    unfold mapErr
    rw [(fitV_iff I.n _).2 he, if_pos (askErr_of hw hp), spOf_nat, hw]
    simp only [Int.toNat_natCast, hF]
    unfold newT at hc
    by_cases hb : hasB F (p / 32) = true
    · simp [hb]
    · rw [if_neg hb] at hc
      simp; omega
  have := h1.sys.map (s.root : Int) (p : Int) x0 x1 x2 g (i64n (by omega)) (i64n (by omega))
  rw [e0] at this
  refine this.mono fun e w' ⟨a, b⟩ => ⟨a, ?_⟩
  unfold mapC mapW at b
  rw [if_pos e0, if_pos e0, putW_of hw] at b
  have e1 : needs W (s.root : Int) (p : Int) = newT F p := by unfold needs newT; rw [spOf_nat, hw]; simp
  rw [e1] at b
  obtain ⟨k1, k2⟩ := h1.byTab b
  exact ⟨⟨_, Pb, k1, h2.set hG _⟩, k2⟩
theorem BL.set (h : BL W0 w I c Q V Lb G D) {i : Int} {s : Pc} {F : Sp} (hG : G i = some s) (hD : D i = some F) {p : Nat} (hp : p < 1024) (hF : (F p).1 = true) {x0 x1 x2 : Bool} {g : Int} (he : fitsE I.n (x0, x1, x2, g)) :
    Calls Tryz.prog 100 #[.pointer (some ⟨I.tb, 0, none⟩), .int .i64 (s.root : Int), .int .i64 (p : Int), ent x0 x1 x2 g] w fun e w' => e = .returned (.int .i64 0) ∧ Ends W0 w w' I c Q V Lb G (setD D i (some (updF F p (x0, x1, x2, g)))) := by
  have hr := h.root hG
  have hn := h.n1024.1
  obtain ⟨W, Pb, h1, h2⟩ := h
  have hw := h2.of hG hD
  have e0 : setErr I.n W (s.root : Int) (p : Int) (x0, x1, x2, g) = 0 := by
    unfold setErr
    rw [(fitV_iff I.n _).2 he, if_pos (askErr_of hw hp), spOf_nat, hw]
    simp [hF]
  have := h1.sys.set (s.root : Int) (p : Int) x0 x1 x2 g (i64n (by omega)) (i64n (by omega))
  rw [e0] at this
  refine this.mono fun e w' ⟨a, b⟩ => ⟨a, ?_⟩
  unfold setW at b
  rw [if_pos e0, putW_of hw] at b
  obtain ⟨k1, k2⟩ := h1.byTab b
  exact ⟨⟨_, Pb, k1, h2.set hG _⟩, k2⟩
theorem BL.tables (h : BL W0 w I c Q V Lb G D) {i : Int} {s : Pc} {F : Sp} (hG : G i = some s) (hD : D i = some F) :
    Calls Tryz.prog 94 #[.pointer (some ⟨I.tb, 0, none⟩), .int .i64 (s.root : Int)] w fun e w' => e = .returned (.int .i64 (tabF F : Int)) ∧ Below w.heap.size w w' := by
  have hr := h.root hG
  have hn := h.n1024.1
  obtain ⟨W, Pb, h1, h2⟩ := h
  have hw := h2.of hG hD
  have := h1.sys.tables (s.root : Int) (i64n (by omega))
  unfold tabW at this
  rw [spOf_nat, hw] at this
  exact this
theorem BL.all (h : BL W0 w I c Q V Lb G D) {i : Int} {s : Pc} {F : Sp} (hG : G i = some s) (hD : D i = some F) :
    Calls Tryz.prog 96 #[.pointer (some ⟨I.tb, 0, none⟩), .int .i64 (s.root : Int)] w (AllMPost w (allF F)) := by
  have hr := h.root hG
  have hn := h.n1024.1
  obtain ⟨W, Pb, h1, h2⟩ := h
  have hw := h2.of hG hD
  have := h1.sys.all (s.root : Int) (i64n (by omega))
  unfold allW at this
  rw [spOf_nat, hw] at this
  exact this
theorem BL.turn {c' : Nat} {W : Nat → Option Sp} {Pb : Pt} {Q' : Nat → Nat} {V' : Nat → Nat → Int} {w' : World} (h1 : Big W0 w I c W Q V Pb Lb G) (h2 : Link W G D) (b : GoneS W0 w w' I.tb I.sb I.X I.n I.lo I.hi c' W Q' V') : Ends W0 w w' I c' Q' V' Lb G D := by
  obtain ⟨k1, k2⟩ := h1.byTab b
  exact ⟨⟨_, Pb, k1, h2⟩, k2⟩
theorem BL.alloc (h : BL W0 w I c Q V Lb G D) (hc : c ≠ 0) : Calls Tryz.prog 120 #[.pointer (some ⟨I.X.pb, 0, none⟩), .int .i64 0] w fun e w' => ∃ x : Nat, x < I.n ∧ Q x = 0 ∧ e = .returned (.tuple #[.int .i64 (x : Int), .int .i64 0]) ∧ Ends W0 w w' I (c - 1) (upd Q x 1) (allocV V x) Lb G D := by
  have hn := h.n1024
  obtain ⟨W, Pb, h1, h2⟩ := h
  refine (h1.sys.alloc hc).mono ?_
  rintro e w' ⟨x, hx, hq, _, rfl, hg⟩
  exact ⟨x, by omega, hq, rfl, BL.turn h1 h2 hg⟩
theorem BL.share (h : BL W0 w I c Q V Lb G D) (f : Nat) (h0 : Q f ≠ 0) (h1 : Q f < 64) : Calls Tryz.prog 101 #[.pointer (some ⟨I.X.pb, 0, none⟩), .int .i64 (f : Int)] w fun e w' => e = .returned (.int .i64 0) ∧ Ends W0 w w' I c (upd Q f (Q f + 1)) V Lb G D := by
  obtain ⟨W, Pb, k1, k2⟩ := h
  exact (k1.sys.share f h0 h1).mono fun e w' ⟨a, b⟩ => ⟨a, BL.turn k1 k2 b⟩
theorem BL.free (h : BL W0 w I c Q V Lb G D) (f : Nat) (h0 : Q f ≠ 0) : Calls Tryz.prog 177 #[.pointer (some ⟨I.X.pb, 0, none⟩), .int .i64 (f : Int)] w fun e w' => e = .returned (.int .i64 0) ∧ Ends W0 w w' I (if Q f = 1 then c + 1 else c) (upd Q f (Q f - 1)) V Lb G D := by
  obtain ⟨W, Pb, k1, k2⟩ := h
  exact (k1.sys.free f h0).mono fun e w' ⟨a, b⟩ => ⟨a, BL.turn k1 k2 b⟩
theorem BL.refs (h : BL W0 w I c Q V Lb G D) (f : Nat) (h0 : Q f ≠ 0) : Calls Tryz.prog 149 #[.pointer (some ⟨I.X.pb, 0, none⟩), .int .i64 (f : Int)] w fun e w' => e = .returned (.int .i64 (Q f : Int)) ∧ w = w' := by
  obtain ⟨W, Pb, k1, k2⟩ := h
  exact k1.sys.refs f h0
theorem BL.read (h : BL W0 w I c Q V Lb G D) (f q : Nat) (h0 : Q f ≠ 0) (hq : q < 32) : Calls Tryz.prog 64 #[.pointer (some ⟨I.X.mp, 0, none⟩), .int .i64 (f : Int), .int .i64 (q : Int)] w fun e w' => e = .returned (.tuple #[.int .u32 (V f q), .int .i64 0]) ∧ Below w.heap.size w w' := by
  obtain ⟨W, Pb, k1, k2⟩ := h
  exact k1.sys.read f q h0 hq
theorem BL.write (h : BL W0 w I c Q V Lb G D) (f q : Nat) (v : Int) (h0 : Q f ≠ 0) (hq : q < 32) (hv : 0 ≤ v ∧ v < 4294967296) : Calls Tryz.prog 102 #[.pointer (some ⟨I.X.mp, 0, none⟩), .int .i64 (f : Int), .int .i64 (q : Int), .int .u32 v] w fun e w' => e = .returned (.int .i64 0) ∧ Ends W0 w w' I c Q (writeV V f q v) Lb G D := by
  obtain ⟨W, Pb, k1, k2⟩ := h
  exact (k1.sys.write f q v h0 hq hv).mono fun e w' ⟨a, b⟩ => ⟨a, BL.turn k1 k2 b⟩
theorem BL.copy (h : BL W0 w I c Q V Lb G D) (x f : Nat) (h0 : Q f ≠ 0) (h1 : Q x ≠ 0) : Calls Tryz.prog 176 #[.pointer (some ⟨I.X.mp, 0, none⟩), .int .i64 (x : Int), .int .i64 (f : Int)] w fun e w' => e = .returned (.int .i64 0) ∧ Ends W0 w w' I c Q (copyV V x f) Lb G D := by
  obtain ⟨W, Pb, k1, k2⟩ := h
  exact (k1.sys.copy x f h0 h1).mono fun e w' ⟨a, b⟩ => ⟨a, BL.turn k1 k2 b⟩
theorem BL.goes {Lb' : List Nd} {W : Nat → Option Sp} {w' : World} (h2 : Link W G D) (h : Goes W0 w w' I c W Q V Lb' G) : Ends W0 w w' I c Q V Lb' G D := by
  obtain ⟨⟨Pb, h1⟩, hk⟩ := h
  exact ⟨⟨W, Pb, h1, h2⟩, hk⟩
theorem BL.charge (h : BL W0 w I c Q V Lb G D) (id n : Int) {er : Int} (he : chargeEU Lb id n = er) : Calls Tryz.prog 80 #[.pointer (some ⟨I.bb, 0, none⟩), .int .i64 id, .int .i64 n] w fun e w' => e = .returned (.int .i64 er) ∧ Ends W0 w w' I c Q V (chargeL Lb id n) G D := by
  obtain ⟨W, Pb, k1, k2⟩ := h
  exact (charge11 k1.bud id n he).mono fun e w' ⟨a, T⟩ => ⟨a, BL.goes k2 (k1.byBud T)⟩
theorem BL.carve (h : BL W0 w I c Q V Lb G D) (id up n : Int) {er : Int} (he : openEU Lb id up n = er) : Calls Tryz.prog 21 #[.pointer (some ⟨I.bb, 0, none⟩), .int .i64 id, .int .i64 up, .int .i64 n] w fun e w' => e = .returned (.int .i64 er) ∧ Ends W0 w w' I c Q V (openL Lb id up n) G D := by
  obtain ⟨W, Pb, k1, k2⟩ := h
  exact (open11 k1.bud id up n he).mono fun e w' ⟨a, T⟩ => ⟨a, BL.goes k2 (k1.byBud T)⟩
theorem BL.leftB (h : BL W0 w I c Q V Lb G D) (id : Int) {d : Int} (hd : leftL Lb id = d) : Calls Tryz.prog 78 #[.pointer (some ⟨I.bb, 0, none⟩), .int .i64 id] w fun e w' => e = .returned (.int .i64 d) ∧ Below w.heap.size w w' := by
  obtain ⟨W, Pb, k1, k2⟩ := h
  exact left_isU k1.bud id hd
theorem BL.allB (h : BL W0 w I c Q V Lb G D) : Calls Tryz.prog 34 #[.pointer (some ⟨I.bb, 0, none⟩)] w (AllPost11 w Lb) := by
  obtain ⟨W, Pb, k1, k2⟩ := h
  exact allm11_ok k1.bud
end
end Go.Proofs.YtkenipanpimolaaGreatDoor
